/- The awake test of the laws: true in every world with the library's table and errors. -/
import Derived.Test.YtgjahnidjcfbiaaGreatDoorJ18
namespace Go.Proofs.YtgjahnidjcfbiaaGreatDoor
open Go.RowKit Go.Shelf Go.Lib
set_option maxRecDepth 100000 in
set_option maxHeartbeats 16000000 in
theorem wakes_any (w : World) (henv : Env w) : Calls Tryz.prog 24 #[] w fun e w' => e = .returned (.bool true) ∧ Below w.heap.size w w' := by
  have HE := Lib.hid henv
  have LV := Lib.hid (Live.nil w)
  have BV := Lib.hid (Below.refl w.heap.size w)
  clear henv
  go_enter Tryz.func24, Tryz.ntmps24
  go_wp2_with fail
  refine (cP [1, 5, 7, 9] [(1, 5), (7, 9)] 2 w (by decide) rfl (by decide) (by decide)).mono ?_
  rintro e w1 ⟨v1, rfl, hs1, hb1⟩
  have LV1 := Lib.hid ((LV.out.below hb1).cons hs1)
  have BV1 := Lib.hid (BV.out.trans (hb1.mono BV.out.size))
  clear hb1 hs1
  go_wp2_with fail
  refine (cP [3, 8] [(3, 8)] 1 w1 (by decide) rfl (by decide) (by decide)).mono ?_
  rintro e w2 ⟨v2, rfl, hs2, hb2⟩
  have LV2 := Lib.hid ((LV1.out.below hb2).cons hs2)
  have BV2 := Lib.hid (BV1.out.trans (hb2.mono BV1.out.size))
  clear hb2 hs2
  go_wp2_with fail
  refine (cParseBad _ _ (by decide) (HE.out.below BV2.out) row_bad1).mono ?_
  rintro e w3 ⟨rfl, hb3⟩
  have LV3 := Lib.hid ((LV2.out.below hb3))
  have BV3 := Lib.hid (BV2.out.trans (hb3.mono BV2.out.size))
  clear hb3
  go_wp2_with fail
  refine (cParseBad _ _ (by decide) (HE.out.below BV3.out) row_bad2).mono ?_
  rintro e w4 ⟨rfl, hb4⟩
  have LV4 := Lib.hid ((LV3.out.below hb4))
  have BV4 := Lib.hid (BV3.out.trans (hb4.mono BV3.out.size))
  clear hb4
  go_wp2_with fail
  refine (cP [5, 9, 1, 5, 7, 8, 9, 9] [(5, 9), (1, 5), (7, 8), (9, 9)] 4 w4 (by decide) rfl (by decide) (by decide)).mono ?_
  rintro e w5 ⟨v5, rfl, hs5, hb5⟩
  have LV5 := Lib.hid ((LV4.out.below hb5).cons hs5)
  have BV5 := Lib.hid (BV4.out.trans (hb5.mono BV4.out.size))
  clear hb5 hs5
  go_wp2_with fail
  refine (cOf (LV5.out.nth 0 rfl) (by decide)).mono ?_
  rintro e w6 ⟨v6, rfl, hs6, hb6⟩
  have LV6 := Lib.hid ((LV5.out.below hb6).cons hs6)
  have BV6 := Lib.hid (BV5.out.trans (hb6.mono BV5.out.size))
  clear hb6 hs6
  go_wp2_with fail
  refine (cP [1, 9] [(1, 9)] 1 w6 (by decide) rfl (by decide) (by decide)).mono ?_
  rintro e w7 ⟨v7, rfl, hs7, hb7⟩
  have LV7 := Lib.hid ((LV6.out.below hb7).cons hs7)
  have BV7 := Lib.hid (BV6.out.trans (hb7.mono BV6.out.size))
  clear hb7 hs7
  go_wp2_with fail
  refine (cLike (LV7.out.nth 1 rfl) (LV7.out.nth 0 rfl) (by decide) row_of).mono ?_
  rintro e w8 ⟨rfl, hb8⟩
  have LV8 := Lib.hid ((LV7.out.below hb8))
  have BV8 := Lib.hid (BV7.out.trans (hb8.mono BV7.out.size))
  clear hb8
  go_wp2_with fail
  refine (cMeet (LV8.out.nth 4 rfl) (LV8.out.nth 3 rfl) (by decide)).mono ?_
  rintro e w9 ⟨v9, R9, rfl, hr9, hs9, hb9⟩
  have LV9 := Lib.hid ((LV8.out.below hb9).cons hs9)
  have BV9 := Lib.hid (BV8.out.trans (hb9.mono BV8.out.size))
  have Hhr9 := Lib.hid hr9
  clear hb9 hs9 hr9
  go_wp2_with fail
  refine (cP [3, 5, 7, 8] [(3, 5), (7, 8)] 2 w9 (by decide) rfl (by decide) (by decide)).mono ?_
  rintro e w10 ⟨v10, rfl, hs10, hb10⟩
  have LV10 := Lib.hid ((LV9.out.below hb10).cons hs10)
  have BV10 := Lib.hid (BV9.out.trans (hb10.mono BV9.out.size))
  clear hb10 hs10
  go_wp2_with fail
  refine (cLike (LV10.out.nth 1 rfl) (LV10.out.nth 0 rfl) (by decide) (row_meet Hhr9.out)).mono ?_
  rintro e w11 ⟨rfl, hb11⟩
  have LV11 := Lib.hid ((LV10.out.below hb11))
  have BV11 := Lib.hid (BV10.out.trans (hb11.mono BV10.out.size))
  clear hb11
  go_wp2_with fail
  refine (cMinus (LV11.out.nth 6 rfl) (LV11.out.nth 5 rfl) (by decide)).mono ?_
  rintro e w12 ⟨v12, R12, rfl, hr12, hs12, hb12⟩
  have LV12 := Lib.hid ((LV11.out.below hb12).cons hs12)
  have BV12 := Lib.hid (BV11.out.trans (hb12.mono BV11.out.size))
  have Hhr12 := Lib.hid hr12
  clear hb12 hs12 hr12
  go_wp2_with fail
  refine (cP [1, 3, 8, 9] [(1, 3), (8, 9)] 2 w12 (by decide) rfl (by decide) (by decide)).mono ?_
  rintro e w13 ⟨v13, rfl, hs13, hb13⟩
  have LV13 := Lib.hid ((LV12.out.below hb13).cons hs13)
  have BV13 := Lib.hid (BV12.out.trans (hb13.mono BV12.out.size))
  clear hb13 hs13
  go_wp2_with fail
  refine (cLike (LV13.out.nth 1 rfl) (LV13.out.nth 0 rfl) (by decide) (row_minus Hhr12.out)).mono ?_
  rintro e w14 ⟨rfl, hb14⟩
  have LV14 := Lib.hid ((LV13.out.below hb14))
  have BV14 := Lib.hid (BV13.out.trans (hb14.mono BV13.out.size))
  clear hb14
  go_wp2_with fail
  refine (cP [0, 3] [(0, 3)] 1 w14 (by decide) rfl (by decide) (by decide)).mono ?_
  rintro e w15 ⟨v15, rfl, hs15, hb15⟩
  have LV15 := Lib.hid ((LV14.out.below hb15).cons hs15)
  have BV15 := Lib.hid (BV14.out.trans (hb15.mono BV14.out.size))
  clear hb15 hs15
  go_wp2_with fail
  refine (cNot (LV15.out.nth 0 rfl) (by decide)).mono ?_
  rintro e w16 ⟨v16, R16, rfl, hr16, hs16, hb16⟩
  have LV16 := Lib.hid ((LV15.out.below hb16).cons hs16)
  have BV16 := Lib.hid (BV15.out.trans (hb16.mono BV15.out.size))
  have Hhr16 := Lib.hid hr16
  clear hb16 hs16 hr16
  go_wp2_with fail
  refine (cP [3, 1099511627776] [(3, 1099511627776)] 1 w16 (by decide) rfl (by decide) (by decide)).mono ?_
  rintro e w17 ⟨v17, rfl, hs17, hb17⟩
  have LV17 := Lib.hid ((LV16.out.below hb17).cons hs17)
  have BV17 := Lib.hid (BV16.out.trans (hb17.mono BV16.out.size))
  clear hb17 hs17
  go_wp2_with fail
  refine (cLike (LV17.out.nth 1 rfl) (LV17.out.nth 0 rfl) (by decide) (row_not Hhr16.out)).mono ?_
  rintro e w18 ⟨rfl, hb18⟩
  have LV18 := Lib.hid ((LV17.out.below hb18))
  have BV18 := Lib.hid (BV17.out.trans (hb18.mono BV17.out.size))
  clear hb18
  go_wp2_with fail
  refine (cNot (SetAt.nil _) (by decide)).mono ?_
  rintro e w19 ⟨v19, R19, rfl, hr19, hs19, hb19⟩
  have LV19 := Lib.hid ((LV18.out.below hb19).cons hs19)
  have BV19 := Lib.hid (BV18.out.trans (hb19.mono BV18.out.size))
  have Hhr19 := Lib.hid hr19
  clear hb19 hs19 hr19
  go_wp2_with fail
  refine (cP [0, 1099511627776] [(0, 1099511627776)] 1 w19 (by decide) rfl (by decide) (by decide)).mono ?_
  rintro e w20 ⟨v20, rfl, hs20, hb20⟩
  have LV20 := Lib.hid ((LV19.out.below hb20).cons hs20)
  have BV20 := Lib.hid (BV19.out.trans (hb20.mono BV19.out.size))
  clear hb20 hs20
  go_wp2_with fail
  refine (cLike (LV20.out.nth 1 rfl) (LV20.out.nth 0 rfl) (by decide) (row_not2 Hhr19.out)).mono ?_
  rintro e w21 ⟨rfl, hb21⟩
  have LV21 := Lib.hid ((LV20.out.below hb21))
  have BV21 := Lib.hid (BV20.out.trans (hb21.mono BV20.out.size))
  clear hb21
  go_wp2_with fail
  refine (cText (SetAt.nil _) (by decide) (HE.out.below BV21.out)).mono ?_
  rintro e w22 ⟨t22, rfl, ht22, hb22⟩
  have LV22 := Lib.hid ((LV21.out.below hb22))
  have BV22 := Lib.hid (BV21.out.trans (hb22.mono BV21.out.size))
  have Hht22 := Lib.hid ht22
  clear hb22 ht22
  have et22 : (t22.toList == [91, 41]) = true := by rw [beq_iff_eq, toList_data, Hht22.out, row_none]
  go_wp2_with fail
  refine (cP [1, 1099511627776] [(1, 1099511627776)] 1 w22 (by decide) rfl (by decide) (by decide)).mono ?_
  rintro e w23 ⟨v23, rfl, hs23, hb23⟩
  have LV23 := Lib.hid ((LV22.out.below hb23).cons hs23)
  have BV23 := Lib.hid (BV22.out.trans (hb23.mono BV22.out.size))
  clear hb23 hs23
  go_wp2_with fail
  refine (cText (LV23.out.nth 0 rfl) (by decide) (HE.out.below BV23.out)).mono ?_
  rintro e w24 ⟨t24, rfl, ht24, hb24⟩
  have LV24 := Lib.hid ((LV23.out.below hb24))
  have BV24 := Lib.hid (BV23.out.trans (hb24.mono BV23.out.size))
  have Hht24 := Lib.hid ht24
  clear hb24 ht24
  have et24 : (t24.toList == [91, 49, 44, 42, 41]) = true := by rw [beq_iff_eq, toList_data, Hht24.out, row_text]
  go_wp2
  go_ret
  exact ⟨rfl, BV24.out⟩
end Go.Proofs.YtgjahnidjcfbiaaGreatDoor
