/- The law IsetParts, walked. -/
import Derived.Test.YtgjahnidjcfbiaaDoorJ20
namespace Go.Proofs.YtgjahnidjcfbiaaDoor
open Go.RowKit Go.Shelf Go.Lib
open Iset (nf has NF Res Wide NotL)
set_option maxRecDepth 100000 in
set_option maxHeartbeats 16000000 in
theorem Parts_walk (A B C : Option Addr) (ca cb cc : Nat) (a b c : List (Int × Int)) (w : World) (ha : PAt w A a) (hb : PAt w B b) (hc : PAt w C c) (la : a.length ≤ ca) (lb : b.length ≤ cb) (lc : c.length ≤ cc) (wa : Wide a) (wb : Wide b) (wc : Wide c) (henv : Env w)
    (ma : a.length ≤ 140737488355328) (mb : b.length ≤ 140737488355328) (mc : c.length ≤ 140737488355328) :
    Calls Tryd.prog 8 #[.slice A a.length ca, .slice B b.length cb, .slice C c.length cc] w fun e w' => e = .returned (.bool true) ∧ Below w.heap.size w w' := by
  obtain ⟨na, hna⟩ : ∃ n : Nat, min a.length 40 = n := ⟨_, rfl⟩
  obtain ⟨nb, hnb⟩ : ∃ n : Nat, min b.length 40 = n := ⟨_, rfl⟩
  obtain ⟨nc, hnc⟩ : ∃ n : Nat, min c.length 40 = n := ⟨_, rfl⟩
  have ia : min (a.length : Int) 40 = (na : Int) := by omega
  have ib : min (b.length : Int) 40 = (nb : Int) := by omega
  have ic : min (c.length : Int) 40 = (nc : Int) := by omega
  have ja : na ≤ ca := by omega
  have jb : nb ≤ cb := by omega
  have jc : nc ≤ cc := by omega
  have LV0 := Lib.hid ((((Live.nil w).cons (SetAt.cut (c := cc) hc wc hnc)).cons (SetAt.cut (c := cb) hb wb hnb)).cons (SetAt.cut (c := ca) ha wa hna))
  have HWa := Lib.hid (LV0.out.nth 0 rfl).wide
  have HE := Lib.hid henv
  clear hna hnb hnc ha hb hc wa wb wc henv
  go_enter Tryd.func8, Tryd.ntmps8
  go_upto_region 1 with fail
  go_quiet (fail)
  clear ia ib ic ja jb jc
  have LV := Lib.hid (LV0.out.below (bel_drewN nq (Below.refl _ _)))
  have BV := Lib.hid (bel_drewN nq (Below.refl w.heap.size w))
  clear LV0
  generalize w.drewN nq = w0 at *
  go_wp2_with fail
  refine (cMeet (LV.out.nth 0 rfl) (LV.out.nth 1 rfl) (by decide)).mono ?_
  rintro e w1 ⟨v1, R1, rfl, hr1, hs1, hb1⟩
  obtain ⟨A1, c1, rfl, _⟩ := hs1.at_
  have LV1 := Lib.hid ((LV.out.below hb1).cons hs1)
  have BV1 := Lib.hid (BV.out.trans (hb1.mono BV.out.size))
  have Hhr1 := Lib.hid hr1
  clear hb1 hs1 hr1
  go_wp2_with fail
  refine (cMinus (LV1.out.nth 1 rfl) (LV1.out.nth 2 rfl) (by decide)).mono ?_
  rintro e w2 ⟨v2, R2, rfl, hr2, hs2, hb2⟩
  obtain ⟨A2, c2, rfl, _⟩ := hs2.at_
  have LV2 := Lib.hid ((LV1.out.below hb2).cons hs2)
  have BV2 := Lib.hid (BV1.out.trans (hb2.mono BV1.out.size))
  have Hhr2 := Lib.hid hr2
  clear hb2 hs2 hr2
  have HZ := Lib.hid (Iset.part_size HWa.out (LV2.out.nth 1 rfl).wide (LV2.out.nth 0 rfl).wide Hhr1.out Hhr2.out)
  go_wp2_with fail
  refine (cMeetNone (LV2.out.nth 1 rfl) (LV2.out.nth 0 rfl) (by decide) (fun R h => Iset.part_apart Hhr1.out Hhr2.out h)).mono ?_
  rintro e w3 ⟨A3, c3, rfl, hb3⟩
  have LV3 := Lib.hid ((LV2.out.below hb3))
  have BV3 := Lib.hid (BV2.out.trans (hb3.mono BV2.out.size))
  clear hb3
  go_wp2_with fail
  refine (cUnion (LV3.out.nth 1 rfl) (LV3.out.nth 0 rfl) (by decide)).mono ?_
  rintro e w4 ⟨v4, R4, rfl, hr4, hs4, hb4⟩
  obtain ⟨A4, c4, rfl, _⟩ := hs4.at_
  have LV4 := Lib.hid ((LV3.out.below hb4).cons hs4)
  have BV4 := Lib.hid (BV3.out.trans (hb4.mono BV3.out.size))
  have Hhr4 := Lib.hid hr4
  clear hb4 hs4 hr4
  go_wp2_with fail
  refine (cOf (LV4.out.nth 3 rfl) (by decide)).mono ?_
  rintro e w5 ⟨v5, rfl, hs5, hb5⟩
  obtain ⟨A5, c5, rfl, _⟩ := hs5.at_
  have LV5 := Lib.hid ((LV4.out.below hb5).cons hs5)
  have BV5 := Lib.hid (BV4.out.trans (hb5.mono BV4.out.size))
  clear hb5 hs5
  go_wp2_with fail
  refine (cSame2 (LV5.out.nth 1 rfl) (LV5.out.nth 0 rfl) (by decide) (Iset.part_whole Hhr1.out Hhr2.out Hhr4.out)).mono ?_
  rintro e w6 ⟨rfl, hb6⟩
  have LV6 := Lib.hid ((LV5.out.below hb6))
  have BV6 := Lib.hid (BV5.out.trans (hb6.mono BV5.out.size))
  clear hb6
  obtain ⟨x, hx⟩ : ∃ x, Iset.size R1 = x := ⟨_, rfl⟩
  obtain ⟨y, hy⟩ : ∃ y, Iset.size R2 = y := ⟨_, rfl⟩
  have bx := Iset.size_bd R1 (LV6.out.nth 3 rfl).wide
  have b_y := Iset.size_bd R2 (LV6.out.nth 2 rfl).wide
  have hz := HZ.out
  rw [hx] at bx hz
  rw [hy] at b_y hz
  obtain ⟨bx1, bx2⟩ := bx
  obtain ⟨by1, by2⟩ := b_y
  have HX := Lib.hid hx
  have HY := Lib.hid hy
  have HZ2 := Lib.hid hz.symm
  clear hx hy hz HZ
  go_wp2_with fail
  refine (cSizeAs (LV6.out.nth 3 rfl) (by decide) x (HX.out)).mono ?_
  rintro e w7 ⟨rfl, hb7⟩
  have LV7 := Lib.hid ((LV6.out.below hb7))
  have BV7 := Lib.hid (BV6.out.trans (hb7.mono BV6.out.size))
  clear hb7
  go_wp2_with fail
  refine (cSizeAs (LV7.out.nth 2 rfl) (by decide) y (HY.out)).mono ?_
  rintro e w8 ⟨rfl, hb8⟩
  have LV8 := Lib.hid ((LV7.out.below hb8))
  have BV8 := Lib.hid (BV7.out.trans (hb8.mono BV7.out.size))
  clear hb8
  go_wp2_with fail
  refine (cSizeAs (LV8.out.nth 4 rfl) (by decide) (x + y) (HZ2.out)).mono ?_
  rintro e w9 ⟨rfl, hb9⟩
  have LV9 := Lib.hid ((LV8.out.below hb9))
  have BV9 := Lib.hid (BV8.out.trans (hb9.mono BV8.out.size))
  clear hb9
  go_wp2_with fail
  refine (cUnion (LV9.out.nth 4 rfl) (LV9.out.nth 6 rfl) (by decide)).mono ?_
  rintro e w10 ⟨v10, R10, rfl, hr10, hs10, hb10⟩
  obtain ⟨A10, c10, rfl, _⟩ := hs10.at_
  have LV10 := Lib.hid ((LV9.out.below hb10).cons hs10)
  have BV10 := Lib.hid (BV9.out.trans (hb10.mono BV9.out.size))
  have Hhr10 := Lib.hid hr10
  clear hb10 hs10 hr10
  go_wp2_with fail
  refine (cUnion (LV10.out.nth 6 rfl) (LV10.out.nth 7 rfl) (by decide)).mono ?_
  rintro e w11 ⟨v11, R11, rfl, hr11, hs11, hb11⟩
  obtain ⟨A11, c11, rfl, _⟩ := hs11.at_
  have LV11 := Lib.hid ((LV10.out.below hb11).cons hs11)
  have BV11 := Lib.hid (BV10.out.trans (hb11.mono BV10.out.size))
  have Hhr11 := Lib.hid hr11
  clear hb11 hs11 hr11
  by_cases hcov : Iset.covers (a.take 40) (b.take 40)
  · have HCOV := Lib.hid hcov
    clear hcov
    go_wp2_with fail
    refine (cCoversYes (LV11.out.nth 6 rfl) (LV11.out.nth 7 rfl) (by decide) (HCOV.out)).mono ?_
    rintro e w12 ⟨rfl, hb12⟩
    have LV12 := Lib.hid ((LV11.out.below hb12))
    have BV12 := Lib.hid (BV11.out.trans (hb12.mono BV11.out.size))
    clear hb12
    go_wp2_with fail
    refine (cCoversYes (LV12.out.nth 1 rfl) (LV12.out.nth 0 rfl) (by decide) (Iset.cov_or HCOV.out Hhr10.out Hhr11.out)).mono ?_
    rintro e w13 ⟨rfl, hb13⟩
    have LV13 := Lib.hid ((LV12.out.below hb13))
    have BV13 := Lib.hid (BV12.out.trans (hb13.mono BV12.out.size))
    clear hb13
    go_wp2_with fail
    refine (cMeet (LV13.out.nth 6 rfl) (LV13.out.nth 8 rfl) (by decide)).mono ?_
    rintro e w14 ⟨v14, R14, rfl, hr14, hs14, hb14⟩
    obtain ⟨A14, c14, rfl, _⟩ := hs14.at_
    have LV14 := Lib.hid ((LV13.out.below hb14).cons hs14)
    have BV14 := Lib.hid (BV13.out.trans (hb14.mono BV13.out.size))
    have Hhr14 := Lib.hid hr14
    clear hb14 hs14 hr14
    go_wp2_with fail
    refine (cMeet (LV14.out.nth 8 rfl) (LV14.out.nth 9 rfl) (by decide)).mono ?_
    rintro e w15 ⟨v15, R15, rfl, hr15, hs15, hb15⟩
    obtain ⟨A15, c15, rfl, _⟩ := hs15.at_
    have LV15 := Lib.hid ((LV14.out.below hb15).cons hs15)
    have BV15 := Lib.hid (BV14.out.trans (hb15.mono BV14.out.size))
    have Hhr15 := Lib.hid hr15
    clear hb15 hs15 hr15
    go_wp2_with fail
    refine (cCoversYes (LV15.out.nth 1 rfl) (LV15.out.nth 0 rfl) (by decide) (Iset.cov_and HCOV.out Hhr14.out Hhr15.out)).mono ?_
    rintro e w16 ⟨rfl, hb16⟩
    have LV16 := Lib.hid ((LV15.out.below hb16))
    have BV16 := Lib.hid (BV15.out.trans (hb16.mono BV15.out.size))
    clear hb16
    go_wp2_with fail
    refine (cMinus (LV16.out.nth 8 rfl) (LV16.out.nth 10 rfl) (by decide)).mono ?_
    rintro e w17 ⟨v17, R17, rfl, hr17, hs17, hb17⟩
    obtain ⟨A17, c17, rfl, _⟩ := hs17.at_
    have LV17 := Lib.hid ((LV16.out.below hb17).cons hs17)
    have BV17 := Lib.hid (BV16.out.trans (hb17.mono BV16.out.size))
    have Hhr17 := Lib.hid hr17
    clear hb17 hs17 hr17
    go_wp2_with fail
    refine (cMinus (LV17.out.nth 10 rfl) (LV17.out.nth 11 rfl) (by decide)).mono ?_
    rintro e w18 ⟨v18, R18, rfl, hr18, hs18, hb18⟩
    obtain ⟨A18, c18, rfl, _⟩ := hs18.at_
    have LV18 := Lib.hid ((LV17.out.below hb18).cons hs18)
    have BV18 := Lib.hid (BV17.out.trans (hb18.mono BV17.out.size))
    have Hhr18 := Lib.hid hr18
    clear hb18 hs18 hr18
    go_wp2_with fail
    refine (cCoversYes (LV18.out.nth 1 rfl) (LV18.out.nth 0 rfl) (by decide) (Iset.cov_less HCOV.out Hhr17.out Hhr18.out)).mono ?_
    rintro e w19 ⟨rfl, hb19⟩
    have LV19 := Lib.hid ((LV18.out.below hb19))
    have BV19 := Lib.hid (BV18.out.trans (hb19.mono BV18.out.size))
    clear hb19
    go_wp2_with fail
    refine (cMinus (LV19.out.nth 12 rfl) (LV19.out.nth 11 rfl) (by decide)).mono ?_
    rintro e w20 ⟨v20, R20, rfl, hr20, hs20, hb20⟩
    obtain ⟨A20, c20, rfl, _⟩ := hs20.at_
    have LV20 := Lib.hid ((LV19.out.below hb20).cons hs20)
    have BV20 := Lib.hid (BV19.out.trans (hb20.mono BV19.out.size))
    have Hhr20 := Lib.hid hr20
    clear hb20 hs20 hr20
    go_wp2_with fail
    refine (cMinus (LV20.out.nth 13 rfl) (LV20.out.nth 11 rfl) (by decide)).mono ?_
    rintro e w21 ⟨v21, R21, rfl, hr21, hs21, hb21⟩
    obtain ⟨A21, c21, rfl, _⟩ := hs21.at_
    have LV21 := Lib.hid ((LV20.out.below hb21).cons hs21)
    have BV21 := Lib.hid (BV20.out.trans (hb21.mono BV20.out.size))
    have Hhr21 := Lib.hid hr21
    clear hb21 hs21 hr21
    go_wp2_with fail
    refine (cCoversYes (LV21.out.nth 1 rfl) (LV21.out.nth 0 rfl) (by decide) (Iset.cov_of HCOV.out Hhr20.out Hhr21.out)).mono ?_
    rintro e w22 ⟨rfl, hb22⟩
    have LV22 := Lib.hid ((LV21.out.below hb22))
    have BV22 := Lib.hid (BV21.out.trans (hb22.mono BV21.out.size))
    clear hb22
    go_wp2_with fail
    refine (cMinus (LV22.out.nth 12 rfl) (LV22.out.nth 13 rfl) (by decide)).mono ?_
    rintro e w23 ⟨v23, R23, rfl, hr23, hs23, hb23⟩
    obtain ⟨A23, c23, rfl, _⟩ := hs23.at_
    have LV23 := Lib.hid ((LV22.out.below hb23).cons hs23)
    have BV23 := Lib.hid (BV22.out.trans (hb23.mono BV22.out.size))
    have Hhr23 := Lib.hid hr23
    clear hb23 hs23 hr23
    go_wp2_with fail
    refine (cMinus (LV23.out.nth 0 rfl) (LV23.out.nth 15 rfl) (by decide)).mono ?_
    rintro e w24 ⟨v24, R24, rfl, hr24, hs24, hb24⟩
    obtain ⟨A24, c24, rfl, _⟩ := hs24.at_
    have LV24 := Lib.hid ((LV23.out.below hb24).cons hs24)
    have BV24 := Lib.hid (BV23.out.trans (hb24.mono BV23.out.size))
    have Hhr24 := Lib.hid hr24
    clear hb24 hs24 hr24
    go_wp2_with fail
    refine (cMinus (LV24.out.nth 14 rfl) (LV24.out.nth 8 rfl) (by decide)).mono ?_
    rintro e w25 ⟨v25, R25, rfl, hr25, hs25, hb25⟩
    obtain ⟨A25, c25, rfl, _⟩ := hs25.at_
    have LV25 := Lib.hid ((LV24.out.below hb25).cons hs25)
    have BV25 := Lib.hid (BV24.out.trans (hb25.mono BV24.out.size))
    have Hhr25 := Lib.hid hr25
    clear hb25 hs25 hr25
    go_wp2_with fail
    refine (cSame2 (LV25.out.nth 1 rfl) (LV25.out.nth 0 rfl) (by decide) (Iset.less_less Hhr23.out Hhr24.out Hhr11.out Hhr25.out)).mono ?_
    rintro e w26 ⟨rfl, hb26⟩
    have LV26 := Lib.hid ((LV25.out.below hb26))
    have BV26 := Lib.hid (BV25.out.trans (hb26.mono BV25.out.size))
    clear hb26
    go_wp2_with fail
    refine (wakes_any _ (HE.out.below BV26.out)).mono ?_
    rintro e w27 ⟨rfl, hb27⟩
    have LV27 := Lib.hid ((LV26.out.below hb27))
    have BV27 := Lib.hid (BV26.out.trans (hb27.mono BV26.out.size))
    clear hb27
    go_wp2
    go_ret
    exact ⟨rfl, BV27.out⟩
  · have HCOV := Lib.hid hcov
    clear hcov
    go_wp2_with fail
    refine (cCoversNo (LV11.out.nth 6 rfl) (LV11.out.nth 7 rfl) (by decide) (HCOV.out)).mono ?_
    rintro e w12 ⟨rfl, hb12⟩
    have LV12 := Lib.hid ((LV11.out.below hb12))
    have BV12 := Lib.hid (BV11.out.trans (hb12.mono BV11.out.size))
    clear hb12
    go_wp2_with fail
    refine (cMinus (LV12.out.nth 6 rfl) (LV12.out.nth 7 rfl) (by decide)).mono ?_
    rintro e w13 ⟨v13, R13, rfl, hr13, hs13, hb13⟩
    obtain ⟨A13, c13, rfl, _⟩ := hs13.at_
    have LV13 := Lib.hid ((LV12.out.below hb13).cons hs13)
    have BV13 := Lib.hid (BV12.out.trans (hb13.mono BV12.out.size))
    have Hhr13 := Lib.hid hr13
    clear hb13 hs13 hr13
    go_wp2_with fail
    refine (cMinus (LV13.out.nth 0 rfl) (LV13.out.nth 9 rfl) (by decide)).mono ?_
    rintro e w14 ⟨v14, R14, rfl, hr14, hs14, hb14⟩
    obtain ⟨A14, c14, rfl, _⟩ := hs14.at_
    have LV14 := Lib.hid ((LV13.out.below hb14).cons hs14)
    have BV14 := Lib.hid (BV13.out.trans (hb14.mono BV13.out.size))
    have Hhr14 := Lib.hid hr14
    clear hb14 hs14 hr14
    go_wp2_with fail
    refine (cMinus (LV14.out.nth 8 rfl) (LV14.out.nth 2 rfl) (by decide)).mono ?_
    rintro e w15 ⟨v15, R15, rfl, hr15, hs15, hb15⟩
    obtain ⟨A15, c15, rfl, _⟩ := hs15.at_
    have LV15 := Lib.hid ((LV14.out.below hb15).cons hs15)
    have BV15 := Lib.hid (BV14.out.trans (hb15.mono BV14.out.size))
    have Hhr15 := Lib.hid hr15
    clear hb15 hs15 hr15
    go_wp2_with fail
    refine (cSame2 (LV15.out.nth 1 rfl) (LV15.out.nth 0 rfl) (by decide) (Iset.less_less Hhr13.out Hhr14.out Hhr11.out Hhr15.out)).mono ?_
    rintro e w16 ⟨rfl, hb16⟩
    have LV16 := Lib.hid ((LV15.out.below hb16))
    have BV16 := Lib.hid (BV15.out.trans (hb16.mono BV15.out.size))
    clear hb16
    go_wp2_with fail
    refine (wakes_any _ (HE.out.below BV16.out)).mono ?_
    rintro e w17 ⟨rfl, hb17⟩
    have LV17 := Lib.hid ((LV16.out.below hb17))
    have BV17 := Lib.hid (BV16.out.trans (hb17.mono BV16.out.size))
    clear hb17
    go_wp2
    go_ret
    exact ⟨rfl, BV17.out⟩
end Go.Proofs.YtgjahnidjcfbiaaDoor
