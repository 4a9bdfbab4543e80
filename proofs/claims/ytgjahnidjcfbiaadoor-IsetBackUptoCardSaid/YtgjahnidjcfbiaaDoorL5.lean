/- The law IsetBack, walked, for texts that fit. -/
import Derived.Test.YtgjahnidjcfbiaaDoorJ20
namespace Go.Proofs.YtgjahnidjcfbiaaDoor
open Go.RowKit Go.Shelf Go.Lib
open Iset (nf has NF Res Wide NotL textL textsL Parsed Reads)
theorem text_len (L : List (Int × Int)) (n : Nat) (hw : Wide L) (hn : L.length ≤ n) : (textL (nf L)).length ≤ 43 * n + 2 := by
  have h1 := Iset.nf_length L
  by_cases e : nf L = []
  · rw [e]
    simp [textL]
  · rw [Iset.textL_some e]
    have := texts_len (nf L) fun p hp => ⟨(Iset.nf_nf L).may p hp, Iset.nf_wide hw p hp⟩
    omega
theorem size_list (s : ByteArray) : s.size = s.data.toList.length := by simp
theorem parsed_back (L : List (Int × Int)) (hw : Wide L) : Parsed (textL (nf L)) (some (nf L)) := ⟨Iset.nf_nf L, Iset.nf_wide hw, rfl⟩
theorem text_eq {a b : List (Int × Int)} {s t : ByteArray} (wa : Wide a) (wb : Wide b) (hs : s.data.toList = textL (nf a)) (ht : t.data.toList = textL (nf b)) : (s.toList == t.toList) = decide (nf a = nf b) := by
  rw [Bool.eq_iff_iff, beq_iff_eq, decide_eq_true_eq, toList_data, toList_data, hs, ht]
  exact ⟨fun h => Iset.text_inj (Iset.nf_nf a) (Iset.nf_wide wa) (Iset.nf_nf b) (Iset.nf_wide wb) h, fun h => by rw [h]⟩
theorem parsed_len {s : ByteArray} {R : List (Int × Int)} (h : Parsed s.data.toList (some R)) : R.length ≤ s.size := by
  by_cases e : R = []
  · subst e
    exact Nat.zero_le _
  · have h1 := Iset.reads_texts R h.1 h.2.1
    rw [← Iset.textL_some e, h.2.2] at h1
    have := h1.length
    rw [size_list]
    omega
set_option maxRecDepth 100000 in
set_option maxHeartbeats 16000000 in
theorem Back_walk (A B : Option Addr) (ca cb : Nat) (a b : List (Int × Int)) (s : ByteArray) (w : World) (ha : PAt w A a) (hb : PAt w B b) (la : a.length ≤ ca) (lb : b.length ≤ cb) (wa : Wide a) (wb : Wide b) (hs : s.size ≤ 1000000000000) (henv : Env w)
    (ma : a.length ≤ 140737488355328) (mb : b.length ≤ 140737488355328) :
    Calls Tryd.prog 7 #[.slice A a.length ca, .slice B b.length cb, .string s] w fun e w' => e = .returned (.bool true) ∧ Below w.heap.size w w' := by
  obtain ⟨na, hna⟩ : ∃ n : Nat, min a.length 40 = n := ⟨_, rfl⟩
  obtain ⟨nb, hnb⟩ : ∃ n : Nat, min b.length 40 = n := ⟨_, rfl⟩
  have ia : min (a.length : Int) 40 = (na : Int) := by omega
  have ib : min (b.length : Int) 40 = (nb : Int) := by omega
  have ja : na ≤ ca := by omega
  have jb : nb ≤ cb := by omega
  have LV0 := Lib.hid (((Live.nil w).cons (SetAt.cut (c := cb) hb wb hnb)).cons (SetAt.cut (c := ca) ha wa hna))
  have HWa := Lib.hid (LV0.out.nth 0 rfl)
  have HWb := Lib.hid (LV0.out.nth 1 rfl)
  have HE := Lib.hid henv
  clear hna hnb ha hb wa wb henv
  go_enter Tryd.func7, Tryd.ntmps7
  go_upto_region 1 with fail
  go_quiet (fail)
  clear ia ib ja jb
  have LV := Lib.hid (LV0.out.below (bel_drewN nq (Below.refl _ _)))
  have BV := Lib.hid (bel_drewN nq (Below.refl w.heap.size w))
  clear LV0
  generalize w.drewN nq = w0 at *
  go_wp2_with fail
  refine (cText (LV.out.nth 0 rfl) (by decide) (HE.out.below BV.out)).mono ?_
  rintro e w1 ⟨t1, rfl, ht1, hb1⟩
  have LV1 := Lib.hid ((LV.out.below hb1))
  have BV1 := Lib.hid (BV.out.trans (hb1.mono BV.out.size))
  have Hht1 := Lib.hid ht1
  clear hb1 ht1
  have hP1 := parsed_back (a.take 40) HWa.out.wide
  rw [← Hht1.out] at hP1
  have HP1 := Lib.hid hP1
  have hl1 := text_len (a.take 40) 40 HWa.out.wide HWa.out.len
  rw [← Hht1.out, ← size_list] at hl1
  have hl2 : (nf (a.take 40)).length ≤ 40 := Nat.le_trans (Iset.nf_length _) HWa.out.len
  clear hP1
  go_wp2_with fail
  refine (cParseGood _ _ (by omega) (HE.out.below BV1.out) _ 40 HP1.out hl2).mono ?_
  rintro e w2 ⟨v2, rfl, hs2, hb2⟩
  obtain ⟨A2, c2, rfl, _⟩ := hs2.at_
  have LV2 := Lib.hid ((LV1.out.below hb2).cons hs2)
  have BV2 := Lib.hid (BV1.out.trans (hb2.mono BV1.out.size))
  clear hb2 hs2
  go_wp2_with fail
  refine (cOf (LV2.out.nth 1 rfl) (by decide)).mono ?_
  rintro e w3 ⟨v3, rfl, hs3, hb3⟩
  obtain ⟨A3, c3, rfl, _⟩ := hs3.at_
  have LV3 := Lib.hid ((LV2.out.below hb3).cons hs3)
  have BV3 := Lib.hid (BV2.out.trans (hb3.mono BV2.out.size))
  clear hb3 hs3
  go_wp2_with fail
  refine (cSame2 (LV3.out.nth 1 rfl) (LV3.out.nth 0 rfl) (by decide) (rfl)).mono ?_
  rintro e w4 ⟨rfl, hb4⟩
  have LV4 := Lib.hid ((LV3.out.below hb4))
  have BV4 := Lib.hid (BV3.out.trans (hb4.mono BV3.out.size))
  clear hb4
  go_wp2_with fail
  refine (cText (LV4.out.nth 2 rfl) (by decide) (HE.out.below BV4.out)).mono ?_
  rintro e w5 ⟨t5, rfl, ht5, hb5⟩
  have LV5 := Lib.hid ((LV4.out.below hb5))
  have BV5 := Lib.hid (BV4.out.trans (hb5.mono BV4.out.size))
  have Hht5 := Lib.hid ht5
  clear hb5 ht5
  go_wp2_with fail
  refine (cText (LV5.out.nth 3 rfl) (by decide) (HE.out.below BV5.out)).mono ?_
  rintro e w6 ⟨t6, rfl, ht6, hb6⟩
  have LV6 := Lib.hid ((LV5.out.below hb6))
  have BV6 := Lib.hid (BV5.out.trans (hb6.mono BV5.out.size))
  have Hht6 := Lib.hid ht6
  clear hb6 ht6
  have het := text_eq HWa.out.wide HWb.out.wide Hht5.out Hht6.out
  by_cases hab : nf (a.take 40) = nf (b.take 40)
  · rw [decide_eq_true hab] at het
    have HAB := Lib.hid hab
    clear hab
    go_wp2_with fail
    refine (cSameYes (LV6.out.nth 2 rfl) (LV6.out.nth 3 rfl) (by decide) (HAB.out)).mono ?_
    rintro e w7 ⟨rfl, hb7⟩
    have LV7 := Lib.hid ((LV6.out.below hb7))
    have BV7 := Lib.hid (BV6.out.trans (hb7.mono BV6.out.size))
    clear hb7
    go_wp2_with fail
    refine (Parse_any s _ hs (HE.out.below BV7.out)).mono ?_
    rintro e wp hp
    rcases hp with ⟨v, R, rfl, hR, ho, hbp⟩ | ⟨rfl, _, hbp⟩
    · have hRl := parsed_len hR
      have HR := Lib.hid hR
      have HO := Lib.hid ho
      have HB := Lib.hid (BV7.out.trans (hbp.mono BV7.out.size))
      clear ho hbp hR
      go_wp2_with fail
      refine (Text_any _ R _ HO.out.at HR.out.2.1 (by omega) (HE.out.below HB.out)).mono ?_
      rintro e wt ⟨t, rfl, ht, hbt⟩
      have HBt := Lib.hid (HB.out.trans (hbt.mono HB.out.size))
      have HOt := Lib.hid (HO.out.below hbt)
      have htt : (t.toList == s.toList) = true := by rw [beq_iff_eq, toList_data, toList_data, ht, Iset.nf_of_NF HR.out.1, HR.out.2.2]
      clear hbt ht
      go_wp2_with fail
      refine (Is_any _ R _ HOt.out.at (by omega)).mono ?_
      rw [show sameL (nf R) R = true by rw [sameL, Iset.nf_of_NF HR.out.1, decide_eq_true rfl]]
      rintro e wi ⟨rfl, hbi⟩
      have HBi := Lib.hid (HBt.out.trans (hbi.mono HBt.out.size))
      clear hbi
      go_wp2_with fail
      refine (wakes_any _ (HE.out.below HBi.out)).mono ?_
      rintro e wk ⟨rfl, hbk⟩
      have HBk := Lib.hid (HBi.out.trans (hbk.mono HBi.out.size))
      clear hbk
      go_wp2
      go_ret
      exact ⟨rfl, HBk.out⟩
    · have HB := Lib.hid (BV7.out.trans (hbp.mono BV7.out.size))
      clear hbp
      go_wp2_with fail
      refine (wakes_any _ (HE.out.below HB.out)).mono ?_
      rintro e wk ⟨rfl, hbk⟩
      have HBk := Lib.hid (HB.out.trans (hbk.mono HB.out.size))
      clear hbk
      go_wp2
      go_ret
      exact ⟨rfl, HBk.out⟩
  · rw [decide_eq_false hab] at het
    have HAB := Lib.hid hab
    clear hab
    go_wp2_with fail
    refine (cSameNo (LV6.out.nth 2 rfl) (LV6.out.nth 3 rfl) (by decide) (HAB.out)).mono ?_
    rintro e w7 ⟨rfl, hb7⟩
    have LV7 := Lib.hid ((LV6.out.below hb7))
    have BV7 := Lib.hid (BV6.out.trans (hb7.mono BV6.out.size))
    clear hb7
    go_wp2_with fail
    refine (Parse_any s _ hs (HE.out.below BV7.out)).mono ?_
    rintro e wp hp
    rcases hp with ⟨v, R, rfl, hR, ho, hbp⟩ | ⟨rfl, _, hbp⟩
    · have hRl := parsed_len hR
      have HR := Lib.hid hR
      have HO := Lib.hid ho
      have HB := Lib.hid (BV7.out.trans (hbp.mono BV7.out.size))
      clear ho hbp hR
      go_wp2_with fail
      refine (Text_any _ R _ HO.out.at HR.out.2.1 (by omega) (HE.out.below HB.out)).mono ?_
      rintro e wt ⟨t, rfl, ht, hbt⟩
      have HBt := Lib.hid (HB.out.trans (hbt.mono HB.out.size))
      have HOt := Lib.hid (HO.out.below hbt)
      have htt : (t.toList == s.toList) = true := by rw [beq_iff_eq, toList_data, toList_data, ht, Iset.nf_of_NF HR.out.1, HR.out.2.2]
      clear hbt ht
      go_wp2_with fail
      refine (Is_any _ R _ HOt.out.at (by omega)).mono ?_
      rw [show sameL (nf R) R = true by rw [sameL, Iset.nf_of_NF HR.out.1, decide_eq_true rfl]]
      rintro e wi ⟨rfl, hbi⟩
      have HBi := Lib.hid (HBt.out.trans (hbi.mono HBt.out.size))
      clear hbi
      go_wp2_with fail
      refine (wakes_any _ (HE.out.below HBi.out)).mono ?_
      rintro e wk ⟨rfl, hbk⟩
      have HBk := Lib.hid (HBi.out.trans (hbk.mono HBi.out.size))
      clear hbk
      go_wp2
      go_ret
      exact ⟨rfl, HBk.out⟩
    · have HB := Lib.hid (BV7.out.trans (hbp.mono BV7.out.size))
      clear hbp
      go_wp2_with fail
      refine (wakes_any _ (HE.out.below HB.out)).mono ?_
      rintro e wk ⟨rfl, hbk⟩
      have HBk := Lib.hid (HB.out.trans (hbk.mono HB.out.size))
      clear hbk
      go_wp2
      go_ret
      exact ⟨rfl, HBk.out⟩
end Go.Proofs.YtgjahnidjcfbiaaDoor
