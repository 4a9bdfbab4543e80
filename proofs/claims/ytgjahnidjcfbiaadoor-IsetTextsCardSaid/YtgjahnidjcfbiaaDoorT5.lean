/- IsetTexts' walk. -/
import Derived.Test.YtgjahnidjcfbiaaDoorT4
import Derived.Test.YtgjahnidjcfbiaaDoorJ19
namespace Go.Proofs.YtgjahnidjcfbiaaDoor
open Go.RowKit Go.Shelf Go.Lib
open Iset (nf has NF Res Wide textL Parsed)
theorem sameL_self (L : List (Int × Int)) : sameL L L = true := decide_eq_true rfl
set_option maxRecDepth 100000 in
set_option maxHeartbeats 8000000 in
theorem Texts_walk (A : Option Addr) (ca : Nat) (a : List (Int × Int)) (s : ByteArray) (w : World) (ha : PAt w A a) (za : A = none → ca = 0) (la : a.length ≤ ca) (wa : Wide a) (henv : Env w) :
    Calls Tryd.prog 3 #[.slice A a.length ca, .string s] w fun e w' => e = .returned (.bool true) ∧ Below w.heap.size w w' := by
  have HE := Lib.hid henv
  have HW := Lib.hid (fun w1 (h : Below w.heap.size w w1) => wakes_any w1 (henv.below h))
  by_cases h6 : s.size ≤ 600
  · have CA := Lib.hid (cutO_any A ca a w ha za la)
    have WT : Hid (Wide (a.take 60)) := Lib.hid fun p hp => wa p (List.mem_of_mem_take hp)
    have hl60 : (a.take 60).length ≤ 60 := by rw [List.length_take]; omega
    have h6i : ¬ (600 : Int) < (s.size : Int) := by omega
    generalize a.take 60 = L at *
    have DP := Lib.hid (fun w => docParse_any s w (by omega))
    clear ha za wa henv
    go_enter Tryd.func3, Tryd.ntmps3
    go_wp2_with fail
    refine (CA.out).mono ?_
    rintro e w1 ⟨v1, rfl, ho1, hb1⟩
    have HO1 := Lib.hid ho1
    have HB1 := Lib.hid hb1
    have PA := Lib.hid (Parse_any s w1 (by omega) (HE.out.below hb1))
    clear ho1 hb1
    go_wp2_with fail
    refine (PA.out).mono ?_
    rintro e w2 (⟨x, R, rfl, hp, hox, hb2⟩ | ⟨rfl, hp, hb2⟩)
    · have HP := Lib.hid hp
      have HX := Lib.hid hox.at
      have HB2 := Lib.hid (HB1.out.trans (hb2.mono HB1.out.size))
      have HO2 := Lib.hid (HO1.out.below hb2)
      clear hp hox hb2
      go_wp2_with fail
      refine (DP.out _).mono ?_
      rintro e w3 (⟨y, S, rfl, hq, hS, hy, hb3⟩ | ⟨rfl, hq, hb3⟩)
      · have e0 := HP.out.uniq hq
        injection e0 with e0
        subst e0
        have HY := Lib.hid hy
        have HX3 := Lib.hid (HX.out.below hb3)
        have HB3 := Lib.hid (HB2.out.trans (hb3.mono HB2.out.size))
        have HO3 := Lib.hid (HO2.out.below hb3)
        clear hq hy hb3
        have TX := Lib.hid (Text_any v1 L w3 HO3.out.at WT.out (by omega) (HE.out.below HB3.out))
        go_wp2_with fail
        refine (TX.out).mono ?_
        rintro e w4 ⟨t, rfl, ht, hb4⟩
        have HT := Lib.hid ht
        have HB4 := Lib.hid (HB3.out.trans (hb4.mono HB3.out.size))
        have HO4 := Lib.hid (HO3.out.below hb4)
        have HX4 := Lib.hid (HX3.out.below hb4)
        have HY4 := Lib.hid (HY.out.below hb4)
        clear ht hb4
        have TD := Lib.hid (docText_any v1 L w4 HO4.out.isZ WT.out (by omega))
        go_wp2_with fail
        refine (TD.out).mono ?_
        rintro e w5 ⟨t2, rfl, ht, hb5⟩
        have he1 : (t.toList == t2.toList) = true := by rw [toList_data, toList_data, HT.out, ht]; simp
        have HB5 := Lib.hid (HB4.out.trans (hb5.mono HB4.out.size))
        have LK := Lib.hid (Like_any _ _ R R w5 (HX4.out.below hb5) (HY4.out.below hb5) (by omega) (by omega))
        rw [sameL_self] at LK
        clear ht hb5
        go_wp2_with fail
        refine (LK.out).mono ?_
        rintro e w6 ⟨rfl, hb6⟩
        have HB6 := Lib.hid (HB5.out.trans (hb6.mono HB5.out.size))
        clear hb6 he1
        go_wp2_with fail
        refine (HW.out _ HB6.out).mono ?_
        rintro e w7 ⟨rfl, hb7⟩
        go_wp2
        go_ret
        exact ⟨rfl, HB6.out.trans (hb7.mono HB6.out.size)⟩
      · have e0 := HP.out.uniq hq
        cases e0
    · have HP := Lib.hid hp
      have HB2 := Lib.hid (HB1.out.trans (hb2.mono HB1.out.size))
      have HO2 := Lib.hid (HO1.out.below hb2)
      clear hp hb2
      go_wp2_with fail
      refine (DP.out _).mono ?_
      rintro e w3 (⟨y, S, rfl, hq, hS, hy, hb3⟩ | ⟨rfl, hq, hb3⟩)
      · have e0 := HP.out.uniq hq
        cases e0
      · have HY := Lib.hid (IsP.nil w3)
        have HX3 := Lib.hid (IsP.nil w3)
        have HB3 := Lib.hid (HB2.out.trans (hb3.mono HB2.out.size))
        have HO3 := Lib.hid (HO2.out.below hb3)
        have hS : ([] : List (Int × Int)).length ≤ 1000 := by simp
        clear hq hb3
        have TX := Lib.hid (Text_any v1 L w3 HO3.out.at WT.out (by omega) (HE.out.below HB3.out))
        go_wp2_with fail
        refine (TX.out).mono ?_
        rintro e w4 ⟨t, rfl, ht, hb4⟩
        have HT := Lib.hid ht
        have HB4 := Lib.hid (HB3.out.trans (hb4.mono HB3.out.size))
        have HO4 := Lib.hid (HO3.out.below hb4)
        have HX4 := Lib.hid (HX3.out.below hb4)
        have HY4 := Lib.hid (HY.out.below hb4)
        clear ht hb4
        have TD := Lib.hid (docText_any v1 L w4 HO4.out.isZ WT.out (by omega))
        go_wp2_with fail
        refine (TD.out).mono ?_
        rintro e w5 ⟨t2, rfl, ht, hb5⟩
        have he1 : (t.toList == t2.toList) = true := by rw [toList_data, toList_data, HT.out, ht]; simp
        have HB5 := Lib.hid (HB4.out.trans (hb5.mono HB4.out.size))
        have LK := Lib.hid (Like_any _ _ [] [] w5 (HX4.out.below hb5) (HY4.out.below hb5) (by omega) (by omega))
        rw [sameL_self] at LK
        clear ht hb5
        go_wp2_with fail
        refine (LK.out).mono ?_
        rintro e w6 ⟨rfl, hb6⟩
        have HB6 := Lib.hid (HB5.out.trans (hb6.mono HB5.out.size))
        clear hb6 he1
        go_wp2_with fail
        refine (HW.out _ HB6.out).mono ?_
        rintro e w7 ⟨rfl, hb7⟩
        go_wp2
        go_ret
        exact ⟨rfl, HB6.out.trans (hb7.mono HB6.out.size)⟩
  · have h6i : (600 : Int) < (s.size : Int) := by omega
    clear ha za wa henv h6
    go_enter Tryd.func3, Tryd.ntmps3
    go_wp2_with fail
    refine (HW.out _ (Below.refl _ _)).mono ?_
    rintro e w1 ⟨rfl, hb⟩
    go_wp2
    go_ret
    exact ⟨rfl, hb⟩
end Go.Proofs.YtgjahnidjcfbiaaDoor
