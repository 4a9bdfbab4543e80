/- The statements' own test of being awake: true in every world. -/
import Derived.Test.YtbdlmidkkdmkpaaP9
import Derived.Test.YtbdlmidkkdmkpaaP12
namespace Go.Proofs.Ytbdlmidkkdmkpaa
open Go.RowKit
theorem comp_4_10 : compL 4 10 = [4, 7, 10] := by decide +kernel
set_option maxRecDepth 100000 in
set_option maxHeartbeats 4000000 in
theorem awake_any (w : World) : Calls Try.prog 15 #[] w fun e w' => e = .returned (.bool true) ∧ Below w.heap.size w w' := by
  have r1 := Relation_any 1 3 3 5
  rw [show relR 1 3 3 5 = 2 by decide, show badE 1 3 3 5 = 0 by decide] at r1
  have r2 := Relation_any 0 9 3 5
  rw [show relR 0 9 3 5 = 9 by decide, show badE 0 9 3 5 = 0 by decide] at r2
  have cm := Compose_any 4 10 (by decide) (by decide) (by decide) (by decide)
  rw [comp_4_10] at cm
  have mn := Minus_any 0 9 3 5
  rw [show minusL 0 9 3 5 = [(0, 3), (5, 9)] by decide] at mn
  have R1 := Lib.hid r1
  have R2 := Lib.hid r2
  have CM := Lib.hid cm
  have MN := Lib.hid mn
  have PA := Lib.hid P_any
  clear r1 r2 cm mn
  go_enter Try.func15, Try.ntmps15
  go_wp2_with fail
  refine (PA.out _ _ _).mono ?_
  rintro e w1 ⟨rfl, hb1⟩
  have B1 := Lib.hid hb1
  clear hb1
  go_wp2_with fail
  refine (PA.out _ _ _).mono ?_
  rintro e w2 ⟨rfl, hb2⟩
  have B2 := Lib.hid (B1.out.trans (hb2.mono B1.out.size))
  clear hb2
  go_wp2_with fail
  refine (R1.out _).mono ?_
  rintro e w3 ⟨rfl, hb3⟩
  have B3 := Lib.hid (B2.out.trans (hb3.mono B2.out.size))
  clear hb3
  go_wp2_with fail
  refine (PA.out _ _ _).mono ?_
  rintro e w4 ⟨rfl, hb4⟩
  have B4 := Lib.hid (B3.out.trans (hb4.mono B3.out.size))
  clear hb4
  go_wp2_with fail
  refine (PA.out _ _ _).mono ?_
  rintro e w5 ⟨rfl, hb5⟩
  have B5 := Lib.hid (B4.out.trans (hb5.mono B4.out.size))
  clear hb5
  go_wp2_with fail
  refine (R2.out _).mono ?_
  rintro e w6 ⟨rfl, hb6⟩
  have B6 := Lib.hid (B5.out.trans (hb6.mono B5.out.size))
  clear hb6
  go_wp2_with fail
  refine (CM.out _).mono ?_
  rintro e w7 ⟨A7, c7, rfl, hA7, hb7⟩
  have HA7 := Lib.hid hA7
  have B7 := Lib.hid (B6.out.trans (hb7.mono B6.out.size))
  clear hb7 hA7
  go_wp2_with fail
  have e1 := Equal_any A7 (some ⟨w7.heap.size, 0, none⟩) [4, 7, 10] [4, 7, 10] c7 3 (w7.alloc (.cells #[.int .i64 4, .int .i64 7, .int .i64 10] 3)) (HA7.out.below ((Below.refl _ _).alloc (Nat.le_refl _) _)) (fun _ => ⟨_, rfl, by simp, fun i hi => by
    match i, hi with
    | 0, _ => go_simp
    | 1, _ => go_simp
    | 2, _ => go_simp⟩) (by simp) (by simp)
  rw [show (([4, 7, 10] : List Int) == [4, 7, 10]) = true by decide] at e1
  have E1 := Lib.hid e1
  clear e1
  refine (E1.out).mono ?_
  rintro e w8 ⟨rfl, hb8⟩
  have B8 := Lib.hid ((B7.out.alloc B7.out.size _).trans (hb8.mono (B7.out.alloc B7.out.size (.cells #[.int .i64 4, .int .i64 7, .int .i64 10] 3)).size))
  clear hb8 E1 HA7
  go_wp2_with fail
  refine (PA.out _ _ _).mono ?_
  rintro e w9 ⟨rfl, hb9⟩
  have B9 := Lib.hid (B8.out.trans (hb9.mono B8.out.size))
  clear hb9
  go_wp2_with fail
  refine (PA.out _ _ _).mono ?_
  rintro e w10 ⟨rfl, hb10⟩
  have B10 := Lib.hid (B9.out.trans (hb10.mono B9.out.size))
  clear hb10
  go_wp2_with fail
  refine (MN.out _).mono ?_
  rintro e w11 ⟨A11, c11, rfl, hA11, hb11⟩
  have HA11 := Lib.hid hA11
  have B11 := Lib.hid (B10.out.trans (hb11.mono B10.out.size))
  clear hb11 hA11
  go_wp2_with fail
  refine (PA.out _ _ _).mono ?_
  rintro e w12 ⟨rfl, hb12⟩
  have HA12 := Lib.hid (HA11.out.below hb12)
  have B12 := Lib.hid (B11.out.trans (hb12.mono B11.out.size))
  clear hb12
  go_wp2_with fail
  refine (PA.out _ _ _).mono ?_
  rintro e w13 ⟨rfl, hb13⟩
  have HA13 := Lib.hid (HA12.out.below hb13)
  have B13 := Lib.hid (B12.out.trans (hb13.mono B12.out.size))
  clear hb13
  go_wp2_with fail
  have s1 := Same_yes A11 (some ⟨w13.heap.size, 0, none⟩) [(0, 3), (5, 9)] c11 2 (w13.alloc (.cells #[.int .u64 0, .int .u64 3, .int .u64 5, .int .u64 9] 24)) (HA13.out.below ((Below.refl _ _).alloc (Nat.le_refl _) _)) (fun _ => ⟨_, rfl, by simp, fun i hi => by
    match i, hi with
    | 0, _ => exact ⟨by go_simp, by go_simp⟩
    | 1, _ => exact ⟨by go_simp, by go_simp⟩⟩) (by simp)
  have S1 := Lib.hid s1
  clear s1
  refine (S1.out).mono ?_
  rintro e w14 ⟨rfl, hb14⟩
  have B14 := Lib.hid ((B13.out.alloc B13.out.size _).trans (hb14.mono (B13.out.alloc B13.out.size (.cells #[.int .u64 0, .int .u64 3, .int .u64 5, .int .u64 9] 24)).size))
  clear hb14 S1 HA13 HA12 HA11
  go_wp2
  go_ret
  exact ⟨rfl, B14.out⟩
end Go.Proofs.Ytbdlmidkkdmkpaa
