/- NumOrders, walked: for every whole number and every two floats it answers true. -/
import Derived.Test.YtacedomhnnigjaaGreatDoorF8
namespace Go.Proofs.YtacedomhnnigjaaGreatDoor
open Go.RowKit
set_option maxRecDepth 100000 in
set_option maxHeartbeats 4000000 in
theorem orders_walk (n : Int) (a b : Nat) (w : World) (hn : fits n) (ha : a < 18446744073709551616) (hb : b < 18446744073709551616) (h : Env w) :
    Calls Tryz.prog 3 #[.int .i64 n, .float .f64 a, .float .f64 b] w fun e w' => e = .returned (.bool true) ∧ Below w.heap.size w w' := by
  have HE := Lib.hid h
  have c1 := fun w => Canon_any a w ha
  have c2 := fun w => refCanon_any a w ha
  have c3 := fun w => Canonical_any a w ha
  have c4 : ∀ w, Calls Tryz.prog 14 #[.float .f64 (canonF a), .float .f64 (canonF a)] w fun e w' => e = .returned (.bool true) ∧ w = w' := fun w => by
    have t := Bits_any (canonF a) (canonF a) w
    rwa [show ((canonF a : Int) == (canonF a : Int)) = true by simp] at t
  have c5 : ∀ w, Calls Tryz.prog 14 #[.float .f64 a, .float .f64 (canonF a)] w fun e w' => e = .returned (.bool (decide (canonF a = a))) ∧ w = w' := fun w => by
    have t := Bits_any a (canonF a) w
    rwa [show ((a : Int) == (canonF a : Int)) = decide (canonF a = a) by
      rw [Bool.eq_iff_iff]
      simp only [beq_iff_eq, decide_eq_true_eq]
      omega] at t
  have c6 := fun w => Floats_any a b w ha hb
  have c7 := fun w => refFloats_any a b w ha hb
  have c8 := fun w => Mixed_any n a w hn ha
  have c9 := fun w => refMixed_any n a w hn ha
  generalize decide (canonF a = a) = k at *
  generalize canonF a = c at *
  generalize cmpI (rankOf a) (rankOf b) = x at *
  generalize mixedF n a = y at *
  have C1 := Lib.hid c1
  have C2 := Lib.hid c2
  have C3 := Lib.hid c3
  have C4 := Lib.hid c4
  have C5 := Lib.hid c5
  have C6 := Lib.hid c6
  have C7 := Lib.hid c7
  have C8 := Lib.hid c8
  have C9 := Lib.hid c9
  clear c1 c2 c3 c4 c5 c6 c7 c8 c9 h hn ha hb
  go_enter Tryz.func3, Tryz.ntmps3
  go_wp2_with (first | (go_at_call 12; ((with_reducible refine (C1.out _).mono ?_); rintro e w' ⟨rfl, rfl⟩)) | (go_at_call 15; ((with_reducible refine (C2.out _).mono ?_); rintro e w' ⟨rfl, rfl⟩)) | (go_at_call 16; ((with_reducible refine (C3.out _).mono ?_); rintro e w' ⟨rfl, rfl⟩)) | (go_at_call 14; ((with_reducible refine (C4.out _).mono ?_); rintro e w' ⟨rfl, rfl⟩)) | (go_at_call 14; ((with_reducible refine (C5.out _).mono ?_); rintro e w' ⟨rfl, rfl⟩)) | (go_at_call 17; ((with_reducible refine (C6.out _).mono ?_); rintro e w' ⟨rfl, rfl⟩)) | (go_at_call 18; ((with_reducible refine (C7.out _).mono ?_); rintro e w' ⟨rfl, rfl⟩)) | (go_at_call 19; ((with_reducible refine (C8.out _).mono ?_); rintro e w' ⟨rfl, rfl⟩)) | (go_at_call 20; ((with_reducible refine (C9.out _).mono ?_); rintro e w' ⟨rfl, rfl⟩)) | (go_at_call 13; ((with_reducible refine (awake_any _ HE.out).mono ?_); rintro e w5 ⟨rfl, hb5⟩; have B5 := Lib.hid hb5; clear hb5)))
  go_ret
  exact ⟨rfl, B5.out⟩
end Go.Proofs.YtacedomhnnigjaaGreatDoor
