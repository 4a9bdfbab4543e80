/- The examples of package value, as the statements ask them: what each call answers. -/
import Derived.Test.YtbpakmiopmgmbaaGreatDoorV10
import Derived.Test.YtbpakmiopmgmbaaGreatDoorT8
namespace Go.Proofs.YtbpakmiopmgmbaaGreatDoor
open Go.RowKit
theorem wideC (k n : Int) (f : Nat) (s : ByteArray) (h1 : -9223372036854775808 ≤ k) (h2 : k ≤ 9223372036854775807) (h3 : -9223372036854775808 ≤ n) (h4 : n ≤ 9223372036854775807) (h5 : f < 18446744073709551616) (h6 : s.size ≤ 1000) : WideV k n f s :=
  ⟨⟨h1, h2⟩, ⟨h3, h4⟩, h5, by unfold maxLen; omega⟩
set_option maxRecDepth 100000 in
theorem F_any (f : Nat) (w : World) : Calls Tryz.prog 18 #[.float .f64 f] w fun e w' => e = .returned (vagg 3 false 0 f ⟨#[]⟩) ∧ Below w.heap.size w w' := by
  have hsf := store_float
  go_enter Tryz.func18, Tryz.ntmps18
  go_wp2
  go_returns
  exact ⟨rfl, (Below.refl _ _).alloc (Nat.le_refl _) _⟩
set_option maxRecDepth 100000 in
theorem V_any (n : Int) (w : World) : Calls Tryz.prog 21 #[.int .i64 n] w fun e w' => e = .returned (vagg 2 false n 0 ⟨#[]⟩) ∧ Below w.heap.size w w' := by
  have hsf := store_float
  go_enter Tryz.func21, Tryz.ntmps21
  go_wp2
  go_returns
  exact ⟨rfl, (Below.refl _ _).alloc (Nat.le_refl _) _⟩
theorem Point_nan (w : World) : Calls Tryz.prog 16 #[.float .f64 9221120237041090561] w fun e w' => e = .returned (vagg 3 false 0 9221120237041090561 ⟨#[]⟩) ∧ Below w.heap.size w w' := by
  have h := Point_any 9221120237041090561 w (by omega)
  rwa [show canonF 9221120237041090561 = 9221120237041090561 by decide] at h
theorem cmp1 (w : World) : Calls Tryz.prog 10 #[vagg 2 false 1 0 ⟨#[]⟩, vagg 3 false 0 4607182418800017408 ⟨#[]⟩] w fun e w' => e = .returned (.int .i64 (-1)) ∧ Below w.heap.size w w' := by
  have h := Compare_any 2 1 3 0 false false 0 4607182418800017408 ⟨#[]⟩ ⟨#[]⟩ w (wideC 2 1 0 ⟨#[]⟩ (by omega) (by omega) (by omega) (by omega) (by omega) (by decide)) (wideC 3 0 4607182418800017408 ⟨#[]⟩ (by omega) (by omega) (by omega) (by omega) (by omega) (by decide)) (by decide) (by decide)
  rwa [show cmpK (keyV 2 false 1 0 ⟨#[]⟩) (keyV 3 false 0 4607182418800017408 ⟨#[]⟩) = (-1) by decide +kernel] at h
theorem cmp2 (w : World) : Calls Tryz.prog 10 #[vagg 3 false 0 4607182418800017408 ⟨#[]⟩, vagg 2 false 2 0 ⟨#[]⟩] w fun e w' => e = .returned (.int .i64 (-1)) ∧ Below w.heap.size w w' := by
  have h := Compare_any 3 0 2 2 false false 4607182418800017408 0 ⟨#[]⟩ ⟨#[]⟩ w (wideC 3 0 4607182418800017408 ⟨#[]⟩ (by omega) (by omega) (by omega) (by omega) (by omega) (by decide)) (wideC 2 2 0 ⟨#[]⟩ (by omega) (by omega) (by omega) (by omega) (by omega) (by decide)) (by decide) (by decide)
  rwa [show cmpK (keyV 3 false 0 4607182418800017408 ⟨#[]⟩) (keyV 2 false 2 0 ⟨#[]⟩) = (-1) by decide +kernel] at h
theorem cmp3 (w : World) : Calls Tryz.prog 10 #[vagg 1 true 0 0 ⟨#[]⟩, vagg 2 false (-5) 0 ⟨#[]⟩] w fun e w' => e = .returned (.int .i64 (-1)) ∧ Below w.heap.size w w' := by
  have h := Compare_any 1 0 2 (-5) true false 0 0 ⟨#[]⟩ ⟨#[]⟩ w (wideC 1 0 0 ⟨#[]⟩ (by omega) (by omega) (by omega) (by omega) (by omega) (by decide)) (wideC 2 (-5) 0 ⟨#[]⟩ (by omega) (by omega) (by omega) (by omega) (by omega) (by decide)) (by decide) (by decide)
  rwa [show cmpK (keyV 1 true 0 0 ⟨#[]⟩) (keyV 2 false (-5) 0 ⟨#[]⟩) = (-1) by decide +kernel] at h
theorem cmp4 (w : World) : Calls Tryz.prog 10 #[vagg 3 false 0 9223372036854775808 ⟨#[]⟩, vagg 2 false 0 0 ⟨#[]⟩] w fun e w' => e = .returned (.int .i64 1) ∧ Below w.heap.size w w' := by
  have h := Compare_any 3 0 2 0 false false 9223372036854775808 0 ⟨#[]⟩ ⟨#[]⟩ w (wideC 3 0 9223372036854775808 ⟨#[]⟩ (by omega) (by omega) (by omega) (by omega) (by omega) (by decide)) (wideC 2 0 0 ⟨#[]⟩ (by omega) (by omega) (by omega) (by omega) (by omega) (by decide)) (by decide) (by decide)
  rwa [show cmpK (keyV 3 false 0 9223372036854775808 ⟨#[]⟩) (keyV 2 false 0 0 ⟨#[]⟩) = 1 by decide +kernel] at h
theorem cmp5 (w : World) : Calls Tryz.prog 10 #[vagg 3 false 0 9221120237041090561 ⟨#[]⟩, vagg 3 false 0 9218868437227405312 ⟨#[]⟩] w fun e w' => e = .returned (.int .i64 1) ∧ Below w.heap.size w w' := by
  have h := Compare_any 3 0 3 0 false false 9221120237041090561 9218868437227405312 ⟨#[]⟩ ⟨#[]⟩ w (wideC 3 0 9221120237041090561 ⟨#[]⟩ (by omega) (by omega) (by omega) (by omega) (by omega) (by decide)) (wideC 3 0 9218868437227405312 ⟨#[]⟩ (by omega) (by omega) (by omega) (by omega) (by omega) (by decide)) (by decide) (by decide)
  rwa [show cmpK (keyV 3 false 0 9221120237041090561 ⟨#[]⟩) (keyV 3 false 0 9218868437227405312 ⟨#[]⟩) = 1 by decide +kernel] at h
theorem eq1 (w : World) : Calls Tryz.prog 8 #[vagg 2 false 1 0 ⟨#[]⟩, vagg 3 false 0 4607182418800017408 ⟨#[]⟩] w fun e w' => e = .returned (vagg 1 true 0 0 ⟨#[]⟩) ∧ Below w.heap.size w w' := by
  have h := Eq_num 2 1 3 0 false false 0 4607182418800017408 ⟨#[]⟩ ⟨#[]⟩ w (wideC 2 1 0 ⟨#[]⟩ (by omega) (by omega) (by omega) (by omega) (by omega) (by decide)) (wideC 3 0 4607182418800017408 ⟨#[]⟩ (by omega) (by omega) (by omega) (by omega) (by omega) (by decide)) (by omega) (by omega)
  rwa [show sameB 2 1 0 3 0 4607182418800017408 = true by decide +kernel] at h
theorem eq2 (w : World) : Calls Tryz.prog 8 #[vagg 3 false 0 9223372036854775808 ⟨#[]⟩, vagg 2 false 0 0 ⟨#[]⟩] w fun e w' => e = .returned (vagg 1 true 0 0 ⟨#[]⟩) ∧ Below w.heap.size w w' := by
  have h := Eq_num 3 0 2 0 false false 9223372036854775808 0 ⟨#[]⟩ ⟨#[]⟩ w (wideC 3 0 9223372036854775808 ⟨#[]⟩ (by omega) (by omega) (by omega) (by omega) (by omega) (by decide)) (wideC 2 0 0 ⟨#[]⟩ (by omega) (by omega) (by omega) (by omega) (by omega) (by decide)) (by omega) (by omega)
  rwa [show sameB 3 0 9223372036854775808 2 0 0 = true by decide +kernel] at h
theorem eq3 (w : World) : Calls Tryz.prog 8 #[vagg 3 false 0 9221120237041090561 ⟨#[]⟩, vagg 3 false 0 9221120237041090561 ⟨#[]⟩] w fun e w' => e = .returned (vagg 1 false 0 0 ⟨#[]⟩) ∧ Below w.heap.size w w' := by
  have h := Eq_num 3 0 3 0 false false 9221120237041090561 9221120237041090561 ⟨#[]⟩ ⟨#[]⟩ w (wideC 3 0 9221120237041090561 ⟨#[]⟩ (by omega) (by omega) (by omega) (by omega) (by omega) (by decide)) (wideC 3 0 9221120237041090561 ⟨#[]⟩ (by omega) (by omega) (by omega) (by omega) (by omega) (by decide)) (by omega) (by omega)
  rwa [show sameB 3 0 9221120237041090561 3 0 9221120237041090561 = false by decide +kernel] at h
theorem eq4 (w : World) : Calls Tryz.prog 8 #[vagg 2 false 1 0 ⟨#[]⟩, vagg 4 false 0 0 ⟨#[49]⟩] w fun e w' => e = .returned (vagg 1 false 0 0 ⟨#[]⟩) ∧ Below w.heap.size w w' := by
  have h := Eq_else 2 1 4 0 false false 0 0 ⟨#[]⟩ ⟨#[49]⟩ w (wideC 2 1 0 ⟨#[]⟩ (by omega) (by omega) (by omega) (by omega) (by omega) (by decide)) (wideC 4 0 0 ⟨#[49]⟩ (by omega) (by omega) (by omega) (by omega) (by omega) (by decide)) (by decide) (by decide) (by omega) (by omega) (by omega)
  rwa [show (cmpK (keyV 2 false 1 0 ⟨#[]⟩) (keyV 4 false 0 0 ⟨#[49]⟩) == 0) = false by decide +kernel] at h
theorem eq5 (w : World) : Calls Tryz.prog 8 #[vagg 0 false 0 0 ⟨#[]⟩, vagg 0 false 0 0 ⟨#[]⟩] w fun e w' => e = .returned (vagg 0 false 0 0 ⟨#[]⟩) ∧ Below w.heap.size w w' :=
  Eq_null1 0 0 0 false false 0 0 ⟨#[]⟩ ⟨#[]⟩ w
theorem less1 (w : World) : Calls Tryz.prog 7 #[vagg 2 false 1 0 ⟨#[]⟩, vagg 3 false 0 4609434218613702656 ⟨#[]⟩] w fun e w' => e = .returned (vagg 1 true 0 0 ⟨#[]⟩) ∧ Below w.heap.size w w' := by
  have h := Less_num 2 1 3 0 false false 0 4609434218613702656 ⟨#[]⟩ ⟨#[]⟩ w (wideC 2 1 0 ⟨#[]⟩ (by omega) (by omega) (by omega) (by omega) (by omega) (by decide)) (wideC 3 0 4609434218613702656 ⟨#[]⟩ (by omega) (by omega) (by omega) (by omega) (by omega) (by decide)) (by decide) (by decide) (by omega) (by omega)
  rwa [show lessB 2 1 0 3 0 4609434218613702656 = true by decide +kernel] at h
theorem less2 (w : World) : Calls Tryz.prog 7 #[vagg 3 false 0 9221120237041090561 ⟨#[]⟩, vagg 2 false 1 0 ⟨#[]⟩] w fun e w' => e = .returned (vagg 1 false 0 0 ⟨#[]⟩) ∧ Below w.heap.size w w' := by
  have h := Less_num 3 0 2 1 false false 9221120237041090561 0 ⟨#[]⟩ ⟨#[]⟩ w (wideC 3 0 9221120237041090561 ⟨#[]⟩ (by omega) (by omega) (by omega) (by omega) (by omega) (by decide)) (wideC 2 1 0 ⟨#[]⟩ (by omega) (by omega) (by omega) (by omega) (by omega) (by decide)) (by decide) (by decide) (by omega) (by omega)
  rwa [show lessB 3 0 9221120237041090561 2 1 0 = false by decide +kernel] at h
theorem less3 (w : World) : Calls Tryz.prog 7 #[vagg 4 false 0 0 ⟨#[97]⟩, vagg 2 false 1 0 ⟨#[]⟩] w fun e w' => e = .returned (vagg 0 false 0 0 ⟨#[]⟩) ∧ Below w.heap.size w w' :=
  Less_null 4 0 2 1 false false 0 0 ⟨#[97]⟩ ⟨#[]⟩ w (by omega) (by omega)
theorem less4 (w : World) : Calls Tryz.prog 7 #[vagg 1 false 0 0 ⟨#[]⟩, vagg 1 true 0 0 ⟨#[]⟩] w fun e w' => e = .returned (vagg 1 true 0 0 ⟨#[]⟩) ∧ Below w.heap.size w w' := by
  have h := Less_kind 1 0 1 0 false true 0 0 ⟨#[]⟩ ⟨#[]⟩ w (wideC 1 0 0 ⟨#[]⟩ (by omega) (by omega) (by omega) (by omega) (by omega) (by decide)) (wideC 1 0 0 ⟨#[]⟩ (by omega) (by omega) (by omega) (by omega) (by omega) (by decide)) (by decide) (by decide) rfl (by omega)
  rwa [show decide (cmpK (keyV 1 false 0 0 ⟨#[]⟩) (keyV 1 true 0 0 ⟨#[]⟩) < 0) = true by decide +kernel] at h
theorem Word_1 (w : World) : Calls Tryz.prog 23 #[.string ⟨#[49]⟩] w fun e w' => e = .returned (vagg 4 false 0 0 ⟨#[49]⟩) ∧ Below w.heap.size w w' := Word_any _ w (by decide) (by decide)
theorem Word_a (w : World) : Calls Tryz.prog 23 #[.string ⟨#[97]⟩] w fun e w' => e = .returned (vagg 4 false 0 0 ⟨#[97]⟩) ∧ Below w.heap.size w w' := Word_any _ w (by decide) (by decide)
theorem Word_q (w : World) : Calls Tryz.prog 23 #[.string ⟨#[97, 34, 10]⟩] w fun e w' => e = .returned (vagg 4 false 0 0 ⟨#[97, 34, 10]⟩) ∧ Below w.heap.size w w' := Word_any _ w (by decide) (by decide)
end Go.Proofs.YtbpakmiopmgmbaaGreatDoor
