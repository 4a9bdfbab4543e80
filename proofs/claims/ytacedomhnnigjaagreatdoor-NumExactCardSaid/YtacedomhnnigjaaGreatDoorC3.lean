/- The tail of NumExact: quotients and rests. -/
import Derived.Test.YtacedomhnnigjaaGreatDoorC2
import Derived.Deep.DeepCutAuto
namespace Go.Proofs.YtacedomhnnigjaaGreatDoor
open Go.RowKit
theorem Mod_min (w : World) : Calls Tryz.prog 29 #[.int .i64 (-9223372036854775808), .int .i64 (-1)] w fun e w' => e = .returned (.tuple #[.int .i64 0, .int .i64 0]) ∧ Below w.heap.size w w' :=
  Mod_ok (-9223372036854775808) (-1) w (by unfold fits; omega) (by unfold fits; omega) (by omega)
theorem rest_facts (a b : Int) (_ha : fits a) (hb0 : b ≠ 0) : a.tdiv b * b + a.tmod b = a ∧ (a < 0 → a.tmod b ≤ 0) ∧ (0 ≤ a → 0 ≤ a.tmod b) ∧ (a.tmod b).natAbs < b.natAbs ∧ (a.tmod b).natAbs ≤ a.natAbs := by
  have h1 := Int.tmod_def a b
  have h2 := tmod_of a b _ rfl
  have h3 : 0 ≤ (a.natAbs : Int) % b.natAbs := Int.emod_nonneg _ (by omega)
  have h4 : (a.natAbs : Int) % b.natAbs < b.natAbs := Int.emod_lt_of_pos _ (by omega)
  have h5 : (a.natAbs : Int) % b.natAbs ≤ a.natAbs := by exact_mod_cast Nat.mod_le a.natAbs b.natAbs
  rw [Int.mul_comm b] at h1
  refine ⟨by omega, ?_, ?_, ?_, ?_⟩
  · intro p; rw [h2, if_pos p]; omega
  · intro p; rw [h2, if_neg (by omega)]; exact h3
  · by_cases p : a < 0
    · rw [h2, if_pos p]; omega
    · rw [h2, if_neg p]; omega
  · by_cases p : a < 0
    · rw [h2, if_pos p]; omega
    · rw [h2, if_neg p]; omega
set_option maxHeartbeats 1000000 in
theorem abs_any (n : Int) (w : World) (h0 : -9223372036854775808 < n) (h1 : n ≤ 9223372036854775807) :
    Calls Tryz.prog 46 #[.int .i64 n] w fun e w' => e = .returned (.int .i64 n.natAbs) ∧ w = w' := by
  by_cases p : n < 0
  · go_enter Tryz.func46, Tryz.ntmps46
    go_wp2
    go_ret
    exact ⟨ret1 (by omega), rfl⟩
  · go_enter Tryz.func46, Tryz.ntmps46
    go_wp2
    go_ret
    exact ⟨ret1 (by omega), rfl⟩
end Go.Proofs.YtacedomhnnigjaaGreatDoor
