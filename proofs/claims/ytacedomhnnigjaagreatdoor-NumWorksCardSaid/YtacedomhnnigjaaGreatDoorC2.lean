/- The statement NumExact, walked: what is told of a sum, a difference, a product, a quotient and a rest is exact. -/
import Derived.Test.YtacedomhnnigjaaGreatDoorC1
namespace Go.Proofs.YtacedomhnnigjaaGreatDoor
open Go.RowKit

theorem and_mask (a y : Int) (h0 : -9223372036854775808 ≤ a) (h1 : a ≤ 9223372036854775807) (hy0 : 0 ≤ y) (hy : y < 18446744073709551616) : bits .and .u64 (W1 a) y = if a < 0 then y else 0 := by
  have hr := W1_range a
  rw [u64_and _ _ hr.1 hr.2 hy0 hy]
  by_cases h : a < 0
  · have e : W1 a = 18446744073709551615 := by unfold W1; omega
    rw [e, if_pos h]
    have := Nat.and_two_pow_sub_one_of_lt_two_pow (x := y.toNat) (n := 64) (by omega)
    rw [Nat.and_comm] at this
    have e2 : (18446744073709551615 : Int).toNat = 2 ^ 64 - 1 := by decide
    rw [e2, this]; omega
  · have e : W1 a = 0 := by unfold W1; omega
    rw [e, if_neg h]
    simp
theorem mul_words (a b : Int) (ha0 : -9223372036854775808 ≤ a) (ha1 : a ≤ 9223372036854775807) (hb0 : -9223372036854775808 ≤ b) (hb1 : b ≤ 9223372036854775807) :
    W0 a * W0 b % 18446744073709551616 = W0 (a * b) ∧
    IntKind.u64.wrap (W0 a * W0 b / 18446744073709551616 - IntKind.u64.wrap (bits .and .u64 (W1 a) (W0 b) + bits .and .u64 (W1 b) (W0 a))) = W1 (a * b) := by
  rw [and_mask a (W0 b) ha0 ha1 (W0_range b).1 (W0_range b).2, and_mask b (W0 a) hb0 hb1 (W0_range a).1 (W0_range a).2, IntKind.wrap_u64, IntKind.wrap_u64]
  by_cases p : a < 0 <;> by_cases q : b < 0
  · have e1 : W0 a = a + 18446744073709551616 := by unfold W0; omega
    have e2 : W0 b = b + 18446744073709551616 := by unfold W0; omega
    have e3 : (a + 18446744073709551616) * (b + 18446744073709551616) = a * b + 18446744073709551616 * (a + b + 18446744073709551616) := by grind
    rw [if_pos p, if_pos q, e1, e2, e3]
    generalize a * b = z
    unfold W0 W1
    omega
  · have e1 : W0 a = a + 18446744073709551616 := by unfold W0; omega
    have e2 : W0 b = b := by unfold W0; omega
    have e3 : (a + 18446744073709551616) * b = a * b + 18446744073709551616 * b := by grind
    rw [if_pos p, if_neg q, e1, e2, e3]
    generalize a * b = z
    unfold W0 W1
    omega
  · have e1 : W0 a = a := by unfold W0; omega
    have e2 : W0 b = b + 18446744073709551616 := by unfold W0; omega
    have e3 : a * (b + 18446744073709551616) = a * b + 18446744073709551616 * a := by grind
    rw [if_neg p, if_pos q, e1, e2, e3]
    generalize a * b = z
    unfold W0 W1
    omega
  · have e1 : W0 a = a := by unfold W0; omega
    have e2 : W0 b = b := by unfold W0; omega
    rw [if_neg p, if_neg q, e1, e2]
    generalize a * b = z
    unfold W0 W1
    omega
theorem not_words (z : Int) : bits .xor .u64 IntKind.u64.max (W1 z) = W1 (-z - 1) ∧ bits .xor .u64 IntKind.u64.max (W0 z) = W0 (-z - 1) := by
  have key : ∀ y : Int, 0 ≤ y → y < 18446744073709551616 → bits .xor .u64 IntKind.u64.max y = 18446744073709551615 - y := by
    intro y h0 h1
    obtain ⟨n, rfl⟩ := Int.eq_ofNat_of_zero_le h0
    exact xor_all n (by omega)
  constructor
  · rw [key _ (W1_range z).1 (W1_range z).2]; unfold W1; omega
  · rw [key _ (W0_range z).1 (W0_range z).2]; unfold W0; omega
theorem mul_bound (a b : Int) (ha0 : -9223372036854775808 ≤ a) (ha1 : a ≤ 9223372036854775807) (hb0 : -9223372036854775808 ≤ b) (hb1 : b ≤ 9223372036854775807) : -170141183460469231731687303715884105728 ≤ a * b ∧ a * b < 170141183460469231731687303715884105728 := by
  have h : (a * b).natAbs ≤ 9223372036854775808 * 9223372036854775808 := by
    rw [Int.natAbs_mul]
    exact Nat.mul_le_mul (by omega) (by omega)
  omega
/-- How an operation tells: the number and OK, or nothing and ErrOverflow. -/
def Told (z s e : Int) : Prop := (fitB z = true ∧ s = z ∧ e = 0) ∨ (fitB z = false ∧ s = 0 ∧ e = 36)
theorem fitB_iff (z : Int) : fitB z = true ↔ fits z := by unfold fitB fits; simp
theorem Add_told (a b : Int) (ha : fits a) (hb : fits b) : ∃ s e : Int, Told (a + b) s e ∧ ∀ w, Calls Tryz.prog 21 #[.int .i64 a, .int .i64 b] w fun x w' => x = .returned (.tuple #[.int .i64 s, .int .i64 e]) ∧ w = w' := by
  by_cases h : fits (a + b)
  · exact ⟨_, _, .inl ⟨(fitB_iff _).2 h, rfl, rfl⟩, fun w => Add_ok a b w ha hb h⟩
  · exact ⟨_, _, .inr ⟨by rw [Bool.eq_false_iff]; exact fun k => h ((fitB_iff _).1 k), rfl, rfl⟩, fun w => Add_over a b w ha hb h⟩
theorem Sub_told (a b : Int) (ha : fits a) (hb : fits b) : ∃ s e : Int, Told (a - b) s e ∧ ∀ w, Calls Tryz.prog 23 #[.int .i64 a, .int .i64 b] w fun x w' => x = .returned (.tuple #[.int .i64 s, .int .i64 e]) ∧ w = w' := by
  by_cases h : fits (a - b)
  · exact ⟨_, _, .inl ⟨(fitB_iff _).2 h, rfl, rfl⟩, fun w => Sub_ok a b w ha hb h⟩
  · exact ⟨_, _, .inr ⟨by rw [Bool.eq_false_iff]; exact fun k => h ((fitB_iff _).1 k), rfl, rfl⟩, fun w => Sub_over a b w ha hb h⟩
theorem Mul_told (a b : Int) (ha : fits a) (hb : fits b) : ∃ s e : Int, Told (a * b) s e ∧ ∀ w, Calls Tryz.prog 25 #[.int .i64 a, .int .i64 b] w fun x w' => x = .returned (.tuple #[.int .i64 s, .int .i64 e]) ∧ Below w.heap.size w w' := by
  by_cases h : fits (a * b)
  · exact ⟨_, _, .inl ⟨(fitB_iff _).2 h, rfl, rfl⟩, fun w => Mul_ok a b w ha hb h⟩
  · exact ⟨_, _, .inr ⟨by rw [Bool.eq_false_iff]; exact fun k => h ((fitB_iff _).1 k), rfl, rfl⟩, fun w => Mul_over a b w ha hb h⟩
theorem told_fit {z : Int} (_h : fitB z = true) : (IntKind.u64.wrap z != W0 z) = false := by
  rw [IntKind.wrap_u64]; unfold W0; simp
end Go.Proofs.YtacedomhnnigjaaGreatDoor
