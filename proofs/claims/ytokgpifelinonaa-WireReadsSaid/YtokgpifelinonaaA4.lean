/- The closed calls of the statements' own test of being awake: floats. -/
import Derived.Test.YtokgpifelinonaaA3
namespace Go.Proofs.Ytokgpifelinonaa
open Go.RowKit
theorem call_Float64bits (b : Nat) (w : World) : (callFunc 35 #[.float .f64 b]).run Try.prog w = .ok (.value (.int .u64 b)) w := by kernel_rfl
theorem call_Float64frombits (n : Int) (w : World) : (callFunc 34 #[.int .u64 n]).run Try.prog w = .ok (.value (.float .f64 n.toNat)) w := by kernel_rfl
set_option maxRecDepth 100000 in
set_option maxHeartbeats 1000000 in
theorem NaN_c (w : World) :
    Calls Try.prog 52 #[] w fun e w' => e = .returned (.float .f64 9221120237041090561) ∧ w = w' := by
  have hfb := call_Float64bits
  have hff := call_Float64frombits
  go_enter Try.func52, Try.ntmps52
  go_wp2
  go_ret
  exact ⟨by kernel_rfl, rfl⟩
set_option maxRecDepth 100000 in
set_option maxHeartbeats 1000000 in
theorem Inf_c (w : World) :
    Calls Try.prog 54 #[.int .i64 1] w fun e w' => e = .returned (.float .f64 9218868437227405312) ∧ w = w' := by
  have hfb := call_Float64bits
  have hff := call_Float64frombits
  go_enter Try.func54, Try.ntmps54
  go_wp2
  go_ret
  exact ⟨by kernel_rfl, rfl⟩
theorem and_top (b : Nat) (h : b < 18446744073709551616) : b &&& 9223372036854775808 = if b < 9223372036854775808 then 0 else 9223372036854775808 := by
  have e : (9223372036854775808 : Nat) = 2 ^ 63 := by decide
  rw [e]
  apply Nat.eq_of_testBit_eq
  intro i
  rw [Nat.testBit_and, Nat.testBit_two_pow]
  by_cases hi : 63 = i
  · subst hi
    by_cases p : b < 2 ^ 63
    · rw [if_pos p, Nat.testBit_eq_decide_div_mod_eq, Nat.div_eq_of_lt p]; simp
    · have q : b / 2 ^ 63 = 1 := by omega
      rw [if_neg p, Nat.testBit_eq_decide_div_mod_eq, q, Nat.testBit_two_pow]; simp
  · by_cases p : b < 2 ^ 63
    · rw [if_pos p]; simp [hi]
    · rw [if_neg p, Nat.testBit_two_pow]; simp [hi]
theorem or_top (b : Nat) (h : b < 9223372036854775808) : b ||| 9223372036854775808 = b + 9223372036854775808 := by
  have e : (9223372036854775808 : Nat) = 2 ^ 63 := by decide
  have := Nat.two_pow_add_eq_or_of_lt (i := 63) (b := b) (by omega) 1
  rw [e, Nat.or_comm, Nat.add_comm]
  simpa using this.symm
theorem xor_all (b : Nat) (h : b < 18446744073709551616) : bits .xor .u64 IntKind.u64.max (b : Int) = 18446744073709551615 - b := by
  show IntKind.u64.wrap ((BitVec.ofInt 64 18446744073709551615 ^^^ BitVec.ofInt 64 b).toNat : Nat) = _
  have e : BitVec.ofInt 64 18446744073709551615 = BitVec.allOnes 64 := by decide
  have hb : (BitVec.ofInt 64 (b : Int)).toNat = b := by rw [BitVec.toNat_ofInt]; omega
  rw [e, BitVec.allOnes_xor, BitVec.toNat_not, hb, IntKind.wrap_u64]
  omega
/-- A float's place in the order, out of its bits. -/
def rankOf (b : Nat) : Int := if (FloatKind.f64.format.order b b != some Ordering.eq) = true then 18446744073709551615 else if b < 9223372036854775808 then b + 9223372036854775808 else 18446744073709551615 - b
theorem rankOf_range (b : Nat) (hb : b < 18446744073709551616) : 0 ≤ rankOf b ∧ rankOf b < 18446744073709551616 := by
  unfold rankOf; split
  · omega
  · split <;> omega
def cmpI (a b : Int) : Int := if a < b then -1 else if b < a then 1 else 0
end Go.Proofs.Ytokgpifelinonaa
