/- Equality and less of numbers, in plain numbers; Truth, number, notANumber, sameNumber, for every value. -/
import Derived.Test.YtaaekjmiapelgaaGreatmV6
namespace Go.Proofs.YtaaekjmiapelgaaGreat
open Go.RowKit
/-- A number's worth, exactly, in units of the least place. -/
def numVal (k n : Int) (f : Nat) : Int := if k = 2 then n * unitF else valF f
def nanK (k : Int) (f : Nat) : Bool := decide (k = 3) && isNaNF f
def sameB (k n : Int) (f : Nat) (k' n' : Int) (f' : Nat) : Bool := !nanK k f && !nanK k' f' && decide (numVal k n f = numVal k' n' f')
def lessB (k n : Int) (f : Nat) (k' n' : Int) (f' : Nat) : Bool := !nanK k f && !nanK k' f' && decide (numVal k n f < numVal k' n' f')
theorem order_eq (a b : Nat) (ha : a < 18446744073709551616) (hb : b < 18446744073709551616) :
    (FloatKind.f64.format.order a b == some Ordering.eq) = (!isNaNF a && !isNaNF b && decide (valF a = valF b)) := by
  show (Ieee.double.order a b == some Ordering.eq) = _
  cases na : isNaNF a
  · cases nb : isNaNF b
    · rw [Go.Proofs.YtaaekjmiapelgaaGreat.order_any a b ha hb (num_bound a na) (num_bound b nb)]
      have v1 := valF_lt a b
      have v2 := valF_lt b a
      have e : (compare (keyF a) (keyF b) = Ordering.eq) ↔ keyF a = keyF b := by
        show compareOfLessAndEq _ _ = _ ↔ _
        unfold compareOfLessAndEq
        by_cases p : keyF a < keyF b
        · rw [if_pos p]; simp; omega
        · rw [if_neg p]
          by_cases q : keyF a = keyF b
          · simp [q]
          · simp [q]
      rw [Bool.eq_iff_iff]
      simp only [Bool.not_false, Bool.true_and, decide_eq_true_eq, beq_iff_eq, Option.some.injEq, e]
      omega
    · rw [Go.Proofs.YtaaekjmiapelgaaGreat.order_nan' a b (by simpa [isNaNF] using nb)]
      rfl
  · rw [Go.Proofs.YtaaekjmiapelgaaGreat.order_nan a b (by simpa [isNaNF] using na)]
    rfl
theorem cmpZ_eq (x y : Int) : (cmpZ x y == 0) = decide (x = y) := by
  rw [Bool.eq_iff_iff]
  simp only [beq_iff_eq, decide_eq_true_eq]
  unfold cmpZ
  repeat' split
  all_goals omega
theorem mixed_eq (n : Int) (f : Nat) : (mixedF n f == 0) = (!isNaNF f && decide (n * unitF = valF f)) := by
  unfold mixedF
  cases p : isNaNF f
  · rw [if_neg (by simp), cmpZ_eq]; simp
  · rw [if_pos rfl]; rfl
theorem same_ff (n n' : Int) (f f' : Nat) (hf : f < 18446744073709551616) (hf' : f' < 18446744073709551616) : sameB 3 n f 3 n' f' = (FloatKind.f64.format.order f f' == some Ordering.eq) := by
  rw [order_eq f f' hf hf']; simp [sameB, nanK, numVal]
theorem same_fi (n n' : Int) (f f' : Nat) : sameB 3 n f 2 n' f' = (mixedF n' f == 0) := by
  rw [mixed_eq]; simp [sameB, nanK, numVal, eq_comm]
theorem same_if (n n' : Int) (f f' : Nat) : sameB 2 n f 3 n' f' = (mixedF n f' == 0) := by
  rw [mixed_eq]; simp [sameB, nanK, numVal]
theorem same_ii (n n' : Int) (f f' : Nat) : sameB 2 n f 2 n' f' = (n == n') := by
  rw [Bool.eq_iff_iff]
  simp only [sameB, nanK, numVal, if_true, beq_iff_eq, show ((2 : Int) = 3) = False by simp, decide_false, Bool.false_and, Bool.not_false, Bool.true_and, decide_eq_true_eq]
  constructor
  · exact fun h => Int.eq_of_mul_eq_mul_right (by have := unitF_pos; omega) h
  · exact fun h => by rw [h]
/-- A number's place against its worth. -/
theorem key_val (k n k' n' : Int) (f f' : Nat) (hk : k = 2 ∨ k = 3) (hk' : k' = 2 ∨ k' = 3) (a : nanK k f = false) (b : nanK k' f' = false) (h : numVal k n f ≠ numVal k' n' f') :
    cmpI (numKey k n f) (numKey k' n' f') < 0 ↔ numVal k n f < numVal k' n' f' := by
  have lt : cmpI (numKey k n f) (numKey k' n' f') < 0 ↔ numKey k n f < numKey k' n' f' := by
    unfold cmpI; repeat' split
    all_goals omega
  rw [lt]
  have r : ∀ (k n : Int) (f : Nat), (k = 2 ∨ k = 3) → nanK k f = false → 4 * numVal k n f ≤ numKey k n f ∧ numKey k n f ≤ 4 * numVal k n f + 2 := by
    intro k n f hk a
    rcases hk with rfl | rfl
    · rw [numKey_int]; unfold numVal; rw [if_pos rfl]; omega
    · rw [numKey_float n f (by simpa [nanK] using a)]; unfold numVal; rw [if_neg (by omega)]; split <;> omega
  have r1 := r k n f hk a
  have r2 := r k' n' f' hk' b
  omega
theorem less_cmp (k n k' n' : Int) (b b' : Bool) (f f' : Nat) (s s' : ByteArray) (hk : k = 2 ∨ k = 3) (hk' : k' = 2 ∨ k' = 3) :
    lessB k n f k' n' f' = (!nanK k f && !nanK k' f' && !sameB k n f k' n' f' && decide (cmpK (keyV k b n f s) (keyV k' b' n' f' s') < 0)) := by
  cases a : nanK k f
  · cases c : nanK k' f'
    · have e : cmpK (keyV k b n f s) (keyV k' b' n' f' s') = cmpI (numKey k n f) (numKey k' n' f') := by
        rcases hk with rfl | rfl <;> rcases hk' with rfl | rfl
        · exact cmpK_num (x := keyV 2 b n f s) (y := keyV 2 b' n' f' s') rfl rfl rfl
        · exact cmpK_num (x := keyV 2 b n f s) (y := keyV 3 b' n' f' s') rfl rfl rfl
        · exact cmpK_num (x := keyV 3 b n f s) (y := keyV 2 b' n' f' s') rfl rfl rfl
        · exact cmpK_num (x := keyV 3 b n f s) (y := keyV 3 b' n' f' s') rfl rfl rfl
      rw [e]
      by_cases q : numVal k n f = numVal k' n' f'
      · simp [lessB, sameB, a, c, q]
      · have v := key_val k n k' n' f f' hk hk' a c q
        simp [lessB, sameB, a, c, q, v]
    · simp [lessB, c]
  · simp [lessB, a]
end Go.Proofs.YtaaekjmiapelgaaGreat

