/- A float's place in the order of floats, in plain numbers; the laws' own test of bits. -/
import Derived.Test.YtbpakmiopmgmbaaGreatDoorF6
namespace Go.Proofs.YtbpakmiopmgmbaaGreatDoor
open Go.RowKit
theorem rank_nan_eq (b : Nat) (hb : b < 18446744073709551616) (n : isNaNF b = true) : rankOf b = 18446744073709551615 := by
  unfold rankOf; rw [self_nan b hb, if_pos n]
theorem rank_num_eq (b : Nat) (hb : b < 18446744073709551616) (n : isNaNF b = false) : rankOf b = if b < 9223372036854775808 then (b : Int) + 9223372036854775808 else 18446744073709551615 - b := by
  unfold rankOf; rw [self_nan b hb, if_neg (by simp [n])]
theorem num_bound (b : Nat) (n : isNaNF b = false) : b % 9223372036854775808 ≤ 9218868437227405312 := by
  unfold isNaNF at n; simp only [decide_eq_false_iff_not] at n; omega
end Go.Proofs.YtbpakmiopmgmbaaGreatDoor
