/- num.Sum and the document's own sum, for every slice of at most 1000 whole numbers: the exact sum where it fits, else the overflow. -/
import Derived.Test.YtbpakmiopmgmbaaGreatDoorC1
import Derived.Test.YtbpakmiopmgmbaaGreatDoorO1
import Derived.LoopTactic
namespace Go.Proofs.YtbpakmiopmgmbaaGreatDoor
open Go.RowKit

/-- The sum of the first k. -/
def sumTo (zs : List Int) (k : Nat) : Int := (zs.take k).sum
theorem sumTo_zero (zs : List Int) : sumTo zs 0 = 0 := by simp [sumTo]
theorem sumTo_succ (zs : List Int) (k : Nat) (h : k < zs.length) : sumTo zs (k + 1) = sumTo zs k + zs.getD k 0 := by
  unfold sumTo
  rw [List.take_succ_eq_append_getElem h, List.sum_append]
  simp [List.getD, h]
theorem sumTo_all (zs : List Int) : sumTo zs zs.length = zs.sum := by simp [sumTo]
theorem sumTo_bound (zs : List Int) (hz : ∀ n ∈ zs, fits n) (k : Nat) (hk : k ≤ zs.length) : -(9223372036854775808 * k) ≤ sumTo zs k ∧ sumTo zs k ≤ 9223372036854775807 * k := by
  induction k with
  | zero => rw [sumTo_zero]; omega
  | succ k ih =>
    have := ih (by omega)
    have e := sumTo_succ zs k (by omega)
    have f := hz (zs.getD k 0) (by simp [List.getD, show k < zs.length by omega])
    unfold fits at f
    omega
/-- What is told of a sum. -/
def sumV (z : Int) : Int := if fitB z = true then z else 0
def sumE (z : Int) : Int := if fitB z = true then 0 else 36
theorem i64_mask32 (x : Int) (h0 : 0 ≤ x) (h1 : x < 9223372036854775808) : bits .and .i64 x 4294967295 = x % 4294967296 := by
  rw [i64_and x 4294967295 h0 h1 (by omega) (by omega)]
  obtain ⟨n, rfl⟩ := Int.eq_ofNat_of_zero_le h0
  have e : n &&& 4294967295 = n % 4294967296 := Nat.and_two_pow_sub_one_eq_mod n 32
  simp only [Int.toNat_natCast]
  rw [show (4294967295 : Int).toNat = 4294967295 from rfl, e]
  omega
end Go.Proofs.YtbpakmiopmgmbaaGreatDoor
