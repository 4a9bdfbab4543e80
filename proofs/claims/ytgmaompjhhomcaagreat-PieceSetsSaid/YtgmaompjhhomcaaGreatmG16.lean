/- A float's place in the order of floats, in plain numbers; the laws' own test of bits. -/
/- What NumOneOrder asks of the orders, in plain numbers: the place of a canonical float is its own; a whole number against a float rises with the whole number and falls with the float; a whole number of 53 digits is a float. -/
import Derived.Test.YtgmaompjhhomcaaGreatmF6
namespace Go.Proofs.YtgmaompjhhomcaaGreat
open Go.RowKit
theorem rank_nan_eq (b : Nat) (hb : b < 18446744073709551616) (n : isNaNF b = true) : rankOf b = 18446744073709551615 := by
  unfold rankOf; rw [self_nan b hb, if_pos n]
theorem rank_num_eq (b : Nat) (hb : b < 18446744073709551616) (n : isNaNF b = false) : rankOf b = if b < 9223372036854775808 then (b : Int) + 9223372036854775808 else 18446744073709551615 - b := by
  unfold rankOf; rw [self_nan b hb, if_neg (by simp [n])]
theorem num_bound (b : Nat) (n : isNaNF b = false) : b % 9223372036854775808 ≤ 9218868437227405312 := by
  unfold isNaNF at n; simp only [decide_eq_false_iff_not] at n; omega
end Go.Proofs.YtgmaompjhhomcaaGreat

namespace Go.Proofs.YtgmaompjhhomcaaGreat
open Go.RowKit
theorem canonF_lt (b : Nat) (hb : b < 18446744073709551616) : canonF b < 18446744073709551616 := by
  unfold canonF; split <;> omega
theorem canonF_nan (b : Nat) : isNaNF (canonF b) = true → canonF b = 9221120237041090561 := by
  unfold canonF
  by_cases p : isNaNF b = true
  · rw [if_pos p]; intro _; rfl
  · rw [if_neg p]; intro h; exact absurd h p
theorem cmpI_flip (x y : Int) : cmpI x y = -cmpI y x := by
  unfold cmpI; repeat' split
  all_goals omega
theorem cmpI_le (x y : Int) : cmpI x y ≤ 0 ↔ x ≤ y := by
  unfold cmpI; repeat' split
  all_goals omega
theorem cmpI_zero (x y : Int) : cmpI x y = 0 ↔ x = y := by
  unfold cmpI; repeat' split
  all_goals omega
theorem rank_below (b : Nat) (hb : b < 18446744073709551616) (n : isNaNF b = false) : rankOf b < 18446744073709551615 := by
  have k := num_bound b n
  rw [rank_num_eq b hb n]
  split <;> omega
theorem rank_inj (a b : Nat) (ha : a < 18446744073709551616) (hb : b < 18446744073709551616) : rankOf (canonF a) = rankOf (canonF b) ↔ canonF a = canonF b := by
  constructor
  · have la := canonF_lt a ha
    have lb := canonF_lt b hb
    have na := canonF_nan a
    have nb := canonF_nan b
    generalize canonF a = x at *
    generalize canonF b = y at *
    intro h
    cases p : isNaNF x <;> cases q : isNaNF y
    · rw [rank_num_eq x la p, rank_num_eq y lb q] at h
      split at h <;> split at h <;> omega
    · have := rank_below x la p
      rw [rank_nan_eq y lb q] at h; omega
    · have := rank_below y lb q
      rw [rank_nan_eq x la p] at h; omega
    · rw [na p, nb q]
  · intro h; rw [h]
theorem cmpZ_mono (x y z : Int) (h : x ≤ y) : cmpZ x z ≤ cmpZ y z := by
  unfold cmpZ; repeat' split
  all_goals omega
theorem cmpZ_anti (x y z : Int) (h : x ≤ y) : cmpZ z y ≤ cmpZ z x := by
  unfold cmpZ; repeat' split
  all_goals omega
theorem cmpZ_least (x y : Int) : -1 ≤ cmpZ x y := by
  unfold cmpZ; repeat' split
  all_goals omega
theorem mixed_mono (n m : Int) (b : Nat) (h : m ≤ n) : mixedF m b ≤ mixedF n b := by
  unfold mixedF
  split
  · omega
  · exact cmpZ_mono _ _ _ (Int.mul_le_mul_of_nonneg_right h (by have := unitF_pos; omega))
theorem mixed_anti (n : Int) (a b : Nat) (ha : a < 18446744073709551616) (hb : b < 18446744073709551616) (h : rankOf a ≤ rankOf b) : mixedF n b ≤ mixedF n a := by
  unfold mixedF
  cases p : isNaNF a <;> cases q : isNaNF b
  · rw [if_neg (by simp), if_neg (by simp)]
    refine cmpZ_anti _ _ _ ?_
    rw [rank_num_eq a ha p, rank_num_eq b hb q] at h
    have v := (valF_lt b a)
    have k : ¬ keyF b < keyF a := by
      unfold keyF
      split at h <;> split at h <;> simp only [*, if_true, if_false] <;> omega
    omega
  · rw [if_pos rfl, if_neg (by simp)]
    exact cmpZ_least _ _
  · have := rank_below b hb q
    rw [rank_nan_eq a ha p] at h; omega
  · rw [if_pos rfl, if_pos rfl]; exact Int.le_refl _
/-- The float of a whole number that is a multiple of 2048. -/
theorem whole_float (k : Int) (h1 : -9223372036854775808 ≤ k) (h2 : k ≤ 9223372036854775807) (hd : k % 2048 = 0) :
    valF (Ieee.double.nearest (decide (k < 0)) k.natAbs 0) = k * unitF ∧ Ieee.double.nearest (decide (k < 0)) k.natAbs 0 < 18446744073709551616 ∧
    isNaNF (Ieee.double.nearest (decide (k < 0)) k.natAbs 0) = false := by
  have d : k.natAbs % 2 ^ (k.natAbs.log2 - 52) = 0 := by
    have e : k.natAbs.log2 - 52 ≤ 11 := by
      rcases Nat.eq_zero_or_pos k.natAbs with z | z
      · rw [z]; decide
      · have := (Nat.log2_lt (n := k.natAbs) (k := 64) (by omega)).2 (by omega)
        omega
    have s : 2 ^ (k.natAbs.log2 - 52) ∣ 2 ^ 11 := Nat.pow_dvd_pow 2 e
    have t : 2 ^ 11 ∣ k.natAbs := by
      have : k.natAbs % 2048 = 0 := by omega
      exact Nat.dvd_of_mod_eq_zero this
    exact Nat.mod_eq_zero_of_dvd (Nat.dvd_trans s t)
  obtain ⟨a1, a2, a3⟩ := valF_nearest (decide (k < 0)) k.natAbs (by omega) d
  refine ⟨?_, a2, ?_⟩
  · rw [a1]
    congr 1
    by_cases p : k < 0
    · rw [if_pos (by simp [p])]; omega
    · rw [if_neg (by simp [p])]; omega
  · unfold isNaNF
    simp only [decide_eq_false_iff_not]
    omega
theorem cmpZ_scale (x y : Int) : cmpZ (x * unitF) (y * unitF) = cmpZ x y := by
  have u := unitF_pos
  have h1 : x * unitF < y * unitF ↔ x < y := Int.mul_lt_mul_right u
  have h2 : y * unitF < x * unitF ↔ y < x := Int.mul_lt_mul_right u
  unfold cmpZ
  simp only [h1, h2]
/-- A whole number against the float of a multiple of 2048. -/
theorem mixed_whole (n k : Int) (h1 : -9223372036854775808 ≤ k) (h2 : k ≤ 9223372036854775807) (hd : k % 2048 = 0) :
    mixedF n (Ieee.double.nearest (decide (k < 0)) k.natAbs 0) = cmpZ n k := by
  obtain ⟨a1, _, a3⟩ := whole_float k h1 h2 hd
  unfold mixedF
  rw [if_neg (by simp [a3]), a1, cmpZ_scale]
end Go.Proofs.YtgmaompjhhomcaaGreat

