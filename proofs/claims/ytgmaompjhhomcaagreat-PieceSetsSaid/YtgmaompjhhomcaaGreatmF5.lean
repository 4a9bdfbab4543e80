/- A finite double float cut to a whole number, and a whole number against a float: by exact values, by way of the float's whole part towards zero or down. For every finite float and every whole number. -/
import Derived.Test.YtgmaompjhhomcaaGreatmG13
namespace Go.Proofs.YtgmaompjhhomcaaGreat
open Ieee
/-- The sign, 1 or -1, and the whole part of the value without its sign. -/
def sgnF (b : Nat) : Int := if decide (9223372036854775808 ≤ b) = true then -1 else 1
def wholeF (b : Nat) : Nat := valR (b % 9223372036854775808) / 2 ^ 1074
def restF (b : Nat) : Nat := valR (b % 9223372036854775808) % 2 ^ 1074
/-- Cut towards zero; cut down. -/
def truncF (b : Nat) : Int := sgnF b * (wholeF b : Int)
def downN (b : Nat) : Nat := if (decide (9223372036854775808 ≤ b) && restF b != 0) = true then wholeF b + 1 else wholeF b
def floorF (b : Nat) : Int := sgnF b * (downN b : Int)

theorem signed_sgn (b M : Nat) : signed (decide (9223372036854775808 ≤ b)) M 0 = sgnF b * (M : Int) := by
  rw [signed_eq]; unfold sgnF; rw [Nat.pow_zero, Nat.mul_one]

theorem integral_zero (b : Nat) (hb : b < 18446744073709551616) (h : b % 9223372036854775808 < 9218868437227405312) :
    (double.read b).integral .zero = .number (decide (9223372036854775808 ≤ b)) (wholeF b) 0 ∧ wholeF b % 2 ^ ((wholeF b).log2 - 52) = 0 := by
  obtain ⟨m, e, h1, h2, h3⟩ := read_number b hb h
  have hL : double.leastPlace = -1074 := by decide
  rw [hL] at h1
  have p := parts_at m e
  have g := cut_gap (m <<< (-1074 + (e : Int)).toNat) (-(-1074 + (e : Int))).toNat
  constructor
  · rw [h1]
    unfold Datum.integral
    have c : Toward.zero.cut (decide (9223372036854775808 ≤ b)) (m <<< (-1074 + (e : Int)).toNat) (-(-1074 + (e : Int))).toNat = wholeF b := by
      unfold Toward.cut wholeF
      simp only [g.1]
      rw [p.1, h2]; exact Nat.add_zero _
    simp only [c]
  · refine fits_down m e _ h3 (.inl ?_)
    unfold wholeF; rw [h2]
theorem integral_down (b : Nat) (hb : b < 18446744073709551616) (h : b % 9223372036854775808 < 9218868437227405312) :
    (double.read b).integral .down = .number (decide (9223372036854775808 ≤ b)) (downN b) 0 ∧ downN b % 2 ^ ((downN b).log2 - 52) = 0 := by
  obtain ⟨m, e, h1, h2, h3⟩ := read_number b hb h
  have hL : double.leastPlace = -1074 := by decide
  rw [hL] at h1
  have p := parts_at m e
  have g := cut_gap (m <<< (-1074 + (e : Int)).toNat) (-(-1074 + (e : Int))).toNat
  constructor
  · rw [h1]
    unfold Datum.integral
    have c : Toward.down.cut (decide (9223372036854775808 ≤ b)) (m <<< (-1074 + (e : Int)).toNat) (-(-1074 + (e : Int))).toNat = downN b := by
      unfold Toward.cut downN wholeF restF
      simp only [g.1, g.2]
      rw [p.1, h2]
      have q := p.2
      rw [h2] at q
      have e0 : (m <<< (-1074 + (e : Int)).toNat % 2 ^ (-(-1074 + (e : Int))).toNat != 0) = (valR (b % 9223372036854775808) % 2 ^ 1074 != 0) := by
        rw [Bool.eq_iff_iff]
        simp only [bne_iff_ne, ne_eq, q]
      rw [e0]
      generalize (decide (9223372036854775808 ≤ b) && valR (b % 9223372036854775808) % 2 ^ 1074 != 0) = t
      generalize valR (b % 9223372036854775808) / 2 ^ 1074 = A
      cases t <;> simp
    simp only [c]
  · refine fits_down m e _ h3 ?_
    unfold downN wholeF restF; rw [h2]
    split
    · next t =>
      right
      simp only [Bool.and_eq_true, bne_iff_ne] at t
      exact ⟨rfl, t.2⟩
    · left; rfl

theorem toInt_zero (b : Nat) (hb : b < 18446744073709551616) (h : b % 9223372036854775808 < 9218868437227405312) :
    (double.read b).toInt .zero = some (truncF b) := by
  unfold Datum.toInt
  rw [(integral_zero b hb h).1]
  simp only [signed_sgn]
  rfl

theorem mul_next (n q U : Int) (hU : 0 < U) (h : n < q) : n * U + U ≤ q * U := by
  have := Int.mul_le_mul_of_nonneg_right (show n + 1 ≤ q by omega) (show 0 ≤ U by omega)
  rw [Int.add_mul, Int.one_mul] at this
  exact this
def cmpZ (a b : Int) : Int := if a < b then -1 else if b < a then 1 else 0
theorem cmp_floor (n q U V : Int) (hU : 0 < U) (h : q * U ≤ V) (h' : V < q * U + U) :
    cmpZ (n * U) V = if n > q then 1 else if n < q then -1 else if q * U < V then -1 else 0 := by
  unfold cmpZ
  rcases Int.lt_trichotomy n q with g | g | g
  · have := mul_next n q U hU g
    rw [if_pos (by omega), if_neg (by omega), if_pos g]
  · subst g
    rw [if_neg (show ¬ n > n by omega), if_neg (show ¬ n < n by omega), if_neg (show ¬ V < n * U by omega)]
  · have := mul_next q n U hU g
    rw [if_neg (by omega), if_pos (by omega), if_pos g]
theorem cmp_ceil (n q U V : Int) (hU : 0 < U) (h : V ≤ q * U) (h' : q * U < V + U) :
    cmpZ (n * U) V = if n = q then cmpZ (q * U) V else cmpZ n q := by
  unfold cmpZ
  rcases Int.lt_trichotomy n q with g | g | g
  · have := mul_next n q U hU g
    rw [if_pos (by omega), if_neg (by omega), if_pos g]
  · subst g
    rw [if_pos rfl]
  · have := mul_next q n U hU g
    rw [if_neg (by omega), if_pos (by omega), if_neg (by omega), if_neg (by omega), if_pos g]
theorem cmp_floor' (n q U V : Int) (hU : 0 < U) (h : q * U ≤ V) (h' : V < q * U + U) :
    cmpZ (n * U) V = if n = q then cmpZ (q * U) V else cmpZ n q := by
  rw [cmp_floor n q U V hU h h']
  unfold cmpZ
  rcases Int.lt_trichotomy n q with g | g | g
  · rw [if_neg (by omega), if_pos g, if_neg (by omega), if_pos g]
  · subst g
    rw [if_neg (by omega), if_neg (by omega), if_pos rfl, if_neg (show ¬ V < n * U by omega)]
  · rw [if_pos g, if_neg (by omega), if_neg (by omega), if_pos g]

theorem valF_parts (b : Nat) (hb : b < 18446744073709551616) : valF b = sgnF b * ((wholeF b : Int) * unitF + (restF b : Int)) ∧ (restF b : Int) < unitF := by
  have u := valF_eq b hb
  have d := Nat.div_add_mod (valR (b % 9223372036854775808)) (2 ^ 1074)
  have r := Nat.mod_lt (valR (b % 9223372036854775808)) (Nat.two_pow_pos 1074)
  unfold sgnF wholeF restF unitF
  rw [u]
  generalize (2 ^ 1074 : Nat) = U at *
  generalize valR (b % 9223372036854775808) = v at *
  refine ⟨?_, by omega⟩
  congr 1
  rw [← Int.natCast_mul, Nat.mul_comm (v / U) U]
  omega
/-- A whole number against a float, by way of the part towards zero. -/
theorem mixed_trunc (n : Int) (b : Nat) (hb : b < 18446744073709551616) :
    cmpZ (n * unitF) (valF b) = if n = truncF b then cmpZ (truncF b * unitF) (valF b) else cmpZ n (truncF b) := by
  obtain ⟨h1, h2⟩ := valF_parts b hb
  have h0 := unitF_pos
  unfold truncF
  unfold sgnF at *
  by_cases p : 9223372036854775808 ≤ b
  · have pd : decide (9223372036854775808 ≤ b) = true := by simp [p]
    rw [pd] at h1 ⊢
    simp only [if_true] at h1 ⊢
    generalize unitF = U at *
    generalize wholeF b = w at *
    generalize restF b = r at *
    generalize valF b = V at *
    refine cmp_ceil n _ U V h0 ?_ ?_ <;> (rw [Int.neg_one_mul, Int.neg_mul]; generalize (w : Int) * U = x at *; omega)
  · have pd : decide (9223372036854775808 ≤ b) = false := by simp [p]
    rw [pd] at h1 ⊢
    simp only [Bool.false_eq_true, if_false] at h1 ⊢
    generalize unitF = U at *
    generalize wholeF b = w at *
    generalize restF b = r at *
    generalize valF b = V at *
    refine cmp_floor' n _ U V h0 ?_ ?_ <;> (rw [Int.one_mul]; generalize (w : Int) * U = x at *; omega)
/-- And by way of the part below. -/
theorem mixed_floor (n : Int) (b : Nat) (hb : b < 18446744073709551616) :
    cmpZ (n * unitF) (valF b) = if n > floorF b then 1 else if n < floorF b then -1 else if floorF b * unitF < valF b then -1 else 0 := by
  obtain ⟨h1, h2⟩ := valF_parts b hb
  have h0 := unitF_pos
  unfold floorF downN
  unfold sgnF at *
  by_cases p : 9223372036854775808 ≤ b
  · have pd : decide (9223372036854775808 ≤ b) = true := by simp [p]
    rw [pd] at h1 ⊢
    simp only [Bool.true_and, if_true] at h1 ⊢
    generalize unitF = U at *
    generalize wholeF b = w at *
    generalize restF b = r at *
    generalize valF b = V at *
    by_cases q : r = 0
    · subst q
      have e : (if (0 != 0) = true then w + 1 else w) = w := by simp
      rw [e]
      refine cmp_floor n _ U V h0 ?_ ?_ <;> (rw [Int.neg_one_mul, Int.neg_mul]; generalize (w : Int) * U = x at *; omega)
    · have e : (if (r != 0) = true then w + 1 else w) = w + 1 := by simp [q]
      rw [e]
      refine cmp_floor n _ U V h0 ?_ ?_ <;> (rw [Int.neg_one_mul, Int.neg_mul, Int.natCast_add, Int.add_mul]; generalize (w : Int) * U = x at *; omega)
  · have pd : decide (9223372036854775808 ≤ b) = false := by simp [p]
    rw [pd] at h1 ⊢
    simp only [Bool.false_and, Bool.false_eq_true, if_false] at h1 ⊢
    generalize unitF = U at *
    generalize wholeF b = w at *
    generalize restF b = r at *
    generalize valF b = V at *
    refine cmp_floor n _ U V h0 ?_ ?_ <;> (rw [Int.one_mul]; generalize (w : Int) * U = x at *; omega)
end Go.Proofs.YtgmaompjhhomcaaGreat

