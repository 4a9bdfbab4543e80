/- The functions of num and of the document's own answers that ask a float's bits alone: Canon, Canonical, Floats, for every float. -/
/- Whole numbers as double floats: a whole number whose digits fit is written as the float of just its value; a float cut to a whole number, towards zero or down, is its value's whole part. For every word of 64 bits that is finite. -/
/- Whole parts of double floats: cut to a whole number, towards zero or down, a finite float gives its value's whole part, and that is a float again. -/
/- A finite double float cut to a whole number, and a whole number against a float: by exact values, by way of the float's whole part towards zero or down. For every finite float and every whole number. -/
import Derived.Test.YtflgdhhgnbdofaaGreatmG7
namespace Go.Proofs.YtflgdhhgnbdofaaGreat
open Go.RowKit
/-- Whether a word of 64 bits is a NaN. -/
def isNaNF (b : Nat) : Bool := decide (9218868437227405312 < b % 9223372036854775808)
/-- The canonical float of a float. -/
def canonF (b : Nat) : Nat := if isNaNF b = true then 9221120237041090561 else b
set_option maxRecDepth 100000 in
theorem refCanon_any (b : Nat) (w : World) (hb : b < 18446744073709551616) :
    Calls Tryz.prog 122 #[.float .f64 b] w fun e w' => e = .returned (.float .f64 (canonF b)) ∧ w = w' := by
  have hff := call_Float64frombits
  have h0 := self_any b hb
  obtain ⟨c, hc⟩ : ∃ c, c = canonF b := ⟨_, rfl⟩
  rw [← hc]
  unfold canonF isNaNF at hc
  by_cases p : 9218868437227405312 < b % 9223372036854775808
  · have h : (FloatKind.f64.format.order b b != some Ordering.eq) = true := by rw [h0]; simp [p]
    rw [if_pos (by simp [p])] at hc
    subst hc
    clear h0
    go_enter Tryz.func122, Tryz.ntmps122
    go_wp2
    go_ret
    exact ⟨rfl, rfl⟩
  · have h : (FloatKind.f64.format.order b b != some Ordering.eq) = false := by rw [h0]; simp [p]
    rw [if_neg (by simp [p])] at hc
    subst hc
    clear h0
    go_enter Tryz.func122, Tryz.ntmps122
    go_wp2
    go_ret
    exact ⟨rfl, rfl⟩
set_option maxRecDepth 100000 in
theorem Canonical_any (b : Nat) (w : World) (hb : b < 18446744073709551616) :
    Calls Tryz.prog 174 #[.float .f64 b] w fun e w' => e = .returned (.bool (decide (canonF b = b))) ∧ w = w' := by
  have hfb := call_Float64bits
  have h0 := self_any b hb
  obtain ⟨c, hc⟩ : ∃ c, c = decide (canonF b = b) := ⟨_, rfl⟩
  rw [← hc]
  unfold canonF isNaNF at hc
  by_cases p : 9218868437227405312 < b % 9223372036854775808
  · have h : (FloatKind.f64.format.order b b != some Ordering.eq) = true := by rw [h0]; simp [p]
    rw [if_pos (by simp [p])] at hc
    clear h0
    go_enter Tryz.func174, Tryz.ntmps174
    go_wp2
    go_ret
    subst hc
    refine ⟨?_, rfl⟩
    show Ending.returned (Value.bool ((b : Int) == 9221120237041090561)) = _
    congr 2
    rw [Bool.eq_iff_iff]
    simp only [beq_iff_eq, decide_eq_true_eq]
    omega
  · have h : (FloatKind.f64.format.order b b != some Ordering.eq) = false := by rw [h0]; simp [p]
    rw [if_neg (by simp [p])] at hc
    have hc' : c = true := by rw [hc]; simp
    subst hc'
    clear h0 hc
    go_enter Tryz.func174, Tryz.ntmps174
    go_wp2
    go_ret
    exact ⟨rfl, rfl⟩
end Go.Proofs.YtflgdhhgnbdofaaGreat

namespace Go.Proofs.YtflgdhhgnbdofaaGreat
open Ieee

/-- The word of a whole number, worked out. -/
theorem nearest_whole (neg : Bool) (mag : Nat) (h0 : 0 < mag) (h1 : mag ≤ 9223372036854775808) (hd : mag % 2 ^ (mag.log2 - 52) = 0) :
    ∃ r, double.nearest neg mag 0 = double.word neg r ∧ r < 9218868437227405312 ∧ valR r = mag * 2 ^ 1074 := by
  have hB : double.binade = 4503599627370496 := by decide
  have hI : double.infRung = 9218868437227405312 := by decide
  have hL : double.leastPlace = -1074 := by decide
  have hF : double.fractionBits = 52 := rfl
  have l0 : 2 ^ mag.log2 ≤ mag := Nat.log2_self_le (by omega)
  have l1 : mag < 2 ^ (mag.log2 + 1) := Nat.lt_log2_self
  have l2 : mag.log2 ≤ 63 := by
    have : 2 ^ mag.log2 ≤ 2 ^ 63 := by omega
    exact (Nat.pow_le_pow_iff_right (by omega)).1 this
  have fact : ∀ kept : Nat, (4503599627370496 ≤ kept) → kept < 9007199254740992 → (kept * 2 ^ (mag.log2 + 1022) = mag * 2 ^ 1074) →
      ∃ r, double.word neg (min ((mag.log2 + 1022) * 4503599627370496 + kept) 9218868437227405312) = double.word neg r ∧ r < 9218868437227405312 ∧ valR r = mag * 2 ^ 1074 := by
    intro kept k0 k1 k2
    refine ⟨(mag.log2 + 1022) * 4503599627370496 + kept, ?_, by omega, ?_⟩
    · rw [Nat.min_eq_left (by omega)]
    · unfold valR
      rw [if_neg (by omega), ← k2]
      have e1 : ((mag.log2 + 1022) * 4503599627370496 + kept) % 4503599627370496 = kept - 4503599627370496 := by omega
      have e2 : ((mag.log2 + 1022) * 4503599627370496 + kept) / 4503599627370496 - 1 = mag.log2 + 1022 := by omega
      rw [e1, e2]
      rw [show 4503599627370496 + (kept - 4503599627370496) = kept by omega]
  unfold Format.nearest
  rw [if_neg (by omega)]
  simp only [hB, hI, hL, hF]
  have m1 : max (0 + (mag.log2 : Int) - (52 : Nat)) (-1074) = (mag.log2 : Int) - 52 := by omega
  rw [m1]
  have m2 : (((mag.log2 : Int) - 52) - -1074).toNat = mag.log2 + 1022 := by omega
  rw [m2]
  by_cases p : mag.log2 ≤ 52
  · have e1 : (0 - ((mag.log2 : Int) - 52)).toNat = 52 - mag.log2 := by omega
    have e2 : ((mag.log2 : Int) - 52 - 0).toNat = 0 := by omega
    rw [e1, e2]
    have ck : Toward.even.cut neg (mag <<< (52 - mag.log2)) 0 = mag * 2 ^ (52 - mag.log2) := by
      unfold Toward.cut
      simp [Nat.shiftLeft_eq, Nat.mod_one]
    rw [ck]
    have x : 2 ^ mag.log2 * 2 ^ (52 - mag.log2) = 4503599627370496 := by
      rw [← Nat.pow_add, show mag.log2 + (52 - mag.log2) = 52 by omega]
    refine fact _ ?_ ?_ ?_
    · rw [← x]; exact Nat.mul_le_mul_right _ l0
    · have : mag * 2 ^ (52 - mag.log2) < 2 ^ (mag.log2 + 1) * 2 ^ (52 - mag.log2) := Nat.mul_lt_mul_of_pos_right l1 (Nat.two_pow_pos _)
      rw [Nat.pow_succ, Nat.mul_assoc, Nat.mul_comm 2, ← Nat.mul_assoc, x] at this
      omega
    · rw [Nat.mul_assoc, ← Nat.pow_add, show 52 - mag.log2 + (mag.log2 + 1022) = 1074 by omega]
  · have e1 : (0 - ((mag.log2 : Int) - 52)).toNat = 0 := by omega
    have e2 : ((mag.log2 : Int) - 52 - 0).toNat = mag.log2 - 52 := by omega
    rw [e1, e2]
    have ck : Toward.even.cut neg (mag <<< 0) (mag.log2 - 52) = mag / 2 ^ (mag.log2 - 52) := by
      unfold Toward.cut
      have g : 1 <<< min (mag.log2 - 52) ((mag <<< 0).log2 + 2) = 2 ^ (mag.log2 - 52) := by
        rw [Nat.shiftLeft_zero, Nat.min_eq_left (by omega), Nat.shiftLeft_eq, Nat.one_mul]
      rw [g]
      have z : 2 ^ (mag.log2 - 52) ≠ 0 := by have := Nat.two_pow_pos (mag.log2 - 52); omega
      simp [hd]
    rw [ck]
    have y : mag / 2 ^ (mag.log2 - 52) * 2 ^ (mag.log2 - 52) = mag := Nat.div_mul_cancel (Nat.dvd_of_mod_eq_zero hd)
    have x : 2 ^ (mag.log2 - 52) * 4503599627370496 = 2 ^ mag.log2 := by
      rw [show (4503599627370496 : Nat) = 2 ^ 52 from rfl, ← Nat.pow_add, show mag.log2 - 52 + 52 = mag.log2 by omega]
    have zp : 0 < 2 ^ (mag.log2 - 52) := Nat.two_pow_pos _
    have hsucc : 2 ^ (mag.log2 + 1) = 2 ^ (mag.log2 - 52) * 9007199254740992 := by rw [Nat.pow_succ, ← x]; omega
    refine fact _ ?_ ?_ ?_
    · rw [Nat.le_div_iff_mul_le zp, Nat.mul_comm, x]; exact l0
    · rw [Nat.div_lt_iff_lt_mul zp, Nat.mul_comm, ← hsucc]; exact l1
    · rw [show mag.log2 + 1022 = (mag.log2 - 52) + 1074 by omega, Nat.pow_add, ← Nat.mul_assoc, y]
end Go.Proofs.YtflgdhhgnbdofaaGreat

namespace Go.Proofs.YtflgdhhgnbdofaaGreat
open Ieee
/-- One, in units of the least place. -/
def unitF : Int := ((2 ^ 1074 : Nat) : Int)
theorem unitF_pos : 0 < unitF := by unfold unitF; exact Int.natCast_pos.2 (Nat.two_pow_pos 1074)

/-- A word of a sign and a finite rung, as a value. -/
theorem valF_word (neg : Bool) (r : Nat) (h : r < 9218868437227405312) : valF (double.word neg r) = (if neg then -1 else 1) * (valR r : Int) := by
  have hs : double.signWeight = 9223372036854775808 := by decide
  unfold Format.word valF
  rw [hs]
  cases neg
  · simp only [Bool.false_eq_true, if_false]; rw [if_pos (by omega)]; omega
  · simp only [if_true]; rw [if_neg (by omega), show 9223372036854775808 + r - 9223372036854775808 = r by omega]; omega

/-- The float of a whole number whose digits fit. -/
theorem valF_nearest (neg : Bool) (mag : Nat) (h1 : mag ≤ 9223372036854775808) (hd : mag % 2 ^ (mag.log2 - 52) = 0) :
    valF (double.nearest neg mag 0) = (if neg then -1 else 1) * (mag : Int) * unitF ∧ double.nearest neg mag 0 < 18446744073709551616 ∧ double.nearest neg mag 0 % 9223372036854775808 < 9218868437227405312 := by
  have hs : double.signWeight = 9223372036854775808 := by decide
  rcases Nat.eq_zero_or_pos mag with e | e
  · subst e
    unfold Format.nearest
    rw [if_pos rfl, valF_word neg 0 (by omega)]
    have z : valR 0 = 0 := by decide
    rw [z]
    unfold Format.word
    rw [hs]
    refine ⟨by simp, ?_, ?_⟩ <;> cases neg <;> decide
  · obtain ⟨r, a1, a2, a3⟩ := nearest_whole neg mag e h1 hd
    rw [a1, valF_word neg r a2, a3]
    refine ⟨?_, ?_, ?_⟩
    · unfold unitF
      rw [Int.natCast_mul, Int.mul_assoc]
    · unfold Format.word; rw [hs]; split <;> omega
    · unfold Format.word; rw [hs]; split <;> omega

theorem pow_split (a b : Nat) (h : b ≤ a) : 2 ^ a = 2 ^ (a - b) * 2 ^ b := by rw [← Nat.pow_add, Nat.sub_add_cancel h]
theorem cut_gap (n drop : Nat) : n / (1 <<< min drop (n.log2 + 2)) = n / 2 ^ drop ∧ n % (1 <<< min drop (n.log2 + 2)) = n % 2 ^ drop := by
  rw [Nat.shiftLeft_eq, Nat.one_mul]
  rcases Nat.le_total drop (n.log2 + 2) with h | h
  · rw [Nat.min_eq_left h]; exact ⟨rfl, rfl⟩
  · rw [Nat.min_eq_right h]
    have l1 : n < 2 ^ (n.log2 + 1) := Nat.lt_log2_self
    have l2 : n < 2 ^ (n.log2 + 2) := Nat.lt_of_lt_of_le l1 (Nat.pow_le_pow_right (by omega) (by omega))
    have l3 : n < 2 ^ drop := Nat.lt_of_lt_of_le l2 (Nat.pow_le_pow_right (by omega) h)
    rw [Nat.div_eq_of_lt l2, Nat.div_eq_of_lt l3, Nat.mod_eq_of_lt l2, Nat.mod_eq_of_lt l3]; exact ⟨rfl, rfl⟩
/-- The whole part and the rest, of a number's digits at its place. -/
theorem parts_at (m e : Nat) : m <<< (-1074 + (e : Int)).toNat / 2 ^ (-(-1074 + (e : Int))).toNat = m * 2 ^ e / 2 ^ 1074 ∧
    (m <<< (-1074 + (e : Int)).toNat % 2 ^ (-(-1074 + (e : Int))).toNat = 0 ↔ m * 2 ^ e % 2 ^ 1074 = 0) := by
  rw [Nat.shiftLeft_eq]
  rcases Nat.le_total 1074 e with h | h
  · have e1 : (-1074 + (e : Int)).toNat = e - 1074 := by omega
    have e2 : (-(-1074 + (e : Int))).toNat = 0 := by omega
    have e3 : 2 ^ e = 2 ^ (e - 1074) * 2 ^ 1074 := pow_split e 1074 h
    rw [e1, e2, e3, ← Nat.mul_assoc, Nat.mul_div_cancel _ (Nat.two_pow_pos 1074), Nat.pow_zero, Nat.div_one, Nat.mod_one, Nat.mul_mod_left]
    exact ⟨rfl, Iff.rfl⟩
  · have e1 : (-1074 + (e : Int)).toNat = 0 := by omega
    have e2 : (-(-1074 + (e : Int))).toNat = 1074 - e := by omega
    have e3 : 2 ^ 1074 = 2 ^ (1074 - e) * 2 ^ e := pow_split 1074 e h
    rw [e1, e2, e3, Nat.mul_div_mul_right _ _ (Nat.two_pow_pos e), Nat.mul_mod_mul_right, Nat.pow_zero, Nat.mul_one]
    refine ⟨rfl, ?_⟩
    have := Nat.two_pow_pos e
    constructor
    · intro h; rw [h, Nat.zero_mul]
    · intro h; rcases Nat.mul_eq_zero.1 h with g | g
      · exact g
      · omega
/-- A whole part's digits fit. -/
theorem fits_down (m e M : Nat) (hm : m < 9007199254740992) (hM : M = m * 2 ^ e / 2 ^ 1074 ∨ M = m * 2 ^ e / 2 ^ 1074 + 1 ∧ m * 2 ^ e % 2 ^ 1074 ≠ 0) :
    M % 2 ^ (M.log2 - 52) = 0 := by
  have mono : ∀ k, M < 2 ^ (k + 53) → M.log2 - 52 ≤ k := by
    intro k hk
    rcases Nat.eq_zero_or_pos M with z | z
    · subst z; simp
    · have := (Nat.log2_lt (by omega)).2 hk; omega
  rcases Nat.le_total 1074 e with h | h
  · have e3 : 2 ^ e = 2 ^ (e - 1074) * 2 ^ 1074 := pow_split e 1074 h
    rw [e3, ← Nat.mul_assoc, Nat.mul_div_cancel _ (Nat.two_pow_pos 1074), Nat.mul_mod_left] at hM
    have hM' : M = m * 2 ^ (e - 1074) := by
      rcases hM with h | ⟨_, h⟩
      · exact h
      · exact absurd rfl h
    have b : M < 2 ^ (e - 1074 + 53) := by
      rw [hM', Nat.pow_add, Nat.mul_comm]; exact Nat.mul_lt_mul_of_pos_left hm (Nat.two_pow_pos _)
    have c := mono _ b
    have d : 2 ^ (M.log2 - 52) ∣ M := by
      rw [hM'] at c ⊢
      exact Nat.dvd_trans (Nat.pow_dvd_pow 2 c) (Nat.dvd_mul_left _ _)
    exact Nat.mod_eq_zero_of_dvd d
  · have e3 : 2 ^ 1074 = 2 ^ (1074 - e) * 2 ^ e := pow_split 1074 e h
    rw [e3, Nat.mul_div_mul_right _ _ (Nat.two_pow_pos e), Nat.mul_mod_mul_right] at hM
    have b : M < 2 ^ (0 + 53) := by
      rcases Nat.eq_zero_or_pos (1074 - e) with z | z
      · rw [z, Nat.pow_zero, Nat.div_one, Nat.mod_one] at hM
        rcases hM with h | ⟨_, h⟩ <;> omega
      · have t : 2 ≤ 2 ^ (1074 - e) := by
          have := Nat.pow_le_pow_right (n := 2) (by omega) z
          omega
        have u : m / 2 ^ (1074 - e) ≤ m / 2 := Nat.div_le_div_left t (by omega)
        omega
    have c := mono 0 b
    have d : M.log2 - 52 = 0 := by omega
    rw [d, Nat.pow_zero, Nat.mod_one]
end Go.Proofs.YtflgdhhgnbdofaaGreat

namespace Go.Proofs.YtflgdhhgnbdofaaGreat
open Ieee
/-- The sign, 1 or -1, and the whole part of the value without its sign. -/
def sgnF (b : Nat) : Int := if decide (9223372036854775808 ≤ b) = true then -1 else 1
def wholeF (b : Nat) : Nat := valR (b % 9223372036854775808) / 2 ^ 1074
def restF (b : Nat) : Nat := valR (b % 9223372036854775808) % 2 ^ 1074
/-- Cut towards zero; cut down. -/
def truncF (b : Nat) : Int := sgnF b * (wholeF b : Int)
def downN (b : Nat) : Nat := if (decide (9223372036854775808 ≤ b) && restF b != 0) = true then wholeF b + 1 else wholeF b
def floorF (b : Nat) : Int := sgnF b * (downN b : Int)

theorem signed_sgn (b M : Nat) : signed (decide (9223372036854775808 ≤ b)) M 0 = sgnF b * (M : Int) := by
  rw [signed_eq]; unfold sgnF; rw [Nat.pow_zero, Nat.mul_one]

theorem integral_zero (b : Nat) (hb : b < 18446744073709551616) (h : b % 9223372036854775808 < 9218868437227405312) :
    (double.read b).integral .zero = .number (decide (9223372036854775808 ≤ b)) (wholeF b) 0 ∧ wholeF b % 2 ^ ((wholeF b).log2 - 52) = 0 := by
  obtain ⟨m, e, h1, h2, h3⟩ := read_number b hb h
  have hL : double.leastPlace = -1074 := by decide
  rw [hL] at h1
  have p := parts_at m e
  have g := cut_gap (m <<< (-1074 + (e : Int)).toNat) (-(-1074 + (e : Int))).toNat
  constructor
  · rw [h1]
    unfold Datum.integral
    have c : Toward.zero.cut (decide (9223372036854775808 ≤ b)) (m <<< (-1074 + (e : Int)).toNat) (-(-1074 + (e : Int))).toNat = wholeF b := by
      unfold Toward.cut wholeF
      simp only [g.1]
      rw [p.1, h2]; exact Nat.add_zero _
    simp only [c]
  · refine fits_down m e _ h3 (.inl ?_)
    unfold wholeF; rw [h2]
theorem integral_down (b : Nat) (hb : b < 18446744073709551616) (h : b % 9223372036854775808 < 9218868437227405312) :
    (double.read b).integral .down = .number (decide (9223372036854775808 ≤ b)) (downN b) 0 ∧ downN b % 2 ^ ((downN b).log2 - 52) = 0 := by
  obtain ⟨m, e, h1, h2, h3⟩ := read_number b hb h
  have hL : double.leastPlace = -1074 := by decide
  rw [hL] at h1
  have p := parts_at m e
  have g := cut_gap (m <<< (-1074 + (e : Int)).toNat) (-(-1074 + (e : Int))).toNat
  constructor
  · rw [h1]
    unfold Datum.integral
    have c : Toward.down.cut (decide (9223372036854775808 ≤ b)) (m <<< (-1074 + (e : Int)).toNat) (-(-1074 + (e : Int))).toNat = downN b := by
      unfold Toward.cut downN wholeF restF
      simp only [g.1, g.2]
      rw [p.1, h2]
      have q := p.2
      rw [h2] at q
      have e0 : (m <<< (-1074 + (e : Int)).toNat % 2 ^ (-(-1074 + (e : Int))).toNat != 0) = (valR (b % 9223372036854775808) % 2 ^ 1074 != 0) := by
        rw [Bool.eq_iff_iff]
        simp only [bne_iff_ne, ne_eq, q]
      rw [e0]
      generalize (decide (9223372036854775808 ≤ b) && valR (b % 9223372036854775808) % 2 ^ 1074 != 0) = t
      generalize valR (b % 9223372036854775808) / 2 ^ 1074 = A
      cases t <;> simp
    simp only [c]
  · refine fits_down m e _ h3 ?_
    unfold downN wholeF restF; rw [h2]
    split
    · next t =>
      right
      simp only [Bool.and_eq_true, bne_iff_ne] at t
      exact ⟨rfl, t.2⟩
    · left; rfl

theorem toInt_zero (b : Nat) (hb : b < 18446744073709551616) (h : b % 9223372036854775808 < 9218868437227405312) :
    (double.read b).toInt .zero = some (truncF b) := by
  unfold Datum.toInt
  rw [(integral_zero b hb h).1]
  simp only [signed_sgn]
  rfl

theorem mul_next (n q U : Int) (hU : 0 < U) (h : n < q) : n * U + U ≤ q * U := by
  have := Int.mul_le_mul_of_nonneg_right (show n + 1 ≤ q by omega) (show 0 ≤ U by omega)
  rw [Int.add_mul, Int.one_mul] at this
  exact this
def cmpZ (a b : Int) : Int := if a < b then -1 else if b < a then 1 else 0
theorem cmp_floor (n q U V : Int) (hU : 0 < U) (h : q * U ≤ V) (h' : V < q * U + U) :
    cmpZ (n * U) V = if n > q then 1 else if n < q then -1 else if q * U < V then -1 else 0 := by
  unfold cmpZ
  rcases Int.lt_trichotomy n q with g | g | g
  · have := mul_next n q U hU g
    rw [if_pos (by omega), if_neg (by omega), if_pos g]
  · subst g
    rw [if_neg (show ¬ n > n by omega), if_neg (show ¬ n < n by omega), if_neg (show ¬ V < n * U by omega)]
  · have := mul_next q n U hU g
    rw [if_neg (by omega), if_pos (by omega), if_pos g]
theorem cmp_ceil (n q U V : Int) (hU : 0 < U) (h : V ≤ q * U) (h' : q * U < V + U) :
    cmpZ (n * U) V = if n = q then cmpZ (q * U) V else cmpZ n q := by
  unfold cmpZ
  rcases Int.lt_trichotomy n q with g | g | g
  · have := mul_next n q U hU g
    rw [if_pos (by omega), if_neg (by omega), if_pos g]
  · subst g
    rw [if_pos rfl]
  · have := mul_next q n U hU g
    rw [if_neg (by omega), if_pos (by omega), if_neg (by omega), if_neg (by omega), if_pos g]
theorem cmp_floor' (n q U V : Int) (hU : 0 < U) (h : q * U ≤ V) (h' : V < q * U + U) :
    cmpZ (n * U) V = if n = q then cmpZ (q * U) V else cmpZ n q := by
  rw [cmp_floor n q U V hU h h']
  unfold cmpZ
  rcases Int.lt_trichotomy n q with g | g | g
  · rw [if_neg (by omega), if_pos g, if_neg (by omega), if_pos g]
  · subst g
    rw [if_neg (by omega), if_neg (by omega), if_pos rfl, if_neg (show ¬ V < n * U by omega)]
  · rw [if_pos g, if_neg (by omega), if_neg (by omega), if_pos g]

theorem valF_parts (b : Nat) (hb : b < 18446744073709551616) : valF b = sgnF b * ((wholeF b : Int) * unitF + (restF b : Int)) ∧ (restF b : Int) < unitF := by
  have u := valF_eq b hb
  have d := Nat.div_add_mod (valR (b % 9223372036854775808)) (2 ^ 1074)
  have r := Nat.mod_lt (valR (b % 9223372036854775808)) (Nat.two_pow_pos 1074)
  unfold sgnF wholeF restF unitF
  rw [u]
  generalize (2 ^ 1074 : Nat) = U at *
  generalize valR (b % 9223372036854775808) = v at *
  refine ⟨?_, by omega⟩
  congr 1
  rw [← Int.natCast_mul, Nat.mul_comm (v / U) U]
  omega
/-- A whole number against a float, by way of the part towards zero. -/
theorem mixed_trunc (n : Int) (b : Nat) (hb : b < 18446744073709551616) :
    cmpZ (n * unitF) (valF b) = if n = truncF b then cmpZ (truncF b * unitF) (valF b) else cmpZ n (truncF b) := by
  obtain ⟨h1, h2⟩ := valF_parts b hb
  have h0 := unitF_pos
  unfold truncF
  unfold sgnF at *
  by_cases p : 9223372036854775808 ≤ b
  · have pd : decide (9223372036854775808 ≤ b) = true := by simp [p]
    rw [pd] at h1 ⊢
    simp only [if_true] at h1 ⊢
    generalize unitF = U at *
    generalize wholeF b = w at *
    generalize restF b = r at *
    generalize valF b = V at *
    refine cmp_ceil n _ U V h0 ?_ ?_ <;> (rw [Int.neg_one_mul, Int.neg_mul]; generalize (w : Int) * U = x at *; omega)
  · have pd : decide (9223372036854775808 ≤ b) = false := by simp [p]
    rw [pd] at h1 ⊢
    simp only [Bool.false_eq_true, if_false] at h1 ⊢
    generalize unitF = U at *
    generalize wholeF b = w at *
    generalize restF b = r at *
    generalize valF b = V at *
    refine cmp_floor' n _ U V h0 ?_ ?_ <;> (rw [Int.one_mul]; generalize (w : Int) * U = x at *; omega)
/-- And by way of the part below. -/
theorem mixed_floor (n : Int) (b : Nat) (hb : b < 18446744073709551616) :
    cmpZ (n * unitF) (valF b) = if n > floorF b then 1 else if n < floorF b then -1 else if floorF b * unitF < valF b then -1 else 0 := by
  obtain ⟨h1, h2⟩ := valF_parts b hb
  have h0 := unitF_pos
  unfold floorF downN
  unfold sgnF at *
  by_cases p : 9223372036854775808 ≤ b
  · have pd : decide (9223372036854775808 ≤ b) = true := by simp [p]
    rw [pd] at h1 ⊢
    simp only [Bool.true_and, if_true] at h1 ⊢
    generalize unitF = U at *
    generalize wholeF b = w at *
    generalize restF b = r at *
    generalize valF b = V at *
    by_cases q : r = 0
    · subst q
      have e : (if (0 != 0) = true then w + 1 else w) = w := by simp
      rw [e]
      refine cmp_floor n _ U V h0 ?_ ?_ <;> (rw [Int.neg_one_mul, Int.neg_mul]; generalize (w : Int) * U = x at *; omega)
    · have e : (if (r != 0) = true then w + 1 else w) = w + 1 := by simp [q]
      rw [e]
      refine cmp_floor n _ U V h0 ?_ ?_ <;> (rw [Int.neg_one_mul, Int.neg_mul, Int.natCast_add, Int.add_mul]; generalize (w : Int) * U = x at *; omega)
  · have pd : decide (9223372036854775808 ≤ b) = false := by simp [p]
    rw [pd] at h1 ⊢
    simp only [Bool.false_and, Bool.false_eq_true, if_false] at h1 ⊢
    generalize unitF = U at *
    generalize wholeF b = w at *
    generalize restF b = r at *
    generalize valF b = V at *
    refine cmp_floor n _ U V h0 ?_ ?_ <;> (rw [Int.one_mul]; generalize (w : Int) * U = x at *; omega)
end Go.Proofs.YtflgdhhgnbdofaaGreat

