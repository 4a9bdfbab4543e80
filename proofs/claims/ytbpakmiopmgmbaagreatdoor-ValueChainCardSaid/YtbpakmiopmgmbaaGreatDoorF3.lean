/- Whole numbers as double floats: a whole number whose digits fit is written as the float of just its value; a float cut to a whole number, towards zero or down, is its value's whole part. For every word of 64 bits that is finite. -/
import Derived.Test.YtbpakmiopmgmbaaGreatDoorF1
namespace Go.Proofs.YtbpakmiopmgmbaaGreatDoor
open Ieee

/-- The word of a whole number, worked out. -/
theorem nearest_whole (neg : Bool) (mag : Nat) (h0 : 0 < mag) (h1 : mag ≤ 9223372036854775808) (hd : mag % 2 ^ (mag.log2 - 52) = 0) :
    ∃ r, double.nearest neg mag 0 = double.word neg r ∧ r < 9218868437227405312 ∧ valR r = mag * 2 ^ 1074 := by
  have hB : double.binade = 4503599627370496 := by decide
  have hI : double.infRung = 9218868437227405312 := by decide
  have hL : double.leastPlace = -1074 := by decide
  have hF : double.fractionBits = 52 := rfl
  have l0 : 2 ^ mag.log2 ≤ mag := Nat.log2_self_le (by omega)
  have l1 : mag < 2 ^ (mag.log2 + 1) := Nat.lt_log2_self
  have l2 : mag.log2 ≤ 63 := by
    have : 2 ^ mag.log2 ≤ 2 ^ 63 := by omega
    exact (Nat.pow_le_pow_iff_right (by omega)).1 this
  have fact : ∀ kept : Nat, (4503599627370496 ≤ kept) → kept < 9007199254740992 → (kept * 2 ^ (mag.log2 + 1022) = mag * 2 ^ 1074) →
      ∃ r, double.word neg (min ((mag.log2 + 1022) * 4503599627370496 + kept) 9218868437227405312) = double.word neg r ∧ r < 9218868437227405312 ∧ valR r = mag * 2 ^ 1074 := by
    intro kept k0 k1 k2
    refine ⟨(mag.log2 + 1022) * 4503599627370496 + kept, ?_, by omega, ?_⟩
    · rw [Nat.min_eq_left (by omega)]
    · unfold valR
      rw [if_neg (by omega), ← k2]
      have e1 : ((mag.log2 + 1022) * 4503599627370496 + kept) % 4503599627370496 = kept - 4503599627370496 := by omega
      have e2 : ((mag.log2 + 1022) * 4503599627370496 + kept) / 4503599627370496 - 1 = mag.log2 + 1022 := by omega
      rw [e1, e2]
      rw [show 4503599627370496 + (kept - 4503599627370496) = kept by omega]
  unfold Format.nearest
  rw [if_neg (by omega)]
  simp only [hB, hI, hL, hF]
  have m1 : max (0 + (mag.log2 : Int) - (52 : Nat)) (-1074) = (mag.log2 : Int) - 52 := by omega
  rw [m1]
  have m2 : (((mag.log2 : Int) - 52) - -1074).toNat = mag.log2 + 1022 := by omega
  rw [m2]
  by_cases p : mag.log2 ≤ 52
  · have e1 : (0 - ((mag.log2 : Int) - 52)).toNat = 52 - mag.log2 := by omega
    have e2 : ((mag.log2 : Int) - 52 - 0).toNat = 0 := by omega
    rw [e1, e2]
    have ck : Toward.even.cut neg (mag <<< (52 - mag.log2)) 0 = mag * 2 ^ (52 - mag.log2) := by
      unfold Toward.cut
      simp [Nat.shiftLeft_eq, Nat.mod_one]
    rw [ck]
    have x : 2 ^ mag.log2 * 2 ^ (52 - mag.log2) = 4503599627370496 := by
      rw [← Nat.pow_add, show mag.log2 + (52 - mag.log2) = 52 by omega]
    refine fact _ ?_ ?_ ?_
    · rw [← x]; exact Nat.mul_le_mul_right _ l0
    · have : mag * 2 ^ (52 - mag.log2) < 2 ^ (mag.log2 + 1) * 2 ^ (52 - mag.log2) := Nat.mul_lt_mul_of_pos_right l1 (Nat.two_pow_pos _)
      rw [Nat.pow_succ, Nat.mul_assoc, Nat.mul_comm 2, ← Nat.mul_assoc, x] at this
      omega
    · rw [Nat.mul_assoc, ← Nat.pow_add, show 52 - mag.log2 + (mag.log2 + 1022) = 1074 by omega]
  · have e1 : (0 - ((mag.log2 : Int) - 52)).toNat = 0 := by omega
    have e2 : ((mag.log2 : Int) - 52 - 0).toNat = mag.log2 - 52 := by omega
    rw [e1, e2]
    have ck : Toward.even.cut neg (mag <<< 0) (mag.log2 - 52) = mag / 2 ^ (mag.log2 - 52) := by
      unfold Toward.cut
      have g : 1 <<< min (mag.log2 - 52) ((mag <<< 0).log2 + 2) = 2 ^ (mag.log2 - 52) := by
        rw [Nat.shiftLeft_zero, Nat.min_eq_left (by omega), Nat.shiftLeft_eq, Nat.one_mul]
      rw [g]
      have z : 2 ^ (mag.log2 - 52) ≠ 0 := by have := Nat.two_pow_pos (mag.log2 - 52); omega
      simp [hd]
    rw [ck]
    have y : mag / 2 ^ (mag.log2 - 52) * 2 ^ (mag.log2 - 52) = mag := Nat.div_mul_cancel (Nat.dvd_of_mod_eq_zero hd)
    have x : 2 ^ (mag.log2 - 52) * 4503599627370496 = 2 ^ mag.log2 := by
      rw [show (4503599627370496 : Nat) = 2 ^ 52 from rfl, ← Nat.pow_add, show mag.log2 - 52 + 52 = mag.log2 by omega]
    have zp : 0 < 2 ^ (mag.log2 - 52) := Nat.two_pow_pos _
    have hsucc : 2 ^ (mag.log2 + 1) = 2 ^ (mag.log2 - 52) * 9007199254740992 := by rw [Nat.pow_succ, ← x]; omega
    refine fact _ ?_ ?_ ?_
    · rw [Nat.le_div_iff_mul_le zp, Nat.mul_comm, x]; exact l0
    · rw [Nat.div_lt_iff_lt_mul zp, Nat.mul_comm, ← hsucc]; exact l1
    · rw [show mag.log2 + 1022 = (mag.log2 - 52) + 1074 by omega, Nat.pow_add, ← Nat.mul_assoc, y]
end Go.Proofs.YtbpakmiopmgmbaaGreatDoor
