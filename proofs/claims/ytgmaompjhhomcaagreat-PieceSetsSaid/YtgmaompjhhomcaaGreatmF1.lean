/- The order of double floats, worked out of their bits: two floats that are not NaN stand to each other as their bits, read as a sign and a number, do; and a float is a NaN just when it does not equal itself. For every two words of 64 bits. -/
import Derived.Test.YtgmaompjhhomcaaGreatmG10
namespace Go.Proofs.YtgmaompjhhomcaaGreat
open Ieee

/-- What a rung stands for, in units of the least place. -/
def valR (r : Nat) : Nat := if r < 4503599627370496 then r else (4503599627370496 + r % 4503599627370496) * 2 ^ (r / 4503599627370496 - 1)
theorem valR_mono {r s : Nat} (h : r < s) : valR r < valR s := by
  unfold valR
  by_cases p : s < 4503599627370496
  · rw [if_pos p, if_pos (by omega)]; exact h
  · rw [if_neg p]
    by_cases q : r < 4503599627370496
    · rw [if_pos q]
      have t : 1 ≤ 2 ^ (s / 4503599627370496 - 1) := Nat.one_le_two_pow
      have u := Nat.mul_le_mul_left (4503599627370496 + s % 4503599627370496) t
      omega
    · rw [if_neg q]
      rcases Nat.lt_or_ge (r / 4503599627370496) (s / 4503599627370496) with g | g
      · have e : 2 ^ (r / 4503599627370496 - 1) * 2 ≤ 2 ^ (s / 4503599627370496 - 1) := by
          rw [← Nat.pow_succ]; exact Nat.pow_le_pow_right (by omega) (by omega)
        have hx : 0 < 2 ^ (r / 4503599627370496 - 1) := Nat.two_pow_pos _
        generalize 2 ^ (r / 4503599627370496 - 1) = x at *
        generalize 2 ^ (s / 4503599627370496 - 1) = y at *
        have h1 : (4503599627370496 + r % 4503599627370496) * x < (2 * 4503599627370496) * x := Nat.mul_lt_mul_of_pos_right (by omega) hx
        have h2 : 4503599627370496 * y ≤ (4503599627370496 + s % 4503599627370496) * y := Nat.mul_le_mul_right _ (by omega)
        omega
      · have e : r / 4503599627370496 = s / 4503599627370496 := by omega
        rw [e]
        exact Nat.mul_lt_mul_of_pos_right (by omega) (Nat.two_pow_pos _)
theorem valR_lt (r s : Nat) : valR r < valR s ↔ r < s := by
  constructor
  · intro h
    rcases Nat.lt_or_ge r s with g | g
    · exact g
    · rcases Nat.eq_or_lt_of_le g with e | e
      · subst e; omega
      · have := valR_mono e; omega
  · exact valR_mono
theorem valR_pos (r : Nat) (h : 0 < r) : 0 < valR r := by
  have := valR_mono h
  omega

/-- A float's sign and rung as one number. -/
def keyF (b : Nat) : Int := if b < 9223372036854775808 then b else 9223372036854775808 - (b : Int)
/-- The same in units of the least place. -/
def valF (b : Nat) : Int := if b < 9223372036854775808 then valR b else -(valR (b - 9223372036854775808) : Int)

theorem valF_lt (a b : Nat) : valF a < valF b ↔ keyF a < keyF b := by
  unfold valF keyF
  have m := valR_lt
  have z : valR 0 = 0 := by decide
  have p : ∀ r, valR r = 0 ↔ r = 0 := fun r => by
    constructor
    · intro h
      rcases Nat.eq_zero_or_pos r with e | e
      · exact e
      · have := valR_pos r e; omega
    · rintro rfl; exact z
  by_cases ha : a < 9223372036854775808 <;> by_cases hb : b < 9223372036854775808
  · rw [if_pos ha, if_pos hb, if_pos ha, if_pos hb]; have := m a b; omega
  · rw [if_pos ha, if_neg hb, if_pos ha, if_neg hb]; omega
  · rw [if_neg ha, if_pos hb, if_neg ha, if_pos hb]
    have h1 := p (a - 9223372036854775808); have h2 := p b
    omega
  · rw [if_neg ha, if_neg hb, if_neg ha, if_neg hb]
    have h1 := m (b - 9223372036854775808) (a - 9223372036854775808)
    omega

theorem compare_cong (x y x' y' : Int) (h : x < y ↔ x' < y') (g : y < x ↔ y' < x') : compare x y = compare x' y' := by
  show compareOfLessAndEq x y = compareOfLessAndEq x' y'
  unfold compareOfLessAndEq
  by_cases p : x < y
  · rw [if_pos p, if_pos (h.1 p)]
  · rw [if_neg p, if_neg (fun t => p (h.2 t))]
    by_cases q : x = y
    · rw [if_pos q, if_pos (by omega)]
    · rw [if_neg q, if_neg (by omega)]

theorem signed_eq (s : Bool) (m k : Nat) : signed s m k = (if s then -1 else 1) * (m * 2 ^ k : Nat) := by
  unfold signed
  rw [Nat.shiftLeft_eq]
  cases s <;> simp

/-- The three ways a word of 64 bits is read. -/
theorem read_number (b : Nat) (hb : b < 18446744073709551616) (h : b % 9223372036854775808 < 9218868437227405312) :
    ∃ m e : Nat, double.read b = .number (decide (9223372036854775808 ≤ b)) m (double.leastPlace + e) ∧ m * 2 ^ e = valR (b % 9223372036854775808) ∧ m < 9007199254740992 := by
  have hs : double.signWeight = 9223372036854775808 := by decide
  have hB : double.binade = 4503599627370496 := by decide
  have hI : double.infRung = 9218868437227405312 := by decide
  have hn : (b / 9223372036854775808 % 2 == 1) = decide (9223372036854775808 ≤ b) := by
    by_cases p : 9223372036854775808 ≤ b
    · have : b / 9223372036854775808 = 1 := by omega
      simp [p, this]
    · have : b / 9223372036854775808 = 0 := by omega
      simp [p, this]
  unfold Format.read valR
  simp only [hs, hB, hI, hn]
  by_cases p : b % 9223372036854775808 < 4503599627370496
  · rw [if_pos p, if_pos p]
    exact ⟨b % 9223372036854775808, 0, by simp, by simp, by omega⟩
  · rw [if_neg p, if_neg p, if_pos h]
    exact ⟨_, _, rfl, rfl, by omega⟩
theorem read_inf (b : Nat) (hb : b < 18446744073709551616) (h : b % 9223372036854775808 = 9218868437227405312) :
    double.read b = .infinity (decide (9223372036854775808 ≤ b)) := by
  have hs : double.signWeight = 9223372036854775808 := by decide
  have hB : double.binade = 4503599627370496 := by decide
  have hI : double.infRung = 9218868437227405312 := by decide
  have hn : (b / 9223372036854775808 % 2 == 1) = decide (9223372036854775808 ≤ b) := by
    by_cases p : 9223372036854775808 ≤ b
    · have : b / 9223372036854775808 = 1 := by omega
      simp [p, this]
    · have : b / 9223372036854775808 = 0 := by omega
      simp [p, this]
  unfold Format.read
  simp only [hs, hB, hI, hn, h]
  simp
theorem read_nan (b : Nat) (h : 9218868437227405312 < b % 9223372036854775808) :
    ∃ s t, double.read b = .nan s t := by
  have hs : double.signWeight = 9223372036854775808 := by decide
  have hB : double.binade = 4503599627370496 := by decide
  have hI : double.infRung = 9218868437227405312 := by decide
  unfold Format.read
  simp only [hs, hB, hI]
  rw [if_neg (by omega), if_neg (by omega), if_neg (by omega)]
  exact ⟨_, _, rfl⟩

theorem valF_eq (b : Nat) (hb : b < 18446744073709551616) : valF b = (if decide (9223372036854775808 ≤ b) = true then -1 else 1) * (valR (b % 9223372036854775808) : Int) := by
  unfold valF
  by_cases p : b < 9223372036854775808
  · have e : b % 9223372036854775808 = b := by omega
    rw [if_pos p, if_neg (by simp; omega), e]; omega
  · have e : b % 9223372036854775808 = b - 9223372036854775808 := by omega
    rw [if_neg p, if_pos (by simp; omega), e]; omega

/-- One number against another. -/
theorem order_numbers (a b : Nat) (ha : a < 18446744073709551616) (hb : b < 18446744073709551616)
    (ra : a % 9223372036854775808 < 9218868437227405312) (rb : b % 9223372036854775808 < 9218868437227405312) :
    double.order a b = some (compare (keyF a) (keyF b)) := by
  obtain ⟨m, i, h1, h2, _⟩ := read_number a ha ra
  obtain ⟨n, j, h3, h4, _⟩ := read_number b hb rb
  unfold Format.order
  rw [h1, h3]
  unfold Datum.order
  simp only [Option.some.injEq]
  rw [signed_eq, signed_eq]
  have k1 : (double.leastPlace + (i : Int) - min (double.leastPlace + (i : Int)) (double.leastPlace + (j : Int))).toNat = i - min i j := by omega
  have k2 : (double.leastPlace + (j : Int) - min (double.leastPlace + (i : Int)) (double.leastPlace + (j : Int))).toNat = j - min i j := by omega
  rw [k1, k2]
  have p1 : m * 2 ^ (i - min i j) * 2 ^ min i j = valR (a % 9223372036854775808) := by
    rw [Nat.mul_assoc, ← Nat.pow_add, Nat.sub_add_cancel (Nat.min_le_left _ _), h2]
  have p2 : n * 2 ^ (j - min i j) * 2 ^ min i j = valR (b % 9223372036854775808) := by
    rw [Nat.mul_assoc, ← Nat.pow_add, Nat.sub_add_cancel (Nat.min_le_right _ _), h4]
  have hx : (0 : Int) < (2 ^ min i j : Nat) := by exact_mod_cast Nat.two_pow_pos _
  have w1 := valF_eq a ha
  have w2 := valF_eq b hb
  rw [← p1] at w1
  rw [← p2] at w2
  generalize m * 2 ^ (i - min i j) = M at *
  generalize n * 2 ^ (j - min i j) = N at *
  generalize (2 ^ min i j : Nat) = x at *
  generalize (if decide (9223372036854775808 ≤ a) = true then (-1 : Int) else 1) = s at *
  generalize (if decide (9223372036854775808 ≤ b) = true then (-1 : Int) else 1) = t at *
  have v1 : valF a = s * (M : Int) * (x : Int) := by rw [w1, Int.natCast_mul, Int.mul_assoc]
  have v2 : valF b = t * (N : Int) * (x : Int) := by rw [w2, Int.natCast_mul, Int.mul_assoc]
  have q1 := valF_lt a b
  have q2 := valF_lt b a
  rw [v1, v2] at q1 q2
  apply compare_cong
  · rw [← q1]; exact (Int.mul_lt_mul_right hx).symm
  · rw [← q2]; exact (Int.mul_lt_mul_right hx).symm

/-- Two floats that are no NaN stand to each other as their signs and rungs do. -/
theorem order_any (a b : Nat) (ha : a < 18446744073709551616) (hb : b < 18446744073709551616)
    (ra : a % 9223372036854775808 ≤ 9218868437227405312) (rb : b % 9223372036854775808 ≤ 9218868437227405312) :
    double.order a b = some (compare (keyF a) (keyF b)) := by
  rcases Nat.lt_or_eq_of_le ra with ca | ca <;> rcases Nat.lt_or_eq_of_le rb with cb | cb
  · exact order_numbers a b ha hb ca cb
  · obtain ⟨m, i, h1, h2, _⟩ := read_number a ha ca
    have h3 := read_inf b hb cb
    unfold Format.order
    rw [h1, h3]
    unfold Datum.order
    simp only [Option.some.injEq]
    show _ = compareOfLessAndEq _ _
    unfold compareOfLessAndEq keyF
    by_cases p : 9223372036854775808 ≤ b
    · rw [if_pos (by simp [p]), if_neg, if_neg] <;> (repeat' split) <;> omega
    · rw [if_neg (by simp; omega), if_pos]; (repeat' split) <;> omega
  · obtain ⟨m, i, h1, h2, _⟩ := read_number b hb cb
    have h3 := read_inf a ha ca
    unfold Format.order
    rw [h1, h3]
    unfold Datum.order
    simp only [Option.some.injEq]
    show _ = compareOfLessAndEq _ _
    unfold compareOfLessAndEq keyF
    by_cases p : 9223372036854775808 ≤ a
    · rw [if_pos (by simp [p]), if_pos]; (repeat' split) <;> omega
    · rw [if_neg (by simp; omega), if_neg, if_neg] <;> (repeat' split) <;> omega
  · have h1 := read_inf a ha ca
    have h3 := read_inf b hb cb
    unfold Format.order
    rw [h1, h3]
    unfold Datum.order keyF
    have ea : a = 9218868437227405312 ∨ a = 18442240474082181120 := by omega
    have eb : b = 9218868437227405312 ∨ b = 18442240474082181120 := by omega
    rcases ea with rfl | rfl <;> rcases eb with rfl | rfl <;> decide

/-- A NaN stands to nothing. -/
theorem order_nan (a b : Nat) (ra : 9218868437227405312 < a % 9223372036854775808) : double.order a b = none := by
  obtain ⟨s, t, h⟩ := read_nan a ra
  unfold Format.order
  rw [h]
  cases double.read b <;> rfl
theorem order_nan' (a b : Nat) (ra : 9218868437227405312 < b % 9223372036854775808) : double.order a b = none := by
  obtain ⟨s, t, h⟩ := read_nan b ra
  unfold Format.order
  rw [h]
  cases double.read a <;> rfl
/-- A float that equals itself is no NaN. -/
theorem self_any (b : Nat) (hb : b < 18446744073709551616) : (FloatKind.f64.format.order b b != some Ordering.eq) = decide (9218868437227405312 < b % 9223372036854775808) := by
  show (double.order b b != some Ordering.eq) = _
  by_cases p : 9218868437227405312 < b % 9223372036854775808
  · rw [order_nan b b p]; simp [p]
  · rw [order_any b b hb hb (by omega) (by omega)]
    have e : compare (keyF b) (keyF b) = Ordering.eq := by
      show compareOfLessAndEq _ _ = _
      unfold compareOfLessAndEq
      rw [if_neg (by omega), if_pos rfl]
    rw [e]; simp [p]
end Go.Proofs.YtgmaompjhhomcaaGreat

