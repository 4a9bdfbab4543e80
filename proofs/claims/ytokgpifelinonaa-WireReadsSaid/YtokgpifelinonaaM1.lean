/- Digits in base 256, and the forms of numbers, whole numbers, floats and strings, as lists of bytes: plain arithmetic. -/
import Derived.Lib.BitFns
import Derived.Lib.Bytealg
namespace Go.Proofs.Ytokgpifelinonaa

/-- The last k digits of n, the most significant first. -/
def digs (n : Nat) : Nat → List UInt8
  | 0 => []
  | k + 1 => UInt8.ofNat (n / 256 ^ k) :: digs n k
/-- What digits say. -/
def val : List UInt8 → Nat
  | [] => 0
  | a :: l => a.toNat * 256 ^ l.length + val l
theorem digs_length (n k : Nat) : (digs n k).length = k := by
  induction k with
  | zero => rfl
  | succ k ih => simp [digs, ih]
theorem val_lt (l : List UInt8) : val l < 256 ^ l.length := by
  induction l with
  | nil => simp [val]
  | cons a l ih =>
    have ha := a.toNat_lt
    have h : a.toNat * 256 ^ l.length ≤ 255 * 256 ^ l.length := Nat.mul_le_mul_right _ (by omega)
    simp only [val, List.length_cons, Nat.pow_succ]
    omega
theorem byte_ofNat (n : Nat) : (UInt8.ofNat n).toNat = n % 256 := by simp
theorem val_digs (n k : Nat) : val (digs n k) = n % 256 ^ k := by
  induction k with
  | zero => simp [digs, val, Nat.mod_one]
  | succ k ih =>
    simp only [digs, val, ih, digs_length, byte_ofNat]
    rw [Nat.pow_succ, Nat.mod_mul, Nat.mul_comm, Nat.add_comm]
theorem digs_add (n m k : Nat) : digs (n * 256 ^ k + m) k = digs m k := by
  suffices h : ∀ j, j ≤ k → digs (n * 256 ^ k + m) j = digs m j from h k (Nat.le_refl _)
  intro j
  induction j with
  | zero => intro _; rfl
  | succ j ih =>
    intro hj
    simp only [digs]
    rw [ih (by omega)]
    congr 1
    apply UInt8.toNat_inj.1
    rw [byte_ofNat, byte_ofNat]
    obtain ⟨d, rfl⟩ : ∃ d, k = j + 1 + d := ⟨k - (j + 1), by omega⟩
    rw [show n * 256 ^ (j + 1 + d) + m = 256 ^ j * (n * 256 ^ d * 256) + m by rw [Nat.pow_add, Nat.pow_succ]; ac_rfl]
    rw [Nat.mul_add_div (Nat.pow_pos (by omega))]
    omega
theorem digs_val (l : List UInt8) : digs (val l) l.length = l := by
  induction l with
  | nil => rfl
  | cons a l ih =>
    simp only [val, List.length_cons, digs]
    rw [digs_add, ih]
    congr 1
    apply UInt8.toNat_inj.1
    rw [byte_ofNat, Nat.mul_comm, Nat.mul_add_div (Nat.pow_pos (by omega)), Nat.div_eq_of_lt (val_lt l)]
    have := a.toNat_lt
    omega
/-- How many digits a number has. -/
def nlen (n : Nat) : Nat := (Lib.bitLen n + 7) / 8
theorem bitLen_lt : ∀ (k x : Nat), x < 2 ^ 64 → (Lib.bitLen x ≤ k ↔ x < 2 ^ k) := by
  intro k
  induction k with
  | zero =>
    intro x hx
    by_cases h : x = 0
    · subst h; simp [Lib.bitLen, Lib.bitLenAux]
    · rw [Lib.bitLen_half x h hx]; simp; omega
  | succ k ih =>
    intro x hx
    by_cases h : x = 0
    · subst h; simp [Lib.bitLen, Lib.bitLenAux, Nat.pow_pos]
    · rw [Lib.bitLen_half x h hx]
      have := ih (x / 2) (by omega)
      rw [Nat.pow_succ]
      omega
theorem nlen_le (k n : Nat) (hn : n < 2 ^ 64) : nlen n ≤ k ↔ n < 256 ^ k := by
  have h := bitLen_lt (8 * k) n hn
  rw [show (256 : Nat) ^ k = 2 ^ (8 * k) by rw [Nat.pow_mul]]
  unfold nlen
  omega
theorem nlen_8 (n : Nat) (hn : n < 2 ^ 64) : nlen n ≤ 8 := (nlen_le 8 n hn).2 hn
theorem nlen_lt (n : Nat) (hn : n < 2 ^ 64) : n < 256 ^ nlen n := (nlen_le _ n hn).1 (Nat.le_refl _)
theorem nlen_ge (n : Nat) (hn : n < 2 ^ 64) (h : n ≠ 0) : 0 < nlen n ∧ 256 ^ (nlen n - 1) ≤ n := by
  have h0 : 0 < nlen n := by
    rcases Nat.eq_zero_or_pos (nlen n) with e | e
    · have := nlen_lt n hn; rw [e] at this; omega
    · exact e
  refine ⟨h0, ?_⟩
  rcases Nat.lt_or_ge n (256 ^ (nlen n - 1)) with h1 | h1
  · have := (nlen_le _ n hn).2 h1; omega
  · exact h1
theorem nlen_zero : nlen 0 = 0 := by decide
theorem nlen_eq (n k : Nat) (hn : n < 2 ^ 64) (h1 : n < 256 ^ k) (h2 : 0 < k → 256 ^ (k - 1) ≤ n) : nlen n = k := by
  have a := (nlen_le k n hn).2 h1
  rcases Nat.lt_or_ge (nlen n) k with h | h
  · have b := (nlen_le (k - 1) n hn).1 (by omega)
    have := h2 (by omega)
    omega
  · omega
/-- The form of a number. -/
def encNum (n : Nat) : List UInt8 := UInt8.ofNat (nlen n) :: digs n (nlen n)
/-- Each digit taken from 255. -/
def flip8 (l : List UInt8) : List UInt8 := l.map fun c => 255 - c
theorem flip8_length (l : List UInt8) : (flip8 l).length = l.length := by simp [flip8]
theorem byte_flip (c : UInt8) : (255 - c).toNat = 255 - c.toNat := by
  rw [UInt8.toNat_sub_of_le _ _ (by have := c.toNat_lt; exact UInt8.le_iff_toNat_le.2 (by simp; omega))]; rfl
theorem flip8_flip8 (l : List UInt8) : flip8 (flip8 l) = l := by
  unfold flip8
  rw [List.map_map]
  conv => rhs; rw [← List.map_id l]
  apply List.map_congr_left
  intro c _
  apply UInt8.toNat_inj.1
  simp only [Function.comp, id, byte_flip]
  have := c.toNat_lt
  omega
theorem val_flip8 (l : List UInt8) : val (flip8 l) = 256 ^ l.length - 1 - val l := by
  induction l with
  | nil => simp [flip8, val]
  | cons a l ih =>
    have e : flip8 (a :: l) = (255 - a) :: flip8 l := rfl
    have h1 := val_lt l
    have h2 := a.toNat_lt
    rw [e]
    simp only [val, flip8_length, List.length_cons, Nat.pow_succ, byte_flip, ih]
    rw [Nat.sub_mul]
    have h3 : a.toNat * 256 ^ l.length ≤ 255 * 256 ^ l.length := Nat.mul_le_mul_right _ (by omega)
    omega
/-- The digits of the complement are the digits, each taken from 255. -/
theorem digs_flip (n k : Nat) (h : n < 256 ^ k) : digs (256 ^ k - 1 - n) k = flip8 (digs n k) := by
  have e := digs_val (flip8 (digs n k))
  rw [val_flip8, flip8_length, digs_length, val_digs, Nat.mod_eq_of_lt h] at e
  exact e
/-- The form of a whole number. -/
def encInt (z : Int) : List UInt8 :=
  if 0 ≤ z then UInt8.ofNat (16 + nlen z.toNat) :: digs z.toNat (nlen z.toNat)
  else UInt8.ofNat (15 - nlen (-(z + 1)).toNat) :: flip8 (digs (-(z + 1)).toNat (nlen (-(z + 1)).toNat))
/-- Where a float stands. -/
def placeF (f : Nat) : Nat := if f < 9223372036854775808 then f + 9223372036854775808 else 18446744073709551615 - f
def encFloat (f : Nat) : List UInt8 := digs (placeF f) 8
/-- The form of a string, without its end. -/
def escT : List UInt8 → List UInt8
  | [] => []
  | c :: l => if c = 0 then 0 :: 255 :: escT l else c :: escT l
def encText (l : List UInt8) : List UInt8 := escT l ++ [0, 0]
theorem escT_append (a b : List UInt8) : escT (a ++ b) = escT a ++ escT b := by
  induction a with
  | nil => rfl
  | cons c a ih =>
    simp only [List.cons_append, escT, ih]
    split <;> simp
theorem escT_length (l : List UInt8) : l.length ≤ (escT l).length ∧ (escT l).length ≤ 2 * l.length := by
  induction l with
  | nil => simp [escT]
  | cons c l ih =>
    simp only [escT, List.length_cons]
    split <;> simp <;> omega
theorem encNum_length (n : Nat) (h : n < 2 ^ 64) : (encNum n).length ≤ 9 := by
  have := nlen_8 n h
  simp [encNum, digs_length]; omega
end Go.Proofs.Ytokgpifelinonaa
