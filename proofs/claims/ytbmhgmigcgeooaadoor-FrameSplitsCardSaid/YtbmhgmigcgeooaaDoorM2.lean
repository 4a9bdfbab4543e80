/- The checksum's own bytes; sealed rows; what turned bits do. -/
import Derived.Test.YtbmhgmigcgeooaaDoorM1
namespace Go.Proofs.YtbmhgmigcgeooaaDoor
def byteAt (s : BitVec 32) (k : Nat) : UInt8 := ⟨(s >>> k).setWidth 8⟩
/-- The four bytes of a checksum. -/
def sumB (s : BitVec 32) : List UInt8 := [byteAt s 24, byteAt s 16, byteAt s 8, byteAt s 0]
def markL (l : List UInt8) : List UInt8 := l ++ sumB (moreV 0#32 l)
theorem sumB_length (s : BitVec 32) : (sumB s).length = 4 := rfl
theorem markL_length (l : List UInt8) : (markL l).length = l.length + 4 := by simp [markL, sumB_length]
theorem byteAt_toNat (s : BitVec 32) (k : Nat) : (byteAt s k).toNat = s.toNat / 2 ^ k % 256 := by
  show ((s >>> k).setWidth 8).toNat = _
  rw [BitVec.toNat_setWidth, BitVec.toNat_ushiftRight, Nat.shiftRight_eq_div_pow]
theorem top_bits (c : UInt8) : top c = c.toBitVec.setWidth 32 <<< 24 := by
  apply BitVec.eq_of_toNat_eq
  have := c.toNat_lt
  have e : c.toBitVec.toNat = c.toNat := rfl
  unfold top
  rw [BitVec.toNat_shiftLeft, BitVec.toNat_setWidth, Nat.shiftLeft_eq, BitVec.toNat_ofNat, e, Nat.mod_eq_of_lt (a := c.toNat) (by omega)]
theorem top_xor (c d : UInt8) : top (c ^^^ d) = top c ^^^ top d := by
  rw [top_bits, top_bits, top_bits, UInt8.toBitVec_xor, BitVec.setWidth_xor, BitVec.shiftLeft_xor_distrib]
theorem top_zero : top 0 = 0#32 := rfl
/-- A byte, k places above where it will be at the top. -/
theorem shn_up (c : UInt8) (k : Nat) (hk : k ≤ 24) : shn k (c.toBitVec.setWidth 32 <<< (24 - k)) = top c := by
  rw [shn_low k _ (by omega), top_bits, ← BitVec.shiftLeft_add, show 24 - k + k = 24 by omega]
  intro i h1 h2
  rw [BitVec.getLsbD_shiftLeft, BitVec.getLsbD_setWidth]
  simp [show 8 ≤ i - (24 - k) by omega, BitVec.getLsbD_of_ge]
theorem four_parts (s : BitVec 32) : s = ((byteAt s 24).toBitVec.setWidth 32 <<< 24) ^^^ ((byteAt s 16).toBitVec.setWidth 32 <<< 16) ^^^ ((byteAt s 8).toBitVec.setWidth 32 <<< 8) ^^^ ((byteAt s 0).toBitVec.setWidth 32 <<< 0) := by
  apply BitVec.eq_of_getLsbD_eq
  intro i hi
  simp only [byteAt, BitVec.getLsbD_xor, BitVec.getLsbD_shiftLeft, BitVec.getLsbD_setWidth, BitVec.getLsbD_ushiftRight, hi, decide_true, Bool.true_and]
  rcases Nat.lt_or_ge i 8 with h | h
  · simp [show i < 24 by omega, show i < 16 by omega, h, hi]
  · rcases Nat.lt_or_ge i 16 with h' | h'
    · simp [show i < 24 by omega, h', show ¬ i < 8 by omega, show i - 8 < 32 by omega, show i - 8 < 8 by omega, show 8 + (i - 8) = i by omega]
    · rcases Nat.lt_or_ge i 24 with h'' | h''
      · simp [h'', show ¬ i < 16 by omega, show ¬ i < 8 by omega, show i - 16 < 32 by omega, show i - 16 < 8 by omega, show 16 + (i - 16) = i by omega, show ¬ i - 8 < 8 by omega]
      · simp [show ¬ i < 24 by omega, show ¬ i < 16 by omega, show ¬ i < 8 by omega, show i - 24 < 32 by omega, show i - 24 < 8 by omega, show 24 + (i - 24) = i by omega, show ¬ i - 8 < 8 by omega, show ¬ i - 16 < 8 by omega]
theorem feed_zero_sumB (s : BitVec 32) : feed 0#32 (sumB s) = shn 32 s := by
  have e : feed 0#32 (sumB s) = shn 32 (top (byteAt s 24)) ^^^ shn 24 (top (byteAt s 16)) ^^^ shn 16 (top (byteAt s 8)) ^^^ shn 8 (top (byteAt s 0)) := by
    show feedB (feedB (feedB (feedB 0#32 (byteAt s 24)) (byteAt s 16)) (byteAt s 8)) (byteAt s 0) = _
    unfold feedB
    simp only [BitVec.zero_xor, shn_xor, ← shn_add]
  have h24 := shn_up (byteAt s 24) 0 (by omega)
  have h16 := shn_up (byteAt s 16) 8 (by omega)
  have h8 := shn_up (byteAt s 8) 16 (by omega)
  have h0 := shn_up (byteAt s 0) 24 (by omega)
  simp only [Nat.sub_zero, Nat.sub_self, show 24 - 8 = 16 from rfl, show 24 - 16 = 8 from rfl] at h24 h16 h8 h0
  rw [e]
  conv => rhs; rw [four_parts s]
  simp only [shn_xor]
  rw [← h24, ← h16, ← h8, ← h0, ← shn_add, ← shn_add, ← shn_add, ← shn_add]
theorem feed_zero (x : BitVec 32) (l : List UInt8) : feed x l = feed 0#32 l ^^^ shn (8 * l.length) x := by
  have h := feed_xor l 0#32 x
  rwa [BitVec.zero_xor] at h
theorem feed_sumB (x s : BitVec 32) : feed x (sumB s) = shn 32 (s ^^^ x) := by
  rw [feed_zero, feed_zero_sumB, sumB_length, shn_xor]
/-- What is sealed leaves one register. -/
theorem feed_mark (l : List UInt8) : feed ones (markL l) = shn 32 ones := by
  unfold markL moreV
  rw [feed_append, feed_sumB, BitVec.zero_xor, BitVec.xor_comm (feed ones l) ones, BitVec.xor_assoc, BitVec.xor_self, BitVec.xor_zero]
theorem feed_sealed {l : List UInt8} (h : markL (l.take (l.length - 4)) = l) : feed ones l = shn 32 ones := by
  rw [← h]
  exact feed_mark _
theorem take_mark (l : List UInt8) : (markL l).take ((markL l).length - 4) = l := by
  rw [markL_length, Nat.add_sub_cancel]
  simp [markL]
theorem feedB_turn (x : BitVec 32) (c d : UInt8) : feedB x (c ^^^ d) = feedB x c ^^^ shn 8 (top d) := by
  unfold feedB
  rw [top_xor, ← shn_xor, BitVec.xor_assoc]
theorem set_split (l : List UInt8) (q : Nat) (v : UInt8) (h : q < l.length) : l.set q v = l.take q ++ v :: l.drop (q + 1) := List.set_eq_take_append_cons_drop.trans (by rw [if_pos h])
theorem get_split (l : List UInt8) (q : Nat) (h : q < l.length) : l = l.take q ++ l.getD q 0 :: l.drop (q + 1) := by
  have e : l.getD q 0 = l[q] := by simp [List.getD, h]
  rw [e]
  simp
/-- One byte turned. -/
theorem feed_turn (x : BitVec 32) (l : List UInt8) (q : Nat) (d : UInt8) (h : q < l.length) : feed x (l.set q (l.getD q 0 ^^^ d)) = feed x l ^^^ shn (8 * (l.length - q)) (top d) := by
  rw [set_split l q _ h]
  conv => rhs; lhs; rw [get_split l q h]
  rw [feed_append, feed_append, feed_cons, feed_cons, feedB_turn, feed_xor, List.length_drop, ← shn_add, show 8 + 8 * (l.length - (q + 1)) = 8 * (l.length - q) by omega]
/-- The turn of one bit. -/
def turnB (t : BitVec 32) (i k : Nat) : UInt8 := UInt8.ofNat (t.toNat / 2 ^ i % 2 * 2 ^ (7 - k % 8))
theorem shn_one (k j : Nat) (h : k + j ≤ 31) : shn k (1#32 <<< j) = 1#32 <<< (j + k) := by
  rw [shn_low k _ (by omega), ← BitVec.shiftLeft_add]
  intro i h1 h2
  rw [BitVec.getLsbD_shiftLeft]
  simp
  omega
theorem top_bit (r : Nat) (h : r < 8) : top (UInt8.ofNat (2 ^ (7 - r))) = 1#32 <<< (31 - r) := by
  have : ∀ r : Fin 8, top (UInt8.ofNat (2 ^ (7 - r.val))) = 1#32 <<< (31 - r.val) := by decide
  exact this ⟨r, h⟩
theorem bit_of (t : BitVec 32) (i : Nat) : t.getLsbD i = decide (t.toNat / 2 ^ i % 2 = 1) := by
  rw [BitVec.getLsbD, Nat.testBit_eq_decide_div_mod_eq]
/-- The bits turned so far, the first at the top. -/
def mask (t : BitVec 32) : Nat → BitVec 32
  | 0 => 0#32
  | i + 1 => mask t i ^^^ (if t.getLsbD i then 1#32 <<< (31 - i) else 0#32)
def turned (t : BitVec 32) (first : Nat) (l : List UInt8) : Nat → List UInt8
  | 0 => l
  | i + 1 => (turned t first l i).set ((first + i) / 8) ((turned t first l i).getD ((first + i) / 8) 0 ^^^ turnB t i (first + i))
theorem turned_length (t : BitVec 32) (first : Nat) (l : List UInt8) (i : Nat) : (turned t first l i).length = l.length := by
  induction i with
  | zero => rfl
  | succ i ih => simp [turned, ih]
theorem turn_bit (t : BitVec 32) (i k N first : Nat) (hi : i < 32) (hk : k = first + i) (hN : first + 32 ≤ 8 * N) : shn (8 * (N - k / 8)) (top (turnB t i k)) = shn (8 * N - first) (if t.getLsbD i then 1#32 <<< (31 - i) else 0#32) := by
  rw [bit_of]
  unfold turnB
  rcases Nat.mod_two_eq_zero_or_one (t.toNat / 2 ^ i) with h | h
  · rw [h, Nat.zero_mul]
    simp only [Nat.zero_ne_one, decide_false, Bool.false_eq_true, if_false]
    rw [show top (UInt8.ofNat 0) = 0#32 from rfl, shn_zero, shn_zero]
  · rw [h, Nat.one_mul, top_bit _ (Nat.mod_lt _ (by omega))]
    simp only [decide_true, if_true]
    have e1 : shn (8 * (N - k / 8)) (1#32 <<< (31 - k % 8)) = shn (8 * N - k) (1#32 <<< 31) := by
      rw [show 8 * (N - k / 8) = k % 8 + (8 * N - k) by omega, shn_add, shn_one _ _ (by omega), show 31 - k % 8 + k % 8 = 31 by omega]
    have e2 : shn (8 * N - first) (1#32 <<< (31 - i)) = shn (8 * N - k) (1#32 <<< 31) := by
      rw [show 8 * N - first = i + (8 * N - k) by omega, shn_add, shn_one _ _ (by omega), show 31 - i + i = 31 by omega]
    rw [e1, e2]
theorem feed_turned (x t : BitVec 32) (first : Nat) (l : List UInt8) (hN : first + 32 ≤ 8 * l.length) : ∀ i, i ≤ 32 → feed x (turned t first l i) = feed x l ^^^ shn (8 * l.length - first) (mask t i) := by
  intro i
  induction i with
  | zero => intro _; show feed x l = _ ^^^ shn _ 0#32; rw [shn_zero, BitVec.xor_zero]
  | succ i ih =>
    intro hi
    have hl := turned_length t first l i
    show feed x ((turned t first l i).set _ _) = _
    rw [feed_turn _ _ _ _ (by omega), ih (by omega), hl, turn_bit t i (first + i) l.length first (by omega) rfl hN]
    show _ = feed x l ^^^ shn _ (mask t i ^^^ _)
    rw [shn_xor, BitVec.xor_assoc]
theorem mask_bit (t : BitVec 32) (i : Nat) (hi : i ≤ 32) (j : Nat) (hj : j < 32) : (mask t i).getLsbD (31 - j) = (decide (j < i) && t.getLsbD j) := by
  induction i with
  | zero => simp [mask]
  | succ i ih =>
    show (mask t i ^^^ _).getLsbD (31 - j) = _
    rw [BitVec.getLsbD_xor, ih (by omega)]
    rcases Nat.lt_trichotomy j i with h | h | h
    · have e : (if t.getLsbD i then 1#32 <<< (31 - i) else 0#32).getLsbD (31 - j) = false := by
        split
        · simp [BitVec.getLsbD_shiftLeft]; omega
        · simp
      rw [e]
      simp [h, show j < i + 1 by omega]
    · subst h
      cases h : t.getLsbD j
      · simp
      · simp
        omega
    · have e : (if t.getLsbD i then 1#32 <<< (31 - i) else 0#32).getLsbD (31 - j) = false := by
        split
        · simp [BitVec.getLsbD_shiftLeft]; omega
        · simp
      rw [e]
      simp [show ¬ j < i by omega, show ¬ j < i + 1 by omega]
theorem mask_zero {t : BitVec 32} (h : mask t 32 = 0#32) : t = 0#32 := by
  apply BitVec.eq_of_getLsbD_eq
  intro j hj
  have := mask_bit t 32 (Nat.le_refl _) j hj
  rw [h] at this
  simpa [hj] using this.symm
/-- THE STAGE'S THEOREM, in rows of bytes: of what is sealed, with bits within 32 in a row turned, nothing is sealed. -/
theorem turned_found (b : List UInt8) (t : BitVec 32) (first : Nat) (hN : first + 32 ≤ 8 * (markL b).length) (ht : t ≠ 0#32) :
    markL ((turned t first (markL b) 32).take ((turned t first (markL b) 32).length - 4)) ≠ turned t first (markL b) 32 := by
  intro h
  have h1 := feed_sealed h
  rw [feed_turned ones t first (markL b) hN 32 (Nat.le_refl _), feed_mark] at h1
  have h2 : shn (8 * (markL b).length - first) (mask t 32) = 0#32 := by
    have h3 := congrArg (fun v => shn 32 ones ^^^ v) h1
    simpa [← BitVec.xor_assoc] using h3
  exact ht (mask_zero (shn_zero_inv _ h2))
theorem turned_none (first : Nat) (l : List UInt8) (i : Nat) : turned 0#32 first l i = l := by
  induction i with
  | zero => rfl
  | succ i ih =>
    show (turned 0#32 first l i).set _ _ = _
    rw [ih]
    have e : turnB 0#32 i (first + i) = 0 := by simp [turnB]
    rw [e]
    by_cases h : (first + i) / 8 < l.length
    · simp [List.getD, h]
    · rw [List.set_eq_of_length_le (by omega)]
end Go.Proofs.YtbmhgmigcgeooaaDoor
