/- The register of 32 bits, its steps, feeding bytes, linearity; what bits within 32 in a row do. -/
import Derived.Lib.Hide
namespace Go.Proofs.YtbmhgmigcgeooaaDoor
def poly : BitVec 32 := 0x04c11db7#32
/-- One step of one bit. -/
def sh1 (x : BitVec 32) : BitVec 32 := x <<< 1 ^^^ (if x.msb then poly else 0#32)
def shn : Nat → BitVec 32 → BitVec 32
  | 0, x => x
  | n + 1, x => shn n (sh1 x)
theorem sh1_xor (x y : BitVec 32) : sh1 (x ^^^ y) = sh1 x ^^^ sh1 y := by
  unfold sh1
  rw [BitVec.msb_xor, BitVec.shiftLeft_xor_distrib]
  cases x.msb <;> cases y.msb <;> simp [BitVec.xor_assoc]
  · rw [BitVec.xor_comm poly]
  · rw [BitVec.xor_comm (y <<< 1) poly, ← BitVec.xor_assoc poly, BitVec.xor_self, BitVec.zero_xor]
theorem shn_xor (n : Nat) : ∀ x y : BitVec 32, shn n (x ^^^ y) = shn n x ^^^ shn n y := by
  induction n with
  | zero => intro x y; rfl
  | succ n ih => intro x y; show shn n _ = _; rw [sh1_xor, ih]; rfl
theorem shn_add (n : Nat) : ∀ (m : Nat) (x : BitVec 32), shn (m + n) x = shn n (shn m x) := by
  intro m
  induction m with
  | zero => intro x; rw [Nat.zero_add]; rfl
  | succ m ih => intro x; rw [show m + 1 + n = (m + n) + 1 by omega]; show shn (m + n) (sh1 x) = _; rw [ih]; rfl
theorem shn_zero (n : Nat) : shn n 0#32 = 0#32 := by
  induction n with
  | zero => rfl
  | succ n ih => show shn n (sh1 0#32) = _; rw [show sh1 0#32 = 0#32 by decide]; exact ih
theorem sh1_zero {x : BitVec 32} (h : sh1 x = 0#32) : x = 0#32 := by
  unfold sh1 at h
  cases hm : x.msb
  · rw [hm] at h
    simp only [Bool.false_eq_true, if_false, BitVec.xor_zero] at h
    apply BitVec.eq_of_getLsbD_eq
    intro i hi
    rcases Nat.lt_or_ge i 31 with h1 | h1
    · have := congrArg (fun v => v.getLsbD (i + 1)) h
      simp only [BitVec.getLsbD_shiftLeft, show i + 1 < 32 by omega, decide_true, Bool.true_and, show ¬ i + 1 < 1 by omega, decide_false, Bool.not_false, Nat.add_sub_cancel] at this
      rw [this]
      simp
    · obtain rfl : i = 31 := by omega
      rw [BitVec.msb_eq_getLsbD_last] at hm
      simpa using hm
  · rw [hm] at h
    have := congrArg (fun v => v.getLsbD 0) h
    simp [poly] at this
theorem shn_zero_inv (n : Nat) : ∀ {x : BitVec 32}, shn n x = 0#32 → x = 0#32 := by
  induction n with
  | zero => intro x h; exact h
  | succ n ih => intro x h; exact sh1_zero (ih h)
/-- As long as no bit falls out, a step is a shift. -/
theorem sh1_low {x : BitVec 32} (h : x.msb = false) : sh1 x = x <<< 1 := by unfold sh1; rw [h]; simp
theorem shn_low : ∀ (n : Nat) (x : BitVec 32), n ≤ 32 → (∀ i, 32 - n ≤ i → i < 32 → x.getLsbD i = false) → shn n x = x <<< n := by
  intro n
  induction n with
  | zero => intro x _ _; simp [shn]
  | succ n ih =>
    intro x hn h
    show shn n (sh1 x) = _
    rw [sh1_low (by rw [BitVec.msb_eq_getLsbD_last]; exact h 31 (by omega) (by omega)), ih _ (by omega), ← BitVec.shiftLeft_add, Nat.add_comm]
    intro i h1 h2
    rw [BitVec.getLsbD_shiftLeft]
    simp only [h2, decide_true, Bool.true_and]
    rcases Nat.eq_zero_or_pos i with rfl | h0
    · simp
    · rw [h (i - 1) (by omega) (by omega)]; simp
/-- The table of four steps. -/
def tab : List Nat := [0x00000000, 0x04c11db7, 0x09823b6e, 0x0d4326d9, 0x130476dc, 0x17c56b6b, 0x1a864db2, 0x1e475005, 0x2608edb8, 0x22c9f00f, 0x2f8ad6d6, 0x2b4bcb61, 0x350c9b64, 0x31cd86d3, 0x3c8ea00a, 0x384fbdbd]
theorem tab_steps : ∀ k : Fin 16, shn 4 (BitVec.ofNat 32 k.val <<< 28) = BitVec.ofNat 32 (tab.getD k.val 0) := by decide
theorem parts (x : BitVec 32) : x = (x <<< 4 >>> 4) ^^^ (x >>> 28 <<< 28) := by
  apply BitVec.eq_of_getLsbD_eq
  intro i hi
  simp only [BitVec.getLsbD_xor, BitVec.getLsbD_shiftLeft, BitVec.getLsbD_ushiftRight]
  by_cases h : i < 28
  · simp [h, show 4 + i < 32 by omega, hi]
  · simp [h, hi, show ¬ (4 + i < 32) by omega, show 28 + (i - 28) = i by omega]
theorem four (x : BitVec 32) : shn 4 x = x <<< 4 ^^^ BitVec.ofNat 32 (tab.getD (x.toNat / 2 ^ 28) 0) := by
  have hk : x.toNat / 2 ^ 28 < 16 := by have := x.isLt; omega
  have e1 : x >>> 28 = BitVec.ofNat 32 (x.toNat / 2 ^ 28) := by
    apply BitVec.eq_of_toNat_eq
    rw [BitVec.toNat_ushiftRight, BitVec.toNat_ofNat, Nat.shiftRight_eq_div_pow]
    have := x.isLt
    omega
  have e2 : shn 4 (x >>> 28 <<< 28) = BitVec.ofNat 32 (tab.getD (x.toNat / 2 ^ 28) 0) := by
    rw [e1]
    exact tab_steps ⟨_, hk⟩
  have e3 : shn 4 (x <<< 4 >>> 4) = x <<< 4 := by
    rw [shn_low 4 _ (by omega)]
    · apply BitVec.eq_of_getLsbD_eq
      intro i hi
      simp only [BitVec.getLsbD_shiftLeft, BitVec.getLsbD_ushiftRight]
      by_cases h : i < 4
      · simp [h]
      · simp [h, hi, show 4 + (i - 4) = i by omega]
    · intro i h1 h2
      simp only [BitVec.getLsbD_shiftLeft, BitVec.getLsbD_ushiftRight]
      simp [show ¬ (4 + i < 32) by omega]
  conv => lhs; rw [parts x]
  rw [shn_xor, e2, e3]
/-- A byte at the top. -/
def top (c : UInt8) : BitVec 32 := BitVec.ofNat 32 (c.toNat * 2 ^ 24)
def feedB (x : BitVec 32) (c : UInt8) : BitVec 32 := shn 8 (x ^^^ top c)
def feed (x : BitVec 32) (l : List UInt8) : BitVec 32 := l.foldl feedB x
theorem feed_append (x : BitVec 32) (a b : List UInt8) : feed x (a ++ b) = feed (feed x a) b := List.foldl_append
theorem feed_cons (x : BitVec 32) (c : UInt8) (l : List UInt8) : feed x (c :: l) = feed (feedB x c) l := rfl
theorem feedB_xor (x y : BitVec 32) (c : UInt8) : feedB (x ^^^ y) c = feedB x c ^^^ shn 8 y := by
  unfold feedB
  rw [← shn_xor, BitVec.xor_assoc, BitVec.xor_assoc, BitVec.xor_comm y]
theorem feed_xor (l : List UInt8) : ∀ x y : BitVec 32, feed (x ^^^ y) l = feed x l ^^^ shn (8 * l.length) y := by
  induction l with
  | nil => intro x y; rfl
  | cons c l ih =>
    intro x y
    rw [feed_cons, feedB_xor, ih, feed_cons, List.length_cons, show 8 * (l.length + 1) = 8 + 8 * l.length by omega, shn_add]
abbrev ones : BitVec 32 := 0xffffffff#32
/-- The checksum behind a checksum. -/
def moreV (s : BitVec 32) (l : List UInt8) : BitVec 32 := feed (s ^^^ ones) l ^^^ ones
theorem xor_ones_twice (x : BitVec 32) : x ^^^ ones ^^^ ones = x := by rw [BitVec.xor_assoc, BitVec.xor_self, BitVec.xor_zero]
theorem more_append (s : BitVec 32) (a b : List UInt8) : moreV (moreV s a) b = moreV s (a ++ b) := by
  unfold moreV
  rw [xor_ones_twice, feed_append]
theorem more_nil (s : BitVec 32) : moreV s [] = s := xor_ones_twice s
end Go.Proofs.YtbmhgmigcgeooaaDoor
