/- What a reader's digits come to: plain arithmetic. -/
import Derived.Test.YtokgpifelinonaaM1
namespace Go.Proofs.Ytokgpifelinonaa
theorem val_snoc (l : List UInt8) (c : UInt8) : val (l ++ [c]) = val l * 256 + c.toNat := by
  induction l with
  | nil => simp [val]
  | cons a l ih =>
    simp only [List.cons_append, val, ih, List.length_append, List.length_cons, List.length_nil, Nat.pow_succ, Nat.add_mul]
    simp only [Nat.mul_assoc, Nat.add_assoc]
theorem val_append (a b : List UInt8) : val (a ++ b) = val a * 256 ^ b.length + val b := by
  induction a with
  | nil => simp [val]
  | cons x a ih =>
    simp only [List.cons_append, val, ih, List.length_append, Nat.pow_add, Nat.add_mul, Nat.mul_assoc, Nat.add_assoc]
/-- How many of count digits are there. -/
def thereN (count : Nat) (L : List UInt8) : Nat := min count L.length
/-- What the digits that are there say. -/
def nOf (count : Nat) (fl : UInt8 → UInt8) (L : List UInt8) : Nat := val ((L.take (thereN count L)).map fl)
def lowOf (count : Nat) (fl : UInt8 → UInt8) (L : List UInt8) : Nat := nOf count fl L * 256 ^ (count - thereN count L)
def highOf (count : Nat) (fl : UInt8 → UInt8) (L : List UInt8) : Nat := lowOf count fl L + (256 ^ (count - thereN count L) - 1)
/-- What is answered of digits: a number, and an error's number. -/
def digF (count : Nat) (fl : UInt8 → UInt8) (ok : Nat → Nat → Bool) (L : List UInt8) : Nat × Nat :=
  if ok (lowOf count fl L) (highOf count fl L) = false then (0, 5) else if L.length < count then (0, 4) else (nOf count fl L, 0)
theorem nOf_lt (count : Nat) (fl : UInt8 → UInt8) (L : List UInt8) : nOf count fl L < 256 ^ thereN count L := by
  have h := val_lt ((L.take (thereN count L)).map fl)
  simp only [List.length_map, List.length_take] at h
  rw [show min (thereN count L) L.length = thereN count L by unfold thereN; omega] at h
  exact h
theorem lowOf_le (count : Nat) (fl : UInt8 → UInt8) (L : List UInt8) : highOf count fl L < 256 ^ count := by
  have h := nOf_lt count fl L
  unfold highOf lowOf
  obtain ⟨d, hd⟩ : ∃ d, count = thereN count L + d := ⟨count - thereN count L, by unfold thereN; omega⟩
  have e : (256 : Nat) ^ count = 256 ^ thereN count L * 256 ^ d := by rw [← Nat.pow_add, ← hd]
  rw [show count - thereN count L = d by omega, e]
  have h1 : (nOf count fl L + 1) * 256 ^ d ≤ 256 ^ thereN count L * 256 ^ d := Nat.mul_le_mul_right _ h
  rw [Nat.add_mul, Nat.one_mul] at h1
  have := Nat.pow_pos (n := d) (show 0 < 256 by omega)
  omega
end Go.Proofs.Ytokgpifelinonaa
