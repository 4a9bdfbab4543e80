/- Forms stand in the order of what they say: plain arithmetic. -/
import Derived.Test.YtgchgccfngiafaaM3
import Derived.Test.YtgchgccfngiafaaB21
namespace Go.Proofs.Ytgchgccfngiafaa
open Lib (compareBytes)
theorem cb_self (a : List UInt8) : compareBytes a a = 0 := by
  induction a with
  | nil => rfl
  | cons x a ih => simp [compareBytes, UInt8.lt_irrefl, ih]
/-- The same beginning does not matter. -/
theorem cb_same (p a b : List UInt8) : compareBytes (p ++ a) (p ++ b) = compareBytes a b := by
  induction p with
  | nil => rfl
  | cons x p ih => simp [compareBytes, UInt8.lt_irrefl, ih]
theorem u8_lt {a b : UInt8} : a < b ↔ a.toNat < b.toNat := UInt8.lt_iff_toNat_lt
/-- Of two rows of digits that are as long, the first that differs decides; and what stands behind does not matter then. -/
theorem cb_val : ∀ (a b p q : List UInt8), a.length = b.length → val a < val b → compareBytes (a ++ p) (b ++ q) = -1
  | [], [], _, _, _, h => absurd h (Nat.lt_irrefl _)
  | [], _ :: _, _, _, h, _ => by simp at h
  | _ :: _, [], _, _, h, _ => by simp at h
  | x :: a, y :: b, p, q, hl, h => by
    simp only [List.length_cons, Nat.add_right_cancel_iff] at hl
    have ha := val_lt a
    have hb := val_lt b
    simp only [val, hl] at h ha
    by_cases h1 : x.toNat < y.toNat
    · simp [compareBytes, u8_lt.2 h1]
    · by_cases h2 : y.toNat < x.toNat
      · exfalso
        have := Nat.mul_le_mul_right (256 ^ b.length) (show y.toNat + 1 ≤ x.toNat from h2)
        rw [Nat.add_mul, Nat.one_mul] at this
        omega
      · have e : x.toNat = y.toNat := by omega
        have exy : x = y := UInt8.toNat_inj.1 e
        subst exy
        have hv : val a < val b := by omega
        have ih := cb_val a b p q hl hv
        simp [compareBytes, UInt8.lt_irrefl, ih]
theorem cb_head (x y : UInt8) (a b : List UInt8) (h : x.toNat < y.toNat) : compareBytes (x :: a) (y :: b) = -1 := by simp [compareBytes, u8_lt.2 h]
theorem cb_anti : ∀ (a b : List UInt8), compareBytes b a = - compareBytes a b
  | [], [] => rfl
  | [], _ :: _ => rfl
  | _ :: _, [] => rfl
  | x :: a, y :: b => by
    have ih := cb_anti a b
    unfold compareBytes
    by_cases h1 : x < y
    · have h2 : ¬ y < x := by rw [u8_lt] at h1 ⊢; omega
      rw [if_pos h1, if_neg h2, if_pos h1]; rfl
    · by_cases h2 : y < x
      · rw [if_pos h2, if_neg h1, if_pos h2]
      · rw [if_neg h2, if_neg h1, if_neg h1, if_neg h2, ih]
/-- Two forms, and what they say, in their order: whatever stands behind. -/
def Stands (c : Int) (a b : List UInt8) : Prop := compareBytes a b = c ∧ (c = 0 ∨ ∀ p q, compareBytes (a ++ p) (b ++ q) = c)
theorem Stands.of_lt {a b : List UInt8} (h : ∀ p q, compareBytes (a ++ p) (b ++ q) = -1) : Stands (-1) a b := ⟨by simpa using h [] [], .inr h⟩
theorem Stands.of_gt {a b : List UInt8} (h : ∀ p q, compareBytes (b ++ q) (a ++ p) = -1) : Stands 1 a b := by
  have h' : ∀ p q, compareBytes (a ++ p) (b ++ q) = 1 := fun p q => by rw [cb_anti, h]; rfl
  exact ⟨by simpa using h' [] [], .inr h'⟩
theorem Stands.refl (a : List UInt8) : Stands 0 a a := ⟨cb_self a, .inl rfl⟩
/-- What ascends stands so. -/
theorem Stands.mk' {α : Type} (enc : α → List UInt8) (lt : α → α → Prop) (H : ∀ x y, lt x y → ∀ p q, compareBytes (enc x ++ p) (enc y ++ q) = -1) (x y : α) (c : Int)
    (hc : (c = -1 ∧ lt x y) ∨ (c = 0 ∧ x = y) ∨ (c = 1 ∧ lt y x)) : Stands c (enc x) (enc y) := by
  rcases hc with ⟨rfl, h⟩ | ⟨rfl, rfl⟩ | ⟨rfl, h⟩
  · exact .of_lt (H x y h)
  · exact .refl _
  · exact .of_gt (fun p q => H y x h q p)
theorem cmpI_cases (a b : Int) : (cmpI a b = -1 ∧ a < b) ∨ (cmpI a b = 0 ∧ a = b) ∨ (cmpI a b = 1 ∧ b < a) := by
  unfold cmpI
  rcases Int.lt_trichotomy a b with h | h | h
  · exact .inl ⟨if_pos h, h⟩
  · exact .inr (.inl ⟨(if_neg (by omega)).trans (if_neg (by omega)), h⟩)
  · exact .inr (.inr ⟨(if_neg (by omega)).trans (if_pos h), h⟩)
theorem nlen_mono (a b : Nat) (h : a ≤ b) (hb : b < 2 ^ 64) : nlen a ≤ nlen b := (nlen_le (nlen b) a (by omega)).2 (Nat.lt_of_le_of_lt h (nlen_lt b hb))
theorem val_digs_lt (n k : Nat) (h : n < 256 ^ k) : val (digs n k) = n := by rw [val_digs, Nat.mod_eq_of_lt h]
theorem encNum_lt (a b : Nat) (h : a < b) (hb : b < 2 ^ 64) (p q : List UInt8) : compareBytes (encNum a ++ p) (encNum b ++ q) = -1 := by
  have h1 := nlen_mono a b (by omega) hb
  have h8 := nlen_8 b hb
  unfold encNum
  rcases Nat.lt_or_ge (nlen a) (nlen b) with hl | hl
  · exact cb_head _ _ _ _ (by rw [byte_ofNat, byte_ofNat]; omega)
  · have e : nlen a = nlen b := by omega
    rw [e]
    show compareBytes ([UInt8.ofNat (nlen b)] ++ digs a (nlen b) ++ p) ([UInt8.ofNat (nlen b)] ++ digs b (nlen b) ++ q) = -1
    rw [List.append_assoc, List.append_assoc, cb_same]
    refine cb_val _ _ _ _ (by rw [digs_length, digs_length]) ?_
    rw [val_digs_lt a _ (by rw [← e]; exact nlen_lt a (by omega)), val_digs_lt b _ (nlen_lt b hb)]
    exact h
theorem encInt_lt (a b : Int) (h : a < b) (ha : fits a) (hb : fits b) (p q : List UInt8) : compareBytes (encInt a ++ p) (encInt b ++ q) = -1 := by
  unfold fits at ha hb
  by_cases h0 : 0 ≤ a
  · obtain ⟨m, rfl⟩ := Int.eq_ofNat_of_zero_le h0
    obtain ⟨n, rfl⟩ := Int.eq_ofNat_of_zero_le (show 0 ≤ b by omega)
    have h1 := nlen_mono m n (by omega) (by omega)
    have h8 := nlen_8 n (by omega)
    rw [encInt_pos, encInt_pos]
    rcases Nat.lt_or_ge (nlen m) (nlen n) with hl | hl
    · exact cb_head _ _ _ _ (by rw [byte_ofNat, byte_ofNat]; omega)
    · have e : nlen m = nlen n := by omega
      rw [e]
      show compareBytes ([UInt8.ofNat (16 + nlen n)] ++ digs m (nlen n) ++ p) ([UInt8.ofNat (16 + nlen n)] ++ digs n (nlen n) ++ q) = -1
      rw [List.append_assoc, List.append_assoc, cb_same]
      refine cb_val _ _ _ _ (by rw [digs_length, digs_length]) ?_
      rw [val_digs_lt m _ (by rw [← e]; exact nlen_lt m (by omega)), val_digs_lt n _ (nlen_lt n (by omega))]
      omega
  · obtain ⟨m, rfl⟩ : ∃ m : Nat, a = -(m : Int) - 1 := ⟨(-a - 1).toNat, by omega⟩
    have hm8 := nlen_8 m (by omega)
    rw [encInt_neg]
    by_cases h1 : 0 ≤ b
    · obtain ⟨n, rfl⟩ := Int.eq_ofNat_of_zero_le h1
      have hn8 := nlen_8 n (by omega)
      rw [encInt_pos]
      exact cb_head _ _ _ _ (by rw [byte_ofNat, byte_ofNat]; omega)
    · obtain ⟨n, rfl⟩ : ∃ n : Nat, b = -(n : Int) - 1 := ⟨(-b - 1).toNat, by omega⟩
      have hn8 := nlen_8 n (by omega)
      have h2 := nlen_mono n m (by omega) (by omega)
      rw [encInt_neg]
      rcases Nat.lt_or_ge (nlen n) (nlen m) with hl | hl
      · exact cb_head _ _ _ _ (by rw [byte_ofNat, byte_ofNat]; omega)
      · have e : nlen m = nlen n := by omega
        rw [e]
        show compareBytes ([UInt8.ofNat (15 - nlen n)] ++ flip8 (digs m (nlen n)) ++ p) ([UInt8.ofNat (15 - nlen n)] ++ flip8 (digs n (nlen n)) ++ q) = -1
        rw [List.append_assoc, List.append_assoc, cb_same]
        refine cb_val _ _ _ _ (by rw [flip8_length, flip8_length, digs_length, digs_length]) ?_
        have hm := nlen_lt m (by omega)
        have hn := nlen_lt n (by omega)
        rw [e] at hm
        rw [val_flip8, val_flip8, digs_length, digs_length, val_digs_lt m _ hm, val_digs_lt n _ hn]
        omega
theorem encFloat_lt (a b : Nat) (h : placeF a < placeF b) (hb : placeF b < 2 ^ 64) (p q : List UInt8) : compareBytes (encFloat a ++ p) (encFloat b ++ q) = -1 := by
  unfold encFloat
  refine cb_val _ _ _ _ (by rw [digs_length, digs_length]) ?_
  rw [val_digs_lt _ 8 (by omega), val_digs_lt _ 8 (by omega)]
  exact h
/-- Strings: a byte 00 within has an ff behind it, the end another 00. -/
theorem encText_lt : ∀ (a b : List UInt8), compareBytes a b = -1 → ∀ p q, compareBytes (encText a ++ p) (encText b ++ q) = -1
  | [], [], h, _, _ => by simp [compareBytes] at h
  | _ :: _, [], h, _, _ => by simp [compareBytes] at h
  | [], y :: b, _, p, q => by
    by_cases hy : y = 0
    · subst hy
      simp [encText, escT, compareBytes, UInt8.lt_irrefl]
    · have : (0 : UInt8) < y := by
        rw [u8_lt]
        have : y.toNat ≠ 0 := fun e => hy (UInt8.toNat_inj.1 (by simpa using e))
        simp
        omega
      simp [encText, escT, hy, compareBytes, this]
  | x :: a, y :: b, h, p, q => by
    unfold compareBytes at h
    have esc : ∀ (z : UInt8) (l r : List UInt8), encText (z :: l) ++ r = (if z = 0 then [0, 255] else [z]) ++ (encText l ++ r) := by
      intro z l r
      by_cases hz : z = 0 <;> simp [encText, escT, hz]
    by_cases h1 : x < y
    · rw [esc, esc]
      by_cases hx : x = 0
      · subst hx
        have hy : y ≠ 0 := by rintro rfl; exact UInt8.lt_irrefl _ h1
        simp [hy, compareBytes, h1]
      · have hy : y ≠ 0 := by
          rintro rfl
          rw [u8_lt] at h1
          simp at h1
        simp [hx, hy, compareBytes, h1]
    · rw [if_neg h1] at h
      by_cases h2 : y < x
      · rw [if_pos h2] at h; cases h
      · rw [if_neg h2] at h
        have exy : x = y := UInt8.toNat_inj.1 (by rw [u8_lt] at h1 h2; omega)
        subst exy
        rw [esc, esc, cb_same]
        exact encText_lt a b h p q
end Go.Proofs.Ytgchgccfngiafaa
