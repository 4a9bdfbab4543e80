/- Floats, texts: their forms stand in their order. -/
import Derived.Test.YtgchgccfngiafaaM4
import Derived.Test.YtgchgccfngiafaaF2
namespace Go.Proofs.Ytgchgccfngiafaa
open Go.RowKit
theorem float_cases (x : Nat) (hx : x < 18446744073709551616) :
    (rankOf (canonF x) = 18446744073709551615 ∧ canonF x = 9221120237041090561) ∨ (rankOf (canonF x) = (placeF x : Int) ∧ canonF x = x ∧ placeF x ≤ 18442240474082181120) := by
  by_cases h : isNaNF x = true
  · left
    have e : canonF x = 9221120237041090561 := by unfold canonF; rw [if_pos h]
    rw [e]
    exact ⟨by decide +kernel, rfl⟩
  · right
    have e : canonF x = x := by unfold canonF; rw [if_neg h]
    have s := self_any x hx
    rw [e]
    refine ⟨?_, rfl, ?_⟩
    · unfold rankOf placeF
      rw [if_neg (by rw [s]; exact h)]
      split <;> omega
    · have h' : ¬ 9218868437227405312 < x % 9223372036854775808 := by unfold isNaNF at h; simpa using h
      unfold placeF
      split <;> omega
theorem place_inj (x y : Nat) (hx : x < 18446744073709551616) (hy : y < 18446744073709551616) (h : placeF x = placeF y) : x = y := by
  unfold placeF at h
  split at h <;> split at h <;> omega
theorem place_nan : placeF 9221120237041090561 = 18444492273895866369 := by decide
theorem stands_float (x y : Nat) (hx : x < 18446744073709551616) (hy : y < 18446744073709551616) : Stands (cmpI (rankOf (canonF x)) (rankOf (canonF y))) (encFloat (canonF x)) (encFloat (canonF y)) := by
  have lx := placeF_lt x hx
  have ly := placeF_lt y hy
  have pn := place_nan
  refine Stands.mk' encFloat (fun a b => placeF a < placeF b ∧ placeF b < 2 ^ 64) (fun a b h p q => encFloat_lt a b h.1 h.2 p q) (canonF x) (canonF y) _ ?_
  have hc := cmpI_cases (rankOf (canonF x)) (rankOf (canonF y))
  generalize cmpI (rankOf (canonF x)) (rankOf (canonF y)) = c at *
  rcases float_cases x hx with ⟨r1, c1⟩ | ⟨r1, c1, b1⟩ <;> rcases float_cases y hy with ⟨r2, c2⟩ | ⟨r2, c2, b2⟩ <;> rw [r1, r2] at hc <;> rw [c1, c2]
  · refine .inr (.inl ⟨by omega, rfl⟩)
  · refine .inr (.inr ⟨by omega, ?_, ?_⟩) <;> rw [pn] <;> omega
  · refine .inl ⟨by omega, ?_, ?_⟩ <;> rw [pn] <;> omega
  · rcases hc with ⟨h1, h2⟩ | ⟨h1, h2⟩ | ⟨h1, h2⟩
    · exact .inl ⟨h1, by omega, ly⟩
    · exact .inr (.inl ⟨h1, place_inj x y hx hy (by omega)⟩)
    · exact .inr (.inr ⟨h1, by omega, lx⟩)
theorem stands_num (x y : Nat) (hx : x < 2 ^ 64) (hy : y < 2 ^ 64) : Stands (cmpI x y) (encNum x) (encNum y) := by
  refine Stands.mk' encNum (fun a b => a < b ∧ b < 2 ^ 64) (fun a b h p q => encNum_lt a b h.1 h.2 p q) x y _ ?_
  rcases cmpI_cases x y with ⟨h1, h2⟩ | ⟨h1, h2⟩ | ⟨h1, h2⟩
  · exact .inl ⟨h1, by omega, hy⟩
  · exact .inr (.inl ⟨h1, by omega⟩)
  · exact .inr (.inr ⟨h1, by omega, hx⟩)
theorem stands_int (x y : Int) (hx : fits x) (hy : fits y) : Stands (cmpI x y) (encInt x) (encInt y) := by
  refine Stands.mk' encInt (fun a b => a < b ∧ fits a ∧ fits b) (fun a b h p q => encInt_lt a b h.1 h.2.1 h.2.2 p q) x y _ ?_
  rcases cmpI_cases x y with ⟨h1, h2⟩ | ⟨h1, h2⟩ | ⟨h1, h2⟩
  · exact .inl ⟨h1, h2, hx, hy⟩
  · exact .inr (.inl ⟨h1, h2⟩)
  · exact .inr (.inr ⟨h1, h2, hy, hx⟩)
theorem cb_range (a b : List UInt8) : Lib.compareBytes a b = -1 ∨ Lib.compareBytes a b = 0 ∨ Lib.compareBytes a b = 1 := by
  induction a generalizing b with
  | nil => cases b <;> simp [Lib.compareBytes]
  | cons x a ih =>
    cases b with
    | nil => simp [Lib.compareBytes]
    | cons y b =>
      unfold Lib.compareBytes
      split
      · simp
      · split
        · simp
        · exact ih b
theorem cb_zero (a b : List UInt8) (h : Lib.compareBytes a b = 0) : a = b := by
  induction a generalizing b with
  | nil => cases b with
    | nil => rfl
    | cons y b => simp [Lib.compareBytes] at h
  | cons x a ih =>
    cases b with
    | nil => simp [Lib.compareBytes] at h
    | cons y b =>
      unfold Lib.compareBytes at h
      split at h
      · cases h
      · split at h
        · cases h
        · rename_i h1 h2
          have e : x = y := by
            have a1 : ¬ x.toNat < y.toNat := fun h => h1 (u8_lt.2 h)
            have a2 : ¬ y.toNat < x.toNat := fun h => h2 (u8_lt.2 h)
            exact UInt8.toNat_inj.1 (by omega)
          rw [e, ih b h]
theorem stands_text (x y : List UInt8) : Stands (Lib.compareBytes x y) (encText x) (encText y) := by
  refine Stands.mk' encText (fun a b => Lib.compareBytes a b = -1) (fun a b h p q => encText_lt a b h p q) x y _ ?_
  rcases cb_range x y with h | h | h
  · exact .inl ⟨h, h⟩
  · exact .inr (.inl ⟨h, cb_zero x y h⟩)
  · exact .inr (.inr ⟨h, by rw [cb_anti, h]⟩)
end Go.Proofs.Ytgchgccfngiafaa
