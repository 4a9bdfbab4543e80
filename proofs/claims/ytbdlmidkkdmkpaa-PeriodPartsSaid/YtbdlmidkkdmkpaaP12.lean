/- Minus, both, for every two; Same. -/
import Derived.Test.YtbdlmidkkdmkpaaP11
namespace Go.Proofs.Ytbdlmidkkdmkpaa
open Go.RowKit
theorem minus_no {a b c d : Int} (h : mayB a b = false) : minusL a b c d = [] := by simp [minusL, h]
theorem minus_all {a b c d : Int} (h : mayB a b = true) (h2 : meetB a b c d = false) : minusL a b c d = [(a, b)] := by simp [minusL, h, h2]
theorem minus_two {a b c d : Int} (h2 : meetB a b c d = true) : minusL a b c d = (if a < c then [(a, c)] else []) ++ (if d < b then [(d, b)] else []) := by simp [minusL, minus_some h2, h2]
theorem Minus_any (a b c d : Int) (w : World) : Calls Try.prog 21 #[.agg #[.int .u64 a, .int .u64 b], .agg #[.int .u64 c, .int .u64 d]] w fun e w' => ∃ A k, e = .returned (.slice A (minusL a b c d).length k) ∧ AtP w' A (minusL a b c d) ∧ Below w.heap.size w w' := by
  cases h1 : mayB a b
  · rw [minus_no h1]
    exact (Minus_no a b c d w h1).mono fun e w' h => ⟨none, 0, h.1, fun h0 => absurd h0 (by simp), h.2⟩
  · cases h2 : meetB a b c d
    · rw [minus_all h1 h2]
      exact (Minus_all a b c d w h1 h2).mono fun e w' ⟨A, k, h⟩ => ⟨A, k, h⟩
    · rw [minus_two h2]
      by_cases x1 : a < c <;> by_cases x2 : d < b
      · rw [if_pos x1, if_pos x2]
        exact (Minus_11 a b c d w h2 x1 x2).mono fun e w' ⟨A, k, h⟩ => ⟨A, k, h⟩
      · rw [if_pos x1, if_neg x2]
        exact (Minus_10 a b c d w h2 x1 x2).mono fun e w' ⟨A, k, h⟩ => ⟨A, k, h⟩
      · rw [if_neg x1, if_pos x2]
        exact (Minus_01 a b c d w h2 x1 x2).mono fun e w' ⟨A, k, h⟩ => ⟨A, k, h⟩
      · rw [if_neg x1, if_neg x2]
        exact (Minus_00 a b c d w h2 x1 x2).mono fun e w' ⟨A, k, h⟩ => ⟨A, k, h⟩
theorem refMinus_any (a b c d : Int) (w : World) : Calls Try.prog 22 #[.agg #[.int .u64 a, .int .u64 b], .agg #[.int .u64 c, .int .u64 d]] w fun e w' => ∃ A k, e = .returned (.slice A (minusL a b c d).length k) ∧ AtP w' A (minusL a b c d) ∧ Below w.heap.size w w' := by
  cases h1 : mayB a b
  · rw [minus_no h1]
    exact (refMinus_no a b c d w h1).mono fun e w' h => ⟨none, 0, h.1, fun h0 => absurd h0 (by simp), h.2⟩
  · cases h2 : meetB a b c d
    · rw [minus_all h1 h2]
      exact (refMinus_all a b c d w h1 h2).mono fun e w' ⟨A, k, h⟩ => ⟨A, k, h⟩
    · rw [minus_two h2]
      by_cases x1 : a < c <;> by_cases x2 : d < b
      · rw [if_pos x1, if_pos x2]
        exact (refMinus_11 a b c d w h2 x1 x2).mono fun e w' ⟨A, k, h⟩ => ⟨A, k, h⟩
      · rw [if_pos x1, if_neg x2]
        exact (refMinus_10 a b c d w h2 x1 x2).mono fun e w' ⟨A, k, h⟩ => ⟨A, k, h⟩
      · rw [if_neg x1, if_pos x2]
        exact (refMinus_01 a b c d w h2 x1 x2).mono fun e w' ⟨A, k, h⟩ => ⟨A, k, h⟩
      · rw [if_neg x1, if_neg x2]
        exact (refMinus_00 a b c d w h2 x1 x2).mono fun e w' ⟨A, k, h⟩ => ⟨A, k, h⟩
theorem minus_length (a b c d : Int) : (minusL a b c d).length ≤ 2 := by
  unfold minusL
  (repeat' split) <;> simp
set_option maxRecDepth 100000 in
set_option maxHeartbeats 1000000 in
/-- Two slices of the same periods. -/
theorem Same_yes (A B : Option Addr) (L : List (Int × Int)) (c d : Nat) (w : World) (hA : AtP w A L) (hB : AtP w B L) (hl : L.length ≤ 1000) :
    Calls Try.prog 20 #[.slice A L.length c, .slice B L.length d] w fun e w' => e = .returned (.bool true) ∧ Below w.heap.size w w' := by
  have HA := Lib.hid hA
  have HB := Lib.hid hB
  clear hA hB
  go_enter Try.func20, Try.ntmps20
  go_wp2
  go_loopw [5] (fun v wr => ∃ i : Nat, i ≤ L.length ∧ v = .int .i64 i ∧ Below w.heap.size w wr) (fun v _ => L.length - (intOf v).toNat)
  case atStart => exact ⟨0, Nat.zero_le _, rfl, Below.refl _ _⟩
  case round =>
    obtain ⟨i, hi, rfl, hb⟩ := hrel
    have HBl := Lib.hid hb
    clear hb
    by_cases hlt : i < L.length
    · obtain ⟨g, rfl, lg, cg⟩ := (HA.out.below HBl.out) (by omega)
      obtain ⟨f, rfl, lf, cf⟩ := (HB.out.below HBl.out) (by omega)
      obtain ⟨x0, x1⟩ := cg i hlt
      obtain ⟨y0, y1⟩ := cf i hlt
      have i0 : (i : Int) < (L.length : Int) := by omega
      have i1 : (0 : Int) ≤ (i : Int) := by omega
      generalize L[i].1 = p at *
      generalize L[i].2 = r at *
      clear cg cf HA HB
      go_wp2
      go_quiet (fail)
      go_wp2
      exact ⟨⟨i + 1, by omega, by go_num, bel_drewN _ HBl.out⟩, by simp [intOf]; omega⟩
    · obtain rfl : i = L.length := by omega
      clear HA HB
      go_wp2
      go_ret
      exact ⟨rfl, HBl.out⟩
end Go.Proofs.Ytbdlmidkkdmkpaa
