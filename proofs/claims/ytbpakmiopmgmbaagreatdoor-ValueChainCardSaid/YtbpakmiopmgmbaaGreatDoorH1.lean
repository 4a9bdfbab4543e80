/- value.Less and value.Eq for every two values that may be, each by one contract; what ValueChain asks of them, in plain numbers. -/
import Derived.Test.YtbpakmiopmgmbaaGreatDoorV9
namespace Go.Proofs.YtbpakmiopmgmbaaGreatDoor
open Go.RowKit
def numK (k : Int) : Bool := decide (k = 2 ∨ k = 3)
def lessKd (k k' : Int) : Int := if numK k = true ∧ numK k' = true ∨ k = k' ∧ (k = 4 ∨ k = 1) then 1 else 0
def lessBl (k : Int) (b : Bool) (n : Int) (f : Nat) (s : ByteArray) (k' : Int) (b' : Bool) (n' : Int) (f' : Nat) (s' : ByteArray) : Bool :=
  if numK k = true ∧ numK k' = true then lessB k n f k' n' f' else if k = k' ∧ (k = 4 ∨ k = 1) then decide (cmpK (keyV k b n f s) (keyV k' b' n' f' s') < 0) else false
def eqKd (k k' : Int) : Int := if k = 0 ∨ k' = 0 then 0 else 1
def eqBl (k : Int) (b : Bool) (n : Int) (f : Nat) (s : ByteArray) (k' : Int) (b' : Bool) (n' : Int) (f' : Nat) (s' : ByteArray) : Bool :=
  if k = 0 ∨ k' = 0 then false else if numK k = true ∧ numK k' = true then sameB k n f k' n' f' else cmpK (keyV k b n f s) (keyV k' b' n' f' s') == 0
theorem numK_iff (k : Int) : numK k = true ↔ (k = 2 ∨ k = 3) := by unfold numK; simp
theorem Less_any (k n k' n' : Int) (b b' : Bool) (f f' : Nat) (s s' : ByteArray) (w : World) (hx : WideV k n f s) (hy : WideV k' n' f' s') (mx : MayV k b n f s) (my : MayV k' b' n' f' s') :
    Calls Tryz.prog 7 #[vagg k b n f s, vagg k' b' n' f' s'] w fun e w' => e = .returned (vagg (lessKd k k') (lessBl k b n f s k' b' n' f' s') 0 0 ⟨#[]⟩) ∧ Below w.heap.size w w' := by
  unfold lessKd lessBl
  by_cases h1 : numK k = true ∧ numK k' = true
  · rw [if_pos (.inl h1), if_pos h1]
    exact Less_num k n k' n' b b' f f' s s' w hx hy mx my ((numK_iff k).1 h1.1) ((numK_iff k').1 h1.2)
  · by_cases h2 : k = k' ∧ (k = 4 ∨ k = 1)
    · rw [if_pos (.inr h2), if_neg h1, if_pos h2]
      exact Less_kind k n k' n' b b' f f' s s' w hx hy mx my h2.1 h2.2
    · rw [if_neg (by simp only [not_or]; exact ⟨h1, h2⟩), if_neg h1, if_neg h2]
      exact Less_null k n k' n' b b' f f' s s' w (by rw [← numK_iff, ← numK_iff]; exact h1) h2
theorem Eq_any (k n k' n' : Int) (b b' : Bool) (f f' : Nat) (s s' : ByteArray) (w : World) (hx : WideV k n f s) (hy : WideV k' n' f' s') (mx : MayV k b n f s) (my : MayV k' b' n' f' s') :
    Calls Tryz.prog 8 #[vagg k b n f s, vagg k' b' n' f' s'] w fun e w' => e = .returned (vagg (eqKd k k') (eqBl k b n f s k' b' n' f' s') 0 0 ⟨#[]⟩) ∧ Below w.heap.size w w' := by
  unfold eqKd eqBl
  by_cases h : k = 0
  · subst h
    rw [if_pos (.inl rfl), if_pos (.inl rfl)]
    exact Eq_null1 n k' n' b b' f f' s s' w
  · by_cases h' : k' = 0
    · rw [if_pos (.inr h'), if_pos (.inr h')]
      exact Eq_null2 k n k' n' b b' f f' s s' w h h'
    · rw [if_neg (by omega), if_neg (by omega)]
      by_cases h1 : numK k = true ∧ numK k' = true
      · rw [if_pos h1]
        exact Eq_num k n k' n' b b' f f' s s' w hx hy ((numK_iff k).1 h1.1) ((numK_iff k').1 h1.2)
      · rw [if_neg h1]
        exact Eq_else k n k' n' b b' f f' s s' w hx hy mx my h h' (by rw [← numK_iff, ← numK_iff]; exact h1)
/-- A float against a float, as the program compares them. -/
theorem order_lt' (a b : Nat) (ha : a < 18446744073709551616) (hb : b < 18446744073709551616) :
    (FloatKind.f64.format.order a b == some Ordering.lt) = (!isNaNF a && !isNaNF b && decide (valF a < valF b)) := by
  show (Ieee.double.order a b == some Ordering.lt) = _
  cases na : isNaNF a
  · cases nb : isNaNF b
    · rw [Go.Proofs.YtbpakmiopmgmbaaGreatDoor.order_any a b ha hb (num_bound a na) (num_bound b nb)]
      have v1 := valF_lt a b
      have e : (compare (keyF a) (keyF b) = Ordering.lt) ↔ keyF a < keyF b := by
        show compareOfLessAndEq _ _ = _ ↔ _
        unfold compareOfLessAndEq
        by_cases p : keyF a < keyF b
        · rw [if_pos p]; simp [p]
        · rw [if_neg p]
          by_cases q : keyF a = keyF b
          · simp [q]
          · simp [q]; omega
      rw [Bool.eq_iff_iff]
      simp only [Bool.not_false, Bool.true_and, decide_eq_true_eq, beq_iff_eq, Option.some.injEq, e]
      omega
    · rw [Go.Proofs.YtbpakmiopmgmbaaGreatDoor.order_nan' a b (by simpa [isNaNF] using nb)]
      rfl
  · rw [Go.Proofs.YtbpakmiopmgmbaaGreatDoor.order_nan a b (by simpa [isNaNF] using na)]
    rfl
theorem less_ff (n n' : Int) (f f' : Nat) (hf : f < 18446744073709551616) (hf' : f' < 18446744073709551616) : lessB 3 n f 3 n' f' = (FloatKind.f64.format.order f f' == some Ordering.lt) := by
  rw [order_lt' f f' hf hf']; simp [lessB, nanK, numVal]
theorem less_ii (n n' : Int) (f f' : Nat) : lessB 2 n f 2 n' f' = decide (n < n') := by
  rw [Bool.eq_iff_iff]
  simp only [lessB, nanK, numVal, if_true, show ((2 : Int) = 3) = False by simp, decide_false, Bool.false_and, Bool.not_false, Bool.true_and, decide_eq_true_eq]
  have := unitF_pos
  constructor
  · exact fun h => Int.lt_of_mul_lt_mul_right h (by omega)
  · exact fun h => Int.mul_lt_mul_of_pos_right h this
theorem lessBl_trans (k n k' n' k'' n'' : Int) (b b' b'' : Bool) (f f' f'' : Nat) (s s' s'' : ByteArray) (h : lessBl k b n f s k' b' n' f' s' = true) (h' : lessBl k' b' n' f' s' k'' b'' n'' f'' s'' = true) : lessBl k b n f s k'' b'' n'' f'' s'' = true := by
  unfold lessBl at h h' ⊢
  by_cases h1 : numK k = true ∧ numK k' = true
  · rw [if_pos h1] at h
    by_cases h2 : numK k'' = true
    · rw [if_pos ⟨h1.2, h2⟩] at h'
      rw [if_pos ⟨h1.1, h2⟩]
      simp only [lessB, Bool.and_eq_true, decide_eq_true_eq] at h h' ⊢
      exact ⟨⟨h.1.1, h'.1.2⟩, by omega⟩
    · rw [if_neg (by simp [h2])] at h'
      split at h'
      · rename_i g
        have := (numK_iff k').1 h1.2
        omega
      · simp at h'
  · rw [if_neg h1] at h
    split at h
    · rename_i g
      obtain ⟨rfl, g⟩ := g
      have hn : ¬ numK k = true := by rw [numK_iff]; omega
      rw [if_neg (by simp [hn])] at h'
      rw [if_neg (by simp [hn])]
      split at h'
      · rename_i g'
        rw [if_pos g']
        simp only [decide_eq_true_eq] at h h' ⊢
        have t := good_cmpK.trans (keyV k b n f s) (keyV k b' n' f' s') (keyV k'' b'' n'' f'' s'') (by omega) (by omega)
        have z := good_cmpK.zero (keyV k b n f s) (keyV k'' b'' n'' f'' s'')
        by_cases e : cmpK (keyV k b n f s) (keyV k'' b'' n'' f'' s'') = 0
        · have e1 := z.1 e
          have fl := good_cmpK.flip (keyV k b n f s) (keyV k b' n' f' s')
          rw [e1] at fl h
          omega
        · omega
      · simp at h'
    · simp at h
/-- What is equal to a value stands to a third as it does. -/
theorem eqBl_means (k n k' n' : Int) (b b' : Bool) (f f' : Nat) (s s' : ByteArray) (hx : WideV k n f s) (hy : WideV k' n' f' s') (mx : MayV k b n f s) (my : MayV k' b' n' f' s') (h : eqBl k b n f s k' b' n' f' s' = true) :
    (numK k = true ∧ numK k' = true ∧ nanK k f = false ∧ nanK k' f' = false ∧ numVal k n f = numVal k' n' f') ∨ (k = k' ∧ b = b' ∧ n = n' ∧ f = f' ∧ s = s') := by
  unfold eqBl at h
  split at h
  · simp at h
  · split at h
    · rename_i g
      simp only [sameB, Bool.and_eq_true, decide_eq_true_eq, Bool.not_eq_true'] at h
      exact .inl ⟨g.1, g.2, h.1.1, h.1.2, h.2⟩
    · rw [beq_iff_eq, good_cmpK.zero] at h
      exact .inr (key_inj k k' b b' n n' f f' s s' mx my hx.2.2.1 hy.2.2.1 h)
theorem eqBl_sub (k n k' n' k'' n'' : Int) (b b' b'' : Bool) (f f' f'' : Nat) (s s' s'' : ByteArray) (hx : WideV k n f s) (hy : WideV k' n' f' s') (hz : WideV k'' n'' f'' s'') (mx : MayV k b n f s) (my : MayV k' b' n' f' s') (mz : MayV k'' b'' n'' f'' s'') (h : eqBl k b n f s k' b' n' f' s' = true) :
    lessKd k k'' = lessKd k' k'' ∧ lessBl k b n f s k'' b'' n'' f'' s'' = lessBl k' b' n' f' s' k'' b'' n'' f'' s'' ∧ lessKd k'' k = lessKd k'' k' ∧ lessBl k'' b'' n'' f'' s'' k b n f s = lessBl k'' b'' n'' f'' s'' k' b' n' f' s' ∧ eqBl k b n f s k'' b'' n'' f'' s'' = eqBl k' b' n' f' s' k'' b'' n'' f'' s'' := by
  rcases eqBl_means k n k' n' b b' f f' s s' hx hy mx my h with ⟨g1, g2, a1, a2, v⟩ | ⟨rfl, rfl, rfl, rfl, rfl⟩
  · have k1 := (numK_iff k).1 g1
    have k2 := (numK_iff k').1 g2
    by_cases g3 : numK k'' = true
    · have k3 := (numK_iff k'').1 g3
      refine ⟨by unfold lessKd; simp [g1, g2, g3], ?_, by unfold lessKd; simp [g1, g2, g3], ?_, ?_⟩
      · unfold lessBl; rw [if_pos ⟨g1, g3⟩, if_pos ⟨g2, g3⟩]; unfold lessB; rw [a1, a2, v]
      · unfold lessBl; rw [if_pos ⟨g3, g1⟩, if_pos ⟨g3, g2⟩]; unfold lessB; rw [a1, a2, v]
      · have e1 : ¬ (k = 0 ∨ k'' = 0) := by omega
        have e2 : ¬ (k' = 0 ∨ k'' = 0) := by omega
        unfold eqBl; rw [if_neg e1, if_neg e2, if_pos ⟨g1, g3⟩, if_pos ⟨g2, g3⟩]; unfold sameB; rw [a1, a2, v]
    · have k3 : ¬ (k'' = 2 ∨ k'' = 3) := fun h => g3 ((numK_iff k'').2 h)
      have o1 : ¬ (numK k = true ∧ numK k'' = true ∨ k = k'' ∧ (k = 4 ∨ k = 1)) := by rintro (h | h); exact g3 h.2; omega
      have o2 : ¬ (numK k' = true ∧ numK k'' = true ∨ k' = k'' ∧ (k' = 4 ∨ k' = 1)) := by rintro (h | h); exact g3 h.2; omega
      have o3 : ¬ (numK k'' = true ∧ numK k = true ∨ k'' = k ∧ (k'' = 4 ∨ k'' = 1)) := by rintro (h | h); exact g3 h.1; omega
      have o4 : ¬ (numK k'' = true ∧ numK k' = true ∨ k'' = k' ∧ (k'' = 4 ∨ k'' = 1)) := by rintro (h | h); exact g3 h.1; omega
      refine ⟨by unfold lessKd; rw [if_neg o1, if_neg o2], ?_, by unfold lessKd; rw [if_neg o3, if_neg o4], ?_, ?_⟩
      · unfold lessBl; rw [if_neg (fun h => o1 (.inl h)), if_neg (fun h => o1 (.inr h)), if_neg (fun h => o2 (.inl h)), if_neg (fun h => o2 (.inr h))]
      · unfold lessBl; rw [if_neg (fun h => o3 (.inl h)), if_neg (fun h => o3 (.inr h)), if_neg (fun h => o4 (.inl h)), if_neg (fun h => o4 (.inr h))]
      · have far : ∀ (l : Int) (c : Bool) (m : Int) (g : Nat) (t : ByteArray), (l = 2 ∨ l = 3) → MayV l c m g t → WideV l m g t → eqBl l c m g t k'' b'' n'' f'' s'' = false := by
          intro l c m g t hl ml wl
          cases e : eqBl l c m g t k'' b'' n'' f'' s''
          · rfl
          · rcases eqBl_means l m k'' n'' c b'' g f'' t s'' wl hz ml mz e with ⟨_, x, _⟩ | ⟨rfl, _⟩
            · exact absurd x g3
            · omega
        rw [far k b n f s k1 mx hx, far k' b' n' f' s' k2 my hy]
  · exact ⟨rfl, rfl, rfl, rfl, rfl⟩
end Go.Proofs.YtbpakmiopmgmbaaGreatDoor
