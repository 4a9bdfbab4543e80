/- Sets of instants in plain numbers: how many instants they hold; what covers what. -/
import Derived.Test.YtgmaompjhhomcaaGreatmI2
namespace Go.Proofs.YtgmaompjhhomcaaGreat.Se
namespace Iset
/-- How many of the first n instants a set holds. -/
def cnt (f : Int → Bool) : Nat → Int
  | 0 => 0
  | n + 1 => cnt f n + if f n then 1 else 0
theorem cnt_congr (f g : Int → Bool) (n : Nat) (h : ∀ t : Int, 0 ≤ t → f t = g t) : cnt f n = cnt g n := by
  induction n with
  | zero => rfl
  | succ n ih => rw [cnt, cnt, ih, h n (by omega)]
theorem cnt_or_and (f g : Int → Bool) (n : Nat) : cnt (fun t => f t || g t) n + cnt (fun t => f t && g t) n = cnt f n + cnt g n := by
  induction n with
  | zero => rfl
  | succ n ih =>
    have key : ∀ (p q : Bool), (if (p || q) = true then (1 : Int) else 0) + (if (p && q) = true then 1 else 0) = (if p = true then 1 else 0) + (if q = true then 1 else 0) := by decide
    have := key (f n) (g n)
    simp only [cnt]
    omega
theorem cnt_none (n : Nat) : cnt (fun _ => false) n = 0 := by
  induction n with
  | zero => rfl
  | succ n ih => simp [cnt, ih]
theorem cnt_nonneg (f : Int → Bool) (n : Nat) : 0 ≤ cnt f n := by
  induction n with
  | zero => exact Int.le_refl _
  | succ n ih =>
    rw [cnt]
    split <;> omega
theorem cnt_le (f : Int → Bool) (n : Nat) : cnt f n ≤ n := by
  induction n with
  | zero => exact Int.le_refl _
  | succ n ih =>
    rw [cnt]
    split <;> omega
theorem cnt_mono (f g : Int → Bool) (n : Nat) (h : ∀ t, g t = true → f t = true) : cnt g n ≤ cnt f n := by
  induction n with
  | zero => exact Int.le_refl _
  | succ n ih =>
    rw [cnt, cnt]
    have := h n
    cases hg : g n
    · simp
      split <;> omega
    · rw [this hg]
      simp
      omega
theorem cnt_same (f g : Int → Bool) (n : Nat) (h : ∀ t, g t = true → f t = true) (e : cnt f n = cnt g n) : ∀ t : Nat, t < n → f t = g t := by
  induction n with
  | zero => omega
  | succ n ih =>
    intro t ht
    have hm := cnt_mono f g n h
    rw [cnt, cnt] at e
    have hn := h n
    have e1 : f n = g n ∧ cnt f n = cnt g n := by
      cases hf : f n <;> cases hg : g n <;> rw [hf, hg] at e <;> simp at e ⊢
      · exact e
      · rw [hn hg] at hf
        cases hf
      · omega
      · omega
    by_cases ht2 : t = n
    · subst ht2
      exact e1.1
    · exact ih e1.2 t (by omega)
theorem cnt_span (a b : Int) (n : Nat) (h0 : 0 ≤ a) (h1 : a ≤ b) (h2 : b ≤ n) : cnt (fun t => decide (a ≤ t) && decide (t < b)) n = b - a := by
  have key : ∀ m : Nat, cnt (fun t => decide (a ≤ t) && decide (t < b)) m = if (m : Int) ≤ a then 0 else if (m : Int) ≤ b then m - a else b - a := by
    intro m
    induction m with
    | zero => rw [cnt, if_pos (by simpa using h0)]
    | succ m ih =>
      have hc : ((m + 1 : Nat) : Int) = (m : Int) + 1 := rfl
      rw [cnt, ih, hc]
      by_cases x1 : a ≤ (m : Int)
      · by_cases x2 : (m : Int) < b
        · rw [decide_eq_true x1, decide_eq_true x2]
          simp only [Bool.and_self, if_true]
          split <;> (try split) <;> (try split) <;> (try split) <;> omega
        · rw [decide_eq_false x2, Bool.and_false]
          simp only [Bool.false_eq_true, if_false, Int.add_zero]
          split <;> (try split) <;> (try split) <;> (try split) <;> omega
      · rw [decide_eq_false x1, Bool.false_and]
        simp only [Bool.false_eq_true, if_false, Int.add_zero]
        split <;> (try split) <;> (try split) <;> (try split) <;> omega
  rw [key]
  split <;> (try split) <;> omega
/-- The sum of the lengths. -/
def sumL : List P → Int
  | [] => 0
  | p :: l => (p.2 - p.1) + sumL l
theorem sumL_append (a b : List P) : sumL (a ++ b) = sumL a + sumL b := by
  induction a with
  | nil => simp [sumL]
  | cons p a ih => simp only [List.cons_append, sumL, ih]; omega
theorem NF.sum : ∀ {l : List P}, NF l → Wide l → ∀ n : Nat, (∀ p ∈ l, p.2 ≤ n) → sumL l = cnt (Iset.has l) n
  | [], _, _, n, _ => (cnt_none n).symm
  | p :: l, h, hw, n, hn => by
    have mp := (mayP_iff p).1 (h.may p (by simp))
    have wp := hw p (by simp)
    have ih := NF.sum h.cons (fun q hq => hw q (by simp [hq])) n fun q hq => hn q (by simp [hq])
    have e := cnt_or_and (fun t => decide (p.1 ≤ t) && decide (t < p.2)) (Iset.has l) n
    rw [cnt_span p.1 p.2 n wp.1 (by omega) (hn p (by simp))] at e
    have e1 : cnt (fun t => decide (p.1 ≤ t) && decide (t < p.2) && Iset.has l t) n = 0 := by
      rw [← cnt_none n]
      refine cnt_congr _ _ _ fun t _ => ?_
      rw [Bool.eq_false_iff]
      intro hh
      simp only [Bool.and_eq_true, decide_eq_true_eq] at hh
      have := h.gap t hh.2
      omega
    have e2 : cnt (fun t => decide (p.1 ≤ t) && decide (t < p.2) || Iset.has l t) n = cnt (Iset.has (p :: l)) n := by
      refine cnt_congr _ _ _ fun t _ => ?_
      rw [has_cons]
      congr 1
      rw [hasP, (mayP_iff p).2 mp, Bool.true_and]
    rw [sumL, ih]
    omega
/-- How many instants a list means. -/
def size (l : List P) : Int := sumL (nf l)
theorem size_eq (l : List P) (h : Wide l) : size l = cnt (has l) 1099511627776 := by
  rw [size, (nf_nf l).sum (nf_wide h) 1099511627776 fun p hp => ((mayP_iff p).1 ((nf_nf l).may p hp)).2]
  exact cnt_congr _ _ _ fun t _ => nf_has l t
theorem size_bd (l : List P) (h : Wide l) : 0 ≤ size l ∧ size l ≤ 1099511627776 := by
  rw [size_eq l h]
  exact ⟨cnt_nonneg _ _, cnt_le _ _⟩
/-- Sums of a part of a row stay below. -/
theorem sum_take (l : List P) (hl : NF l) (hw : Wide l) (k : Nat) : 0 ≤ sumL (l.take k) ∧ sumL (l.take k) ≤ 1099511627776 := by
  have h1 : NF (l.take k) := ⟨fun p hp => hl.may p (List.mem_of_mem_take hp), hl.apart.sublist (List.take_sublist k l)⟩
  have h2 : Wide (l.take k) := fun p hp => hw p (List.mem_of_mem_take hp)
  rw [h1.sum h2 1099511627776 fun p hp => ((mayP_iff p).1 (h1.may p hp)).2]
  exact ⟨cnt_nonneg _ _, cnt_le _ _⟩
/-- Does a hold all that b holds? -/
def covers (a b : List P) : Prop := ∀ t, has b t = true → has a t = true
theorem minus_nil_iff {a b R : List P} (h : Res (fun x y => x && !y) b a R) : R = [] ↔ covers a b := by
  constructor
  · rintro rfl t ht
    have := h.has t
    rw [has_nil, ht] at this
    simpa using this.symm
  · intro hc
    refine NF.ext h.nf NF.nil fun t => ?_
    rw [h.has, has_nil]
    cases hb : has b t
    · rfl
    · rw [hc t hb]
      rfl
theorem covers_same {a b : List P} (h1 : covers a b) (h2 : covers b a) : nf a = nf b :=
  (nf_eq_iff a b).2 fun t => by
    rw [Bool.eq_iff_iff]
    exact ⟨h2 t, h1 t⟩
theorem nf_same_covers {a b : List P} (h : nf a = nf b) : covers a b := fun t ht => by rw [(nf_eq_iff a b).1 h t]; exact ht
theorem covers_size {a b : List P} (ha : Wide a) (hb : Wide b) (h : covers a b) : size b ≤ size a := by
  rw [size_eq a ha, size_eq b hb]
  exact cnt_mono _ _ _ h
theorem covers_size_eq {a b : List P} (ha : Wide a) (hb : Wide b) (h : covers a b) (e : size a = size b) : covers b a := by
  rw [size_eq a ha, size_eq b hb] at e
  intro t ht
  have h0 : 0 ≤ t := by
    by_cases x : t < 0
    · rw [has_neg a ha t x] at ht
      cases ht
    · omega
  have h1 := has_below a t ht
  have := cnt_same (has a) (has b) 1099511627776 h e t.toNat (by omega)
  rw [Int.toNat_of_nonneg h0] at this
  rw [← this]
  exact ht
theorem size_or_and {a b R S : List P} (ha : Wide a) (hb : Wide b) (hR : Res or a b R) (hS : Res and a b S) (wR : Wide R) (wS : Wide S) : size R + size S = size a + size b := by
  rw [size_eq a ha, size_eq b hb, size_eq R wR, size_eq S wS, cnt_congr (has R) (fun t => has a t || has b t) _ fun t _ => hR.has t, cnt_congr (has S) (fun t => has a t && has b t) _ fun t _ => hS.has t]
  exact cnt_or_and _ _ _
theorem Res.wide {k : Bool → Bool → Bool} {a b R : List P} (hk : k false false = false) (h : Res k a b R) (ha : Wide a) (hb : Wide b) : Wide R :=
  h.nf.wide fun t ht => by rw [h.has, has_neg a ha t ht, has_neg b hb t ht, hk]
end Iset
end Go.Proofs.YtgmaompjhhomcaaGreat.Se

