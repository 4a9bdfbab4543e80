/- What PeriodCan asks, in plain numbers: what can be composed is what three periods have, and goes with converses. -/
import Derived.Test.YtbdlmidkkdmkpaaP13
namespace Go.Proofs.Ytbdlmidkkdmkpaa
theorem relV_conv2 {a b c d : Int} (hp : a < b) (hq : c < d) : relV c d a b = 14 - relV a b c d := by
  unfold relV
  (repeat' split) <;> omega
theorem tst_all (r : Nat) (h1 : 1 ≤ r) (h2 : r ≤ 13) {a b c d : Int} (hp : a < b) (hq : c < d) : tst r a b c d = true ↔ relV a b c d = (r : Int) := by
  by_cases h : r ≤ 12
  · exact tst_iff r h1 h hp hq
  · obtain rfl : r = 13 := by omega
    have e : tst 13 a b c d = tst 1 c d a b := rfl
    rw [e, tst_iff 1 (by omega) (by omega) hq hp, relV_conv2 hp hq]
    omega
theorem pl_lt {p : Int × Int} (h : p ∈ PL) : p.1 < p.2 := may_lt (pl_may h)
theorem tq_iff (r : Nat) (h1 : 1 ≤ r) (h2 : r ≤ 13) {p q : Int × Int} (hp : p ∈ PL) (hq : q ∈ PL) : tq r p q = true ↔ rq p q = (r : Int) := tst_all r h1 h2 (pl_lt hp) (pl_lt hq)
theorem comp_iff (r s : Nat) (h1 : 1 ≤ r) (h2 : r ≤ 13) (h3 : 1 ≤ s) (h4 : s ≤ 13) (t : Int) : t ∈ compL r s ↔ ∃ p q u, p ∈ PL ∧ q ∈ PL ∧ u ∈ PL ∧ rq p q = (r : Int) ∧ rq q u = (s : Int) ∧ rq p u = t := by
  rw [mem_comp]
  simp only [seen1, seen2, seen3, List.mem_flatMap, List.mem_map, List.mem_filter]
  constructor
  · rintro ⟨p, hp, q, ⟨hq, e1⟩, u, ⟨hu, e2⟩, e3⟩
    exact ⟨p, q, u, hp, hq, hu, (tq_iff r h1 h2 hp hq).1 e1, (tq_iff s h3 h4 hq hu).1 e2, e3⟩
  · rintro ⟨p, q, u, hp, hq, hu, e1, e2, e3⟩
    exact ⟨p, hp, q, ⟨hq, (tq_iff r h1 h2 hp hq).2 e1⟩, u, ⟨hu, (tq_iff s h3 h4 hq hu).2 e2⟩, e3⟩
theorem rq_conv {p q : Int × Int} (hp : p ∈ PL) (hq : q ∈ PL) : rq q p = 14 - rq p q := relV_conv2 (pl_lt hp) (pl_lt hq)
theorem comp_turned {r s : Nat} (h1 : 1 ≤ r) (h2 : r ≤ 13) (h3 : 1 ≤ s) (h4 : s ≤ 13) {t : Int} (h : t ∈ compL r s) : 14 - t ∈ compL (14 - s) (14 - r) := by
  rw [comp_iff r s h1 h2 h3 h4] at h
  rw [comp_iff (14 - s) (14 - r) (by omega) (by omega) (by omega) (by omega)]
  obtain ⟨p, q, u, hp, hq, hu, e1, e2, e3⟩ := h
  refine ⟨u, q, p, hu, hq, hp, ?_, ?_, ?_⟩
  · rw [rq_conv hq hu]; omega
  · rw [rq_conv hp hq]; omega
  · rw [rq_conv hp hu]; omega
theorem comp_conv {r s : Nat} (h1 : 1 ≤ r) (h2 : r ≤ 13) (h3 : 1 ≤ s) (h4 : s ≤ 13) : compL (14 - s) (14 - r) = ((compL r s).map fun t => 14 - t).reverse := by
  refine rising_eq _ _ (comp_rising _ _) ?_ fun t => ?_
  · rw [List.pairwise_reverse, List.pairwise_map]
    exact (comp_rising r s).imp fun h => by omega
  · rw [List.mem_reverse, List.mem_map]
    constructor
    · intro h
      have e := comp_turned (by omega) (by omega) (by omega) (by omega) h
      rw [show 14 - (14 - r) = r by omega, show 14 - (14 - s) = s by omega] at e
      exact ⟨_, e, by omega⟩
    · rintro ⟨x, hx, rfl⟩
      exact comp_turned h1 h2 h3 h4 hx
/-- How many of these lie below x. -/
def rk (E : List Int) (x : Int) : Nat := E.countP fun z => decide (z < x)
theorem rk_le (E : List Int) {x y : Int} (h : x ≤ y) : rk E x ≤ rk E y := by
  induction E with
  | nil => simp [rk]
  | cons z E ih =>
    unfold rk at *
    rw [List.countP_cons, List.countP_cons]
    by_cases h1 : z < x
    · have h2 : z < y := by omega
      simp only [h1, h2, decide_true, if_true]
      omega
    · simp only [h1, decide_false]
      by_cases h2 : z < y <;> simp [h2] <;> omega
theorem rk_lt : ∀ (E : List Int) {x y : Int}, x ∈ E → x < y → rk E x < rk E y
  | z :: E, x, y, hx, h => by
    have hl := rk_le E (show x ≤ y by omega)
    have ih : x ∈ E → rk E x < rk E y := fun hx => rk_lt E hx h
    unfold rk at *
    rw [List.countP_cons, List.countP_cons]
    simp only [List.mem_cons] at hx
    rcases hx with e | e
    · subst e
      simp only [h, decide_true, if_true, Int.lt_irrefl, decide_false]
      simp
      omega
    · have := ih e
      by_cases h1 : z < x
      · have h2 : z < y := by omega
        simp only [h1, h2, decide_true, if_true]
        omega
      · simp only [h1, decide_false]
        by_cases h2 : z < y <;> simp [h2] <;> omega
theorem rk_top {E : List Int} {x : Int} (h : x ∈ E) : rk E x < E.length := Nat.lt_of_lt_of_le (rk_lt E h (show x < x + 1 by omega)) List.countP_le_length
theorem rk_lt_iff {E : List Int} {x y : Int} (hx : x ∈ E) (_hy : y ∈ E) : ((rk E x : Int) < (rk E y : Int)) = (x < y) := by
  apply propext
  constructor
  · intro h
    by_cases e : x < y
    · exact e
    · have := rk_le E (show y ≤ x by omega)
      omega
  · intro h
    have := rk_lt E hx h
    omega
theorem rk_eq_iff {E : List Int} {x y : Int} (hx : x ∈ E) (hy : y ∈ E) : ((rk E x : Int) = (rk E y : Int)) = (x = y) := by
  apply propext
  constructor
  · intro h
    by_cases e : x < y
    · have := rk_lt E hx e
      omega
    · by_cases e2 : y < x
      · have := rk_lt E hy e2
        omega
      · omega
  · rintro rfl; rfl
theorem relV_rk {E : List Int} {a b c d : Int} (ha : a ∈ E) (hb : b ∈ E) (hc : c ∈ E) (hd : d ∈ E) : relV (rk E a) (rk E b) (rk E c) (rk E d) = relV a b c d := by
  unfold relV
  simp only [rk_lt_iff hb hc, rk_eq_iff hb hc, rk_lt_iff hd ha, rk_eq_iff hd ha, rk_lt_iff ha hc, rk_lt_iff hb hd, rk_eq_iff hb hd, rk_eq_iff ha hc]
theorem pl_all (i j : Nat) (h : i < j) (hj : j < 6) : ((i : Int), (j : Int)) ∈ PL := by
  match j, hj with
  | 1, _ => match i, h with
    | 0, _ => decide
  | 2, _ => match i, h with
    | 0, _ => decide
    | 1, _ => decide
  | 3, _ => match i, h with
    | 0, _ => decide
    | 1, _ => decide
    | 2, _ => decide
  | 4, _ => match i, h with
    | 0, _ => decide
    | 1, _ => decide
    | 2, _ => decide
    | 3, _ => decide
  | 5, _ => match i, h with
    | 0, _ => decide
    | 1, _ => decide
    | 2, _ => decide
    | 3, _ => decide
    | 4, _ => decide
/-- What three periods have is among what is composed. -/
theorem can (a b c d e f : Int) (h1 : a < b) (h2 : c < d) (h3 : e < f) (r s : Nat) (hr : relV a b c d = (r : Int)) (hs : relV c d e f = (s : Int)) : relV a b e f ∈ compL r s := by
  have k1 := relV_range a b c d
  have k2 := relV_range c d e f
  rw [comp_iff r s (by omega) (by omega) (by omega) (by omega)]
  obtain ⟨E, hE⟩ : ∃ E, E = [a, b, c, d, e, f] := ⟨_, rfl⟩
  have ma : a ∈ E := by rw [hE]; simp
  have mb : b ∈ E := by rw [hE]; simp
  have mc : c ∈ E := by rw [hE]; simp
  have md : d ∈ E := by rw [hE]; simp
  have me : e ∈ E := by rw [hE]; simp
  have mf : f ∈ E := by rw [hE]; simp
  have hl : E.length = 6 := by rw [hE]; rfl
  refine ⟨(rk E a, rk E b), (rk E c, rk E d), (rk E e, rk E f), pl_all _ _ (rk_lt E ma h1) (hl ▸ rk_top mb), pl_all _ _ (rk_lt E mc h2) (hl ▸ rk_top md), pl_all _ _ (rk_lt E me h3) (hl ▸ rk_top mf), ?_, ?_, ?_⟩
  · exact (relV_rk ma mb mc md).trans hr
  · exact (relV_rk mc md me mf).trans hs
  · exact relV_rk ma mb me mf
end Go.Proofs.Ytbdlmidkkdmkpaa
