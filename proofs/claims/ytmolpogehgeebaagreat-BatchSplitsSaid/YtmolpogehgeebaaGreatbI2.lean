/- Sets of instants in plain numbers: where they begin and cease, the sweep over two of them, how many they hold. -/
/- Sets of instants in plain numbers: how many instants they hold; what covers what. -/
/- The text of a set in plain lists of bytes, and its reading. -/
import Derived.Test.YtmolpogehgeebaaGreatbP1
import Derived.Lib.ItoaNum
import Derived.Lib.AtoiAll
namespace Go.Proofs.YtmolpogehgeebaaGreat.Se
namespace Iset
abbrev beyond : Int := 1099511627777
/-- Where a set begins and ceases. -/
def ends (l : List P) : List Int := l.flatMap fun p => [p.1, p.2]
def turns (l : List P) : List Int := ends l ++ [1099511627777]
theorem ends_cons (p : P) (l : List P) : ends (p :: l) = p.1 :: p.2 :: ends l := rfl
theorem ends_snoc (l : List P) (p : P) : ends (l ++ [p]) = ends l ++ [p.1, p.2] := by simp [ends]
theorem ends_length (l : List P) : (ends l).length = 2 * l.length := by
  induction l with
  | nil => rfl
  | cons p l ih => rw [ends_cons]; simp only [List.length_cons, ih]; omega
theorem turns_length (l : List P) : (turns l).length = 2 * l.length + 1 := by
  rw [turns, List.length_append, ends_length]
  rfl
/-- Whether an instant is in, by the turns up to it. -/
def par : List Int → Bool → Int → Bool
  | [], x, _ => x
  | a :: A, x, t => par A (if a ≤ t then !x else x) t
theorem par_lt : ∀ (A : List Int) (x : Bool) (t : Int), (∀ z ∈ A, t < z) → par A x t = x
  | [], _, _, _ => rfl
  | a :: A, x, t, h => by
    have := h a (by simp)
    rw [par, if_neg (by omega)]
    exact par_lt A x t fun z hz => h z (by simp [hz])
theorem par_ge (a : Int) (A : List Int) (x : Bool) (t : Int) (h : a ≤ t) : par (a :: A) x t = par A (!x) t := by rw [par, if_pos h]
theorem ends_mem (l : List P) (z : Int) : z ∈ ends l ↔ ∃ p ∈ l, z = p.1 ∨ z = p.2 := by simp [ends]
theorem NF.ends_gt {p : P} {l : List P} (h : NF (p :: l)) (z : Int) (hz : z ∈ ends l) : p.2 < z := by
  obtain ⟨q, hq, e⟩ := (ends_mem l z).1 hz
  have := (List.pairwise_cons.1 h.apart).1 q hq
  have := (mayP_iff q).1 (h.may q (by simp [hq]))
  omega
theorem NF.ends_le {l : List P} (h : NF l) (z : Int) (hz : z ∈ ends l) : z ≤ 1099511627776 := by
  obtain ⟨q, hq, e⟩ := (ends_mem l z).1 hz
  have := (mayP_iff q).1 (h.may q hq)
  omega
theorem NF.ends_sorted : ∀ {l : List P}, NF l → (ends l).Pairwise (· < ·)
  | [], _ => .nil
  | p :: l, h => by
    rw [ends_cons]
    have mp := (mayP_iff p).1 (h.may p (by simp))
    refine List.pairwise_cons.2 ⟨fun z hz => ?_, List.pairwise_cons.2 ⟨fun z hz => h.ends_gt z hz, NF.ends_sorted h.cons⟩⟩
    simp only [List.mem_cons] at hz
    rcases hz with rfl | hz
    · exact mp.1
    · have := h.ends_gt z hz
      omega
theorem NF.turns_sorted {l : List P} (h : NF l) : (turns l).Pairwise (· < ·) :=
  List.pairwise_append.2 ⟨h.ends_sorted, by simp, fun z hz y hy => by
    simp only [List.mem_singleton] at hy
    have := h.ends_le z hz
    omega⟩
theorem NF.par_turns : ∀ {l : List P}, NF l → ∀ (t : Int), t < 1099511627777 → par (turns l) false t = has l t
  | [], _, t, ht => by
    show par [1099511627777] false t = _
    rw [par_lt _ _ _ (by simpa using ht)]
    rfl
  | p :: l, h, t, ht => by
    have mp := (mayP_iff p).1 (h.may p (by simp))
    have e : turns (p :: l) = p.1 :: p.2 :: turns l := rfl
    rw [e]
    by_cases h1 : p.1 ≤ t
    · rw [par_ge _ _ _ _ h1]
      by_cases h2 : p.2 ≤ t
      · rw [par_ge _ _ _ _ h2]
        show par (turns l) false t = _
        rw [NF.par_turns h.cons t ht, h.tail_has, decide_eq_true h2, Bool.and_true]
      · rw [h.until t h1 (by omega), par, if_neg h2]
        refine par_lt _ _ _ fun z hz => ?_
        rw [turns, List.mem_append, List.mem_singleton] at hz
        rcases hz with hz | rfl
        · have := h.ends_gt z hz
          omega
        · exact ht
    · have : has (p :: l) t = false := by
        rw [Bool.eq_false_iff]
        intro e
        exact h1 (h.least t e)
      rw [this]
      refine par_lt _ _ _ fun z hz => ?_
      simp only [List.mem_cons] at hz
      rcases hz with rfl | rfl | hz
      · omega
      · omega
      · rw [turns, List.mem_append, List.mem_singleton] at hz
        rcases hz with hz | rfl
        · have := h.ends_gt z hz
          omega
        · exact ht
/-- What one operation makes of two sets. -/
structure Res (k : Bool → Bool → Bool) (a b R : List P) : Prop where
  nf : NF R
  has : ∀ t, has R t = k (has a t) (has b t)
  len : R.length ≤ a.length + b.length + 1
/-- Where the sweep stands. -/
structure Inv (k : Bool → Bool → Bool) (a b : List P) (A B : List Int) (x y o : Bool) (kept : List P) (c : Int) (K : List P) (s : Int) : Prop where
  sA : A.Pairwise (· < ·)
  sB : B.Pairwise (· < ·)
  lA : A.getLast? = some 1099511627777
  lB : B.getLast? = some 1099511627777
  gA : ∀ z ∈ A, c < z
  gB : ∀ z ∈ B, c < z
  pA : ∀ t, c ≤ t → t < 1099511627777 → par A x t = Iset.has a t
  pB : ∀ t, c ≤ t → t < 1099511627777 → par B y t = Iset.has b t
  oo : o = k x y
  kk : kept = K ++ (if o then [(s, 0)] else [])
  nK : NF K
  cK : ∀ q ∈ K, q.2 ≤ c
  so : o = true → s ≤ c ∧ ∀ q ∈ K, q.2 < s
  hs : ∀ t, t < c → (Iset.has K t || (o && decide (s ≤ t))) = k (Iset.has a t) (Iset.has b t)
  len : 2 * kept.length + A.length + B.length ≤ 2 * a.length + 2 * b.length + 2 + (if o then 1 else 0)
theorem Inv.start (k : Bool → Bool → Bool) (hk : k false false = false) (a b : List P) (ha : Wide a) (hb : Wide b) : Inv k a b (turns (nf a)) (turns (nf b)) false false false [] (-1) [] 0 := by
  have gw : ∀ (l : List P), Wide l → ∀ z ∈ turns (Iset.nf l), -1 < z := fun l hl z hz => by
    rw [turns, List.mem_append, List.mem_singleton] at hz
    rcases hz with hz | rfl
    · obtain ⟨q, hq, e⟩ := (ends_mem _ z).1 hz
      have := nf_wide hl q hq
      omega
    · omega
  refine ⟨(nf_nf a).turns_sorted, (nf_nf b).turns_sorted, by simp [turns], by simp [turns], gw a ha, gw b hb, fun t _ ht => ?_, fun t _ ht => ?_, hk.symm, by simp, NF.nil, by simp, by simp, fun t ht => ?_, ?_⟩
  · rw [(nf_nf a).par_turns t ht, nf_has]
  · rw [(nf_nf b).par_turns t ht, nf_has]
  · rw [has_neg a ha t (by omega), has_neg b hb t (by omega), hk]
    rfl
  · rw [turns_length, turns_length]
    have := nf_length a
    have := nf_length b
    simp only [List.length_nil]
    simp
    omega
section
variable {k : Bool → Bool → Bool} {a b : List P} {A B : List Int} {x y o : Bool} {kept : List P} {c : Int} {K : List P} {s : Int}
/-- Up to the next turn nothing changes. -/
theorem Inv.upto (h : Inv k a b A B x y o kept c K s) (t e : Int) (hA : ∀ z ∈ A, e ≤ z) (hB : ∀ z ∈ B, e ≤ z) (he : e ≤ 1099511627777) (ht : t < e) :
    (Iset.has K t || (o && decide (s ≤ t))) = k (Iset.has a t) (Iset.has b t) := by
  by_cases h1 : t < c
  · exact h.hs t h1
  · have e1 : Iset.has K t = false := by
      rw [Bool.eq_false_iff]
      intro e
      obtain ⟨q, hq, hh⟩ := (has_iff K t).1 e
      have := h.cK q hq
      have := (hasP_iff q t).1 hh
      omega
    rw [e1, ← h.pA t (by omega) (by omega), ← h.pB t (by omega) (by omega), par_lt A x t fun z hz => by have := hA z hz; omega, par_lt B y t fun z hz => by have := hB z hz; omega, ← h.oo, Bool.false_or]
    cases o
    · rfl
    · have := (h.so rfl).1
      rw [decide_eq_true (by omega)]
      rfl
end
/-- One side goes on by one turn, or stays. -/
def nextL (e : Int) : List Int → List Int
  | [] => []
  | z :: A => if e = z then A else z :: A
def nextB (e : Int) (x : Bool) : List Int → Bool
  | [] => x
  | z :: _ => if e = z then !x else x
theorem next_spec (e : Int) (A : List Int) (x : Bool) (hs : A.Pairwise (· < ·)) (hge : ∀ z ∈ A, e ≤ z) (hl : A.getLast? = some 1099511627777) (he : e < 1099511627777) :
    (nextL e A).Pairwise (· < ·) ∧ (nextL e A).getLast? = some 1099511627777 ∧ (∀ z ∈ nextL e A, e < z) ∧ (∀ t, e ≤ t → par A x t = par (nextL e A) (nextB e x A) t) ∧ (nextL e A).length ≤ A.length ∧ (∀ A0 A1, A = A0 :: A1 → e = A0 → (nextL e A).length + 1 ≤ A.length) := by
  match A, hs, hge, hl with
  | [], _, _, hl => cases hl
  | z :: A, hs, hge, hl =>
    obtain ⟨h1, h2⟩ := List.pairwise_cons.1 hs
    by_cases hz : e = z
    · subst hz
      have e1 : nextL e (e :: A) = A := if_pos rfl
      have e2 : nextB e x (e :: A) = !x := if_pos rfl
      rw [e1, e2]
      refine ⟨h2, ?_, h1, fun t ht => par_ge _ _ _ _ ht, by simp, fun A0 A1 _ _ => by simp⟩
      match A, hl with
      | [], hl => simp at hl; omega
      | _ :: _, hl => rw [← hl]; rfl
    · have e1 : nextL e (z :: A) = z :: A := if_neg hz
      have e2 : nextB e x (z :: A) = x := if_neg hz
      rw [e1, e2]
      have hz' := hge z (by simp)
      refine ⟨hs, hl, fun y hy => ?_, fun t _ => rfl, Nat.le_refl _, fun A0 A1 h h' => ?_⟩
      · simp only [List.mem_cons] at hy
        rcases hy with rfl | hy
        · omega
        · have := h1 y hy
          omega
      · injection h with h _
        exact absurd (h'.trans h.symm) hz
section
variable {k : Bool → Bool → Bool} {a b : List P} {A B : List Int} {x y o : Bool} {kept : List P} {c : Int} {K : List P} {s : Int}
/-- The least of the next turns. -/
def atL (A B : List Int) : Int := min (A.headD 0) (B.headD 0)
theorem Inv.shape (h : Inv k a b A B x y o kept c K s) : ∃ z A1 y B1, A = z :: A1 ∧ B = y :: B1 := by
  match A, B, h.lA, h.lB with
  | z :: A1, y :: B1, _, _ => exact ⟨z, A1, y, B1, rfl, rfl⟩
theorem Inv.least (h : Inv k a b A B x y o kept c K s) : c < atL A B ∧ (∀ z ∈ A, atL A B ≤ z) ∧ (∀ z ∈ B, atL A B ≤ z) ∧ atL A B ≤ 1099511627777 ∧ (atL A B = A.headD 0 ∨ atL A B = B.headD 0) := by
  obtain ⟨z, A1, y, B1, rfl, rfl⟩ := h.shape
  have hA := List.pairwise_cons.1 h.sA
  have hB := List.pairwise_cons.1 h.sB
  have gz := h.gA z (by simp)
  have gy := h.gB y (by simp)
  have tA : ∀ v ∈ z :: A1, z ≤ v := fun v hv => by
    simp only [List.mem_cons] at hv
    rcases hv with rfl | hv
    · exact Int.le_refl _
    · have := hA.1 v hv
      omega
  have tB : ∀ v ∈ y :: B1, y ≤ v := fun v hv => by
    simp only [List.mem_cons] at hv
    rcases hv with rfl | hv
    · exact Int.le_refl _
    · have := hB.1 v hv
      omega
  have e : atL (z :: A1) (y :: B1) = min z y := rfl
  have l1 : z ≤ 1099511627777 := tA _ (List.mem_of_getLast? h.lA)
  rw [e]
  refine ⟨by omega, fun v hv => ?_, fun v hv => ?_, by omega, ?_⟩
  · have := tA v hv
    omega
  · have := tB v hv
    omega
  · show min z y = z ∨ min z y = y
    omega
theorem Inv.shrink (h : Inv k a b A B x y o kept c K s) (hlt : atL A B < 1099511627777) : (nextL (atL A B) A).length + (nextL (atL A B) B).length + 1 ≤ A.length + B.length := by
  obtain ⟨h1, h2, h3, h4, h5⟩ := h.least
  obtain ⟨_, _, _, _, a5, a6⟩ := next_spec (atL A B) A x h.sA h2 h.lA hlt
  obtain ⟨_, _, _, _, b5, b6⟩ := next_spec (atL A B) B y h.sB h3 h.lB hlt
  obtain ⟨z, A1, y, B1, rfl, rfl⟩ := h.shape
  rcases h5 with h5 | h5
  · have := a6 z A1 rfl h5
    omega
  · have := b6 y B1 rfl h5
    omega
/-- A turn at which what is kept stays as it is. -/
theorem Inv.go (h : Inv k a b A B x y o kept c K s) (hlt : atL A B < 1099511627777) (hk : k (nextB (atL A B) x A) (nextB (atL A B) y B) = o) :
    Inv k a b (nextL (atL A B) A) (nextL (atL A B) B) (nextB (atL A B) x A) (nextB (atL A B) y B) o kept (atL A B) K s := by
  obtain ⟨h1, h2, h3, h4, h5⟩ := h.least
  obtain ⟨a1, a2, a3, a4, a5, a6⟩ := next_spec (atL A B) A x h.sA h2 h.lA hlt
  obtain ⟨b1, b2, b3, b4, b5, b6⟩ := next_spec (atL A B) B y h.sB h3 h.lB hlt
  refine ⟨a1, b1, a2, b2, a3, b3, fun t p q => ?_, fun t p q => ?_, hk.symm, h.kk, h.nK, fun q hq => ?_, fun e => ?_, fun t ht => ?_, ?_⟩
  · rw [← a4 t p, h.pA t (by omega) q]
  · rw [← b4 t p, h.pB t (by omega) q]
  · have := h.cK q hq
    omega
  · have := h.so e
    exact ⟨by omega, this.2⟩
  · exact h.upto t _ h2 h3 h4 ht
  · have := h.len
    omega
/-- A turn at which what is kept ceases. -/
theorem Inv.stop (h : Inv k a b A B x y true kept c K s) (hlt : atL A B < 1099511627777) (hk : k (nextB (atL A B) x A) (nextB (atL A B) y B) = false) :
    Inv k a b (nextL (atL A B) A) (nextL (atL A B) B) (nextB (atL A B) x A) (nextB (atL A B) y B) false (K ++ [(s, atL A B)]) (atL A B) (K ++ [(s, atL A B)]) 0 := by
  obtain ⟨h1, h2, h3, h4, h5⟩ := h.least
  obtain ⟨a1, a2, a3, a4, a5, a6⟩ := next_spec (atL A B) A x h.sA h2 h.lA hlt
  obtain ⟨b1, b2, b3, b4, b5, b6⟩ := next_spec (atL A B) B y h.sB h3 h.lB hlt
  obtain ⟨s1, s2⟩ := h.so rfl
  refine ⟨a1, b1, a2, b2, a3, b3, fun t p q => ?_, fun t p q => ?_, hk.symm, by simp, NF.snoc.2 ⟨h.nK, (mayP_iff _).2 ⟨by show s < atL A B; omega, by show atL A B ≤ _; omega⟩, s2⟩, fun q hq => ?_, (fun e => by cases e), fun t ht => ?_, ?_⟩
  · rw [← a4 t p, h.pA t (by omega) q]
  · rw [← b4 t p, h.pB t (by omega) q]
  · simp only [List.mem_append, List.mem_singleton] at hq
    rcases hq with hq | rfl
    · have := h.cK q hq
      omega
    · exact Int.le_refl _
  · rw [← h.upto t _ h2 h3 h4 ht, has_append, has_cons, has_nil, Bool.or_false, Bool.false_and, Bool.or_false]
    have e : hasP (s, atL A B) t = (true && decide (s ≤ t)) := by
      rw [Bool.eq_iff_iff, hasP_iff, Bool.true_and, decide_eq_true_eq]
      show ((s < atL A B ∧ atL A B ≤ _) ∧ s ≤ t ∧ t < atL A B) ↔ s ≤ t
      omega
    rw [e]
  · have hl := h.len
    have := h.shrink hlt
    rw [h.kk] at hl
    simp only [List.length_append, List.length_cons, List.length_nil, if_true, Bool.false_eq_true, if_false] at hl ⊢
    omega
/-- A turn at which something begins. -/
theorem Inv.begin (h : Inv k a b A B x y false kept c K s) (hlt : atL A B < 1099511627777) (hk : k (nextB (atL A B) x A) (nextB (atL A B) y B) = true) :
    Inv k a b (nextL (atL A B) A) (nextL (atL A B) B) (nextB (atL A B) x A) (nextB (atL A B) y B) true (kept ++ [(atL A B, 0)]) (atL A B) K (atL A B) := by
  obtain ⟨h1, h2, h3, h4, h5⟩ := h.least
  obtain ⟨a1, a2, a3, a4, a5, a6⟩ := next_spec (atL A B) A x h.sA h2 h.lA hlt
  obtain ⟨b1, b2, b3, b4, b5, b6⟩ := next_spec (atL A B) B y h.sB h3 h.lB hlt
  have hkk : kept = K := by rw [h.kk]; simp
  refine ⟨a1, b1, a2, b2, a3, b3, fun t p q => ?_, fun t p q => ?_, hk.symm, by simp [hkk], h.nK, fun q hq => ?_, fun _ => ⟨Int.le_refl _, fun q hq => ?_⟩, fun t ht => ?_, ?_⟩
  · rw [← a4 t p, h.pA t (by omega) q]
  · rw [← b4 t p, h.pB t (by omega) q]
  · have := h.cK q hq
    omega
  · have := h.cK q hq
    omega
  · rw [← h.upto t _ h2 h3 h4 ht, decide_eq_false (by omega), Bool.and_false, Bool.false_and]
  · have hl := h.len
    have := h.shrink hlt
    simp only [List.length_append, List.length_cons, List.length_nil, if_true, Bool.false_eq_true, if_false] at hl ⊢
    omega
/-- Behind the last turn. -/
theorem Inv.done (h : Inv k a b A B x y o kept c K s) (hk : k false false = false) (hat : atL A B = 1099511627777) : Res k a b kept := by
  obtain ⟨h1, h2, h3, h4, h5⟩ := h.least
  have tail : ∀ (A : List Int) (x : Bool) (l : List P), A.Pairwise (· < ·) → A.getLast? = some 1099511627777 → (∀ z ∈ A, 1099511627777 ≤ z) → (∀ t, c ≤ t → t < 1099511627777 → par A x t = Iset.has l t) → x = false := fun A x l p q r s => by
    have := s 1099511627776 (by omega) (by omega)
    rw [par_lt A x _ fun z hz => by have := r z hz; omega, has_beyond l _ (Int.le_refl _)] at this
    exact this
  rw [hat] at h2 h3
  have ex := tail A x a h.sA h.lA h2 h.pA
  have ey := tail B y b h.sB h.lB h3 h.pB
  have eo : o = false := by rw [h.oo, ex, ey, hk]
  have hkk : kept = K := by rw [h.kk, eo]; simp
  refine ⟨hkk ▸ h.nK, fun t => ?_, ?_⟩
  · by_cases ht : t < 1099511627777
    · rw [← h.upto t _ h2 h3 (Int.le_refl _) ht, eo, hkk, Bool.false_and, Bool.or_false]
    · rw [has_beyond kept t (by omega), has_beyond a t (by omega), has_beyond b t (by omega), hk]
  · have hl := h.len
    rw [eo] at hl
    simp only [Bool.false_eq_true, if_false] at hl
    omega
end
end Iset
end Go.Proofs.YtmolpogehgeebaaGreat.Se


namespace Go.Proofs.YtmolpogehgeebaaGreat.Se
namespace Iset
/-- How many of the first n instants a set holds. -/
def cnt (f : Int → Bool) : Nat → Int
  | 0 => 0
  | n + 1 => cnt f n + if f n then 1 else 0
theorem cnt_congr (f g : Int → Bool) (n : Nat) (h : ∀ t : Int, 0 ≤ t → f t = g t) : cnt f n = cnt g n := by
  induction n with
  | zero => rfl
  | succ n ih => rw [cnt, cnt, ih, h n (by omega)]
theorem cnt_or_and (f g : Int → Bool) (n : Nat) : cnt (fun t => f t || g t) n + cnt (fun t => f t && g t) n = cnt f n + cnt g n := by
  induction n with
  | zero => rfl
  | succ n ih =>
    have key : ∀ (p q : Bool), (if (p || q) = true then (1 : Int) else 0) + (if (p && q) = true then 1 else 0) = (if p = true then 1 else 0) + (if q = true then 1 else 0) := by decide
    have := key (f n) (g n)
    simp only [cnt]
    omega
theorem cnt_none (n : Nat) : cnt (fun _ => false) n = 0 := by
  induction n with
  | zero => rfl
  | succ n ih => simp [cnt, ih]
theorem cnt_span (a b : Int) (n : Nat) (h0 : 0 ≤ a) (h1 : a ≤ b) (h2 : b ≤ n) : cnt (fun t => decide (a ≤ t) && decide (t < b)) n = b - a := by
  have key : ∀ m : Nat, cnt (fun t => decide (a ≤ t) && decide (t < b)) m = if (m : Int) ≤ a then 0 else if (m : Int) ≤ b then m - a else b - a := by
    intro m
    induction m with
    | zero => rw [cnt, if_pos (by simpa using h0)]
    | succ m ih =>
      have hc : ((m + 1 : Nat) : Int) = (m : Int) + 1 := rfl
      rw [cnt, ih, hc]
      by_cases x1 : a ≤ (m : Int)
      · by_cases x2 : (m : Int) < b
        · rw [decide_eq_true x1, decide_eq_true x2]
          simp only [Bool.and_self, if_true]
          split <;> (try split) <;> (try split) <;> (try split) <;> omega
        · rw [decide_eq_false x2, Bool.and_false]
          simp only [Bool.false_eq_true, if_false, Int.add_zero]
          split <;> (try split) <;> (try split) <;> (try split) <;> omega
      · rw [decide_eq_false x1, Bool.false_and]
        simp only [Bool.false_eq_true, if_false, Int.add_zero]
        split <;> (try split) <;> (try split) <;> (try split) <;> omega
  rw [key]
  split <;> (try split) <;> omega
/-- The sum of the lengths. -/
def sumL : List P → Int
  | [] => 0
  | p :: l => (p.2 - p.1) + sumL l
theorem NF.sum : ∀ {l : List P}, NF l → Wide l → ∀ n : Nat, (∀ p ∈ l, p.2 ≤ n) → sumL l = cnt (Iset.has l) n
  | [], _, _, n, _ => (cnt_none n).symm
  | p :: l, h, hw, n, hn => by
    have mp := (mayP_iff p).1 (h.may p (by simp))
    have wp := hw p (by simp)
    have ih := NF.sum h.cons (fun q hq => hw q (by simp [hq])) n fun q hq => hn q (by simp [hq])
    have e := cnt_or_and (fun t => decide (p.1 ≤ t) && decide (t < p.2)) (Iset.has l) n
    rw [cnt_span p.1 p.2 n wp.1 (by omega) (hn p (by simp))] at e
    have e1 : cnt (fun t => decide (p.1 ≤ t) && decide (t < p.2) && Iset.has l t) n = 0 := by
      rw [← cnt_none n]
      refine cnt_congr _ _ _ fun t _ => ?_
      rw [Bool.eq_false_iff]
      intro hh
      simp only [Bool.and_eq_true, decide_eq_true_eq] at hh
      have := h.gap t hh.2
      omega
    have e2 : cnt (fun t => decide (p.1 ≤ t) && decide (t < p.2) || Iset.has l t) n = cnt (Iset.has (p :: l)) n := by
      refine cnt_congr _ _ _ fun t _ => ?_
      rw [has_cons]
      congr 1
      rw [hasP, (mayP_iff p).2 mp, Bool.true_and]
    rw [sumL, ih]
    omega
/-- How many instants a list means. -/
def size (l : List P) : Int := sumL (nf l)
theorem size_eq (l : List P) (h : Wide l) : size l = cnt (has l) 1099511627776 := by
  rw [size, (nf_nf l).sum (nf_wide h) 1099511627776 fun p hp => ((mayP_iff p).1 ((nf_nf l).may p hp)).2]
  exact cnt_congr _ _ _ fun t _ => nf_has l t
/-- Does a hold all that b holds? -/
def covers (a b : List P) : Prop := ∀ t, has b t = true → has a t = true
theorem minus_nil_iff {a b R : List P} (h : Res (fun x y => x && !y) b a R) : R = [] ↔ covers a b := by
  constructor
  · rintro rfl t ht
    have := h.has t
    rw [has_nil, ht] at this
    simpa using this.symm
  · intro hc
    refine NF.ext h.nf NF.nil fun t => ?_
    rw [h.has, has_nil]
    cases hb : has b t
    · rfl
    · rw [hc t hb]
      rfl
theorem Res.wide {k : Bool → Bool → Bool} {a b R : List P} (hk : k false false = false) (h : Res k a b R) (ha : Wide a) (hb : Wide b) : Wide R :=
  h.nf.wide fun t ht => by rw [h.has, has_neg a ha t ht, has_neg b hb t ht, hk]
end Iset
end Go.Proofs.YtmolpogehgeebaaGreat.Se


namespace Go.Proofs.YtmolpogehgeebaaGreat.Se
namespace Iset
open Go.Lib
/-- What stands ahead of the first c, and behind it. -/
def cutAt (c : UInt8) : List UInt8 → List UInt8 × List UInt8 × Bool
  | [] => ([], [], false)
  | x :: l => if x = c then ([], l, true) else (x :: (cutAt c l).1, (cutAt c l).2)
theorem cutAt_shorter (c : UInt8) : ∀ (l : List UInt8), (cutAt c l).2.1.length ≤ l.length ∧ ((cutAt c l).2.2 = true → (cutAt c l).2.1.length < l.length)
  | [] => by simp [cutAt]
  | x :: l => by
    rw [cutAt]
    split
    · simp
    · have := cutAt_shorter c l
      simp only [List.length_cons]
      exact ⟨by omega, fun h => by have := this.2 h; omega⟩
/-- An end, read. -/
def readEndL (l : List UInt8) : Option Int := if l = [42] then some 1099511627776 else match parseMag l with
  | .ok u => some (u : Int)
  | _ => none
/-- A period, read; what is behind it. -/
def readPL (l : List UInt8) : Option (P × List UInt8) := match l with
  | [] => none
  | x :: l1 => if x = 91 then (if (cutAt 44 l1).2.2 = true ∧ (cutAt 41 (cutAt 44 l1).2.1).2.2 = true then
      match readEndL (cutAt 44 l1).1, readEndL (cutAt 41 (cutAt 44 l1).2.1).1 with
      | some a, some b => some ((a, b), (cutAt 41 (cutAt 44 l1).2.1).2.1)
      | _, _ => none
    else none) else none
/-- Period by period. -/
inductive Reads : List UInt8 → List P → Prop
  | nil : Reads [] []
  | cons {l r : List UInt8} {p : P} {L : List P} : readPL l = some (p, r) → Reads r L → Reads l (p :: L)
theorem readPL_shorter {l r : List UInt8} {p : P} (h : readPL l = some (p, r)) : r.length + 3 ≤ l.length := by
  unfold readPL at h
  match l, h with
  | x :: l1, h =>
    simp only at h
    split at h
    · split at h
      · rename_i hc
        have h1 := (cutAt_shorter 44 l1).2 hc.1
        have h2 := (cutAt_shorter 41 (cutAt 44 l1).2.1).2 hc.2
        split at h
        · injection h with h
          injection h with _ h
          subst h
          simp only [List.length_cons]
          omega
        · cases h
      · cases h
    · cases h
theorem Reads.length {l : List UInt8} {L : List P} (h : Reads l L) : 3 * L.length ≤ l.length := by
  induction h with
  | nil => exact Nat.le_refl _
  | cons h _ ih =>
    have := readPL_shorter h
    simp only [List.length_cons]
    omega
end Iset
end Go.Proofs.YtmolpogehgeebaaGreat.Se


