/- The document's way, in plain numbers: piece by piece between all ends. -/
import Derived.Test.YtgjahnidjcfbiaaGreatDoorI5
namespace Go.Proofs.YtgjahnidjcfbiaaGreatDoor
namespace Iset
/-- The ends of what may be; 0 and the end of time, too. -/
def allE (l : List P) : List Int := [0, 1099511627776] ++ ((l.filter mayP).flatMap fun p => [p.1, p.2])
theorem allE_snoc (l : List P) (p : P) : allE (l ++ [p]) = allE l ++ (if mayP p then [p.1, p.2] else []) := by
  cases h : mayP p <;> simp [allE, List.filter_append, h]
theorem allE_take (l : List P) (k : Nat) (h : k < l.length) : allE (l.take (k + 1)) = allE (l.take k) ++ (if mayP (l[k].1, l[k].2) then [l[k].1, l[k].2] else []) := by
  rw [List.take_succ_eq_append_getElem h, allE_snoc]
theorem flat_length : ∀ (l : List P), (l.flatMap fun p => [p.1, p.2]).length = 2 * l.length
  | [] => rfl
  | p :: l => by
    have := flat_length l
    simp only [List.flatMap_cons, List.length_append, List.length_cons, List.length_nil] at *
    omega
theorem allE_length (l : List P) : (allE l).length ≤ 2 + 2 * l.length := by
  have := List.length_filter_le mayP l
  rw [allE, List.length_append, flat_length]
  simp only [List.length_cons, List.length_nil]
  omega
theorem allE_mem (l : List P) (z : Int) : z ∈ allE l ↔ z = 0 ∨ z = 1099511627776 ∨ ∃ p ∈ l, mayP p = true ∧ (z = p.1 ∨ z = p.2) := by
  simp [allE]
  constructor
  · rintro (h | h | ⟨x, y, ⟨h1, h2⟩, h3⟩)
    · exact .inl h
    · exact .inr (.inl h)
    · exact .inr (.inr ⟨x, y, h1, h2, h3⟩)
  · rintro (h | h | ⟨x, y, h1, h2, h3⟩)
    · exact .inl h
    · exact .inr (.inl h)
    · exact .inr (.inr ⟨x, y, ⟨h1, h2⟩, h3⟩)
/-- Is it above what is out? -/
def aboveB (out : List Int) (z : Int) : Bool := match out.getLast? with
  | none => true
  | some y => decide (y < z)
theorem above_nil (z : Int) : aboveB [] z = true := rfl
theorem above_snoc (out : List Int) (y z : Int) : aboveB (out ++ [y]) z = decide (y < z) := by simp [aboveB]
theorem nil_or_snocI (s : List Int) : s = [] ∨ ∃ s' q, s = s' ++ [q] := by
  rcases List.eq_nil_or_concat s with h | ⟨a, b, h⟩
  · exact .inl h
  · exact .inr ⟨a, b, by simpa using h⟩
/-- The least of those above, among the first. -/
structure Sel (all out : List Int) (j : Nat) (is : Bool) (least : Int) : Prop where
  no : is = false → ∀ m (h : m < all.length), m < j → aboveB out all[m] = false
  yes : is = true → least ∈ all ∧ aboveB out least = true ∧ ∀ m (h : m < all.length), m < j → aboveB out all[m] = true → least ≤ all[m]
theorem Sel.start (all out : List Int) : Sel all out 0 false 0 := ⟨fun _ m _ h => absurd h (Nat.not_lt_zero m), fun h => by cases h⟩
theorem Sel.skip {all out : List Int} {j : Nat} {is : Bool} {least : Int} (h : Sel all out j is least) (hj : j < all.length) (ha : aboveB out all[j] = false) : Sel all out (j + 1) is least := by
  refine ⟨fun e m hm h1 => ?_, fun e => ⟨(h.yes e).1, (h.yes e).2.1, fun m hm h1 h2 => ?_⟩⟩
  · by_cases x : m = j
    · subst x; exact ha
    · exact h.no e m hm (by omega)
  · by_cases x : m = j
    · subst x; rw [ha] at h2; cases h2
    · exact (h.yes e).2.2 m hm (by omega) h2
theorem Sel.take {all out : List Int} {j : Nat} {is : Bool} {least : Int} (h : Sel all out j is least) (hj : j < all.length) (ha : aboveB out all[j] = true) (hl : is = false ∨ all[j] < least) : Sel all out (j + 1) true all[j] := by
  refine ⟨(fun e => by cases e), fun _ => ⟨List.getElem_mem hj, ha, fun m hm h1 h2 => ?_⟩⟩
  by_cases x : m = j
  · subst x; exact Int.le_refl _
  · cases is with
    | false => rw [h.no rfl m hm (by omega)] at h2; cases h2
    | true =>
      have := (h.yes rfl).2.2 m hm (by omega) h2
      rcases hl with hl | hl
      · cases hl
      · omega
theorem Sel.leave {all out : List Int} {j : Nat} {least : Int} (h : Sel all out j true least) (hj : j < all.length) (hl : ¬ all[j] < least) : Sel all out (j + 1) true least := by
  refine ⟨(fun e => by cases e), fun _ => ⟨(h.yes rfl).1, (h.yes rfl).2.1, fun m hm h1 h2 => ?_⟩⟩
  by_cases x : m = j
  · subst x; omega
  · exact (h.yes rfl).2.2 m hm (by omega) h2
theorem sub_len : ∀ (out all : List Int), out.Pairwise (· < ·) → (∀ z ∈ out, z ∈ all) → out.length ≤ all.length
  | [], _, _, _ => Nat.zero_le _
  | x :: out, all, hs, hm => by
    obtain ⟨h1, h2⟩ := List.pairwise_cons.1 hs
    have hx : x ∈ all := hm x (by simp)
    have := sub_len out (all.erase x) h2 fun z hz => by
      have := h1 z hz
      exact (List.mem_erase_of_ne (by omega)).2 (hm z (by simp [hz]))
    rw [List.length_erase_of_mem hx] at this
    have := List.length_pos_of_mem hx
    simp only [List.length_cons]
    omega
/-- What is out: the least of all, rising. -/
structure Outs (all out : List Int) : Prop where
  srt : out.Pairwise (· < ·)
  sub : ∀ z ∈ out, z ∈ all
  cov : ∀ z ∈ all, z ∈ out ∨ aboveB out z = true
theorem Outs.start (all : List Int) : Outs all [] := ⟨.nil, by simp, fun _ _ => .inr rfl⟩
theorem Outs.len {all out : List Int} (h : Outs all out) : out.length ≤ all.length := sub_len out all h.srt h.sub
theorem Outs.add {all out : List Int} {least : Int} (h : Outs all out) (s : Sel all out all.length true least) : Outs all (out ++ [least]) := by
  obtain ⟨s1, s2, s3⟩ := s.yes rfl
  refine ⟨?_, fun z hz => ?_, fun z hz => ?_⟩
  · refine List.pairwise_append.2 ⟨h.srt, by simp, fun z hz y hy => ?_⟩
    simp only [List.mem_singleton] at hy
    subst hy
    rcases nil_or_snocI out with rfl | ⟨o, q, rfl⟩
    · simp at hz
    · rw [above_snoc, decide_eq_true_eq] at s2
      simp only [List.mem_append, List.mem_singleton] at hz
      rcases hz with hz | rfl
      · have := (List.pairwise_append.1 h.srt).2.2 z hz q (by simp)
        omega
      · exact s2
  · simp only [List.mem_append, List.mem_singleton] at hz
    rcases hz with hz | rfl
    · exact h.sub z hz
    · exact s1
  · rcases h.cov z hz with x | x
    · exact .inl (by simp [x])
    · obtain ⟨m, hm, rfl⟩ := List.getElem_of_mem hz
      have := s3 m hm hm x
      rw [above_snoc]
      by_cases e : all[m] = least
      · exact .inl (by simp [e])
      · exact .inr (by simp; omega)
/-- All ends, rising, each once. -/
def EndsOf (l : List P) (E : List Int) : Prop := E.Pairwise (· < ·) ∧ (∀ z, z ∈ E ↔ z ∈ allE l) ∧ E.length ≤ 2 + 2 * l.length
theorem Outs.done {l : List P} {out : List Int} {least : Int} (h : Outs (allE l) out) (s : Sel (allE l) out (allE l).length false least) : EndsOf l out := by
  refine ⟨h.srt, fun z => ⟨h.sub z, fun hz => ?_⟩, Nat.le_trans h.len (allE_length l)⟩
  rcases h.cov z hz with x | x
  · exact x
  · obtain ⟨m, hm, rfl⟩ := List.getElem_of_mem hz
    rw [s.no rfl m hm hm] at x
    cases x
theorem sorted_get {E : List Int} (h : E.Pairwise (· < ·)) (i j : Nat) (hi : i < E.length) (hj : j < E.length) (hij : i < j) : E[i] < E[j] := List.pairwise_iff_getElem.1 h i j hi hj hij
/-- What the document asks of the ends. -/
structure Grid (a b : List P) (E : List Int) : Prop where
  pos : 2 ≤ E.length
  len : E.length ≤ 2 + 2 * (a.length + b.length)
  first : ∀ (h : 0 < E.length), E[0] = 0
  last : ∀ i (h : i < E.length), i + 1 = E.length → E[i] = 1099511627776
  rise : ∀ i (h : i + 1 < E.length), E[i]'(by omega) < E[i + 1]
  lo : ∀ z ∈ E, 0 ≤ z
  hi : ∀ z ∈ E, z ≤ 1099511627776
  onA : ∀ i (h : i + 1 < E.length) t, E[i]'(by omega) ≤ t → t < E[i + 1] → has a t = has a (E[i]'(by omega))
  onB : ∀ i (h : i + 1 < E.length) t, E[i]'(by omega) ≤ t → t < E[i + 1] → has b t = has b (E[i]'(by omega))
theorem Grid.of {a b : List P} {E : List Int} (wa : Wide a) (wb : Wide b) (h : EndsOf (a ++ b) E) : Grid a b E := by
  obtain ⟨h1, h2, h3⟩ := h
  have m0 : (0 : Int) ∈ E := (h2 0).2 ((allE_mem _ _).2 (.inl rfl))
  have mF : (1099511627776 : Int) ∈ E := (h2 _).2 ((allE_mem _ _).2 (.inr (.inl rfl)))
  have lo : ∀ z ∈ E, 0 ≤ z := fun z hz => by
    rcases (allE_mem _ _).1 ((h2 z).1 hz) with rfl | rfl | ⟨p, hp, _, e⟩
    · omega
    · omega
    · have : 0 ≤ p.1 ∧ 0 ≤ p.2 := by
        rcases List.mem_append.1 hp with x | x
        · exact wa p x
        · exact wb p x
      omega
  have hi : ∀ z ∈ E, z ≤ 1099511627776 := fun z hz => by
    rcases (allE_mem _ _).1 ((h2 z).1 hz) with rfl | rfl | ⟨p, hp, m, e⟩
    · omega
    · omega
    · have := (mayP_iff p).1 m
      omega
  obtain ⟨i0, hi0, e0⟩ := List.getElem_of_mem m0
  obtain ⟨iF, hiF, eF⟩ := List.getElem_of_mem mF
  have key : ∀ i (h : i + 1 < E.length) t, E[i]'(by omega) ≤ t → t < E[i + 1] → ∀ z ∈ E, (z ≤ t ↔ z ≤ E[i]'(by omega)) := fun i h t ht1 ht2 z hz => by
    obtain ⟨j, hj, rfl⟩ := List.getElem_of_mem hz
    rcases Nat.lt_trichotomy j i with x | x | x
    · have := sorted_get h1 j i hj (by omega) x
      omega
    · subst x; omega
    · have b1 := sorted_get h1 i j (by omega) hj x
      have b2 : E[i + 1] ≤ E[j] := by
        by_cases y : i + 1 = j
        · subst y; exact Int.le_refl _
        · have := sorted_get h1 (i + 1) j h hj (by omega)
          omega
      omega
  have con : ∀ (c : List P), (∀ p ∈ c, p ∈ a ++ b) → ∀ i (h : i + 1 < E.length) t, E[i]'(by omega) ≤ t → t < E[i + 1] → has c t = has c (E[i]'(by omega)) := fun c hc i h t ht1 ht2 => by
    have each : ∀ p ∈ c, hasP p t = hasP p (E[i]'(by omega)) := fun p hp => by
      cases m : mayP p
      · simp [hasP, m]
      · have a1 : p.1 ∈ E := (h2 _).2 ((allE_mem _ _).2 (.inr (.inr ⟨p, hc p hp, m, .inl rfl⟩)))
        have a2 : p.2 ∈ E := (h2 _).2 ((allE_mem _ _).2 (.inr (.inr ⟨p, hc p hp, m, .inr rfl⟩)))
        have k1 := key i h t ht1 ht2 _ a1
        have k2 := key i h t ht1 ht2 _ a2
        rw [Bool.eq_iff_iff, hasP_iff, hasP_iff]
        omega
    rw [Bool.eq_iff_iff, has_iff, has_iff]
    constructor
    · rintro ⟨p, hp, x⟩
      exact ⟨p, hp, by rw [← each p hp]; exact x⟩
    · rintro ⟨p, hp, x⟩
      exact ⟨p, hp, by rw [each p hp]; exact x⟩
  refine ⟨?_, by rw [List.length_append] at h3; exact h3, fun h => ?_, fun i h e => ?_, fun i h => sorted_get h1 i (i + 1) (by omega) h (by omega), lo, hi, con a (fun p hp => by simp [hp]), con b (fun p hp => by simp [hp])⟩
  · by_cases x : 2 ≤ E.length
    · exact x
    · have : i0 = iF := by omega
      subst this
      omega
  · have l0 := lo E[0] (List.getElem_mem h)
    by_cases x : i0 = 0
    · subst x; exact e0
    · have := sorted_get h1 0 i0 h hi0 (by omega)
      omega
  · have l0 := hi E[i] (List.getElem_mem h)
    by_cases x : iF = i
    · subst x; exact eF
    · have := sorted_get h1 iF i hiF h (by omega)
      omega
/-- What is kept so far. -/
structure Kin (k : Bool → Bool → Bool) (a b : List P) (c : Int) (i : Nat) (out : List P) : Prop where
  nf : NF out
  le : ∀ q ∈ out, q.2 ≤ c
  ge : ∀ q ∈ out, 0 ≤ q.1
  has : ∀ t, 0 ≤ t → t < c → Iset.has out t = k (Iset.has a t) (Iset.has b t)
  len : out.length ≤ i
section
variable {k : Bool → Bool → Bool} {a b out : List P} {c e0 e1 : Int} {i : Nat} {q : P}
theorem Kin.start : Kin k a b 0 0 [] := ⟨NF.nil, by simp, by simp, fun t h h' => by omega, Nat.le_refl _⟩
theorem le_none (h : ∀ q ∈ out, q.2 ≤ e0) (t : Int) (ht : e0 ≤ t) : has out t = false := by
  rw [Bool.eq_false_iff]
  intro e
  obtain ⟨p, hp, x⟩ := (has_iff out t).1 e
  have := h p hp
  have := (hasP_iff p t).1 x
  omega
theorem Kin.skip (h : Kin k a b e0 i out) (h01 : e0 < e1) (ha : ∀ t, e0 ≤ t → t < e1 → Iset.has a t = Iset.has a e0) (hb : ∀ t, e0 ≤ t → t < e1 → Iset.has b t = Iset.has b e0) (hk : k (Iset.has a e0) (Iset.has b e0) = false) : Kin k a b e1 (i + 1) out := by
  refine ⟨h.nf, fun q hq => ?_, h.ge, fun t t0 t1 => ?_, ?_⟩
  · have := h.le q hq; omega
  · by_cases x : t < e0
    · exact h.has t t0 x
    · rw [le_none h.le t (by omega), ha t (by omega) t1, hb t (by omega) t1, hk]
  · have := h.len; omega
theorem Kin.join (h : Kin k a b e0 i (out ++ [q])) (hq : q.2 = e0) (h01 : e0 < e1) (hF : e1 ≤ 1099511627776) (ha : ∀ t, e0 ≤ t → t < e1 → Iset.has a t = Iset.has a e0) (hb : ∀ t, e0 ≤ t → t < e1 → Iset.has b t = Iset.has b e0) (hk : k (Iset.has a e0) (Iset.has b e0) = true) : Kin k a b e1 (i + 1) (out ++ [(q.1, e1)]) := by
  have hs := NF.snoc.1 h.nf
  have mq := (mayP_iff q).1 hs.2.1
  refine ⟨NF.snoc.2 ⟨hs.1, (mayP_iff _).2 ⟨by show q.1 < e1; omega, hF⟩, hs.2.2⟩, fun p hp => ?_, fun p hp => ?_, fun t t0 t1 => ?_, ?_⟩
  · simp only [List.mem_append, List.mem_singleton] at hp
    rcases hp with hp | rfl
    · have := h.le p (by simp [hp]); omega
    · exact Int.le_refl _
  · simp only [List.mem_append, List.mem_singleton] at hp
    rcases hp with hp | rfl
    · exact h.ge p (by simp [hp])
    · exact h.ge q (by simp)
  · by_cases x : t < e0
    · rw [← h.has t t0 x, has_append, has_append, has_cons, has_cons, has_nil, Bool.or_false, Bool.or_false]
      congr 1
      rw [Bool.eq_iff_iff, hasP_iff, hasP_iff]
      show ((q.1 < e1 ∧ e1 ≤ _) ∧ q.1 ≤ t ∧ t < e1) ↔ _
      omega
    · rw [ha t (by omega) t1, hb t (by omega) t1, hk, has_append, has_cons, has_nil, Bool.or_false, Bool.or_eq_true]
      refine .inr ((hasP_iff _ t).2 ?_)
      show (q.1 < e1 ∧ e1 ≤ _) ∧ q.1 ≤ t ∧ t < e1
      omega
  · have := h.len
    simp only [List.length_append, List.length_cons, List.length_nil] at *
    omega
theorem Kin.app (h : Kin k a b e0 i out) (hl : ∀ s q, out = s ++ [q] → q.2 ≠ e0) (h0 : 0 ≤ e0) (h01 : e0 < e1) (hF : e1 ≤ 1099511627776) (ha : ∀ t, e0 ≤ t → t < e1 → Iset.has a t = Iset.has a e0) (hb : ∀ t, e0 ≤ t → t < e1 → Iset.has b t = Iset.has b e0) (hk : k (Iset.has a e0) (Iset.has b e0) = true) : Kin k a b e1 (i + 1) (out ++ [(e0, e1)]) := by
  have gap : ∀ q ∈ out, q.2 < e0 := fun q hq => by
    rcases nil_or_snoc out with rfl | ⟨s, z, rfl⟩
    · simp at hq
    · have hz := hl s z rfl
      have lz := h.le z (by simp)
      simp only [List.mem_append, List.mem_singleton] at hq
      rcases hq with hq | rfl
      · have hs := NF.snoc.1 h.nf
        have := hs.2.2 q hq
        have := (mayP_iff z).1 hs.2.1
        omega
      · omega
  refine ⟨NF.snoc.2 ⟨h.nf, (mayP_iff _).2 ⟨h01, hF⟩, gap⟩, fun p hp => ?_, fun p hp => ?_, fun t t0 t1 => ?_, ?_⟩
  · simp only [List.mem_append, List.mem_singleton] at hp
    rcases hp with hp | rfl
    · have := h.le p hp; omega
    · exact Int.le_refl _
  · simp only [List.mem_append, List.mem_singleton] at hp
    rcases hp with hp | rfl
    · exact h.ge p hp
    · exact h0
  · by_cases x : t < e0
    · rw [← h.has t t0 x, has_append, has_cons, has_nil, Bool.or_false]
      have : hasP (e0, e1) t = false := by
        rw [Bool.eq_false_iff]
        intro e
        have e := ((hasP_iff _ t).1 e).2.1
        have e : e0 ≤ t := e
        omega
      rw [this, Bool.or_false]
    · rw [ha t (by omega) t1, hb t (by omega) t1, hk, has_append, has_cons, has_nil, Bool.or_false, Bool.or_eq_true]
      refine .inr ((hasP_iff _ t).2 ?_)
      show (e0 < e1 ∧ e1 ≤ _) ∧ e0 ≤ t ∧ t < e1
      omega
  · have := h.len
    simp only [List.length_append, List.length_cons, List.length_nil] at *
    omega
end
/-- What the document's Kept gives. -/
structure KL (k : Bool → Bool → Bool) (a b R : List P) : Prop where
  nf : NF R
  has : ∀ t, Iset.has R t = (inF t && k (Iset.has a t) (Iset.has b t))
  wide : Wide R
  len : R.length ≤ 1 + 2 * (a.length + b.length)
theorem Kin.done {k : Bool → Bool → Bool} {a b R : List P} {i : Nat} (h : Kin k a b 1099511627776 i R) (hi : i ≤ 1 + 2 * (a.length + b.length)) : KL k a b R := by
  refine ⟨h.nf, fun t => ?_, fun p hp => ?_, Nat.le_trans h.len hi⟩
  · by_cases t1 : t < 1099511627776
    · by_cases t0 : 0 ≤ t
      · rw [h.has t t0 t1]
        simp [inF, t0, t1]
      · have : Iset.has R t = false := by
          rw [Bool.eq_false_iff]
          intro e
          obtain ⟨p, hp, x⟩ := (has_iff R t).1 e
          have := h.ge p hp
          have := (hasP_iff p t).1 x
          omega
        rw [this]
        simp [inF, t0]
    · rw [has_beyond R t (by omega)]
      simp [inF, t1]
  · have := h.ge p hp
    have := (mayP_iff p).1 (h.nf.may p hp)
    exact ⟨by omega, by omega⟩
/-- The program's answer and the document's are one. -/
theorem KL.res {k : Bool → Bool → Bool} {a b R S : List P} (hk : k false false = false) (wa : Wide a) (wb : Wide b) (h : Res k a b S) (g : KL k a b R) : S = R := NF.ext h.nf g.nf fun t => by
  rw [h.has, g.has]
  cases hf : inF t
  · have : t < 0 ∨ 1099511627776 ≤ t := by
      by_cases x : t < 0
      · exact .inl x
      · by_cases y : 1099511627776 ≤ t
        · exact .inr y
        · simp [inF] at hf
          omega
    rcases this with x | x
    · rw [has_neg a wa t x, has_neg b wb t x, hk]; rfl
    · rw [has_beyond a t x, has_beyond b t x, hk]; rfl
  · simp
theorem KL.nf_eq {a R : List P} (wa : Wide a) (g : KL opOr a [] R) : R = Iset.nf a := NF.ext g.nf (nf_nf a) fun t => by
  rw [g.has, nf_has, has_nil]
  show (inF t && (Iset.has a t || false)) = _
  rw [Bool.or_false, in_has wa]
theorem KL.not {a R S : List P} (h : NotL a S) (g : KL (fun x _ => !x) a [] R) : S = R := NF.ext h.1 g.nf fun t => by
  rw [h.has, g.has]
end Iset
end Go.Proofs.YtgjahnidjcfbiaaGreatDoor
