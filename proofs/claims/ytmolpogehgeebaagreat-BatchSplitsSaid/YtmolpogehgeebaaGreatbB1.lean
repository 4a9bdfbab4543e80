

/- Lines in plain words: pieces with values of any kind; what a list of pieces means; a line is known by what it means; pieces joined where they touch; pieces cut by a set of instants; a piece put among others. No program. -/
namespace Go.Proofs.YtmolpogehgeebaaGreat
namespace Pl
/-- A piece: from, to, its value. -/
structure PC (V : Type) where
  a : Int
  b : Int
  v : V
theorem PC.ext' {V : Type} {x y : PC V} (h1 : x.a = y.a) (h2 : x.b = y.b) (h3 : x.v = y.v) : x = y := by
  cases x; cases y; simp only at h1 h2 h3; subst h1 h2 h3; rfl
section
variable {V : Type}
/-- A piece that may be. -/
def may (ok : V → Prop) (x : PC V) : Prop := x.a < x.b ∧ x.b ≤ 1099511627776 ∧ ok x.v
/-- y may be the next piece of a line behind x. -/
def follows (x y : PC V) : Prop := x.b < y.a ∨ (x.b = y.a ∧ x.v ≠ y.v)
/-- Pieces in order, none over another. -/
structure Par (ok : V → Prop) (l : List (PC V)) : Prop where
  good : ∀ x ∈ l, may ok x
  row : l.Pairwise fun x y => x.b ≤ y.a
def Chain : List (PC V) → Prop
  | [] => True
  | [_] => True
  | x :: y :: l => follows x y ∧ Chain (y :: l)
/-- A line. -/
structure Line (ok : V → Prop) (l : List (PC V)) : Prop where
  good : ∀ x ∈ l, may ok x
  chain : Chain l
open Classical in
/-- What pieces mean at an instant. -/
noncomputable def means (z : V) : List (PC V) → Int → V
  | [], _ => z
  | x :: l, t => if x.a ≤ t ∧ t < x.b then x.v else means z l t
theorem Chain.tail {x : PC V} {l : List (PC V)} (h : Chain (x :: l)) : Chain l := by
  cases l with
  | nil => trivial
  | cons y l => exact h.2
theorem Line.tail {ok : V → Prop} {x : PC V} {l : List (PC V)} (h : Line ok (x :: l)) : Line ok l :=
  ⟨fun y hy => h.good y (List.mem_cons_of_mem _ hy), h.chain.tail⟩
theorem Par.tail {ok : V → Prop} {x : PC V} {l : List (PC V)} (h : Par ok (x :: l)) : Par ok l :=
  ⟨fun y hy => h.good y (List.mem_cons_of_mem _ hy), (List.pairwise_cons.1 h.row).2⟩
theorem Par.nil (ok : V → Prop) : Par ok ([] : List (PC V)) := ⟨by simp, .nil⟩
theorem Line.nil (ok : V → Prop) : Line ok ([] : List (PC V)) := ⟨by simp, trivial⟩
theorem Line.ahead {ok : V → Prop} : ∀ {x : PC V} {l : List (PC V)}, Line ok (x :: l) → ∀ y ∈ l, x.b ≤ y.a
  | _, [], _, _, hy => by simp at hy
  | x, z :: l, h, y, hy => by
    have hf : follows x z := h.chain.1
    have hz := h.good z (by simp)
    have h1 : x.b ≤ z.a := by unfold follows at hf; omega
    rcases List.mem_cons.1 hy with rfl | hy
    · exact h1
    · have := Line.ahead h.tail y hy
      unfold may at hz
      omega
theorem Line.par {ok : V → Prop} : ∀ {l : List (PC V)}, Line ok l → Par ok l
  | [], _ => Par.nil ok
  | _ :: _, h => ⟨h.good, List.pairwise_cons.2 ⟨h.ahead, (Line.par h.tail).row⟩⟩
theorem means_none (z : V) : ∀ (l : List (PC V)) (t : Int), (∀ x ∈ l, ¬ (x.a ≤ t ∧ t < x.b)) → means z l t = z
  | [], _, _ => rfl
  | x :: l, t, h => by
    unfold means
    rw [if_neg (h x (by simp))]
    exact means_none z l t fun y hy => h y (List.mem_cons_of_mem _ hy)
theorem means_at {ok : V → Prop} (z : V) : ∀ {l : List (PC V)}, Par ok l → ∀ {x : PC V} {t : Int}, x ∈ l → x.a ≤ t → t < x.b → means z l t = x.v
  | [], _, _, _, hx, _, _ => by simp at hx
  | y :: l, h, x, t, hx, h1, h2 => by
    unfold means
    rcases List.mem_cons.1 hx with rfl | hx
    · rw [if_pos ⟨h1, h2⟩]
    · have := (List.pairwise_cons.1 h.row).1 x hx
      rw [if_neg (by omega)]
      exact means_at z h.tail hx h1 h2
/-- Either a piece stands there, or nothing is meant. -/
theorem means_case (z : V) (l : List (PC V)) (t : Int) : (∃ x ∈ l, x.a ≤ t ∧ t < x.b ∧ means z l t = x.v) ∨ ((∀ x ∈ l, ¬ (x.a ≤ t ∧ t < x.b)) ∧ means z l t = z) := by
  induction l with
  | nil => exact .inr ⟨by simp, rfl⟩
  | cons y l ih =>
    by_cases h : y.a ≤ t ∧ t < y.b
    · exact .inl ⟨y, by simp, h.1, h.2, by unfold means; rw [if_pos h]⟩
    · have e : means z (y :: l) t = means z l t := by
        conv => lhs; unfold means
        rw [if_neg h]
      rcases ih with ⟨x, hx, h1, h2, h3⟩ | ⟨h1, h2⟩
      · exact .inl ⟨x, List.mem_cons_of_mem _ hx, h1, h2, e.trans h3⟩
      · refine .inr ⟨fun x hx => ?_, e.trans h2⟩
        rcases List.mem_cons.1 hx with rfl | hx
        · exact h
        · exact h1 x hx
theorem means_lt {ok : V → Prop} (z : V) {x : PC V} {l : List (PC V)} (h : Par ok (x :: l)) {t : Int} (ht : t < x.a) : means z (x :: l) t = z := by
  refine means_none z _ t fun y hy => ?_
  rcases List.mem_cons.1 hy with rfl | hy
  · omega
  · have := (List.pairwise_cons.1 h.row).1 y hy
    have := (h.good x (by simp)).1
    omega
/-- Behind the first piece: what the others mean. -/
theorem means_tail {ok : V → Prop} (z : V) {x : PC V} {l : List (PC V)} (_ : Par ok (x :: l)) {t : Int} (ht : x.b ≤ t) : means z (x :: l) t = means z l t := by
  conv => lhs; unfold means
  rw [if_neg (by omega)]
theorem means_before {ok : V → Prop} (z : V) {x : PC V} {l : List (PC V)} (h : Par ok (x :: l)) {t : Int} (ht : t < x.b) : means z l t = z := by
  refine means_none z _ t fun y hy => ?_
  have := (List.pairwise_cons.1 h.row).1 y hy
  omega
/-- At its end, a piece's value is meant no more. -/
theorem means_end {ok : V → Prop} {z : V} (hz : ¬ ok z) {x : PC V} {l : List (PC V)} (h : Line ok (x :: l)) : means z (x :: l) x.b ≠ x.v := by
  rw [means_tail z h.par (Int.le_refl _)]
  have hx := h.good x (by simp)
  cases l with
  | nil => exact fun e => hz (by rw [show z = x.v from e]; exact hx.2.2)
  | cons y l =>
    have hf : follows x y := h.chain.1
    have hy := h.good y (by simp)
    rcases hf with hf | ⟨hf, hv⟩
    · rw [means_lt z h.tail.par hf]
      exact fun e => hz (by rw [e]; exact hx.2.2)
    · rw [means_at z h.tail.par (by simp : y ∈ y :: l) (by omega) (by rw [hf]; exact hy.1)]
      exact fun e => hv e.symm
/-- A line is known by what it means. -/
theorem Line.ext {ok : V → Prop} {z : V} (hz : ¬ ok z) : ∀ {l m : List (PC V)}, Line ok l → Line ok m → (∀ t, means z l t = means z m t) → l = m
  | [], [], _, _, _ => rfl
  | [], y :: m, _, hm, h => by
    have hy := hm.good y (by simp)
    have := h y.a
    rw [means_at z hm.par (by simp : y ∈ y :: m) (Int.le_refl _) hy.1] at this
    exact absurd (by rw [show z = y.v from this]; exact hy.2.2) hz
  | x :: l, [], hl, _, h => by
    have hx := hl.good x (by simp)
    have := h x.a
    rw [means_at z hl.par (by simp : x ∈ x :: l) (Int.le_refl _) hx.1] at this
    exact absurd (by rw [show z = x.v from this.symm]; exact hx.2.2) hz
  | x :: l, y :: m, hl, hm, h => by
    have hx := hl.good x (by simp)
    have hy := hm.good y (by simp)
    have ax := means_at z hl.par (by simp : x ∈ x :: l) (Int.le_refl _) hx.1
    have ay := means_at z hm.par (by simp : y ∈ y :: m) (Int.le_refl _) hy.1
    have e1 : x.a = y.a := by
      rcases Int.lt_trichotomy x.a y.a with c | c | c
      · rw [h, means_lt z hm.par c] at ax
        exact absurd (by rw [ax]; exact hx.2.2) hz
      · exact c
      · rw [← h, means_lt z hl.par c] at ay
        exact absurd (by rw [ay]; exact hy.2.2) hz
    have e3 : x.v = y.v := by rw [← ax, h, e1, ay]
    have e2 : x.b = y.b := by
      rcases Int.lt_trichotomy x.b y.b with c | c | c
      · have := means_end hz hl
        rw [h, means_at z hm.par (by simp : y ∈ y :: m) (by have := hx.1; omega) c] at this
        exact absurd e3.symm this
      · exact c
      · have := means_end hz hm
        rw [← h, means_at z hl.par (by simp : x ∈ x :: l) (by have := hy.1; omega) c] at this
        exact absurd e3 this
    have e : x = y := PC.ext' e1 e2 e3
    subst e
    rw [Line.ext hz hl.tail hm.tail fun t => ?_]
    by_cases c : x.b ≤ t
    · rw [← means_tail z hl.par c, ← means_tail z hm.par c, h]
    · rw [means_before z hl.par (by omega), means_before z hm.par (by omega)]
/-! Joined where they touch. -/
open Classical in
noncomputable def mstep (s : List (PC V)) (x : PC V) : List (PC V) := match s.getLast? with
  | none => s ++ [x]
  | some q => if follows q x then s ++ [x] else s.dropLast ++ [⟨q.a, x.b, q.v⟩]
noncomputable def merge (l : List (PC V)) : List (PC V) := l.foldl mstep []
theorem mstep_nil (x : PC V) : mstep [] x = [x] := rfl
theorem mstep_snoc_yes (s : List (PC V)) {q x : PC V} (h : follows q x) : mstep (s ++ [q]) x = s ++ [q] ++ [x] := by
  simp only [mstep, List.getLast?_concat, if_pos h]
theorem mstep_snoc_no (s : List (PC V)) {q x : PC V} (h : ¬ follows q x) : mstep (s ++ [q]) x = s ++ [⟨q.a, x.b, q.v⟩] := by
  simp only [mstep, List.getLast?_concat, if_neg h, List.dropLast_concat]
theorem mstep_length (s : List (PC V)) (x : PC V) : (mstep s x).length ≤ s.length + 1 := by
  rcases List.eq_nil_or_concat s with rfl | ⟨s', q, rfl⟩
  · simp [mstep_nil]
  · rw [List.concat_eq_append]
    by_cases h : follows q x
    · rw [mstep_snoc_yes s' h]; simp
    · rw [mstep_snoc_no s' h]; simp
theorem chain_snoc : ∀ (s : List (PC V)) (q x : PC V), Chain (s ++ [q]) → follows q x → Chain (s ++ [q] ++ [x])
  | [], _, _, _, h => ⟨h, trivial⟩
  | [_], _, _, hc, h => ⟨hc.1, h, trivial⟩
  | _ :: y' :: s, q, x, hc, h => ⟨hc.1, chain_snoc (y' :: s) q x hc.2 h⟩
theorem chain_last : ∀ (s : List (PC V)) (q : PC V) (b : Int), Chain (s ++ [q]) → Chain (s ++ [⟨q.a, b, q.v⟩])
  | [], _, _, _ => trivial
  | [_], _, _, hc => ⟨hc.1, trivial⟩
  | _ :: y' :: s, q, b, hc => ⟨hc.1, chain_last (y' :: s) q b hc.2⟩
theorem means_append_no (z : V) (A B : List (PC V)) (t : Int) (h : ∀ x ∈ A, ¬ (x.a ≤ t ∧ t < x.b)) : means z (A ++ B) t = means z B t := by
  induction A with
  | nil => rfl
  | cons x A ih =>
    rw [List.cons_append]
    conv => lhs; unfold means
    rw [if_neg (h x (by simp))]
    exact ih fun y hy => h y (List.mem_cons_of_mem _ hy)
theorem means_append_yes (z : V) (A B : List (PC V)) (t : Int) (h : ∃ x ∈ A, x.a ≤ t ∧ t < x.b) : means z (A ++ B) t = means z A t := by
  induction A with
  | nil => simp at h
  | cons x A ih =>
    rw [List.cons_append]
    unfold means
    by_cases c : x.a ≤ t ∧ t < x.b
    · rw [if_pos c, if_pos c]
    · rw [if_neg c, if_neg c]
      obtain ⟨y, hy, hh⟩ := h
      rcases List.mem_cons.1 hy with rfl | hy
      · exact absurd hh c
      · exact ih ⟨y, hy, hh⟩
theorem mstep_spec {ok : V → Prop} {z : V} (s : List (PC V)) (x : PC V) (hs : Line ok s) (hx : may ok x) (hle : ∀ q ∈ s, q.b ≤ x.a) :
    Line ok (mstep s x) ∧ (∀ t, means z (mstep s x) t = means z (s ++ [x]) t) ∧ (∀ q ∈ mstep s x, q.b ≤ x.b) := by
  rcases List.eq_nil_or_concat s with rfl | ⟨s', q, rfl⟩
  · rw [mstep_nil]
    exact ⟨⟨by simpa using hx, trivial⟩, fun t => rfl, by simp⟩
  · rw [List.concat_eq_append] at *
    have hq := hs.good q (by simp)
    have lq := hle q (by simp)
    have bnd : ∀ r ∈ s', r.b ≤ x.b := fun r hr => by
      have := hle r (by simp [hr])
      have := hx.1
      omega
    by_cases h : follows q x
    · rw [mstep_snoc_yes s' h]
      refine ⟨⟨fun r hr => ?_, chain_snoc s' q x hs.chain h⟩, fun t => rfl, fun r hr => ?_⟩
      · simp only [List.mem_append, List.mem_singleton] at hr
        rcases hr with hr | rfl
        · exact hs.good r (by simpa using hr)
        · exact hx
      · simp only [List.mem_append, List.mem_singleton] at hr
        rcases hr with (hr | rfl) | rfl
        · exact bnd r hr
        · have := hx.1; omega
        · exact Int.le_refl _
    · rw [mstep_snoc_no s' h]
      have e1 : q.b = x.a := by unfold follows at h; omega
      have e2 : q.v = x.v := Classical.byContradiction fun c => h (.inr ⟨e1, c⟩)
      refine ⟨⟨fun r hr => ?_, chain_last s' q x.b hs.chain⟩, fun t => ?_, fun r hr => ?_⟩
      · simp only [List.mem_append, List.mem_singleton] at hr
        rcases hr with hr | rfl
        · exact hs.good r (by simp [hr])
        · exact ⟨by show q.a < x.b; have := hq.1; have := hx.1; omega, hx.2.1, hq.2.2⟩
      · rw [List.append_assoc]
        by_cases c : ∃ r ∈ s', r.a ≤ t ∧ t < r.b
        · rw [means_append_yes z _ _ t c, means_append_yes z _ _ t c]
        · have c' : ∀ r ∈ s', ¬ (r.a ≤ t ∧ t < r.b) := fun r hr hh => c ⟨r, hr, hh⟩
          rw [means_append_no z _ _ t c', means_append_no z _ _ t c']
          simp only [List.singleton_append, means]
          have := hq.1
          have := hx.1
          by_cases c1 : q.a ≤ t ∧ t < q.b
          · rw [if_pos c1, if_pos ⟨by omega, by omega⟩]
          · rw [if_neg c1]
            by_cases c2 : x.a ≤ t ∧ t < x.b
            · rw [if_pos c2, if_pos ⟨by omega, by omega⟩]; exact e2
            · rw [if_neg c2, if_neg (by omega)]
      · simp only [List.mem_append, List.mem_singleton] at hr
        rcases hr with hr | rfl
        · exact bnd r hr
        · exact Int.le_refl _
theorem means_congr_append {z : V} {A A' : List (PC V)} (B : List (PC V)) {t : Int} (e : means z A t = means z A' t) (hA : (∃ x ∈ A, x.a ≤ t ∧ t < x.b) ↔ (∃ x ∈ A', x.a ≤ t ∧ t < x.b)) : means z (A ++ B) t = means z (A' ++ B) t := by
  by_cases c : ∃ r ∈ A, r.a ≤ t ∧ t < r.b
  · rw [means_append_yes z _ _ t c, means_append_yes z _ _ t (hA.1 c), e]
  · rw [means_append_no z _ _ t fun r hr hh => c ⟨r, hr, hh⟩, means_append_no z _ _ t fun r hr hh => c (hA.2 ⟨r, hr, hh⟩)]
theorem hit_iff {ok : V → Prop} {z : V} (hz : ¬ ok z) {l : List (PC V)} (h : Par ok l) (t : Int) : (∃ x ∈ l, x.a ≤ t ∧ t < x.b) ↔ means z l t ≠ z := by
  constructor
  · rintro ⟨x, hx, h1, h2⟩ e
    rw [means_at z h hx h1 h2] at e
    exact hz (by rw [← e]; exact (h.good x hx).2.2)
  · intro e
    rcases means_case z l t with ⟨x, hx, h1, h2, _⟩ | ⟨_, h2⟩
    · exact ⟨x, hx, h1, h2⟩
    · exact absurd h2 e
theorem fold_spec {ok : V → Prop} {z : V} (hz : ¬ ok z) : ∀ (v s : List (PC V)), Line ok s → Par ok v → (∀ q ∈ s, ∀ x ∈ v, q.b ≤ x.a) →
    Line ok (v.foldl mstep s) ∧ (∀ t, means z (v.foldl mstep s) t = means z (s ++ v) t)
  | [], s, hs, _, _ => ⟨hs, fun t => by simp⟩
  | x :: v, s, hs, hv, hle => by
    obtain ⟨h1, h2, h3⟩ := mstep_spec (z := z) s x hs (hv.good x (by simp)) fun q hq => hle q hq x (by simp)
    obtain ⟨g1, g2⟩ := fold_spec hz v (mstep s x) h1 hv.tail fun q hq r hr => by
      have := h3 q hq
      have := (List.pairwise_cons.1 hv.row).1 r hr
      omega
    refine ⟨g1, fun t => ?_⟩
    rw [List.foldl_cons, g2, List.append_cons s x v]
    have hp : Par ok (s ++ [x]) := ⟨fun r hr => by
        simp only [List.mem_append, List.mem_singleton] at hr
        rcases hr with hr | rfl
        · exact hs.good r hr
        · exact hv.good r (by simp), List.pairwise_append.2 ⟨hs.par.row, by simp, fun q hq r hr => by simp only [List.mem_singleton] at hr; subst hr; exact hle q hq r (by simp)⟩⟩
    exact means_congr_append v (h2 t) (by rw [hit_iff hz h1.par, hit_iff hz hp, h2])
theorem fold_length : ∀ (v s : List (PC V)), (v.foldl mstep s).length ≤ s.length + v.length
  | [], s => by simp
  | x :: v, s => by
    have := fold_length v (mstep s x)
    have := mstep_length s x
    simp only [List.foldl_cons, List.length_cons]
    omega
theorem merge_spec {ok : V → Prop} {z : V} (hz : ¬ ok z) {l : List (PC V)} (h : Par ok l) : Line ok (merge l) ∧ (∀ t, means z (merge l) t = means z l t) ∧ (merge l).length ≤ l.length := by
  obtain ⟨h1, h2⟩ := fold_spec hz l [] (Line.nil ok) h (by simp)
  have := fold_length l []
  exact ⟨h1, h2, by unfold merge; simpa using this⟩
/-! Cut by a set of instants. -/
/-- The parts F of a piece x that lie in S. -/
structure Cuts (S : Int → Prop) (x : PC V) (F : List (Int × Int)) : Prop where
  row : F.Pairwise fun p q => p.2 ≤ q.1
  lies : ∀ p ∈ F, p.1 < p.2 ∧ x.a ≤ p.1 ∧ p.2 ≤ x.b
  all : ∀ t, (∃ p ∈ F, p.1 ≤ t ∧ t < p.2) ↔ (x.a ≤ t ∧ t < x.b ∧ S t)
def withV (v : V) (F : List (Int × Int)) : List (PC V) := F.map fun p => ⟨p.1, p.2, v⟩
/-- The parts of all pieces. -/
inductive CutOf (S : Int → Prop) : List (PC V) → List (PC V) → Prop
  | nil : CutOf S [] []
  | snoc {l P : List (PC V)} {x : PC V} {F : List (Int × Int)} : CutOf S l P → Cuts S x F → CutOf S (l ++ [x]) (P ++ withV x.v F)
theorem mem_withV {v : V} {F : List (Int × Int)} {y : PC V} : y ∈ withV v F ↔ ∃ p ∈ F, y = ⟨p.1, p.2, v⟩ := by
  unfold withV
  rw [List.mem_map]
  exact ⟨fun ⟨p, h, e⟩ => ⟨p, h, e.symm⟩, fun ⟨p, h, e⟩ => ⟨p, h, e.symm⟩⟩
theorem CutOf.mem {S : Int → Prop} {l P : List (PC V)} (h : CutOf S l P) : ∀ y ∈ P, ∃ x ∈ l, y.v = x.v ∧ x.a ≤ y.a ∧ y.b ≤ x.b ∧ y.a < y.b ∧ ∀ t, y.a ≤ t → t < y.b → S t := by
  induction h with
  | nil => simp
  | @snoc l P x F hc hx ih =>
    intro y hy
    rcases List.mem_append.1 hy with hy | hy
    · obtain ⟨x, hx', r⟩ := ih y hy
      exact ⟨x, List.mem_append_left _ hx', r⟩
    · obtain ⟨p, hp, rfl⟩ := mem_withV.1 hy
      obtain ⟨h1, h2, h3⟩ := hx.lies p hp
      exact ⟨x, List.mem_append_right _ (by simp), rfl, h2, h3, h1, fun t g1 g2 => ((hx.all t).1 ⟨p, hp, g1, g2⟩).2.2⟩
theorem CutOf.hit {S : Int → Prop} {l P : List (PC V)} (h : CutOf S l P) : ∀ x ∈ l, ∀ t, x.a ≤ t → t < x.b → S t → ∃ y ∈ P, y.a ≤ t ∧ t < y.b ∧ y.v = x.v := by
  induction h with
  | nil => simp
  | snoc hc hx ih =>
    intro x hx' t h1 h2 h3
    rcases List.mem_append.1 hx' with h' | h'
    · obtain ⟨y, hy, r⟩ := ih x h' t h1 h2 h3
      exact ⟨y, List.mem_append_left _ hy, r⟩
    · simp only [List.mem_singleton] at h'
      subst h'
      obtain ⟨p, hp, g1, g2⟩ := (hx.all t).2 ⟨h1, h2, h3⟩
      exact ⟨⟨p.1, p.2, x.v⟩, List.mem_append_right _ (mem_withV.2 ⟨p, hp, rfl⟩), g1, g2, rfl⟩
theorem CutOf.par {ok : V → Prop} {S : Int → Prop} {l P : List (PC V)} (h : CutOf S l P) (hl : Par ok l) : Par ok P := by
  induction h with
  | nil => exact Par.nil ok
  | @snoc l P x F hc hx ih =>
    obtain ⟨r1, r2, r3⟩ := List.pairwise_append.1 hl.row
    have ip := ih ⟨fun y hy => hl.good y (List.mem_append_left _ hy), r1⟩
    have gx := hl.good x (by simp)
    refine ⟨fun y hy => ?_, List.pairwise_append.2 ⟨ip.row, ?_, fun y hy q hq => ?_⟩⟩
    · rcases List.mem_append.1 hy with hy | hy
      · exact ip.good y hy
      · obtain ⟨p, hp, rfl⟩ := mem_withV.1 hy
        obtain ⟨h1, h2, h3⟩ := hx.lies p hp
        unfold may at *
        exact ⟨h1, by show p.2 ≤ _; omega, gx.2.2⟩
    · unfold withV
      exact List.pairwise_map.2 hx.row
    · obtain ⟨p, hp, rfl⟩ := mem_withV.1 hq
      obtain ⟨h1, h2, h3⟩ := hx.lies p hp
      obtain ⟨u, hu, _, _, g2, _⟩ := hc.mem y hy
      have := r3 u hu x (by simp)
      show y.b ≤ p.1
      omega
theorem CutOf.means {ok : V → Prop} {z : V} {S : Int → Prop} {l P : List (PC V)} (h : CutOf S l P) (hl : Par ok l) (t : Int) : (S t → means z P t = means z l t) ∧ (¬ S t → means z P t = z) := by
  have hp := h.par hl
  constructor
  · intro hs
    rcases means_case z l t with ⟨x, hx, h1, h2, h3⟩ | ⟨h1, h2⟩
    · obtain ⟨y, hy, g1, g2, g3⟩ := h.hit x hx t h1 h2 hs
      rw [means_at z hp hy g1 g2, h3, g3]
    · rw [h2]
      refine means_none z P t fun y hy hh => ?_
      obtain ⟨x, hx, _, g1, g2, _⟩ := h.mem y hy
      exact h1 x hx ⟨by omega, by omega⟩
  · intro hs
    refine means_none z P t fun y hy hh => ?_
    obtain ⟨x, hx, _, _, _, _, g⟩ := h.mem y hy
    exact hs (g t hh.1 hh.2)
/-! A piece put among others. -/
theorem put_spec {ok : V → Prop} (z : V) (P : List (PC V)) (x : PC V) (i : Nat) (hP : Par ok P) (hx : may ok x) (h1 : ∀ y ∈ P.take i, y.b ≤ x.a) (h2 : ∀ y ∈ P.drop i, x.b ≤ y.a) :
    Par ok (P.take i ++ x :: P.drop i) ∧ ∀ t, (x.a ≤ t ∧ t < x.b → means z (P.take i ++ x :: P.drop i) t = x.v) ∧ (¬ (x.a ≤ t ∧ t < x.b) → means z (P.take i ++ x :: P.drop i) t = means z P t) := by
  have hrow : P.Pairwise fun x y => x.b ≤ y.a := hP.row
  rw [← List.take_append_drop i P] at hrow
  obtain ⟨r1, r2, r3⟩ := List.pairwise_append.1 hrow
  have hp : Par ok (P.take i ++ x :: P.drop i) := by
    refine ⟨fun y hy => ?_, List.pairwise_append.2 ⟨r1, List.pairwise_cons.2 ⟨h2, r2⟩, fun y hy q hq => ?_⟩⟩
    · rcases List.mem_append.1 hy with hy | hy
      · exact hP.good y (List.mem_of_mem_take hy)
      · rcases List.mem_cons.1 hy with rfl | hy
        · exact hx
        · exact hP.good y (List.mem_of_mem_drop hy)
    · rcases List.mem_cons.1 hq with rfl | hq
      · exact h1 y hy
      · exact r3 y hy q hq
  refine ⟨hp, fun t => ⟨fun h => means_at z hp (by simp) h.1 h.2, fun h => ?_⟩⟩
  by_cases c : ∃ r ∈ P.take i, r.a ≤ t ∧ t < r.b
  · rw [means_append_yes z _ _ t c]
    conv => rhs; rw [← List.take_append_drop i P]
    rw [means_append_yes z _ _ t c]
  · have c' : ∀ r ∈ P.take i, ¬ (r.a ≤ t ∧ t < r.b) := fun r hr hh => c ⟨r, hr, hh⟩
    rw [means_append_no z _ _ t c']
    conv => rhs; rw [← List.take_append_drop i P]
    rw [means_append_no z _ _ t c']
    conv => lhs; unfold means
    rw [if_neg h]
end
end Pl
end Go.Proofs.YtmolpogehgeebaaGreat


