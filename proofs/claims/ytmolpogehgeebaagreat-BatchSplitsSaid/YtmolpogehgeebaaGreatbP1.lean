/- Periods in memory; the calls that ask of one or two periods: May, Has, Meet, Hull, Compare, and the document's own. -/
import Derived.Test.YtmolpogehgeebaaGreatProg
import Derived.WalkKit
import Derived.WalkSpells
import Derived.WalkLawsBesides
import Derived.Handy
import Derived.Lib.Hide
import Derived.Lib.ConvBytes
import Derived.Lib.Small
import Derived.Deep.RegionWith
import Derived.Deep.DeepFit
import Derived.Deep.DeepMust
import Derived.Deep.DeepCutAuto
import Derived.Deep.QuietTactic
import Derived.Deep.RegionHeld3
import Derived.Deep.AppendLies
import Derived.BigQuiet
import Derived.OwnWalk
import Derived.LoopTactic
import Derived.Maps.AppendAt
import Derived.Laws.MakeOwn
namespace Go.Proofs.YtmolpogehgeebaaGreat.Se
open Go.RowKit
theorem ret1 {k : IntKind} {a b : Int} (h : a = b) : Ending.returned (.int k a) = .returned (.int k b) := by rw [h]
/-- A period in a box. -/
structure Box (w : World) (g : Nat) (a b : Int) : Prop where
  c0 : w.cell? ⟨g, 0, none⟩ = some (.int .u64 a)
  c1 : w.cell? ⟨g, 1, none⟩ = some (.int .u64 b)
  fr : ∀ o, w.frozen? ⟨g, o, none⟩ = false
  lt : g < w.heap.size
theorem Box.below {w w' : World} {g : Nat} {a b : Int} (h : Box w g a b) (hb : Below w.heap.size w w') : Box w' g a b :=
  ⟨(hb.cell (p := ⟨g, 0, none⟩) h.lt).trans h.c0, (hb.cell (p := ⟨g, 1, none⟩) h.lt).trans h.c1, fun o => (hb.frozen (p := ⟨g, o, none⟩) h.lt).trans (h.fr o), Nat.lt_of_lt_of_le h.lt hb.size⟩
theorem Box.alloc {w : World} {g : Nat} {a b : Int} (h : Box w g a b) (o : Obj) : Box (w.alloc o) g a b :=
  h.below ((Below.refl _ _).alloc (Nat.le_refl _) o)
theorem box_new (w : World) (a b : Int) (t : TypeId) : Box (w.alloc (.cells #[.int .u64 a, .int .u64 b] t)) w.heap.size a b := by
  refine ⟨?_, ?_, fun o => ?_, by simp⟩
  · go_simp
  · go_simp
  · go_simp
theorem box_at (w : World) (a b : Int) (t : TypeId) (g : Nat) (h : w.heap.size = g) : Box (w.alloc (.cells #[.int .u64 a, .int .u64 b] t)) g a b := h ▸ box_new w a b t
theorem bcell {W w1 : World} (hb : Below W.heap.size W w1) : (∀ b o, b < W.heap.size → w1.cell? ⟨b, o, none⟩ = W.cell? ⟨b, o, none⟩) ∧ (∀ b o, b < W.heap.size → w1.frozen? ⟨b, o, none⟩ = W.frozen? ⟨b, o, none⟩) :=
  ⟨fun b o h => hb.cell (p := ⟨b, o, none⟩) h, fun b o h => hb.frozen (p := ⟨b, o, none⟩) h⟩
/-- What a call gives: a value, and memory as it was but for what it made. -/
def Gives (f : FuncId) (args : Array Value) (w : World) (v : Value) : Prop := Calls Tryz.prog f args w fun e w' => e = .returned v ∧ Below w.heap.size w w'
theorem Gives.on {f : FuncId} {args : Array Value} {W w : World} {v : Value} (h : Gives f args w v) (hb : Below W.heap.size W w) : Calls Tryz.prog f args w fun e w' => e = .returned v ∧ Below W.heap.size W w' :=
  Calls.mono h fun _ _ h => ⟨h.1, hb.trans (h.2.mono hb.size)⟩
/-- May this period be? -/
def mayB (a b : Int) : Bool := decide (a < b) && decide (b ≤ 1099511627776)

theorem May_any (a b : Int) (w : World) : Calls Tryz.prog 95 #[.agg #[.int .u64 a, .int .u64 b]] w fun e w' => e = .returned (.bool (mayB a b)) ∧ Below w.heap.size w w' := by
  by_cases h1 : a < b
  · by_cases h2 : b ≤ 1099511627776
    · have hv : mayB a b = true := by unfold mayB; simp [h1, h2]
      rw [hv]
      clear hv
      go_enter Tryz.func95, Tryz.ntmps95
      go_wp2
      go_ret
      exact ⟨rfl, (Below.refl _ _).alloc (Nat.le_refl _) _⟩
    · have hv : mayB a b = false := by unfold mayB; rw [decide_eq_false h2, Bool.and_false]
      rw [hv]
      clear hv
      go_enter Tryz.func95, Tryz.ntmps95
      go_wp2
      go_ret
      exact ⟨rfl, (Below.refl _ _).alloc (Nat.le_refl _) _⟩
  · have hv : mayB a b = false := by unfold mayB; rw [decide_eq_false h1, Bool.false_and]
    have h1' : decide (a < b) = false := by simpa using h1
    rw [hv]
    clear hv
    go_enter Tryz.func95, Tryz.ntmps95
    go_wp2
    go_ret
    exact ⟨rfl, (Below.refl _ _).alloc (Nat.le_refl _) _⟩
/-- Has. -/
def hasB (a b t : Int) : Bool := mayB a b && decide (a ≤ t) && decide (t < b)
theorem Has_any (a b t : Int) (w : World) : Calls Tryz.prog 28 #[.agg #[.int .u64 a, .int .u64 b], .int .u64 t] w fun e w' => e = .returned (.bool (hasB a b t)) ∧ Below w.heap.size w w' := by
  have hM := May_any a b
  unfold hasB
  generalize mayB a b = m at *
  have HM := Lib.hid hM
  clear hM
  cases m
  · rw [Bool.false_and, Bool.false_and]
    go_enter Tryz.func28, Tryz.ntmps28
    go_wp2_with (go_at_call 95; ((with_reducible refine (HM.out _).mono ?_); rintro e w1 ⟨rfl, hb1⟩; obtain ⟨hc1, hf1⟩ := bcell hb1))
    go_ret
    exact ⟨rfl, ((Below.refl _ _).alloc (Nat.le_refl _) _).trans (hb1.mono (by simp))⟩
  · by_cases h1 : a ≤ t
    · rw [decide_eq_true h1, Bool.true_and, Bool.true_and]
      go_enter Tryz.func28, Tryz.ntmps28
      go_wp2_with (go_at_call 95; ((with_reducible refine (HM.out _).mono ?_); rintro e w1 ⟨rfl, hb1⟩; obtain ⟨hc1, hf1⟩ := bcell hb1))
      go_ret
      exact ⟨rfl, ((Below.refl _ _).alloc (Nat.le_refl _) _).trans (hb1.mono (by simp))⟩
    · have h1' : decide (a ≤ t) = false := by simpa using h1
      rw [h1', Bool.and_false, Bool.false_and]
      go_enter Tryz.func28, Tryz.ntmps28
      go_wp2_with (go_at_call 95; ((with_reducible refine (HM.out _).mono ?_); rintro e w1 ⟨rfl, hb1⟩; obtain ⟨hc1, hf1⟩ := bcell hb1))
      go_ret
      exact ⟨rfl, ((Below.refl _ _).alloc (Nat.le_refl _) _).trans (hb1.mono (by simp))⟩
end Go.Proofs.YtmolpogehgeebaaGreat.Se


/- Sets of instants in plain numbers: normal forms, what they hold, how they are made. -/
namespace Go.Proofs.YtmolpogehgeebaaGreat.Se
namespace Iset
abbrev P := Int × Int
/-- The end of time. -/
abbrev F : Int := 1099511627776
/-- A period that may be. -/
def mayP (p : P) : Bool := decide (p.1 < p.2) && decide (p.2 ≤ 1099511627776)
def hasP (p : P) (t : Int) : Bool := mayP p && decide (p.1 ≤ t) && decide (t < p.2)
/-- What a list holds. -/
def has (l : List P) (t : Int) : Bool := l.any fun p => hasP p t
theorem mayP_iff (p : P) : mayP p = true ↔ p.1 < p.2 ∧ p.2 ≤ 1099511627776 := by simp [mayP]
theorem hasP_iff (p : P) (t : Int) : hasP p t = true ↔ (p.1 < p.2 ∧ p.2 ≤ 1099511627776) ∧ p.1 ≤ t ∧ t < p.2 := by
  simp [hasP, mayP, and_assoc]
theorem has_iff (l : List P) (t : Int) : has l t = true ↔ ∃ p ∈ l, hasP p t = true := by simp [has]
theorem has_nil (t : Int) : has [] t = false := rfl
theorem has_cons (p : P) (l : List P) (t : Int) : has (p :: l) t = (hasP p t || has l t) := rfl
theorem has_append (a b : List P) (t : Int) : has (a ++ b) t = (has a t || has b t) := by simp [has]
/-- A normal form. -/
structure NF (l : List P) : Prop where
  may : ∀ p ∈ l, mayP p = true
  apart : l.Pairwise fun p q => p.2 < q.1
theorem NF.nil : NF [] := ⟨by simp, .nil⟩
theorem NF.cons {p : P} {l : List P} (h : NF (p :: l)) : NF l := ⟨fun q hq => h.may q (List.mem_cons_of_mem _ hq), (List.pairwise_cons.1 h.apart).2⟩
theorem NF.gap {p : P} {l : List P} (h : NF (p :: l)) (t : Int) (ht : has l t = true) : p.2 < t := by
  obtain ⟨q, hq, hh⟩ := (has_iff l t).1 ht
  have := (List.pairwise_cons.1 h.apart).1 q hq
  have := (hasP_iff q t).1 hh
  omega
theorem NF.first {p : P} {l : List P} (h : NF (p :: l)) : has (p :: l) p.1 = true := by
  rw [has_cons]
  have := (mayP_iff p).1 (h.may p (by simp))
  simp only [Bool.or_eq_true]
  exact .inl ((hasP_iff p p.1).2 ⟨this, by omega, by omega⟩)
theorem NF.least {p : P} {l : List P} (h : NF (p :: l)) (t : Int) (ht : has (p :: l) t = true) : p.1 ≤ t := by
  rw [has_cons, Bool.or_eq_true] at ht
  have := (mayP_iff p).1 (h.may p (by simp))
  rcases ht with ht | ht
  · exact ((hasP_iff p t).1 ht).2.1
  · have := h.gap t ht
    omega
theorem NF.tail_has {p : P} {l : List P} (h : NF (p :: l)) (t : Int) : has l t = (has (p :: l) t && decide (p.2 ≤ t)) := by
  rw [Bool.eq_iff_iff, has_cons]
  simp only [Bool.and_eq_true, Bool.or_eq_true, decide_eq_true_eq]
  constructor
  · intro ht
    have := h.gap t ht
    exact ⟨.inr ht, by omega⟩
  · rintro ⟨ht | ht, h2⟩
    · have := (hasP_iff p t).1 ht
      omega
    · exact ht
theorem NF.notAt {p : P} {l : List P} (h : NF (p :: l)) : has (p :: l) p.2 = false := by
  rw [Bool.eq_false_iff]
  intro ht
  rw [has_cons, Bool.or_eq_true] at ht
  rcases ht with ht | ht
  · have := (hasP_iff p p.2).1 ht
    omega
  · have := h.gap _ ht
    omega
theorem NF.until {p : P} {l : List P} (h : NF (p :: l)) (t : Int) (h1 : p.1 ≤ t) (h2 : t < p.2) : has (p :: l) t = true := by
  rw [has_cons]
  have := (mayP_iff p).1 (h.may p (by simp))
  simp only [Bool.or_eq_true]
  exact .inl ((hasP_iff p t).2 ⟨this, by omega, by omega⟩)
/-- Of one set there is one normal form. -/
theorem NF.ext : ∀ {a b : List P}, NF a → NF b → (∀ t, has a t = has b t) → a = b
  | [], [], _, _, _ => rfl
  | [], q :: b, _, hb, h => by
    have := hb.first
    rw [← h] at this
    cases this
  | p :: a, [], ha, _, h => by
    have := ha.first
    rw [h] at this
    cases this
  | p :: a, q :: b, ha, hb, h => by
    have e1 : p.1 = q.1 := by
      have x := ha.first
      rw [h] at x
      have y := hb.first
      rw [← h] at y
      have := hb.least _ x
      have := ha.least _ y
      omega
    have mp := (mayP_iff p).1 (ha.may p (by simp))
    have mq := (mayP_iff q).1 (hb.may q (by simp))
    have e2 : p.2 = q.2 := by
      rcases Int.lt_trichotomy p.2 q.2 with x | x | x
      · have := hb.until p.2 (by omega) x
        rw [← h, ha.notAt] at this
        cases this
      · exact x
      · have := ha.until q.2 (by omega) x
        rw [h, hb.notAt] at this
        cases this
    have e : p = q := Prod.ext e1 e2
    subst e
    rw [NF.ext ha.cons hb.cons fun t => by rw [ha.tail_has, hb.tail_has, h]]
/-- One step of the merge. -/
def step (s : List P) (p : P) : List P := match s.getLast? with
  | none => s ++ [p]
  | some q => if q.2 < p.1 then s ++ [p] else if p.2 ≤ q.2 then s else s.dropLast ++ [(q.1, p.2)]
theorem step_nil (p : P) : step [] p = [p] := rfl
theorem step_snoc (s : List P) (q p : P) : step (s ++ [q]) p = if q.2 < p.1 then s ++ [q] ++ [p] else if p.2 ≤ q.2 then s ++ [q] else s ++ [(q.1, p.2)] := by
  simp only [step, List.getLast?_concat, List.dropLast_concat]
theorem nil_or_snoc (s : List P) : s = [] ∨ ∃ s' q, s = s' ++ [q] := by
  rcases List.eq_nil_or_concat s with h | ⟨a, b, h⟩
  · exact .inl h
  · exact .inr ⟨a, b, by simpa using h⟩
theorem NF.snoc {s : List P} {p : P} : NF (s ++ [p]) ↔ NF s ∧ mayP p = true ∧ ∀ q ∈ s, q.2 < p.1 := by
  constructor
  · intro h
    refine ⟨⟨fun q hq => h.may q (by simp [hq]), (List.pairwise_append.1 h.apart).1⟩, h.may p (by simp), fun q hq => ?_⟩
    exact (List.pairwise_append.1 h.apart).2.2 q hq p (by simp)
  · rintro ⟨h1, h2, h3⟩
    refine ⟨fun q hq => ?_, List.pairwise_append.2 ⟨h1.apart, by simp, fun q hq r hr => ?_⟩⟩
    · simp only [List.mem_append, List.mem_singleton] at hq
      rcases hq with hq | rfl
      · exact h1.may q hq
      · exact h2
    · simp only [List.mem_singleton] at hr
      subst hr
      exact h3 q hq
theorem step_spec (s : List P) (p : P) (hs : NF s) (hp : mayP p = true) (hle : ∀ q ∈ s, q.1 ≤ p.1) :
    NF (step s p) ∧ (∀ t, has (step s p) t = (has s t || hasP p t)) ∧ (∀ q ∈ step s p, q.1 ≤ p.1) ∧ (step s p).length ≤ s.length + 1 := by
  rcases nil_or_snoc s with rfl | ⟨s, q, rfl⟩
  · rw [step_nil]
    exact ⟨NF.snoc (s := []).2 ⟨NF.nil, hp, by simp⟩, fun t => by simp [has], by simp, by simp⟩
  · have h0 := NF.snoc.1 hs
    have mq := (mayP_iff q).1 h0.2.1
    have mp := (mayP_iff p).1 hp
    have lq := hle q (by simp)
    rw [step_snoc]
    by_cases h1 : q.2 < p.1
    · rw [if_pos h1]
      refine ⟨NF.snoc.2 ⟨hs, hp, fun r hr => ?_⟩, fun t => by rw [has_append, has_cons, has_nil, Bool.or_false], fun r hr => ?_, by simp⟩
      · simp only [List.mem_append, List.mem_singleton] at hr
        rcases hr with hr | rfl
        · have := h0.2.2 r hr
          omega
        · exact h1
      · simp only [List.mem_append, List.mem_singleton, List.append_assoc] at hr
        rcases hr with hr | rfl | rfl
        · exact hle r (by simp [hr])
        · exact lq
        · exact Int.le_refl _
    · rw [if_neg h1]
      by_cases h2 : p.2 ≤ q.2
      · rw [if_pos h2]
        refine ⟨hs, fun t => ?_, hle, by simp⟩
        rw [Bool.eq_iff_iff, has_append]
        simp only [Bool.or_eq_true, has_cons, hasP_iff, has_nil, Bool.false_eq_true, or_false]
        constructor
        · exact fun h => .inl h
        · rintro (h | h)
          · exact h
          · exact .inr ⟨mq, by omega, by omega⟩
      · rw [if_neg h2]
        refine ⟨NF.snoc.2 ⟨h0.1, (mayP_iff _).2 ⟨by show q.1 < p.2; omega, mp.2⟩, h0.2.2⟩, fun t => ?_, fun r hr => ?_, by simp⟩
        · rw [Bool.eq_iff_iff, has_append, has_append]
          simp only [Bool.or_eq_true, has_cons, hasP_iff, has_nil, Bool.false_eq_true, or_false]
          constructor
          · rintro (h | h)
            · exact .inl (.inl h)
            · by_cases t < q.2
              · exact .inl (.inr ⟨mq, by omega, by omega⟩)
              · exact .inr ⟨mp, by omega, by omega⟩
          · rintro ((h | h) | h)
            · exact .inl h
            · exact .inr ⟨⟨by omega, by omega⟩, by omega, by omega⟩
            · exact .inr ⟨⟨by omega, by omega⟩, by omega, by omega⟩
        · simp only [List.mem_append, List.mem_singleton] at hr
          rcases hr with hr | rfl
          · exact hle r (by simp [hr])
          · exact lq
theorem fold_spec : ∀ (v s : List P), NF s → (∀ p ∈ v, mayP p = true) → v.Pairwise (fun p q => p.1 ≤ q.1) → (∀ q ∈ s, ∀ p ∈ v, q.1 ≤ p.1) →
    NF (v.foldl step s) ∧ (∀ t, has (v.foldl step s) t = (has s t || has v t)) ∧ (v.foldl step s).length ≤ s.length + v.length
  | [], s, hs, _, _, _ => ⟨hs, fun t => by simp [has], by simp⟩
  | p :: v, s, hs, hm, hp, hle => by
    obtain ⟨h1, h2, h3, h4⟩ := step_spec s p hs (hm p (by simp)) fun q hq => hle q hq p (by simp)
    obtain ⟨g1, g2, g3⟩ := fold_spec v (step s p) h1 (fun q hq => hm q (by simp [hq])) (List.pairwise_cons.1 hp).2 fun q hq r hr => by
      have := h3 q hq
      have := (List.pairwise_cons.1 hp).1 r hr
      omega
    refine ⟨g1, fun t => ?_, ?_⟩
    · rw [List.foldl_cons, g2, h2, has_cons, Bool.or_assoc]
    · rw [List.foldl_cons, List.length_cons]
      omega
/-- The order of periods: by From, then by To. -/
def leP (x y : P) : Bool := decide (x.1 < y.1) || (decide (x.1 = y.1) && decide (x.2 ≤ y.2))
theorem leP_fst {x y : P} (h : leP x y = true) : x.1 ≤ y.1 := by
  simp [leP] at h
  omega
theorem leP_trans (a b c : P) : leP a b = true → leP b c = true → leP a c = true := by
  simp only [leP, Bool.or_eq_true, Bool.and_eq_true, decide_eq_true_eq]
  omega
theorem leP_total (a b : P) : (leP a b || leP b a) = true := by
  simp only [leP, Bool.or_eq_true, Bool.and_eq_true, decide_eq_true_eq]
  omega
/-- The periods that may be, in order. -/
def sortV (l : List P) : List P := (l.filter mayP).mergeSort leP
/-- The normal form of what a list means. -/
def nf (l : List P) : List P := (sortV l).foldl step []
theorem sortV_mem (l : List P) (p : P) : p ∈ sortV l ↔ p ∈ l ∧ mayP p = true := by
  rw [sortV, (List.mergeSort_perm _ _).mem_iff, List.mem_filter]
theorem sortV_length (l : List P) : (sortV l).length ≤ l.length := by
  rw [sortV, List.length_mergeSort]
  exact List.length_filter_le _ _
theorem sortV_order (l : List P) : (sortV l).Pairwise fun p q => p.1 ≤ q.1 :=
  (List.pairwise_mergeSort leP_trans leP_total (l.filter mayP)).imp fun h => leP_fst h
theorem sortV_has (l : List P) (t : Int) : has (sortV l) t = has l t := by
  rw [Bool.eq_iff_iff, has_iff, has_iff]
  constructor
  · rintro ⟨p, hp, h⟩
    exact ⟨p, ((sortV_mem l p).1 hp).1, h⟩
  · rintro ⟨p, hp, h⟩
    exact ⟨p, (sortV_mem l p).2 ⟨hp, (mayP_iff p).2 ((hasP_iff p t).1 h).1⟩, h⟩
theorem nf_spec (l : List P) : NF (nf l) ∧ (∀ t, has (nf l) t = has l t) ∧ (nf l).length ≤ l.length := by
  obtain ⟨h1, h2, h3⟩ := fold_spec (sortV l) [] NF.nil (fun p hp => ((sortV_mem l p).1 hp).2) (sortV_order l) (by simp)
  have := sortV_length l
  refine ⟨h1, fun t => ?_, ?_⟩
  · rw [nf, h2, has_nil, Bool.false_or, sortV_has]
  · show ((sortV l).foldl step []).length ≤ _
    simp only [List.length_nil] at h3
    omega
theorem nf_nf (l : List P) : NF (nf l) := (nf_spec l).1
theorem nf_has (l : List P) (t : Int) : has (nf l) t = has l t := (nf_spec l).2.1 t
theorem nf_length (l : List P) : (nf l).length ≤ l.length := (nf_spec l).2.2
theorem nf_of_NF {l : List P} (h : NF l) : nf l = l := NF.ext (nf_nf l) h (nf_has l)
/-- Below Forever alone. -/
theorem has_below (l : List P) (t : Int) (h : has l t = true) : t < 1099511627776 := by
  obtain ⟨p, _, hp⟩ := (has_iff l t).1 h
  have := (hasP_iff p t).1 hp
  omega
theorem has_beyond (l : List P) (t : Int) (h : 1099511627776 ≤ t) : has l t = false := by
  rw [Bool.eq_false_iff]
  intro e
  have := has_below l t e
  omega
/-- Ends that fit in a word. -/
def Wide (l : List P) : Prop := ∀ p ∈ l, 0 ≤ p.1 ∧ 0 ≤ p.2
theorem has_neg (l : List P) (hw : Wide l) (t : Int) (h : t < 0) : has l t = false := by
  rw [Bool.eq_false_iff]
  intro e
  obtain ⟨p, hm, hp⟩ := (has_iff l t).1 e
  have := (hasP_iff p t).1 hp
  have := hw p hm
  omega
theorem NF.wide {l : List P} (hl : NF l) (h : ∀ t, t < 0 → has l t = false) : Wide l := by
  intro p hp
  have mp := (mayP_iff p).1 (hl.may p hp)
  by_cases x : p.1 < 0
  · have := h p.1 x
    rw [Bool.eq_false_iff] at this
    exact absurd ((has_iff l p.1).2 ⟨p, hp, (hasP_iff p p.1).2 ⟨mp, by omega, by omega⟩⟩) this
  · omega
theorem nf_wide {l : List P} (h : Wide l) : Wide (nf l) := (nf_nf l).wide fun t ht => by rw [nf_has]; exact has_neg l h t ht
end Iset
end Go.Proofs.YtmolpogehgeebaaGreat.Se


