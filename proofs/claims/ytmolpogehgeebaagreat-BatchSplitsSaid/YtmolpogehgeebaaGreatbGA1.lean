/- The state of a graph in plain words: which may be, what operations make of it. No program. -/
import Derived.Test.YtmolpogehgeebaaGreatbED6d
import Derived.Test.YtmolpogehgeebaaGreatbEC6
namespace Go.Proofs.YtmolpogehgeebaaGreat
open Go.RowKit
/-- Nodes and edges over time. -/
structure St where
  ns : List Ent
  es : List Ent
/-- A place in a list of n, counted from 1. -/
def placeB (n : Nat) (id : Int) : Prop := 1 ≤ id ∧ id ≤ n
/-- Entities that may be, one behind the other. -/
def MayL (l : List Ent) (edge : Bool) : Prop := ∀ i (h : i < l.length), l[i].edge = edge ∧ l[i].id = (i : Int) + 1 ∧ l[i].may
/-- When the entity at a place is valid. -/
def valOf (l : List Ent) (id : Int) : List (Int × Int) := if 1 ≤ id then (match l[(id - 1).toNat]? with | some x => x.val | none => []) else []
/-- At t the edge d is valid, and one of its nodes isn't. -/
def looseAt (ns : List Ent) (d : Ent) (t : Int) : Prop := Se.Iset.has d.val t = true ∧ ¬ (Se.Iset.has (valOf ns d.fr) t = true ∧ Se.Iset.has (valOf ns d.til) t = true)
def NoLoose (s : St) : Prop := ∀ d ∈ s.es, ∀ t, ¬ looseAt s.ns d t
/-- All that a state is asked for but that no edge dangles. -/
structure St.sound (s : St) : Prop where
  ns : MayL s.ns false
  es : MayL s.es true
  ends : ∀ d ∈ s.es, placeB s.ns.length d.fr ∧ placeB s.ns.length d.til
def St.may (s : St) : Prop := s.sound ∧ NoLoose s
/-- What Dangling tells. -/
def DangR (s : St) (n t : Int) (is : Bool) : Prop := (is = false ∧ n = 0 ∧ t = 0 ∧ NoLoose s) ∨
  (is = true ∧ ∃ i, ∃ h : i < s.es.length, n = (i : Int) + 1 ∧ looseAt s.ns s.es[i] t ∧ (∀ t', t' < t → ¬ looseAt s.ns s.es[i] t') ∧ ∀ j (g : j < s.es.length), j < i → ∀ t', ¬ looseAt s.ns s.es[j] t')
/-- What one operation makes of a state. -/
def StepOk (s : St) (o : Co.OP) (z : St) : Prop := o.may ∧
  ((o.kind = 1 ∧ (o.id : Int) = (s.ns.length : Int) + 1 ∧ z = ⟨s.ns ++ [o.ent], s.es⟩) ∨
   (o.kind = 2 ∧ (o.id : Int) = (s.es.length : Int) + 1 ∧ placeB s.ns.length o.fr ∧ placeB s.ns.length o.til ∧ z = ⟨s.ns, s.es ++ [o.ent]⟩) ∨
   (o.edge = false ∧ ∃ i, ∃ h : i < s.ns.length, (o.id : Int) = (i : Int) + 1 ∧ ∃ y, Applied s.ns[i] o y ∧ z = ⟨s.ns.set i y, s.es⟩) ∨
   (o.edge = true ∧ ∃ i, ∃ h : i < s.es.length, (o.id : Int) = (i : Int) + 1 ∧ ∃ y, Applied s.es[i] o y ∧ z = ⟨s.ns, s.es.set i y⟩))
/-- The list of an operation's kind of entity. -/
def St.list (s : St) (edge : Bool) : List Ent := if edge = true then s.es else s.ns
def isNew (o : Co.OP) : Prop := o.kind = 1 ∨ o.kind = 2
/-- What an operation is refused for. -/
def StepBad (s : St) (o : Co.OP) (n : Int) : Prop :=
  (¬ o.may ∧ n = 1) ∨
  (o.may ∧ isNew o ∧ (o.id : Int) ≠ ((s.list o.edge).length : Int) + 1 ∧ n = 1) ∨
  (o.may ∧ o.kind = 2 ∧ (o.id : Int) = ((s.list o.edge).length : Int) + 1 ∧ ¬ (placeB s.ns.length o.fr ∧ placeB s.ns.length o.til) ∧ n = 34) ∨
  (o.may ∧ ¬ isNew o ∧ ¬ placeB (s.list o.edge).length o.id ∧ n = 34) ∨
  (o.may ∧ ¬ isNew o ∧ ∃ i, ∃ h : i < (s.list o.edge).length, (o.id : Int) = (i : Int) + 1 ∧ EntRefused (s.list o.edge)[i] o n)
theorem Applied.kind {x y : Ent} {o : Co.OP} (h : Applied x o y) : o.kind = 3 ∨ o.kind = 4 ∨ o.kind = 5 := by
  rcases h with ⟨e, _⟩ | ⟨e, _⟩ | ⟨e, _⟩
  · exact .inl e
  · exact .inr (.inl e)
  · exact .inr (.inr e)
theorem len_subA {α : Type} [DecidableEq α] : ∀ (L B : List α), L.Pairwise (· ≠ ·) → (∀ x ∈ L, x ∈ B) → L.length ≤ B.length
  | [], _, _, _ => by simp
  | x :: L, B, hp, hs => by
    have hx := hs x (by simp)
    have h1 := List.length_erase_of_mem hx
    have h2 := len_subA L (B.erase x) (List.pairwise_cons.1 hp).2 fun y hy => (List.mem_erase_of_ne fun e => (List.pairwise_cons.1 hp).1 y hy e.symm).2 (hs y (List.mem_cons_of_mem _ hy))
    have h3 : 0 < B.length := List.length_pos_of_mem hx
    rw [List.length_cons]
    omega
/-- A key under which something is meant is there. -/
theorem key_in {ps : List Prp} {k : ByteArray} {t : Int} (h : atK ps k t ≠ VP.none) : k ∈ ps.map fun p => p.k := by
  rcases lineK_case ps k with ⟨p, hp, e, _⟩ | ⟨_, e⟩
  · exact List.mem_map.2 ⟨p, hp, e⟩
  · refine absurd ?_ h
    unfold atK
    rw [e]; rfl
open Classical in
theorem EntRefused.not {x y : Ent} {o : Co.OP} {n : Int} (h : EntRefused x o n) (g : Applied x o y) (hx : x.may) (hp : o.pf < o.pt) : False := by
  obtain ⟨hk, h⟩ := h
  rcases g with ⟨e, _⟩ | ⟨e, _⟩ | ⟨_, hc, _, hm, _, h4⟩
  · omega
  · omega
  · rcases h with ⟨hn, _⟩ | ⟨_, hno, hv, h16, _⟩
    · exact hn hc
    · have e := (h4 o.key o.pf).1 ⟨rfl, by omega, by omega⟩
      have h1 : o.key ∈ y.ps.map fun p => p.k := key_in (t := o.pf) (by rw [e]; exact fun e0 => hv (by rw [e0]; rfl))
      have h2 : ∀ q ∈ x.ps, q.k ∈ y.ps.map fun p => p.k := fun q hq => by
        obtain ⟨t, ht⟩ := line_some (hx.ps.line q hq).1 (hx.ps.line q hq).2.1
        refine key_in (t := t) ?_
        rw [(h4 q.k t).2 fun g => hno q hq g.1]
        unfold atK
        rw [lineK_mem hx.ps.row hq]
        exact ht
      have h3 := len_subA (o.key :: x.ps.map fun p => p.k) (y.ps.map fun p => p.k) (List.pairwise_cons.2 ⟨fun k hk => by
        obtain ⟨q, hq, rfl⟩ := List.mem_map.1 hk
        exact fun e => hno q hq e.symm, List.pairwise_map.2 (hx.ps.row.imp fun h e => by rw [e] at h; exact ltS_irrefl _ h)⟩) fun k hk => by
        rcases List.mem_cons.1 hk with rfl | hk
        · exact h1
        · obtain ⟨q, hq, rfl⟩ := List.mem_map.1 hk
          exact h2 q hq
      simp only [List.length_cons, List.length_map] at h3
      have h5 := hm.num
      omega
theorem may_pq {o : Co.OP} (h : o.may) : o.pf < o.pt := h.2.1
theorem kind1_edge {o : Co.OP} (h : o.may) (k : o.kind = 1) : o.edge = false := by
  rcases h.2.2.2 with g | g | g | g
  · exact g.2.1
  · omega
  · omega
  · omega
theorem kind2_edge {o : Co.OP} (h : o.may) (k : o.kind = 2) : o.edge = true := by
  rcases h.2.2.2 with g | g | g | g
  · omega
  · exact g.2.1
  · omega
  · omega
theorem St.list_f (s : St) : s.list false = s.ns := rfl
theorem St.list_t (s : St) : s.list true = s.es := rfl
theorem MayL.append {l : List Ent} {edge : Bool} {x : Ent} (h : MayL l edge) (h1 : x.edge = edge) (h2 : x.id = (l.length : Int) + 1) (h3 : x.may) : MayL (l ++ [x]) edge := fun i hi => by
  by_cases c : i < l.length
  · rw [List.getElem_append_left c]; exact h i c
  · have e : i = l.length := by simp at hi; omega
    subst e
    rw [List.getElem_append_right (Nat.le_refl _)]
    simp only [Nat.sub_self, List.getElem_singleton]
    exact ⟨h1, h2, h3⟩
theorem MayL.set {l : List Ent} {edge : Bool} {i : Nat} {x : Ent} (h : MayL l edge) (hi : i < l.length) (hk : l[i].kin x) (hm : x.may) : MayL (l.set i x) edge := fun j hj => by
  rw [List.length_set] at hj
  rw [List.getElem_set]
  split
  · next e =>
    subst e
    have := h i hi
    exact ⟨hk.edge.trans this.1, hk.id.trans this.2.1, hm⟩
  · exact h j hj
theorem mem_set_cases {l : List Ent} {i : Nat} {x d : Ent} (h : d ∈ l.set i x) : d = x ∨ d ∈ l := (List.mem_or_eq_of_mem_set h).symm
theorem placeB.mono {n m : Nat} {id : Int} (h : placeB n id) (hn : n ≤ m) : placeB m id := by unfold placeB at *; omega
theorem StepOk.sound {s z : St} {o : Co.OP} (h : StepOk s o z) (hs : s.sound) : z.sound := by
  obtain ⟨hm, h⟩ := h
  rcases h with ⟨hk, hid, rfl⟩ | ⟨hk, hid, hf, ht, rfl⟩ | ⟨he, i, hi, hid, y, ha, rfl⟩ | ⟨he, i, hi, hid, y, ha, rfl⟩
  · refine ⟨hs.ns.append (kind1_edge hm hk) hid (made_may hm (.inl hk)), hs.es, fun d hd => ?_⟩
    have := hs.ends d hd
    simp only [List.length_append, List.length_cons, List.length_nil]
    exact ⟨this.1.mono (by omega), this.2.mono (by omega)⟩
  · refine ⟨hs.ns, hs.es.append (kind2_edge hm hk) hid (made_may hm (.inr hk)), fun d hd => ?_⟩
    rcases List.mem_append.1 hd with g | g
    · exact hs.ends d g
    · rw [List.mem_singleton.1 g]; exact ⟨hf, ht⟩
  · refine ⟨hs.ns.set hi ha.kin ha.may, hs.es, fun d hd => ?_⟩
    simp only [List.length_set]
    exact hs.ends d hd
  · refine ⟨hs.ns, hs.es.set hi ha.kin ha.may, fun d hd => ?_⟩
    rcases mem_set_cases hd with rfl | g
    · rw [ha.kin.fr, ha.kin.til]
      exact hs.ends _ (List.getElem_mem hi)
    · exact hs.ends d g
theorem StepOk.one {s y z : St} {o : Co.OP} (h : StepOk s o y) (g : StepOk s o z) : y = z := by
  obtain ⟨hm, h⟩ := h
  obtain ⟨_, g⟩ := g
  rcases h with ⟨hk, hid, rfl⟩ | ⟨hk, hid, hf, ht, rfl⟩ | ⟨he, i, hi, hid, y, ha, rfl⟩ | ⟨he, i, hi, hid, y, ha, rfl⟩
  · rcases g with ⟨_, _, rfl⟩ | ⟨hk', _⟩ | ⟨_, _, _, _, _, ha, _⟩ | ⟨_, _, _, _, _, ha, _⟩
    · rfl
    · omega
    · have := ha.kind; omega
    · have := ha.kind; omega
  · rcases g with ⟨hk', _⟩ | ⟨_, _, _, _, rfl⟩ | ⟨_, _, _, _, _, ha, _⟩ | ⟨_, _, _, _, _, ha, _⟩
    · omega
    · rfl
    · have := ha.kind; omega
    · have := ha.kind; omega
  · have hk := ha.kind
    rcases g with ⟨hk', _⟩ | ⟨hk', _⟩ | ⟨_, j, hj, hjd, y', ha', rfl⟩ | ⟨he', _⟩
    · omega
    · omega
    · obtain rfl : i = j := by omega
      rw [ha.one ha']
    · rw [he] at he'; cases he'
  · have hk := ha.kind
    rcases g with ⟨hk', _⟩ | ⟨hk', _⟩ | ⟨he', _⟩ | ⟨_, j, hj, hjd, y', ha', rfl⟩
    · omega
    · omega
    · rw [he] at he'; cases he'
    · obtain rfl : i = j := by omega
      rw [ha.one ha']
theorem not_new {o : Co.OP} (h : o.kind = 3 ∨ o.kind = 4 ∨ o.kind = 5) : ¬ isNew o := by unfold isNew; omega
theorem StepBad.not {s z : St} {o : Co.OP} {n : Int} (h : StepBad s o n) (g : StepOk s o z) (hs : s.sound) : False := by
  obtain ⟨hm, g⟩ := g
  rcases g with ⟨hk, hid, rfl⟩ | ⟨hk, hid, hf, ht, rfl⟩ | ⟨he, i, hi, hid, y, ha, rfl⟩ | ⟨he, i, hi, hid, y, ha, rfl⟩
  · have he := kind1_edge hm hk
    rcases h with ⟨h, _⟩ | ⟨_, _, h, _⟩ | ⟨_, h, _⟩ | ⟨_, h, _⟩ | ⟨_, h, _⟩
    · exact h hm
    · rw [he] at h; exact h hid
    · omega
    · exact h (.inl hk)
    · exact h (.inl hk)
  · have he := kind2_edge hm hk
    rcases h with ⟨h, _⟩ | ⟨_, _, h, _⟩ | ⟨_, _, _, h, _⟩ | ⟨_, h, _⟩ | ⟨_, h, _⟩
    · exact h hm
    · rw [he] at h; exact h hid
    · exact h ⟨hf, ht⟩
    · exact h (.inr hk)
    · exact h (.inr hk)
  · have hn := not_new ha.kind
    have hk := ha.kind
    rcases h with ⟨h, _⟩ | ⟨_, h, _⟩ | ⟨_, h, _⟩ | ⟨_, _, h, _⟩ | ⟨_, _, j, hj, hjd, h⟩
    · exact h hm
    · exact hn h
    · omega
    · rw [he] at h; exact h (by unfold placeB; rw [St.list_f]; omega)
    · simp only [he, St.list_f] at hj h
      obtain rfl : i = j := by omega
      exact h.not ha (hs.ns i hi).2.2 (may_pq hm)
  · have hn := not_new ha.kind
    have hk := ha.kind
    rcases h with ⟨h, _⟩ | ⟨_, h, _⟩ | ⟨_, h, _⟩ | ⟨_, _, h, _⟩ | ⟨_, _, j, hj, hjd, h⟩
    · exact h hm
    · exact hn h
    · omega
    · rw [he] at h; exact h (by unfold placeB; rw [St.list_t]; omega)
    · simp only [he, St.list_t] at hj h
      obtain rfl : i = j := by omega
      exact h.not ha (hs.es i hi).2.2 (may_pq hm)
theorem EntRefused.one {x : Ent} {o : Co.OP} {n m : Int} (h : EntRefused x o n) (g : EntRefused x o m) : n = m := by
  obtain ⟨_, ⟨h1, rfl⟩ | ⟨h1, _, _, _, rfl⟩⟩ := h
  · obtain ⟨_, ⟨g1, rfl⟩ | ⟨g1, _, _, _, rfl⟩⟩ := g
    · rfl
    · exact absurd g1 h1
  · obtain ⟨_, ⟨g1, rfl⟩ | ⟨g1, _, _, _, rfl⟩⟩ := g
    · exact absurd h1 g1
    · rfl
theorem StepBad.one {s : St} {o : Co.OP} {n m : Int} (h : StepBad s o n) (g : StepBad s o m) : n = m := by
  rcases h with ⟨h, rfl⟩ | ⟨hm, h1, h2, rfl⟩ | ⟨hm, h1, h2, h3, rfl⟩ | ⟨hm, h1, h2, rfl⟩ | ⟨hm, h1, i, hi, hid, hr⟩
  · rcases g with ⟨_, rfl⟩ | ⟨g, _⟩ | ⟨g, _⟩ | ⟨g, _⟩ | ⟨g, _⟩
    · rfl
    all_goals exact absurd g h
  · rcases g with ⟨g, _⟩ | ⟨_, _, _, rfl⟩ | ⟨_, _, g, _⟩ | ⟨_, g, _⟩ | ⟨_, g, _⟩
    · exact absurd hm g
    · rfl
    · exact absurd g h2
    · exact absurd h1 g
    · exact absurd h1 g
  · rcases g with ⟨g, _⟩ | ⟨_, _, g, _⟩ | ⟨_, _, _, _, rfl⟩ | ⟨_, g, _⟩ | ⟨_, g, _⟩
    · exact absurd hm g
    · exact absurd h2 g
    · rfl
    · exact absurd (.inr h1) g
    · exact absurd (.inr h1) g
  · rcases g with ⟨g, _⟩ | ⟨_, g, _⟩ | ⟨_, g, _⟩ | ⟨_, _, _, rfl⟩ | ⟨_, _, j, hj, hjd, _⟩
    · exact absurd hm g
    · exact absurd g h1
    · exact absurd (.inr g) h1
    · rfl
    · exact absurd (show placeB _ _ by unfold placeB; omega) h2
  · rcases g with ⟨g, _⟩ | ⟨_, g, _⟩ | ⟨_, g, _⟩ | ⟨_, _, g, _⟩ | ⟨_, _, j, hj, hjd, hr'⟩
    · exact absurd hm g
    · exact absurd g h1
    · exact absurd (.inr g) h1
    · exact absurd (show placeB _ _ by unfold placeB; omega) g
    · obtain rfl : i = j := by omega
      exact hr.one hr'
theorem StepBad.ne {s : St} {o : Co.OP} {n : Int} (h : StepBad s o n) : n = 1 ∨ n = 34 ∨ n = 3 := by
  rcases h with ⟨_, rfl⟩ | ⟨_, _, _, rfl⟩ | ⟨_, _, _, _, rfl⟩ | ⟨_, _, _, rfl⟩ | ⟨_, _, i, hi, _, _, ⟨_, rfl⟩ | ⟨_, _, _, _, rfl⟩⟩
  · exact .inl rfl
  · exact .inl rfl
  · exact .inr (.inl rfl)
  · exact .inr (.inl rfl)
  · exact .inr (.inl rfl)
  · exact .inr (.inr rfl)
/-- What a list of operations makes of a state. -/
def RunOk : St → List Co.OP → St → Prop
  | s, [], z => z = s
  | s, o :: ops, z => ∃ y, StepOk s o y ∧ RunOk y ops z
/-- What a list of operations is refused for. -/
def RunBad : St → List Co.OP → Int → Prop
  | _, [], _ => False
  | s, o :: ops, n => StepBad s o n ∨ ∃ y, StepOk s o y ∧ RunBad y ops n
theorem RunOk.sound : ∀ {ops : List Co.OP} {s z : St}, RunOk s ops z → s.sound → z.sound
  | [], _, _, h, hs => by rw [h]; exact hs
  | _ :: _, _, _, ⟨_, h1, h2⟩, hs => RunOk.sound h2 (h1.sound hs)
theorem RunOk.one : ∀ {ops : List Co.OP} {s y z : St}, RunOk s ops y → RunOk s ops z → y = z
  | [], _, _, _, h, g => by rw [h, g]
  | _ :: _, _, _, _, ⟨_, h1, h2⟩, ⟨_, g1, g2⟩ => by rw [h1.one g1] at h2; exact RunOk.one h2 g2
theorem RunBad.not : ∀ {ops : List Co.OP} {s z : St} {n : Int}, RunBad s ops n → RunOk s ops z → s.sound → False
  | [], _, _, _, h, _, _ => h
  | _ :: _, _, _, _, .inl h, ⟨_, g1, _⟩, hs => h.not g1 hs
  | _ :: _, _, _, _, .inr ⟨_, h1, h2⟩, ⟨_, g1, g2⟩, hs => by rw [← h1.one g1] at g2; exact RunBad.not h2 g2 (h1.sound hs)
theorem RunBad.one : ∀ {ops : List Co.OP} {s : St} {n m : Int}, RunBad s ops n → RunBad s ops m → s.sound → n = m
  | [], _, _, _, h, _, _ => h.elim
  | _ :: _, _, _, _, .inl h, .inl g, _ => h.one g
  | _ :: _, _, _, _, .inl h, .inr ⟨_, g1, _⟩, hs => (h.not g1 hs).elim
  | _ :: _, _, _, _, .inr ⟨_, h1, _⟩, .inl g, hs => (g.not h1 hs).elim
  | _ :: _, _, _, _, .inr ⟨_, h1, h2⟩, .inr ⟨_, g1, g2⟩, hs => by rw [← h1.one g1] at g2; exact RunBad.one h2 g2 (h1.sound hs)
theorem RunBad.ne : ∀ {ops : List Co.OP} {s : St} {n : Int}, RunBad s ops n → n = 1 ∨ n = 34 ∨ n = 3
  | [], _, _, h => h.elim
  | _ :: _, _, _, .inl h => h.ne
  | _ :: _, _, _, .inr ⟨_, _, h⟩ => RunBad.ne h
theorem RunOk.append : ∀ {a b : List Co.OP} {s y z : St}, RunOk s a y → RunOk y b z → RunOk s (a ++ b) z
  | [], _, _, _, _, h, g => by rw [h] at g; exact g
  | _ :: _, _, _, _, _, ⟨_, h1, h2⟩, g => ⟨_, h1, RunOk.append h2 g⟩
theorem RunBad.left : ∀ {a : List Co.OP} (b : List Co.OP) {s : St} {n : Int}, RunBad s a n → RunBad s (a ++ b) n
  | [], _, _, _, h => h.elim
  | _ :: _, _, _, _, .inl h => .inl h
  | _ :: _, b, _, _, .inr ⟨_, h1, h2⟩ => .inr ⟨_, h1, RunBad.left b h2⟩
theorem RunBad.right : ∀ {a b : List Co.OP} {s y : St} {n : Int}, RunOk s a y → RunBad y b n → RunBad s (a ++ b) n
  | [], _, _, _, _, h, g => by rw [h] at g; exact g
  | _ :: _, _, _, _, _, ⟨_, h1, h2⟩, g => .inr ⟨_, h1, RunBad.right h2 g⟩
theorem RunOk.snoc {ops : List Co.OP} {o : Co.OP} {s y z : St} (h : RunOk s ops y) (g : StepOk y o z) : RunOk s (ops ++ [o]) z := h.append ⟨z, g, rfl⟩
theorem RunBad.snoc {ops : List Co.OP} {o : Co.OP} {s y : St} {n : Int} (h : RunOk s ops y) (g : StepBad y o n) (r : List Co.OP) : RunBad s (ops ++ o :: r) n := RunBad.right h (.inl g)
/-- What Apply tells: the number, and the state where it is 0. -/
def BApplied (s : St) (ops : List Co.OP) (n : Int) (z : St) : Prop :=
  (¬ s.may ∧ n = 5) ∨ (s.may ∧ 256 < ops.length ∧ n = 3) ∨ (s.may ∧ ops.length ≤ 256 ∧ RunBad s ops n) ∨
  (s.may ∧ ops.length ≤ 256 ∧ ∃ y, RunOk s ops y ∧ ¬ NoLoose y ∧ n = 33) ∨ (s.may ∧ ops.length ≤ 256 ∧ RunOk s ops z ∧ NoLoose z ∧ n = 0)
theorem BApplied.ok {s z : St} {ops : List Co.OP} (h : BApplied s ops 0 z) : s.may ∧ RunOk s ops z ∧ z.may := by
  rcases h with ⟨_, h⟩ | ⟨_, _, h⟩ | ⟨_, _, h⟩ | ⟨_, _, y, _, _, h⟩ | ⟨hs, _, h, hl, _⟩
  · exact absurd h (by decide)
  · exact absurd h (by decide)
  · have := h.ne; omega
  · exact absurd h (by decide)
  · exact ⟨hs, h, h.sound hs.1, hl⟩
/-- Lists that are not too long, of entities that are not. -/
structure St.good (s : St) (n m : Nat) : Prop where
  ns : ∀ x ∈ s.ns, x.good n
  es : ∀ x ∈ s.es, x.good n
  ln : s.ns.length ≤ m
  le : s.es.length ≤ m
theorem StepOk.good {s z : St} {o : Co.OP} {n m : Nat} (h : StepOk s o z) (hs : s.good n m) : z.good (n + 2) (m + 1) := by
  obtain ⟨hm, h⟩ := h
  have m1 : ∀ x ∈ s.ns, x.good (n + 2) := fun x hx => (hs.ns x hx).mono (by omega)
  have m2 : ∀ x ∈ s.es, x.good (n + 2) := fun x hx => (hs.es x hx).mono (by omega)
  have l1 := hs.ln
  have l2 := hs.le
  rcases h with ⟨hk, hid, rfl⟩ | ⟨hk, hid, hf, ht, rfl⟩ | ⟨he, i, hi, hid, y, ha, rfl⟩ | ⟨he, i, hi, hid, y, ha, rfl⟩
  · refine ⟨fun x hx => ?_, m2, by simp; omega, by show s.es.length ≤ _; omega⟩
    rcases List.mem_append.1 hx with g | g
    · exact m1 x g
    · rw [List.mem_singleton.1 g]; exact (made_good hm (.inl hk)).mono (by omega)
  · refine ⟨m1, fun x hx => ?_, by show s.ns.length ≤ _; omega, by simp; omega⟩
    rcases List.mem_append.1 hx with g | g
    · exact m2 x g
    · rw [List.mem_singleton.1 g]; exact (made_good hm (.inr hk)).mono (by omega)
  · refine ⟨fun x hx => ?_, m2, by simp; omega, by show s.es.length ≤ _; omega⟩
    rcases mem_set_cases hx with rfl | g
    · exact ha.good (hs.ns _ (List.getElem_mem hi))
    · exact m1 x g
  · refine ⟨m1, fun x hx => ?_, by show s.ns.length ≤ _; omega, by simp; omega⟩
    rcases mem_set_cases hx with rfl | g
    · exact ha.good (hs.es _ (List.getElem_mem hi))
    · exact m2 x g
theorem RunOk.good : ∀ {ops : List Co.OP} {s z : St} {n m : Nat}, RunOk s ops z → s.good n m → z.good (n + 2 * ops.length) (m + ops.length)
  | [], _, _, _, _, h, hs => by rw [h]; exact hs
  | o :: ops, _, _, n, m, ⟨_, h1, h2⟩, hs => by
    have := RunOk.good h2 (h1.good hs)
    rw [List.length_cons, show n + 2 * (ops.length + 1) = n + 2 + 2 * ops.length by omega, show m + (ops.length + 1) = m + 1 + ops.length by omega]
    exact this
theorem empty_may : (St.mk [] []).may := ⟨⟨fun i h => absurd h (Nat.not_lt_zero i), fun i h => absurd h (Nat.not_lt_zero i), fun d hd => by simp at hd⟩, fun d hd => by simp at hd⟩
theorem empty_good : (St.mk [] []).good 0 0 := ⟨fun x hx => by simp at hx, fun x hx => by simp at hx, Nat.le_refl _, Nat.le_refl _⟩
theorem valOf_at {l : List Ent} {id : Int} (h : placeB l.length id) : ∃ i, ∃ g : i < l.length, id = (i : Int) + 1 ∧ valOf l id = l[i].val := by
  unfold placeB at h
  refine ⟨(id - 1).toNat, by omega, by omega, ?_⟩
  unfold valOf
  rw [if_pos h.1, List.getElem?_eq_getElem (show (id - 1).toNat < l.length by omega)]
theorem valOf_no {l : List Ent} {id : Int} (h : ¬ placeB l.length id) : valOf l id = [] := by
  unfold placeB at h
  unfold valOf
  split
  · rw [List.getElem?_eq_none (by omega)]
  · rfl
end Go.Proofs.YtmolpogehgeebaaGreat


