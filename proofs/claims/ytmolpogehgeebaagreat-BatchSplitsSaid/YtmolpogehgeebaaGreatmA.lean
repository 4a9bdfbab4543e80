/- The laws of batch in plain words: two lists in one, twice is once, there and back, what stays. No program. -/
/- Entities in slices: where they lie, slices of them that are one's own. -/
/- Arguments opened: a slice of slices of operations. -/
/- Maps from words to nothing, as sets of words: made, put, counted, ranged over. -/
import Derived.Test.YtmolpogehgeebaaGreatbGA1
import Derived.Test.YtmolpogehgeebaaGreatbFB1
import Derived.Test.YtmolpogehgeebaaGreatbEC4
import Derived.Test.YtmolpogehgeebaaGreatbCOJ
import Derived.Maps.Own
import Derived.Maps.OwnOps
import Derived.Maps.OwnSet
import Derived.Maps.RangeWalk
namespace Go.Proofs.YtmolpogehgeebaaGreat
open Go.RowKit
theorem BApplied.one {s y z : St} {ops : List Co.OP} {n m : Int} (h : BApplied s ops n y) (g : BApplied s ops m z) : n = m ∧ (n = 0 → y = z) := by
  rcases h with ⟨h1, rfl⟩ | ⟨h1, h2, rfl⟩ | ⟨h1, h2, h3⟩ | ⟨h1, h2, x, h3, h4, rfl⟩ | ⟨h1, h2, h3, h4, rfl⟩
  · rcases g with ⟨_, rfl⟩ | ⟨g, _⟩ | ⟨g, _⟩ | ⟨g, _⟩ | ⟨g, _⟩
    · exact ⟨rfl, fun e => absurd e (by decide)⟩
    all_goals exact absurd g h1
  · rcases g with ⟨g, _⟩ | ⟨_, _, rfl⟩ | ⟨_, g, _⟩ | ⟨_, g, _⟩ | ⟨_, g, _⟩
    · exact absurd h1 g
    · exact ⟨rfl, fun e => absurd e (by decide)⟩
    all_goals omega
  · have hne := h3.ne
    rcases g with ⟨g, _⟩ | ⟨_, g, _⟩ | ⟨_, _, g⟩ | ⟨_, _, x, g, _⟩ | ⟨_, _, g, _⟩
    · exact absurd h1 g
    · omega
    · exact ⟨h3.one g h1.1, fun e => by omega⟩
    · exact (h3.not g h1.1).elim
    · exact (h3.not g h1.1).elim
  · rcases g with ⟨g, _⟩ | ⟨_, g, _⟩ | ⟨_, _, g⟩ | ⟨_, _, x', g, _, rfl⟩ | ⟨_, _, g, g2, _⟩
    · exact absurd h1 g
    · omega
    · exact (g.not h3 h1.1).elim
    · exact ⟨rfl, fun e => absurd e (by decide)⟩
    · rw [h3.one g] at h4; exact absurd g2 h4
  · rcases g with ⟨g, _⟩ | ⟨_, g, _⟩ | ⟨_, _, g⟩ | ⟨_, _, x', g, g2, _⟩ | ⟨_, _, g, g2, rfl⟩
    · exact absurd h1 g
    · omega
    · exact (g.not h3 h1.1).elim
    · rw [← h3.one g] at g2; exact absurd h4 g2
    · exact ⟨rfl, fun _ => h3.one g⟩
/-- What a refusal is. -/
theorem BApplied.num {s z : St} {ops : List Co.OP} {n : Int} (h : BApplied s ops n z) (hs : s.may) : n = 0 ∨ n = 1 ∨ n = 34 ∨ n = 3 ∨ n = 33 := by
  rcases h with ⟨h, _⟩ | ⟨_, _, h⟩ | ⟨_, _, h⟩ | ⟨_, _, y, _, _, h⟩ | ⟨_, _, _, _, h⟩
  · exact absurd hs h
  · omega
  · have := h.ne; omega
  · omega
  · omega
/-- Two lists, one behind the other, and both in one. -/
theorem splits {s x y z : St} {a b : List Co.OP} {e f g : Int} (hs : s.may) (la : a.length ≤ 128) (lb : b.length ≤ 128) (h1 : BApplied s (a ++ b) g z) (h2 : BApplied s a e x) (h3 : e = 0 → BApplied x b f y) :
    (e = 0 → f = 0 → g = 0 ∧ z = y) ∧ (e = 0 → f ≠ 0 → g = f) ∧ (e ≠ 0 → e ≠ 33 → g = e) := by
  have hl : (a ++ b).length ≤ 256 := by simp; omega
  refine ⟨fun he hf => ?_, fun he hf => ?_, fun he hd => ?_⟩
  · subst he hf
    obtain ⟨_, r1, m1⟩ := h2.ok
    obtain ⟨_, r2, m2⟩ := (h3 rfl).ok
    have g2 : BApplied s (a ++ b) 0 y := .inr (.inr (.inr (.inr ⟨hs, hl, r1.append r2, m2.2, rfl⟩)))
    obtain ⟨e1, e2⟩ := h1.one g2
    exact ⟨e1, e2 e1⟩
  · subst he
    obtain ⟨_, r1, m1⟩ := h2.ok
    rcases h3 rfl with ⟨h, _⟩ | ⟨_, h, _⟩ | ⟨_, _, h⟩ | ⟨_, _, y', h, hl', rfl⟩ | ⟨_, _, _, _, h⟩
    · exact absurd m1 h
    · omega
    · exact (h1.one (z := y) (.inr (.inr (.inl ⟨hs, hl, RunBad.right r1 h⟩)))).1
    · exact (h1.one (z := y) (.inr (.inr (.inr (.inl ⟨hs, hl, y', r1.append h, hl', rfl⟩))))).1
    · exact absurd h hf
  · rcases h2 with ⟨h, _⟩ | ⟨_, h, _⟩ | ⟨_, _, h⟩ | ⟨_, _, y', h, hl', rfl⟩ | ⟨_, _, _, _, h⟩
    · exact absurd hs h
    · omega
    · exact (h1.one (z := y) (.inr (.inr (.inl ⟨hs, hl, RunBad.left b h⟩)))).1
    · exact absurd rfl hd
    · exact absurd h he
/-- What was there stays there, and stands for the same. -/
structure St.kin (s z : St) : Prop where
  ln : s.ns.length ≤ z.ns.length
  le : s.es.length ≤ z.es.length
  ns : ∀ i (h : i < s.ns.length) (g : i < z.ns.length), s.ns[i].kin z.ns[i]
  es : ∀ i (h : i < s.es.length) (g : i < z.es.length), s.es[i].kin z.es[i]
theorem St.kin.refl (s : St) : s.kin s := ⟨Nat.le_refl _, Nat.le_refl _, fun _ _ _ => .refl _, fun _ _ _ => .refl _⟩
theorem St.kin.trans {s y z : St} (h : s.kin y) (g : y.kin z) : s.kin z :=
  ⟨Nat.le_trans h.ln g.ln, Nat.le_trans h.le g.le, fun i hi hj => (h.ns i hi (Nat.lt_of_lt_of_le hi h.ln)).trans (g.ns i _ hj), fun i hi hj => (h.es i hi (Nat.lt_of_lt_of_le hi h.le)).trans (g.es i _ hj)⟩
theorem kin_set {l : List Ent} {i : Nat} {y : Ent} (hi : i < l.length) (h : l[i].kin y) : ∀ j (h : j < l.length) (g : j < (l.set i y).length), l[j].kin (l.set i y)[j] := fun j hj hg => by
  rw [List.getElem_set]
  split
  · next e => subst e; exact h
  · exact .refl _
theorem kin_app {l : List Ent} {y : Ent} : ∀ j (h : j < l.length) (g : j < (l ++ [y]).length), l[j].kin (l ++ [y])[j] := fun j hj hg => by
  rw [List.getElem_append_left hj]; exact .refl _
theorem StepOk.kin {s z : St} {o : Co.OP} (h : StepOk s o z) : s.kin z := by
  obtain ⟨hm, h⟩ := h
  rcases h with ⟨hk, hid, rfl⟩ | ⟨hk, hid, hf, ht, rfl⟩ | ⟨he, i, hi, hid, y, ha, rfl⟩ | ⟨he, i, hi, hid, y, ha, rfl⟩
  · exact ⟨by simp, Nat.le_refl _, kin_app, fun _ _ _ => .refl _⟩
  · exact ⟨Nat.le_refl _, by simp, fun _ _ _ => .refl _, kin_app⟩
  · exact ⟨by simp, Nat.le_refl _, kin_set hi ha.kin, fun _ _ _ => .refl _⟩
  · exact ⟨Nat.le_refl _, by simp, fun _ _ _ => .refl _, kin_set hi ha.kin⟩
theorem RunOk.kin : ∀ {ops : List Co.OP} {s z : St}, RunOk s ops z → s.kin z
  | [], s, _, h => by rw [h]; exact .refl s
  | _ :: _, _, _, ⟨_, h1, h2⟩ => h1.kin.trans (RunOk.kin h2)
theorem BApplied.good {s z : St} {ops : List Co.OP} {n m : Nat} (h : BApplied s ops 0 z) (hs : s.good n m) : z.good (n + 2 * ops.length) (m + ops.length) := h.ok.2.1.good hs
theorem BApplied.kin {s z : St} {ops : List Co.OP} (h : BApplied s ops 0 z) : s.kin z := h.ok.2.1.kin
theorem BApplied.nil {s z : St} (h : BApplied s [] 0 z) : z = s := h.ok.2.1
end Go.Proofs.YtmolpogehgeebaaGreat


namespace Go.Proofs.YtmolpogehgeebaaGreat
open Go.RowKit
/-- An entity, and the two slices that it is laid with. -/
abbrev ER := Ent × Value × Value
abbrev ER.cells (r : ER) : Array Value := r.1.cells r.2.1 r.2.2
def cellsE (rs : List ER) : List Value := rs.flatMap fun r => (ER.cells r).toList
theorem cellsE_cons (r : ER) (rs : List ER) : cellsE (r :: rs) = .bool r.1.edge :: .int .u64 r.1.id :: .string r.1.lab :: .int .u64 r.1.fr :: .int .u64 r.1.til :: r.2.1 :: r.2.2 :: cellsE rs := rfl
theorem cellsE_length (rs : List ER) : (cellsE rs).length = rs.length * 7 := by
  induction rs with
  | nil => rfl
  | cons r rs ih => rw [cellsE_cons]; simp only [List.length_cons, ih]; omega
theorem cellsE_append (a b : List ER) : cellsE (a ++ b) = cellsE a ++ cellsE b := by simp [cellsE]
theorem cellsE_one (r : ER) : cellsE [r] = (ER.cells r).toList := by simp [cellsE]
theorem cellsE_get (rs : List ER) (i : Nat) (h : i < rs.length) (j : Nat) (hj : j < 7) : (cellsE rs)[i * 7 + j]? = ((ER.cells rs[i]).toList)[j]? := by
  induction rs generalizing i with
  | nil => simp at h
  | cons r rs ih =>
    have e : cellsE (r :: rs) = (ER.cells r).toList ++ cellsE rs := by simp [cellsE]
    have l7 : (ER.cells r).toList.length = 7 := rfl
    rw [e]
    cases i with
    | zero => rw [Nat.zero_mul, Nat.zero_add, List.getElem?_append_left (by rw [l7]; exact hj)]; rfl
    | succ i =>
      rw [List.getElem?_append_right (by rw [l7]; omega), l7, show (i + 1) * 7 + j - 7 = i * 7 + j by omega]
      exact ih i (by simpa using h)
theorem cellsE_put : ∀ (rs : List ER) (i : Nat) (_ : i < rs.length) (r : ER), (((((((cellsE rs).set (i * 7) (.bool r.1.edge)).set (i * 7 + 1) (.int .u64 r.1.id)).set (i * 7 + 2) (.string r.1.lab)).set (i * 7 + 3) (.int .u64 r.1.fr)).set (i * 7 + 4) (.int .u64 r.1.til)).set (i * 7 + 5) r.2.1).set (i * 7 + 6) r.2.2 = cellsE (rs.set i r)
  | [], _, h, _ => by simp at h
  | q :: rs, 0, _, r => rfl
  | q :: rs, i + 1, h, r => by
    have := cellsE_put rs i (by simpa using h) r
    have e : ∀ k, (i + 1) * 7 + k = i * 7 + k + 7 := fun k => by omega
    rw [show (i + 1) * 7 = i * 7 + 7 by omega, cellsE_cons]
    rw [show i * 7 + 7 + 1 = i * 7 + 1 + 7 by omega, show i * 7 + 7 + 2 = i * 7 + 2 + 7 by omega, show i * 7 + 7 + 3 = i * 7 + 3 + 7 by omega, show i * 7 + 7 + 4 = i * 7 + 4 + 7 by omega, show i * 7 + 7 + 5 = i * 7 + 5 + 7 by omega, show i * 7 + 7 + 6 = i * 7 + 6 + 7 by omega]
    simp only [List.set_cons_succ, this, cellsE_cons]
/-- Where the entities of a slice lie. -/
def EsAt (w : World) (A : Option Addr) (l : List Ent) : Prop := 0 < l.length → ∃ b off, A = some ⟨b, off, none⟩ ∧ b < w.heap.size ∧ ∀ i (h : i < l.length), ∃ sv sp, w.rangeAt b (off + i * 7) (l[i].cells sv sp).toList ∧ Se.IsP w sv l[i].val ∧ SP w sp l[i].ps
theorem EsAt.below {w w' : World} {A : Option Addr} {l : List Ent} (h : EsAt w A l) (hb : Below w.heap.size w w') : EsAt w' A l := fun h0 => by
  obtain ⟨b, off, e, hl, hc⟩ := h h0
  refine ⟨b, off, e, Nat.lt_of_lt_of_le hl hb.size, fun i hi => ?_⟩
  obtain ⟨sv, sp, h1, h2, h3⟩ := hc i hi
  exact ⟨sv, sp, fun j v hv => (hb.cell (p := ⟨b, off + i * 7 + j, none⟩) hl).trans (h1 j v hv), h2.below hb, h3.below hb⟩
/-- A slice that holds these entities. -/
def SE (w : World) (v : Value) (l : List Ent) : Prop := ∃ A c, v = .slice A l.length c ∧ EsAt w A l ∧ l.length ≤ 9223372036854775807
theorem SE.below {w w' : World} {v : Value} {l : List Ent} (h : SE w v l) (hb : Below w.heap.size w w') : SE w' v l := by
  obtain ⟨A, c, e, hA, hm⟩ := h
  exact ⟨A, c, e, hA.below hb, hm⟩
theorem SE.nil (w : World) : SE w (.slice none 0 0) [] := ⟨none, 0, rfl, fun h => absurd h (Nat.lt_irrefl 0), by simp⟩
/-- A slice of entities that the call owns. -/
def OwnE (base : Nat) (w : World) (v : Value) (rs : List ER) : Prop := w.ownsRow base 38 7 v rs.length (cellsE rs)
theorem OwnE.nil (base : Nat) (w : World) : OwnE base w (.slice none 0 0) [] := World.ownsRow_nil w base _ 7
theorem OwnE.below {base : Nat} {w w' : World} {v : Value} {rs : List ER} (h : OwnE base w v rs) (hb : Below w.heap.size w w') : OwnE base w' v rs := by
  refine ⟨h.1, ?_⟩
  rcases h.2 with h0 | ⟨g, cap, cur, h1, h2, h3, h4⟩
  · exact .inl h0
  · exact .inr ⟨g, cap, cur, h1, h2, (hb.block g (lt_heap h3)).trans h3, h4⟩
theorem OwnE.mono {base base' : Nat} {w : World} {v : Value} {rs : List ER} (h : OwnE base w v rs) (hb : base' ≤ base) : OwnE base' w v rs := by
  refine ⟨h.1, ?_⟩
  rcases h.2 with h0 | ⟨g, cap, cur, h1, h2, h3⟩
  · exact .inl h0
  · exact .inr ⟨g, cap, cur, h1, Nat.le_trans hb h2, h3⟩
/-- What the call owns: its block. -/
theorem OwnE.form {base : Nat} {w : World} {v : Value} {rs : List ER} (h : OwnE base w v rs) : ∃ A c, v = .slice A rs.length c ∧ rs.length ≤ c ∧ c ≤ 9223372036854775807 ∧ (0 < rs.length → ∃ g, A = some ⟨g, 0, none⟩ ∧ base ≤ g ∧ g < w.heap.size ∧ HT w g ∧ (∀ j, w.frozen? ⟨g, j, none⟩ = false) ∧ ∀ i (h : i < rs.length), w.rangeAt g (i * 7) (ER.cells rs[i]).toList) := by
  rcases h.2 with ⟨rfl, h0⟩ | ⟨g, cap, cur, rfl, hb, hg, hn, hm, hs, ht⟩
  · exact ⟨none, 0, by rw [h0], by omega, by omega, fun h => by omega⟩
  · refine ⟨_, cap, rfl, hn, by unfold maxLen at hm; omega, fun _ => ⟨g, rfl, hb, lt_heap hg, ⟨cur, _, hg⟩, fun j => by unfold World.frozen?; simp only []; rw [hg]; simp, fun i hi j v hv => ?_⟩⟩
    have hj : j < 7 := (List.getElem?_eq_some_iff.1 hv).1
    have c0 := cellsE_get rs i hi j hj
    rw [← ht, List.getElem?_take_of_lt (by omega), Array.getElem?_toList] at c0
    rw [cell_of_row w g (i * 7 + j) cur _ _ hg, c0, hv]
theorem there7 {w : World} {g o : Nat} {C : Array Value} (h : w.rangeAt g o C.toList) (hf : ∀ j, w.frozen? ⟨g, j, none⟩ = false) : w.there g o C.size := fun j hj => by
  refine ⟨?_, hf _⟩
  rw [h j C[j] (by rw [Array.getElem?_toList, Array.getElem?_eq_getElem hj])]
  rfl
/-- One entity put anew. -/
theorem OwnE.put {base g c : Nat} {w : World} {rs : List ER} (h : OwnE base w (.slice (some ⟨g, 0, none⟩) rs.length c) rs) (i : Nat) (hi : i < rs.length) (r : ER) :
    OwnE base (w.setCells g (i * 7) (ER.cells r).toList) (.slice (some ⟨g, 0, none⟩) rs.length c) (rs.set i r) ∧ w.grownBy (w.setCells g (i * 7) (ER.cells r).toList) (some g) := by
  have h0 := World.ownsRow.stored h (i * 7) (.bool r.1.edge)
  have h1 := World.ownsRow.stored h0.1 (i * 7 + 1) (.int .u64 r.1.id)
  have h2 := World.ownsRow.stored h1.1 (i * 7 + 2) (.string r.1.lab)
  have h3 := World.ownsRow.stored h2.1 (i * 7 + 3) (.int .u64 r.1.fr)
  have h4 := World.ownsRow.stored h3.1 (i * 7 + 4) (.int .u64 r.1.til)
  have h5 := World.ownsRow.stored h4.1 (i * 7 + 5) r.2.1
  have h6 := World.ownsRow.stored h5.1 (i * 7 + 6) r.2.2
  rw [cellsE_put rs i hi] at h6
  have e : w.setCells g (i * 7) (ER.cells r).toList = ((((((w.setCell ⟨g, i * 7, none⟩ (.bool r.1.edge)).setCell ⟨g, i * 7 + 1, none⟩ (.int .u64 r.1.id)).setCell ⟨g, i * 7 + 2, none⟩ (.string r.1.lab)).setCell ⟨g, i * 7 + 3, none⟩ (.int .u64 r.1.fr)).setCell ⟨g, i * 7 + 4, none⟩ (.int .u64 r.1.til)).setCell ⟨g, i * 7 + 5, none⟩ r.2.1).setCell ⟨g, i * 7 + 6, none⟩ r.2.2 := rfl
  rw [e]
  unfold OwnE
  rw [List.length_set]
  exact ⟨h6.1, h0.2.trans (h1.2.trans (h2.2.trans (h3.2.trans (h4.2.trans (h5.2.trans h6.2)))))⟩
theorem EAt.inv {w : World} {x : Ent} {sv sp : Value} (h : EAt w (.agg (x.cells sv sp)) x) : Se.IsP w sv x.val ∧ SP w sp x.ps := by
  obtain ⟨sv', sp', e, h1, h2⟩ := h
  simp at e
  obtain ⟨rfl, rfl⟩ := e
  exact ⟨h1, h2⟩
theorem OwnE.se {base : Nat} {w : World} {v : Value} {rs : List ER} {l : List Ent} (h : OwnE base w v rs) (hr : ∀ r ∈ rs, EAt w (.agg (ER.cells r)) r.1) (hl : rs.map (·.1) = l) : SE w v l := by
  subst hl
  obtain ⟨A, c, rfl, h1, h2, hA⟩ := h.form
  refine ⟨A, c, by rw [List.length_map], fun h0 => ?_, by rw [List.length_map]; omega⟩
  rw [List.length_map] at h0
  obtain ⟨g, rfl, _, hg, _, _, hc⟩ := hA h0
  refine ⟨g, 0, rfl, hg, fun i hi => ?_⟩
  rw [List.length_map] at hi
  obtain ⟨k1, k2⟩ := (hr _ (List.getElem_mem hi)).inv
  rw [List.getElem_map, Nat.zero_add]
  exact ⟨rs[i].2.1, rs[i].2.2, hc i hi, k1, k2⟩
theorem OwnE.grown {base : Nat} {w w' : World} {v : Value} {rs : List ER} {row : Option Nat} (h : OwnE base w v rs) (hg : w.grownBy w' row) (hne : v.ownBlock = none ∨ v.ownBlock ≠ row) : OwnE base w' v rs := World.ownsRow.kept h hg hne
/-- An entity of one's own is not in a block of entities. -/
theorem EOwn.kept {base q : Nat} {w w' : World} {u : Value} {x : Ent} (h : EOwn base w u x) (hg : w.grownBy w' (some q)) (hq : HT w q) : EOwn base w' u x := by
  obtain ⟨sv, sp, rs, e, k1, k2, k3⟩ := h
  exact ⟨sv, sp, rs, e, World.ownsRow.kept k1 hg (Se.OwnP.free k1 hq), World.ownsRow.kept k2 hg (OwnR.free k2 hq), k3.len, fun i hi hj => ⟨(k3.at' i hi hj).1, World.ownsRow.kept (k3.at' i hi hj).2 hg ((k3.at' i hi hj).2.free hq)⟩⟩
/-- A list of entities of one's own. -/
def LE (base : Nat) (w : World) (v : Value) (l : List Ent) : Prop := ∃ rs, OwnE base w v rs ∧ (∀ r ∈ rs, EOwn base w (.agg (ER.cells r)) r.1) ∧ rs.map (·.1) = l
theorem LE.below {base : Nat} {w w' : World} {v : Value} {l : List Ent} (h : LE base w v l) (hb : Below w.heap.size w w') : LE base w' v l := by
  obtain ⟨rs, h1, h2, h3⟩ := h
  exact ⟨rs, h1.below hb, fun r hr => (h2 r hr).below hb, h3⟩
theorem LE.mono {base base' : Nat} {w : World} {v : Value} {l : List Ent} (h : LE base w v l) (hb : base' ≤ base) : LE base' w v l := by
  obtain ⟨rs, h1, h2, h3⟩ := h
  exact ⟨rs, h1.mono hb, fun r hr => (h2 r hr).mono hb, h3⟩
theorem LE.se {base : Nat} {w : World} {v : Value} {l : List Ent} (h : LE base w v l) : SE w v l := by
  obtain ⟨rs, h1, h2, h3⟩ := h
  exact h1.se (fun r hr => (h2 r hr).at) h3
theorem LE.nil (base : Nat) (w : World) : LE base w (.slice none 0 0) [] := ⟨[], OwnE.nil _ _, fun r hr => by simp at hr, rfl⟩
theorem LE.kept {base q : Nat} {w w' : World} {v : Value} {l : List Ent} (h : LE base w v l) (hg : w.grownBy w' (some q)) (hq : HT w q) (hne : v.ownBlock ≠ some q) : LE base w' v l := by
  obtain ⟨rs, h1, h2, h3⟩ := h
  exact ⟨rs, h1.grown hg (.inr hne), fun r hr => (h2 r hr).kept hg hq, h3⟩
theorem LE.form {base : Nat} {w : World} {v : Value} {l : List Ent} (h : LE base w v l) : ∃ A c, v = .slice A l.length c ∧ l.length ≤ c ∧ c ≤ 9223372036854775807 := by
  obtain ⟨rs, h1, _, rfl⟩ := h
  obtain ⟨A, c, e, h2, h3, _⟩ := h1.form
  exact ⟨A, c, by rw [e, List.length_map], by rw [List.length_map]; exact h2, h3⟩
/-- One entity put anew: the cells of the i-th are there. -/
theorem LE.at {base : Nat} {w : World} {v : Value} {l : List Ent} (h : LE base w v l) (i : Nat) (hi : i < l.length) : ∃ g c sv sp, v = .slice (some ⟨g, 0, none⟩) l.length c ∧ base ≤ g ∧ g < w.heap.size ∧ HT w g ∧ (∀ j, w.frozen? ⟨g, j, none⟩ = false) ∧ w.rangeAt g (i * 7) (l[i].cells sv sp).toList ∧ EOwn base w (.agg (l[i].cells sv sp)) l[i] := by
  obtain ⟨rs, h1, h2, rfl⟩ := h
  rw [List.length_map] at hi
  obtain ⟨A, c, rfl, _, _, hA⟩ := h1.form
  obtain ⟨g, rfl, k1, k2, k3, k4, k5⟩ := hA (by omega)
  simp only [List.getElem_map, List.length_map]
  exact ⟨g, c, _, _, rfl, k1, k2, k3, k4, k5 i hi, h2 _ (List.getElem_mem hi)⟩
theorem LE.put {base g c : Nat} {w : World} {l : List Ent} (h : LE base w (.slice (some ⟨g, 0, none⟩) l.length c) l) (i : Nat) (hi : i < l.length) {y : Ent} {sv sp : Value} (hy : EOwn base w (.agg (y.cells sv sp)) y) :
    LE base (w.setCells g (i * 7) (y.cells sv sp).toList) (.slice (some ⟨g, 0, none⟩) l.length c) (l.set i y) ∧ w.grownBy (w.setCells g (i * 7) (y.cells sv sp).toList) (some g) := by
  obtain ⟨rs, h1, h2, rfl⟩ := h
  rw [List.length_map] at hi h1 ⊢
  have hq : HT w g := by
    obtain ⟨A, c', e, _, _, hA⟩ := h1.form
    obtain ⟨g', e', _, _, k3, _⟩ := hA (by omega)
    injection e with e1
    rw [e'] at e1
    injection e1 with e1
    injection e1 with e1
    rw [e1]; exact k3
  have h3 := h1.put i hi (y, sv, sp)
  refine ⟨⟨rs.set i (y, sv, sp), h3.1, fun r hr => ?_, by rw [List.map_set]⟩, h3.2⟩
  rcases List.mem_or_eq_of_mem_set hr with hr | rfl
  · exact (h2 r hr).kept h3.2 hq
  · exact hy.kept h3.2 hq
theorem oneE (x : Ent) {sv sp : Value} (h1 : sv.oneCell' = true) (h2 : sp.oneCell' = true) : (x.cells sv sp).all (·.oneCell') = true := by
  refine Array.all_eq_true_iff_forall_mem.2 fun v hv => ?_
  simp at hv
  rcases hv with rfl | rfl | rfl | rfl | rfl | rfl | rfl
  · rfl
  · rfl
  · rfl
  · rfl
  · rfl
  · exact h1
  · exact h2
theorem EOwn.one {base : Nat} {w : World} {x : Ent} {sv sp : Value} (h : EOwn base w (.agg (x.cells sv sp)) x) : (x.cells sv sp).all (·.oneCell') = true := by
  obtain ⟨h1, h2⟩ := h.at.inv
  obtain ⟨A, c, rfl, _⟩ := h1
  obtain ⟨B, d, rfl, _⟩ := h2
  exact oneE x rfl rfl
/-- A state in memory. -/
def SAt (w : World) (v : Value) (s : St) : Prop := ∃ sn se, v = .agg #[sn, se] ∧ SE w sn s.ns ∧ SE w se s.es
theorem SAt.below {w w' : World} {v : Value} {s : St} (h : SAt w v s) (hb : Below w.heap.size w w') : SAt w' v s := by
  obtain ⟨sn, se, e, h1, h2⟩ := h
  exact ⟨sn, se, e, h1.below hb, h2.below hb⟩
theorem SAt.nil (w : World) : SAt w (.agg #[.slice none 0 0, .slice none 0 0]) ⟨[], []⟩ := ⟨_, _, rfl, SE.nil w, SE.nil w⟩
/-- A state of one's own. -/
def SOwn (base : Nat) (w : World) (v : Value) (s : St) : Prop := ∃ sn se, v = .agg #[sn, se] ∧ LE base w sn s.ns ∧ LE base w se s.es
theorem SOwn.at {base : Nat} {w : World} {v : Value} {s : St} (h : SOwn base w v s) : SAt w v s := by
  obtain ⟨sn, se, e, h1, h2⟩ := h
  exact ⟨sn, se, e, h1.se, h2.se⟩
theorem SOwn.below {base : Nat} {w w' : World} {v : Value} {s : St} (h : SOwn base w v s) (hb : Below w.heap.size w w') : SOwn base w' v s := by
  obtain ⟨sn, se, e, h1, h2⟩ := h
  exact ⟨sn, se, e, h1.below hb, h2.below hb⟩
theorem SOwn.mono {base base' : Nat} {w : World} {v : Value} {s : St} (h : SOwn base w v s) (hb : base' ≤ base) : SOwn base' w v s := by
  obtain ⟨sn, se, e, h1, h2⟩ := h
  exact ⟨sn, se, e, h1.mono hb, h2.mono hb⟩
theorem SOwn.nil (base : Nat) (w : World) : SOwn base w (.agg #[.slice none 0 0, .slice none 0 0]) ⟨[], []⟩ := ⟨_, _, rfl, LE.nil _ _, LE.nil _ _⟩
/-- All entities of a state can be gone through. -/
structure St.wide (s : St) : Prop where
  ns : ∀ x ∈ s.ns, x.wide
  es : ∀ x ∈ s.es, x.wide
  ln : s.ns.length ≤ 1000000
  le : s.es.length ≤ 1000000
theorem infoEnt : (Tryz.prog.info? 38).map (fun i => (i.zero, i.size, i.bytes)) = some (some (.agg #[.bool false, .int .u64 0, .string ⟨#[]⟩, .int .u64 0, .int .u64 0, .slice none 0 0, .slice none 0 0]), 7, 96) := by kernel_rfl
theorem rowEnt : (Tryz.prog.info? 38).map (·.size) = some 7 := by kernel_rfl
end Go.Proofs.YtmolpogehgeebaaGreat


namespace Go.Proofs.YtmolpogehgeebaaGreat
open Go.ChangeShapes Go.WideShapes Go.ChangeAt Go.RowKit
/-- A slice of operations with its room. -/
def CO (w : World) (v : Value) (l : List Co.OP) : Prop := ∃ A c, v = .slice A l.length c ∧ l.length ≤ c ∧ c ≤ 9223372036854775807 ∧ (A = none → c = 0) ∧ Co.OAt w A l
theorem CO.below {w w' : World} {v : Value} {l : List Co.OP} (h : CO w v l) (hb : Below w.heap.size w w') : CO w' v l := by
  obtain ⟨A, c, e, h1, h2, h3, h4⟩ := h
  exact ⟨A, c, e, h1, h2, h3, h4.below hb⟩
theorem CO.so {w : World} {v : Value} {l : List Co.OP} (h : CO w v l) : Co.SO w v l := by
  obtain ⟨A, c, e, h1, h2, _, h4⟩ := h
  exact ⟨A, c, e, h4, by omega⟩
section
variable {H : Type} {enc : TypeId × Value → H} {W : World} {base b0 : Nat} {sp : Nat → Bool} {held : Bool} {r : Reach} {v : Value} {d : DataW H} {p : List MemPlace}
set_option maxRecDepth 100000 in
theorem ops_room {n : Nat} {cs : List Value} {y : DataW H × List MemPlace} (hf : DataW.trod enc Tryz.prog W base sp held n 27 cs = some y) :
    ∃ (u : Value) (l : List Co.OP), cs = [u] ∧ CO W u l ∧ ∀ o ∈ l, o.wide := by
  obtain ⟨A, c, l, e, h1, h2, h3⟩ := Co.ops_in hf
  refine ⟨_, l, e, ?_, h3⟩
  rcases DataW.trod_slice Tryz.underlying27 hf with ⟨e2, _⟩ | ⟨a, len, cap, elems, rest, n, _, e2, _, _, g4, g5, _⟩
  · rw [e] at e2
    injection e2 with e2 _
    injection e2 with e3 e4 e5
    exact ⟨A, c, rfl, by omega, by omega, fun _ => e5, h1⟩
  · rw [e] at e2
    injection e2 with e2 _
    injection e2 with e3 e4 e5
    exact ⟨A, c, rfl, by omega, by unfold maxLen at g5; omega, fun h => by rw [h] at e3; (cases e3), h1⟩
set_option maxRecDepth 100000 in
theorem open_co (hv : Value.okWide Tryz.prog W r b0 27 v) (h : DataW.Trod enc Tryz.prog W base sp held 27 v d p) : ∃ l : List Co.OP, CO W v l ∧ ∀ o ∈ l, o.wide := by
  obtain ⟨x0, x1, x2, rfl⟩ := okWide_slice Tryz.underlying27 hv
  obtain ⟨fuel, hf⟩ := h
  obtain ⟨u, l, e, h1, h2⟩ := ops_room hf
  simp only [Value.cells] at e
  obtain rfl : Value.slice x0 x1 x2 = u := by simpa using e
  exact ⟨l, h1, h2⟩
end
/-- The batches ahead, as they came in. -/
def AhAt (w : World) (A : Option Addr) (L : List (List Co.OP)) : Prop := 0 < L.length → ∃ b off, A = some ⟨b, off, none⟩ ∧ b < w.heap.size ∧ ∀ i (h : i < L.length), ∃ v, w.cell? ⟨b, off + i, none⟩ = some v ∧ CO w v L[i]
theorem AhAt.below {w w' : World} {A : Option Addr} {L : List (List Co.OP)} (h : AhAt w A L) (hb : Below w.heap.size w w') : AhAt w' A L := fun h0 => by
  obtain ⟨b, off, e, hl, hc⟩ := h h0
  exact ⟨b, off, e, Nat.lt_of_lt_of_le hl hb.size, fun i hi => by
    obtain ⟨v, h1, h2⟩ := hc i hi
    exact ⟨v, (hb.cell (p := ⟨b, off + i, none⟩) hl).trans h1, h2.below hb⟩⟩
def SA (w : World) (v : Value) (L : List (List Co.OP)) : Prop := ∃ A c, v = .slice A L.length c ∧ AhAt w A L ∧ L.length ≤ 9223372036854775807
theorem SA.below {w w' : World} {v : Value} {L : List (List Co.OP)} (h : SA w v L) (hb : Below w.heap.size w w') : SA w' v L := by
  obtain ⟨A, c, e, h1, h2⟩ := h
  exact ⟨A, c, e, h1.below hb, h2⟩
set_option maxRecDepth 100000 in
theorem open_ahead {H : Type} {enc : TypeId × Value → H} {W : World} {base b0 : Nat} {sp : Nat → Bool} {held : Bool} {r : Reach} {v : Value} {d : DataW H} {p : List MemPlace} (hv : Value.okWide Tryz.prog W r b0 73 v) (h : DataW.Trod enc Tryz.prog W base sp held 73 v d p) : ∃ L : List (List Co.OP), SA W v L ∧ ∀ l ∈ L, ∀ o ∈ l, o.wide := by
  obtain ⟨x0, x1, x2, rfl⟩ := okWide_slice Tryz.underlying73 hv
  obtain ⟨fuel, hf⟩ := h
  rcases DataW.trod_slice Tryz.underlying73 hf with ⟨e, _⟩ | ⟨a, len, cap, elems, rest, n, g1, e, g2, g3, g4, g5, hlen, hg, _, _⟩
  · simp [Value.cells] at e
    obtain ⟨rfl, rfl, rfl⟩ := e
    exact ⟨[], ⟨none, 0, rfl, fun h0 => absurd h0 (by simp), by simp⟩, fun o ho => by simp at ho⟩
  · have hC : Tryz.prog.cellsOf 27 = 1 := by kernel_rfl
    rw [hC] at hg
    simp [Value.cells] at e
    obtain ⟨rfl, rfl, rfl⟩ := e
    have each : ∀ i, ∃ l : List Co.OP, i < x1 → (∃ v, W.cell? (a.add i) = some v ∧ CO W v l) ∧ ∀ o ∈ l, o.wide := fun i => by
      by_cases hi : i < x1
      · have h1 := hg i hi
        rw [List.getElem?_eq_getElem (by omega), Option.bind_eq_some_iff, Nat.mul_one] at h1
        obtain ⟨cs, hcs, ht⟩ := h1
        obtain ⟨_, hl, hcell⟩ := World.cells?_some hcs
        match cs, hl, hcell, ht with
        | [c0], _, hcell, ht =>
          obtain ⟨u, l, e, k1, k3⟩ := ops_room ht
          refine ⟨l, fun _ => ⟨⟨c0, ?_, ?_⟩, k3⟩⟩
          · have := hcell 0 (by omega)
            rw [show (a.add i).add 0 = a.add i by simp [Addr.add]] at this
            simpa using this
          · simp at e
            subst e
            exact k1
      · exact ⟨[], fun h => absurd h hi⟩
    obtain ⟨f, each⟩ : ∃ f : Nat → List Co.OP, ∀ i, i < x1 → (∃ v, W.cell? (a.add i) = some v ∧ CO W v (f i)) ∧ ∀ o ∈ f i, o.wide := ⟨fun i => Classical.choose (each i), fun i => Classical.choose_spec (each i)⟩
    have hlen2 : ((List.range x1).map f).length = x1 := by simp
    refine ⟨(List.range x1).map f, ⟨some a, x2, by rw [hlen2], fun h0 => ?_, by rw [hlen2]; unfold maxLen at *; omega⟩, fun l hl => ?_⟩
    · rw [hlen2] at h0
      obtain ⟨b, off, spot⟩ := a
      obtain ⟨v0, f0, _⟩ := (each 0 h0).1
      have hspot : spot = none := by simpa [Addr.add] using World.cell?_spot f0
      subst hspot
      have hlt : b < W.heap.size := by
        rw [Se.add_plain] at f0
        exact World.block_lt_of_cell? W _ f0
      refine ⟨b, off, rfl, hlt, fun i hi => ?_⟩
      rw [hlen2] at hi
      obtain ⟨v, h1, h2⟩ := (each i hi).1
      rw [Se.add_plain] at h1
      exact ⟨v, h1, by simpa using h2⟩
    · obtain ⟨i, hi, rfl⟩ := List.mem_map.1 hl
      exact (each i (List.mem_range.1 hi)).2
/-- The first n of them. -/
theorem Co.SO.take {w : World} {A : Option Addr} {n c : Nat} {l : List Co.OP} (h : Co.SO w (.slice A n c) l) (k : Nat) (hk : k ≤ n) (d : Nat) : Co.SO w (.slice A k d) (l.take k) := by
  obtain ⟨A', c', e, h1, h2⟩ := h
  injection e with e1 e2 e3
  subst e1 e2
  have hl : (l.take k).length = k := by rw [List.length_take]; omega
  refine ⟨A, d, by rw [hl], fun h0 => ?_, by omega⟩
  obtain ⟨g, off, e, hlt, hc⟩ := h1 (by omega)
  exact ⟨g, off, e, hlt, fun i hi j v hv => hc i (by omega) j v (by simpa using hv)⟩
end Go.Proofs.YtmolpogehgeebaaGreat


namespace Go.Proofs.YtmolpogehgeebaaGreat
open Go.RowKit Go.Maps
def okU (x : Int) : Prop := 0 ≤ x ∧ x ≤ 18446744073709551615
theorem litU {x : Int} (h : okU x) : (Lit.int .u64 x).wf = true := by
  unfold okU at h
  simp [Lit.wf, IntKind.min, IntKind.max, IntKind.signed, IntKind.bits]; omega
theorem keyedU : Keyed Tryz.prog 22 := int_keyed Tryz.underlying22
theorem keyU {x : Int} (h : okU x) : keyOf Tryz.prog 22 (.int .u64 x) = some (.int .u64 x) := keyOf_int_mk Tryz.underlying22 (litU h)
theorem keyLitU {x : Int} (h : okU x) : WideAt.IsKeyLit (.int .u64 x) := keyedU.key (keyU h)
theorem litNe {x y : Int} (h : x ≠ y) : Lit.int .u64 x ≠ Lit.int .u64 y := fun e => h (by injection e)
/-- Block b is a map that has just these keys. -/
def MU (w : World) (b n : Nat) (K : List Int) : Prop :=
  ∃ D : DataW Unit, w.ownsMap Tryz.prog 22 unitElem b n D ∧ (∀ x, okU x → Maps.has D (.int .u64 x) = decide (x ∈ K)) ∧ Maps.size D = K.length ∧ K.Nodup ∧ ∀ x ∈ K, okU x
theorem MU.lt {w : World} {b n : Nat} {K : List Int} (h : MU w b n K) : b < w.heap.size := by
  obtain ⟨D, h1, _⟩ := h
  exact h1.lt
theorem MU.kept {w w' : World} {b n : Nat} {K : List Int} {row : Option Nat} (h : MU w b n K) (hg : w.grownBy w' row) (hne : some b ≠ row) : MU w' b n K := by
  obtain ⟨D, h1, h2⟩ := h
  exact ⟨D, h1.kept hg hne, h2⟩
theorem MU.below {w w' : World} {b n : Nat} {K : List Int} (h : MU w b n K) (hb : Below w.heap.size w w') : MU w' b n K := h.kept (row := none) ⟨hb.os, hb.tape, hb.output, hb.size, fun i hi _ => hb.block i hi⟩ (by simp)
theorem MU.made (w : World) : MU (w.alloc (.map #[] 0)) w.heap.size 0 [] := ⟨.map [], World.ownsMap_made _ _ _ _, fun _ _ => rfl, rfl, List.nodup_nil, fun x hx => by simp at hx⟩
/-- A row of cells is no map. -/
theorem MU.apart {w : World} {b n : Nat} {K : List Int} (h : MU w b n K) {base m size : Nat} {e : TypeId} {v : Value} {xs : List Value} (g : w.ownsRow base e size v m xs) : v.ownBlock ≠ some b := by
  obtain ⟨D, ⟨es, clock, hb, _⟩, _⟩ := h
  rcases g.2 with ⟨rfl, _⟩ | ⟨q, cap, cur, rfl, _, hq, _⟩
  · exact fun h => by cases h
  · intro e2
    have : q = b := Option.some.inj e2
    subst this
    rw [hb] at hq
    cases hq
def addU (x : Int) (K : List Int) : List Int := if x ∈ K then K else x :: K
theorem addU_mem (x : Int) (K : List Int) (t : Int) : t ∈ addU x K ↔ t = x ∨ t ∈ K := by
  unfold addU
  split
  · next h => exact ⟨.inr, fun g => g.elim (fun e => e ▸ h) id⟩
  · exact List.mem_cons
theorem wpList_putU {w : World} {ops : Array Oper} {rest : List Oper} {o : Oper} {a : Act} {Q : Exit → Act → World → Prop} (hg : o.guard = none) (m x v : Operand) (hop : o.op = Op.mapUpdate 193 m x v)
    (b n : Nat) (K : List Int) (k : Int) (hm : a.eval m = .map (some b)) (h : MU w b n K) (hn : n < maxLen) (hx : a.eval x = .int .u64 k) (hk : okU k) (hv : a.eval v = .agg #[])
    (hK : ∀ w', MU w' b (n + 1) (addU k K) → w.grownBy w' (some b) → wpList Tryz.prog ops Q rest (a.put o.dst undef) w') : wpList Tryz.prog ops Q (o :: rest) a w := by
  obtain ⟨D, h1, h2, h3, h4, h5⟩ := h
  refine wpList_mapUpdate_own w hg m x v _ hop 22 195 keyedU Tryz.underlying193 unitElem b n D hm h1 hn _ _ (.int .u64 k) hx hv (keyU hk) (.agg []) [] unitElem_mk fun w' r1 r2 => hK w' ⟨_, r1, fun y hy => ?_, ?_, ?_, fun y hy => ?_⟩ r2
  · by_cases e : y = k
    · subst e
      rw [has_put_same h1.isMap (keyLitU hy)]
      simp [addU_mem]
    · rw [has_put_other (litNe e), h2 y hy]
      simp [addU_mem, e]
  · rw [size_put (h1.tidy keyedU), h2 k hk, h3]
    unfold addU
    by_cases e : k ∈ K <;> simp [e]
  · unfold addU
    split
    · exact h4
    · next e => exact List.nodup_cons.2 ⟨e, h4⟩
  · rcases (addU_mem k K y).1 hy with e | e
    · rw [e]; exact hk
    · exact h5 y e
theorem wpList_lenU {w : World} {ops : Array Oper} {rest : List Oper} {o : Oper} {a : Act} {Q : Exit → Act → World → Prop} (hg : o.guard = none) (m : Operand) (hop : o.op = Op.call { callee := Callee.builtin Builtin.len, args := #[m], argTypes := #[193] })
    (b n : Nat) (K : List Int) (hm : a.eval m = .map (some b)) (h : MU w b n K) (hK : wpList Tryz.prog ops Q rest (a.put o.dst (.int .i64 K.length)) w) : wpList Tryz.prog ops Q (o :: rest) a w := by
  obtain ⟨D, h1, h2, h3, h4, h5⟩ := h
  rw [← h3] at hK
  exact wpList_len_own w hg m _ hop 22 195 Tryz.underlying193 unitElem b n D hm h1 hK
/-- Such a map ranged over: M is still to come. -/
def RngU (w : World) (bm r n : Nat) (K M : List Int) (cnt : Nat) : Prop :=
  ∃ (D : DataW Unit) (left : Lit → Bool), w.ranges Tryz.prog 22 unitElem bm r n D left cnt ∧ (∀ x, okU x → left (.int .u64 x) = decide (x ∈ M)) ∧ M.Nodup ∧ (∀ x ∈ M, okU x) ∧ ∀ x ∈ M, x ∈ K
theorem RngU.kept {w w' : World} {bm r n : Nat} {K M : List Int} {cnt : Nat} {row : Option Nat} (h : RngU w bm r n K M cnt) (hg : w.grownBy w' row) (h1 : some bm ≠ row) (h2 : some r ≠ row) : RngU w' bm r n K M cnt := by
  obtain ⟨D, left, k1, k2⟩ := h
  exact ⟨D, left, k1.kept hg h1 h2, k2⟩
theorem RngU.left {w : World} {bm r n : Nat} {K M : List Int} {cnt : Nat} (h : RngU w bm r n K M cnt) : w.rangeLeft bm r = cnt := by
  obtain ⟨D, left, h1, h2⟩ := h
  exact h1.left_eq
theorem wpList_rangeU {w : World} {ops : Array Oper} {rest : List Oper} {o : Oper} {a : Act} {Q : Exit → Act → World → Prop} (hg : o.guard = none) (m : Operand) (hop : o.op = Op.range 193 m) (bm n : Nat) (K : List Int) (hm : a.eval m = .map (some bm)) (h : MU w bm n K)
    (hK : ∀ w', RngU w' bm w.heap.size n K K K.length → Below w.heap.size w w' → w'.heap.size = w.heap.size + 1 → wpList Tryz.prog ops Q rest (a.put o.dst (.pointer (some ⟨w.heap.size, 0, none⟩))) w') : wpList Tryz.prog ops Q (o :: rest) a w := by
  obtain ⟨D, h1, h2, h3, h4, h5⟩ := h
  refine wpList_range_own w hg m _ hop 22 195 keyedU Tryz.underlying193 _ bm n D hm h1 fun w' r1 r2 r3 => hK w' ⟨D, _, h3 ▸ r1, h2, h4, h5, fun _ h => h⟩ ⟨r2.os, r2.tape, r2.output, r2.size, fun i hi => r2.block i hi (by simp)⟩ r3
theorem wpList_nextU {w : World} {ops : Array Oper} {rest : List Oper} {o : Oper} {a : Act} {Q : Exit → Act → World → Prop} (hg : o.guard = none) (it : Operand) (hop : o.op = Op.next it false) (bm r n : Nat) (K M : List Int) (cnt : Nat) (hit : a.eval it = .pointer (some ⟨r, 0, none⟩)) (h : RngU w bm r n K M cnt)
    (hDone : M = [] → wpList Tryz.prog ops Q rest (a.put o.dst (.tuple #[.bool false])) w)
    (hMore : ∀ (x : Int) (w' : World) (cnt' : Nat), x ∈ M → RngU w' bm r n K (M.filter fun y => !decide (y = x)) cnt' → cnt' < cnt → w.grownBy w' (some r) → w'.heap.size = w.heap.size → (Instr.entry (.pointer (some ⟨r, 0, none⟩))).run Tryz.prog w' = .ok (.tuple #[.int .u64 x, .agg #[]]) w' → wpList Tryz.prog ops Q rest (a.put o.dst (.tuple #[.bool true, .int .u64 x, .agg #[]])) w') : wpList Tryz.prog ops Q (o :: rest) a w := by
  obtain ⟨D, left, h1, h2, h3, h4, h5⟩ := h
  refine wpList_next_ranges w hg it hop 22 keyedU _ (Value.int .u64) (fun _ : Unit => Value.agg #[]) (fun key kl hkey => ?_) (fun v y hv => ⟨(), (unitElem_inv hv).1⟩) bm r n D left cnt hit h1 (fun _ hl => hDone ?_) ?_
  · obtain ⟨x, rfl, _⟩ := Maps.keyOf_int_inv Tryz.underlying22 hkey
    exact ⟨x, rfl⟩
  · cases M with
    | nil => rfl
    | cons x M =>
      have := h2 x (h4 x (by simp))
      rw [hl] at this
      simp at this
  · intro x c kl y w' cnt' hkey hlk hv hat hrg hlt hgr hsz hen
    obtain ⟨x', e, rfl, hwf⟩ := Maps.keyOf_int_inv Tryz.underlying22 hkey
    obtain rfl : x = x' := by injection e
    have hx : okU x := by
      simp [Lit.wf, IntKind.min, IntKind.max, IntKind.signed, IntKind.bits] at hwf
      unfold okU; omega
    have hm : x ∈ M := by
      have := h2 x hx
      rw [hlk] at this
      simpa using this.symm
    refine hMore x w' cnt' hm ⟨D, _, hrg, fun z hz => ?_, h3.filter _, fun z hz => h4 z (List.mem_filter.1 hz).1, fun z hz => h5 z (List.mem_filter.1 hz).1⟩ hlt hgr hsz hen
    have hs : (Lit.int .u64 z).sameKey (.int .u64 x) = decide (z = x) := by
      by_cases ez : z = x
      · subst ez
        rw [WideAt.sameKey_self (keyLitU hz)]
        simp
      · cases hk : (Lit.int .u64 z).sameKey (.int .u64 x) with
        | false => simp [ez]
        | true => exact absurd (WideAt.sameKey_eq hk) (litNe ez)
    show (left (.int .u64 z) && !(Lit.int .u64 z).sameKey (.int .u64 x)) = _
    rw [h2 z hz, hs]
    by_cases ez : z = x <;> by_cases em : z ∈ M <;> simp [ez, em]
end Go.Proofs.YtmolpogehgeebaaGreat


