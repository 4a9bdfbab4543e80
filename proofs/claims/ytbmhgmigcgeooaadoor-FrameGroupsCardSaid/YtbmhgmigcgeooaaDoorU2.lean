/- Two rows of groups side by side. -/
import Derived.Test.YtbmhgmigcgeooaaDoorU1
namespace Go.Proofs.YtbmhgmigcgeooaaDoor
open Go.RowKit
theorem cellsGr_get (L : List Gx) : ∀ (i : Nat) (h : i < L.length), (cellsGr L)[i * 2]? = some L[i].v ∧ (cellsGr L)[i * 2 + 1]? = some (bodyX L[i].com) := by
  induction L with
  | nil => intro i h; exact absurd h (by simp)
  | cons x L ih =>
    intro i h
    cases i with
    | zero => exact ⟨by simp [cellsGr], by simp [cellsGr]⟩
    | succ i =>
      have := ih i (by simpa using h)
      have e : cellsGr (x :: L) = x.v :: bodyX x.com :: cellsGr L := by simp [cellsGr]
      rw [e, show (i + 1) * 2 = i * 2 + 1 + 1 by omega]
      exact this
theorem cellsHr_get (L : List Hx) : ∀ (i : Nat) (h : i < L.length), (cellsHr L)[i * 2]? = some L[i].v ∧ (cellsHr L)[i * 2 + 1]? = some (bodyH L[i].com) := by
  induction L with
  | nil => intro i h; exact absurd h (by simp)
  | cons x L ih =>
    intro i h
    cases i with
    | zero => exact ⟨by simp [cellsHr], by simp [cellsHr]⟩
    | succ i =>
      have := ih i (by simpa using h)
      have e : cellsHr (x :: L) = x.v :: bodyH x.com :: cellsHr L := by simp [cellsHr]
      rw [e, show (i + 1) * 2 = i * 2 + 1 + 1 by omega]
      exact this
theorem cell_lt {V : World} {ad : Addr} {u : Value} (h : V.cell? ad = some u) : ad.block < V.heap.size := by
  obtain ⟨o, ho, _⟩ := cells_of_cell h
  exact (Array.getElem?_eq_some_iff.1 ho).1
theorem RunH.short {pre : List Fi} {gs : List Hx} {ops : List Fi} (h : RunH pre gs ops) : ∀ g ∈ gs, g.ops.length ≤ pre.length := by
  induction h with
  | nil => intro g hg; cases hg
  | op _ _ ih => intro g hg; have := ih g hg; rw [List.length_append]; omega
  | com v h0 hk ih =>
    intro g hg
    have hl := h0.le
    rw [List.mem_append, List.mem_singleton] at hg
    rw [List.length_append]
    rcases hg with hg | rfl
    · have := ih g hg; omega
    · dsimp only; omega
/-- What is told of two groups. -/
structure Pair (V : World) (v vw : Value) (n i : Nat) (g1 c1 g2 c2 : Nat) (P1 : Option Addr) (d1 : Nat) (P2 : Option Addr) (d2 m : Nat) (A1 A2 : Option Addr) (t tc : Nat) (l : List UInt8) : Prop where
  e1 : v = .slice (some ⟨g1, 0, none⟩) n c1
  e2 : vw = .slice (some ⟨g2, 0, none⟩) n c2
  o1 : V.cell? ⟨g1, i * 2, none⟩ = some (.slice P1 m d1)
  b1 : V.cell? ⟨g1, i * 2 + 1, none⟩ = some (.slice A1 t t)
  o2 : V.cell? ⟨g2, i * 2, none⟩ = some (.slice P2 m d2)
  b2 : V.cell? ⟨g2, i * 2 + 1, none⟩ = some (.slice A2 t tc)
  a1 : At V A1 l
  a2 : At V A2 l
  len : l.length = t
  ml : m ≤ 30
  each : ∀ k, k < m → ∃ h1 h2 B1 B2 u f2, ∃ q : List UInt8, P1 = some ⟨h1, 0, none⟩ ∧ P2 = some ⟨h2, 0, none⟩ ∧ V.cell? ⟨h1, k, none⟩ = some (.slice B1 u u) ∧ V.cell? ⟨h2, k, none⟩ = some (.slice B2 u f2) ∧ At V B1 q ∧ At V B2 q ∧ q.length = u
theorem Pair.later {V V' : World} {v vw : Value} {n i g1 c1 g2 c2 : Nat} {P1 : Option Addr} {d1 : Nat} {P2 : Option Addr} {d2 m : Nat} {A1 A2 : Option Addr} {t tc : Nat} {l : List UInt8} (h : Pair V v vw n i g1 c1 g2 c2 P1 d1 P2 d2 m A1 A2 t tc l) (hb : Below V.heap.size V V') : Pair V' v vw n i g1 c1 g2 c2 P1 d1 P2 d2 m A1 A2 t tc l :=
  ⟨h.e1, h.e2, (hb.cell (cell_lt h.o1)).trans h.o1, (hb.cell (cell_lt h.b1)).trans h.b1, (hb.cell (cell_lt h.o2)).trans h.o2, (hb.cell (cell_lt h.b2)).trans h.b2, h.a1.below hb, h.a2.below hb, h.len, h.ml, fun k hk => by
    obtain ⟨h1, h2, B1, B2, u, f2, q, e1, e2, x1, x2, y1, y2, z⟩ := h.each k hk
    exact ⟨h1, h2, B1, B2, u, f2, q, e1, e2, (hb.cell (cell_lt x1)).trans x1, (hb.cell (cell_lt x2)).trans x2, y1.below hb, y2.below hb, z⟩⟩
theorem groups_pair {w0 W : World} {base : Nat} {gs : List Hx} {ops : List Fi} {vw vo : Value} {pre L : List Fi} (hrun : RunH pre gs ops) (hp : pre.length ≤ 30) (hsub : ∀ y ∈ pre, y ∈ L) (hm : HM base gs ops vw vo W) (hat : ∀ y ∈ L, At w0 y.A y.f.l) {V : World} (h0 : Below w0.heap.size w0 V) (h1 : Below W.heap.size W V)
    {ws w2 : World} {b : List UInt8} {v : Value} {gs' : List Gx} (hg : GroupsR ws b v gs' w2) (he : gs'.map Gx.gr = gs.map Hx.gr) (h2 : Below w2.heap.size w2 V) {i : Nat} (hi : i < gs.length) :
    ∃ g1 c1 g2 c2 P1 d1 P2 d2 m A1 A2 t tc l, Pair V v vw gs.length i g1 c1 g2 c2 P1 d1 P2 d2 m A1 A2 t tc l := by
  have hlen : gs'.length = gs.length := by simpa using congrArg List.length he
  have hi' : i < gs'.length := by omega
  have hgr : gs'[i].gr = gs[i].gr := by
    have := congrArg (fun l => l[i]?) he
    simp only [List.getElem?_map, List.getElem?_eq_getElem hi', List.getElem?_eq_getElem hi, Option.map_some] at this
    exact Option.some.inj this
  unfold Gx.gr Hx.gr at hgr
  injection hgr with ho hc
  obtain ⟨g1, c1, e1, q1⟩ := row_form hg.row (by omega)
  obtain ⟨g2, c2, e2, q2⟩ := row_form hm.rw_ (by omega)
  obtain ⟨a1, a2⟩ := cellsGr_get gs' i hi'
  obtain ⟨b1, b2⟩ := cellsHr_get gs i hi
  have m1 := q1 _ _ a1
  have m2 := q1 _ _ a2
  have m3 := q2 _ _ b1
  have m4 := q2 _ _ b2
  have r1 := hg.olds gs'[i] (List.getElem_mem hi')
  have r2 := hm.olds gs[i] (List.getElem_mem hi)
  have hopl : gs'[i].ops.length = gs[i].ops.length := by simpa using congrArg List.length ho
  obtain ⟨P1, d1, f1⟩ := own_slice r1
  obtain ⟨P2, d2, f2⟩ := own_slice r2
  have hcm := (hrun.mem.2 gs[i] (List.getElem_mem hi))
  have hbody : ∀ x, x ∈ gs'[i].ops ++ [gs'[i].com] → Body ws.heap.size x w2 := fun x hx => hg.body x (List.mem_flatMap.2 ⟨gs'[i], List.getElem_mem hi', hx⟩)
  rw [f1] at m1
  rw [f2] at m3
  refine ⟨g1, c1, g2, c2, P1, d1, P2, d2, gs[i].ops.length, bodyA gs'[i].com.g gs'[i].com.f.l.length, gs[i].com.A, gs[i].com.f.l.length, gs[i].com.c, gs[i].com.f.l, ?_, e2, ?_, ?_, ?_, ?_, ?_, (hat _ (hsub _ hcm.1)).below h0, rfl, Nat.le_trans (hrun.short _ (List.getElem_mem hi)) hp, ?_⟩
  · rw [e1, hlen]
  · rw [← hopl]; exact (h2.cell (p := ⟨g1, i * 2, none⟩) (cell_lt m1)).trans m1
  · have := (h2.cell (p := ⟨g1, i * 2 + 1, none⟩) (cell_lt m2)).trans m2
    rw [this, bodyX, hc]
  · exact (h1.cell (p := ⟨g2, i * 2, none⟩) (cell_lt m3)).trans m3
  · exact (h1.cell (p := ⟨g2, i * 2 + 1, none⟩) (cell_lt m4)).trans m4
  · have := (hbody gs'[i].com (by simp)).at_.below h2
    rw [← hc]
    exact this
  · intro k hk
    have hk' : k < gs'[i].ops.length := by omega
    have hof : gs'[i].ops[k].f.l = gs[i].ops[k].f.l := by
      have := congrArg (fun l => l[k]?) ho
      simp only [List.getElem?_map, List.getElem?_eq_getElem hk', List.getElem?_eq_getElem hk, Option.map_some] at this
      exact Option.some.inj this
    obtain ⟨x1, y1, z1, s1⟩ := row_form r1 (by omega)
    obtain ⟨x2, y2, z2, s2⟩ := row_form r2 (by omega)
    have n1 := s1 k (bodyX gs'[i].ops[k]) (by rw [cellsO, List.getElem?_map, List.getElem?_eq_getElem hk']; rfl)
    have n2 := s2 k (bodyH gs[i].ops[k]) (by rw [cellsHo, List.getElem?_map, List.getElem?_eq_getElem hk]; rfl)
    rw [f1] at z1
    rw [f2] at z2
    injection z1 with z1
    injection z2 with z2
    refine ⟨x1, x2, bodyA gs'[i].ops[k].g gs'[i].ops[k].f.l.length, gs[i].ops[k].A, gs[i].ops[k].f.l.length, gs[i].ops[k].c, gs[i].ops[k].f.l, z1, z2, ?_, (h1.cell (p := ⟨x2, k, none⟩) (cell_lt n2)).trans n2, ?_, (hat _ (hsub _ (hcm.2 _ (List.getElem_mem hk)))).below h0, rfl⟩
    · have := (h2.cell (p := ⟨x1, k, none⟩) (cell_lt n1)).trans n1
      rw [this, bodyX, hof]
    · have := (hbody gs'[i].ops[k] (List.mem_append_left _ (List.getElem_mem hk'))).at_.below h2
      rw [← hof]
      exact this
end Go.Proofs.YtbmhgmigcgeooaaDoor
