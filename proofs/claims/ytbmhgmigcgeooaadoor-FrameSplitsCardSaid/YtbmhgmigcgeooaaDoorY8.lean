/- What stands of the groups while bytes are turned over. -/
import Derived.Test.YtbmhgmigcgeooaaDoorY7
namespace Go.Proofs.YtbmhgmigcgeooaaDoor
open Go.RowKit
theorem bv_turn (x : UInt8) (n : Nat) (hn : n < 256) : bv (x ^^^ UInt8.ofNat n) = .int .u8 (bits .xor .u8 (x.toNat : Int) (n : Int)) := by
  rw [bv, UInt8.toNat_xor, u8_xor_nat _ _ x.toNat_lt hn, byte_ofNat, Nat.mod_eq_of_lt hn]
theorem cellsG_get (L : List Gx) : ∀ (i : Nat) (h : i < L.length), (cellsGr L)[i * 2]? = some L[i].v ∧ (cellsGr L)[i * 2 + 1]? = some (bodyX L[i].com) := by
  induction L with
  | nil => intro i h; exact absurd h (by simp)
  | cons x L ih =>
    intro i h
    cases i with
    | zero => exact ⟨by simp [cellsGr], by simp [cellsGr]⟩
    | succ i =>
      have := ih i (by simpa using h)
      have e : cellsGr (x :: L) = x.v :: bodyX x.com :: cellsGr L := by simp [cellsGr]
      rw [e, show (i + 1) * 2 = i * 2 + 1 + 1 by omega]
      exact this
theorem cellsH_get (L : List Hx) : ∀ (i : Nat) (h : i < L.length), (cellsHr L)[i * 2]? = some L[i].v ∧ (cellsHr L)[i * 2 + 1]? = some (bodyH L[i].com) := by
  induction L with
  | nil => intro i h; exact absurd h (by simp)
  | cons x L ih =>
    intro i h
    cases i with
    | zero => exact ⟨by simp [cellsHr], by simp [cellsHr]⟩
    | succ i =>
      have := ih i (by simpa using h)
      have e : cellsHr (x :: L) = x.v :: bodyH x.com :: cellsHr L := by simp [cellsHr]
      rw [e, show (i + 1) * 2 = i * 2 + 1 + 1 by omega]
      exact this
theorem row_keptC {W V : World} {base size n : Nat} {e : TypeId} {v : Value} {xs : List Value} (h : W.ownsRow base e size v n xs) (hk : ∀ j, base ≤ j → j < W.heap.size → V.heap[j]? = W.heap[j]?) : V.ownsRow base e size v n xs := by
  refine ⟨h.1, ?_⟩
  rcases h.2 with hn | ⟨g, cap, cur, hv, hge, hh, rest⟩
  · exact .inl hn
  · exact .inr ⟨g, cap, cur, hv, hge, (hk g hge (Array.getElem?_eq_some_iff.1 hh).1).trans hh, rest⟩
theorem GD.keptC {base : Nat} {gs : List Hx} {ops : List Fi} {vl vo : Value} {W V : World} (h : GD base gs ops vl vo W) (hk : ∀ j, base ≤ j → j < W.heap.size → V.heap[j]? = W.heap[j]?) : GD base gs ops vl vo V :=
  ⟨row_keptC h.row hk, row_keptC h.ro hk, fun g hg => row_keptC (h.olds g hg) hk, h.apart, fun y hy => row_keptC (h.body y hy) hk⟩
/-- A block of bytes that may be turned over. -/
structure Bytes (g t : Nat) (W : World) : Prop where
  typ : ∃ c fr, W.heap[g]? = some (.cells c 5 fr)
  cell : ∀ q, q < t → ∃ y : UInt8, W.cell? ⟨g, 3 + q, none⟩ = some (bv y)
  free : ∀ o, W.frozen? ⟨g, o, none⟩ = false
theorem Bytes.lt {g t : Nat} {W : World} (h : Bytes g t W) : g < W.heap.size := by
  obtain ⟨c, fr, e⟩ := h.typ
  exact (Array.getElem?_eq_some_iff.1 e).1
theorem Bytes.below {g t : Nat} {W W' : World} (h : Bytes g t W) (hb : Below W.heap.size W W') : Bytes g t W' := by
  have hl := h.lt
  refine ⟨?_, fun q hq => ?_, fun o => (hb.frozen (p := ⟨g, o, none⟩) hl).trans (h.free o)⟩
  · obtain ⟨c, fr, e⟩ := h.typ
    exact ⟨c, fr, (hb.block g hl).trans e⟩
  · obtain ⟨y, e⟩ := h.cell q hq
    exact ⟨y, (hb.cell (p := ⟨g, 3 + q, none⟩) hl).trans e⟩
theorem Body.bytes {n0 : Nat} {x : Fx} {W : World} (h : Body n0 x W) : Bytes x.g x.f.l.length W := ⟨h.typ, fun q hq => ⟨_, h.cell q hq⟩, h.free⟩
theorem Bytes.turn {g t k o : Nat} {W : World} {x y : UInt8} (h : Bytes g t W) (hx : W.cell? ⟨k, o, none⟩ = some (bv x)) : Bytes g t (W.setCell ⟨k, o, none⟩ (bv y)) := by
  refine ⟨?_, fun q hq => ?_, fun i => by rw [World.frozen?_setCell]; exact h.free i⟩
  · obtain ⟨c, fr, e⟩ := h.typ
    by_cases hk : g = k
    · subst hk
      simp [World.setCell, Array.getElem?_modify, e]
    · exact ⟨c, fr, (Below.heap_setCell _ _ _ _ hk).trans e⟩
  · by_cases hk : g = k ∧ 3 + q = o
    · obtain ⟨rfl, rfl⟩ := hk
      exact ⟨y, World.cell?_setCell_same _ _ _ hx⟩
    · obtain ⟨z, hz⟩ := h.cell q hq
      refine ⟨z, (World.cell?_setCell_other _ _ _ _ (fun e => hk ?_)).trans hz⟩
      injection e with e1 e2
      exact ⟨e1.symm, e2.symm⟩
/-- What stands of the groups from the i-th on. -/
structure Flip (n3 base : Nat) (v : Value) (L : List Gx) (gs : List Hx) (u vo : Value) (i : Nat) (W0 W : World) : Prop where
  row : W.ownsRow n3 51 2 v L.length (cellsGr L)
  olds : ∀ g ∈ L, W.ownsRow n3 22 1 g.v g.ops.length (cellsO g.ops)
  body : ∀ k (h : k < L.length), i ≤ k → ∀ x ∈ L[k].ops ++ [L[k].com], Body n3 x W
  gd : GD base gs [] u vo W
  below : Below n3 W0 W
section
variable {n3 base i : Nat} {v u vo : Value} {L : List Gx} {gs : List Hx} {W0 W W' : World}
theorem Flip.later (h : Flip n3 base v L gs u vo i W0 W) (hb : Below W.heap.size W W') (hn : n3 ≤ W.heap.size) : Flip n3 base v L gs u vo i W0 W' :=
  ⟨World.ownsRow.kept h.row (grown_of hb) (by cases hv : v.ownBlock <;> simp), fun g hg => World.ownsRow.kept (h.olds g hg) (grown_of hb) (by cases hv : g.v.ownBlock <;> simp), fun k hk hi x hx => (h.body k hk hi x hx).below hb, h.gd.later hb, h.below.trans (hb.mono hn)⟩
theorem Flip.next (h : Flip n3 base v L gs u vo i W0 W) : Flip n3 base v L gs u vo (i + 1) W0 W := ⟨h.row, h.olds, fun k hk hi => h.body k hk (by omega), h.gd, h.below⟩
theorem apart_com (hL : (L.flatMap fun g => g.ops ++ [g.com]).Pairwise fun x y => x.g < y.g) (hi : i < L.length) : ∀ k (h : k < L.length), i + 1 ≤ k → ∀ x ∈ L[k].ops ++ [L[k].com], (L[i]'hi).com.g < x.g := by
  induction L generalizing i with
  | nil => exact absurd hi (by simp)
  | cons g L ih =>
    intro k hk hik x hx
    rw [List.flatMap_cons, List.pairwise_append] at hL
    obtain ⟨h1, h2, h3⟩ := hL
    cases k with
    | zero => omega
    | succ k =>
      cases i with
      | zero =>
        exact h3 g.com (by simp) x (List.mem_flatMap.2 ⟨L[k]'(by simpa using hk), List.getElem_mem _, by simpa using hx⟩)
      | succ i => exact ih h2 (by simpa using hi) k (by simpa using hk) (by omega) x (by simpa using hx)
theorem Flip.turn {o t : Nat} {z : Value} (h : Flip n3 base v L gs u vo (i + 1) W0 W) (hL : (L.flatMap fun g => g.ops ++ [g.com]).Pairwise fun x y => x.g < y.g) (hi : i < L.length) (hb : Bytes (L[i]'hi).com.g t W) (h1 : n3 ≤ (L[i]'hi).com.g) (h2 : (L[i]'hi).com.g < base) : Flip n3 base v L gs u vo (i + 1) W0 (W.setCell ⟨(L[i]'hi).com.g, o, none⟩ z) := by
  obtain ⟨c0, fr0, ht⟩ := hb.typ
  have hne : ∀ {j : Nat} {c : Array Value} {e : TypeId} {fr : Nat × Nat}, W.heap[j]? = some (.cells c e fr) → e ≠ 5 → j ≠ (L[i]'hi).com.g := fun hh he e => by
    rw [e, ht] at hh
    simp at hh
    exact he hh.2.1.symm
  refine ⟨row_kept h.row fun j c fr _ hh => Below.heap_setCell _ _ _ _ (hne hh (by decide)), fun g hg => row_kept (h.olds g hg) fun j c fr _ hh => Below.heap_setCell _ _ _ _ (hne hh (by decide)), fun k hk hik x hx => ?_, h.gd.keptC fun j hj _ => Below.heap_setCell _ _ _ _ (show j ≠ (L[i]'hi).com.g by omega), h.below.setCell (p := ⟨(L[i]'hi).com.g, o, none⟩) h1 _⟩
  have hb2 := h.body k hk hik x hx
  have hlt := apart_com hL hi k hk hik x hx
  have hx2 : x.g ≠ (L[i]'hi).com.g := by omega
  refine ⟨hb2.ge, by simpa [World.setCell] using hb2.lt, fun q hq => ?_, fun q => by rw [World.frozen?_setCell]; exact hb2.free q, ?_⟩
  · rw [World.cell?_setCell_other _ _ _ _ (fun e => hx2 (by injection e with e; exact e.symm))]
    exact hb2.cell q hq
  · obtain ⟨c, fr, e⟩ := hb2.typ
    exact ⟨c, fr, (Below.heap_setCell _ _ _ _ hx2).trans e⟩
/-- What is told of two groups. -/
structure PairD (V : World) (v u : Value) (n i m g1 c1 g2 c2 : Nat) (P1 : Option Addr) (d1 : Nat) (P2 : Option Addr) (d2 : Nat) (x : Fx) (A2 : Option Addr) (tc : Nat) : Prop where
  e1 : v = .slice (some ⟨g1, 0, none⟩) n c1
  e2 : u = .slice (some ⟨g2, 0, none⟩) n c2
  o1 : V.cell? ⟨g1, i * 2, none⟩ = some (.slice P1 m d1)
  b1 : V.cell? ⟨g1, i * 2 + 1, none⟩ = some (.slice (bodyA x.g x.f.l.length) x.f.l.length x.f.l.length)
  o2 : V.cell? ⟨g2, i * 2, none⟩ = some (.slice P2 m d2)
  b2 : V.cell? ⟨g2, i * 2 + 1, none⟩ = some (.slice A2 x.f.l.length tc)
  a1 : At V (bodyA x.g x.f.l.length) x.f.l
  a2 : At V A2 x.f.l
  each : RowsAt V P1 P2 m
theorem Flip.pair (h : Flip n3 base v L gs u vo i W0 W) (he : L.map Gx.gr = gs.map Hx.gr) (hi : i < L.length) : ∃ g1 c1 g2 c2 P1 d1 P2 d2 A2 tc, PairD W v u L.length i (L[i]'hi).ops.length g1 c1 g2 c2 P1 d1 P2 d2 (L[i]'hi).com A2 tc := by
  have hlen : gs.length = L.length := by simpa using (congrArg List.length he).symm
  have hi' : i < gs.length := by omega
  have hgr : L[i].gr = gs[i].gr := by
    have := congrArg (fun l => l[i]?) he
    simp only [List.getElem?_map, List.getElem?_eq_getElem hi', List.getElem?_eq_getElem hi, Option.map_some] at this
    exact Option.some.inj this
  unfold Gx.gr Hx.gr at hgr
  injection hgr with ho hc
  obtain ⟨g1, c1, e1, q1⟩ := row_form h.row (by omega)
  obtain ⟨g2, c2, e2, q2⟩ := row_form h.gd.row (by omega)
  obtain ⟨a1, a2⟩ := cellsG_get L i hi
  obtain ⟨b1, b2⟩ := cellsH_get gs i hi'
  have r1 := h.olds L[i] (List.getElem_mem hi)
  have r2 := h.gd.olds gs[i] (List.getElem_mem hi')
  have hopl : L[i].ops.length = gs[i].ops.length := by simpa using congrArg List.length ho
  obtain ⟨P1, d1, f1⟩ := own_slice r1
  obtain ⟨P2, d2, f2⟩ := own_slice r2
  have hbody := h.body i hi (Nat.le_refl _)
  have hdoc : ∀ y ∈ gs[i].ops ++ [gs[i].com], At W y.A y.f.l := fun y hy => own_at' (h.gd.body y (List.mem_append_left _ (List.mem_flatMap.2 ⟨gs[i], List.getElem_mem hi', hy⟩)))
  have m1 := q1 _ _ a1
  have m2 := q1 _ _ a2
  have m3 := q2 _ _ b1
  have m4 := q2 _ _ b2
  rw [f1] at m1
  rw [f2, ← hopl] at m3
  unfold bodyH at m4
  rw [← hc] at m4
  refine ⟨g1, c1, g2, c2, P1, d1, P2, d2, gs[i].com.A, gs[i].com.c, e1, by rw [e2, hlen], m1, m2, m3, m4, (hbody L[i].com (by simp)).at_, by rw [hc]; exact hdoc gs[i].com (by simp), fun k hk => ?_⟩
  have hk2 : k < gs[i].ops.length := by omega
  have hof : L[i].ops[k].f.l = gs[i].ops[k].f.l := by
    have := congrArg (fun l => l[k]?) ho
    simp only [List.getElem?_map, List.getElem?_eq_getElem hk, List.getElem?_eq_getElem hk2, Option.map_some] at this
    exact Option.some.inj this
  obtain ⟨x1, y1, z1, s1⟩ := row_form r1 (by omega)
  obtain ⟨x2, y2, z2, s2⟩ := row_form r2 (by omega)
  have n1 := s1 k (bodyX L[i].ops[k]) (by rw [cellsO, List.getElem?_map, List.getElem?_eq_getElem hk]; rfl)
  have n2 := s2 k (bodyH gs[i].ops[k]) (by rw [cellsHo, List.getElem?_map, List.getElem?_eq_getElem hk2]; rfl)
  rw [f1] at z1
  rw [f2] at z2
  injection z1 with z1
  injection z2 with z2
  refine ⟨x1, x2, bodyA L[i].ops[k].g L[i].ops[k].f.l.length, gs[i].ops[k].A, gs[i].ops[k].f.l.length, gs[i].ops[k].f.l.length, gs[i].ops[k].c, gs[i].ops[k].f.l, z1, z2, ?_, n2, ?_, hdoc _ (List.mem_append_left _ (List.getElem_mem hk2)), rfl⟩
  · rw [n1, bodyX, hof]
  · have := (hbody L[i].ops[k] (List.mem_append_left _ (List.getElem_mem hk))).at_
    rw [hof] at this ⊢
    exact this
end
end Go.Proofs.YtbmhgmigcgeooaaDoor
