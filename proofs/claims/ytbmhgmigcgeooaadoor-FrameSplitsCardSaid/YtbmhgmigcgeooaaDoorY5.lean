/- The document's Groups: in plain terms, and in memory. -/
import Derived.Test.YtbmhgmigcgeooaaDoorY4
import Derived.Test.YtbmhgmigcgeooaaDoorU1
namespace Go.Proofs.YtbmhgmigcgeooaaDoor
open Go.RowKit
theorem row_kept {W W' : World} {base size n : Nat} {e : TypeId} {v : Value} {xs : List Value} (h : W.ownsRow base e size v n xs) (hk : ∀ j c fr, v.ownBlock = some j → W.heap[j]? = some (.cells c e fr) → W'.heap[j]? = W.heap[j]?) : W'.ownsRow base e size v n xs := by
  refine ⟨h.1, ?_⟩
  rcases h.2 with hn | ⟨g, cap, cur, hv, hge, hh, rest⟩
  · exact .inl hn
  · exact .inr ⟨g, cap, cur, hv, hge, (hk g _ _ (by rw [hv]; rfl) hh).trans hh, rest⟩
/-- How far the groups have been read. -/
structure RdG (b : List UInt8) (gs : List Hx) (ops : List Fi) (k e : Nat) : Prop where
  at_ : k = sizeG (gs.map Hx.gr)
  en : e = k + sizeL (frsI ops)
  le : e ≤ b.length
  fr : groupsL (framesL b) [] = gs.map Hx.gr ++ groupsL (framesL (b.drop e)) (ops.map fun y => y.f.l)
  cnt : ops.length ≤ 256
theorem RdG.start (b : List UInt8) : RdG b [] [] 0 0 := ⟨rfl, rfl, Nat.zero_le _, rfl, by decide⟩
section
variable {b : List UInt8} {gs : List Hx} {ops : List Fi} {k e : Nat}
theorem RdG.op (h : RdG b gs ops k e) (hn : nextB (b.drop e) = true) {y : Fi} (hy : frB (b.drop e) = y.f) (h1 : y.f.k = 1) (hl : ops.length < 256) : RdG b gs (ops ++ [y]) k (e + (7 + y.f.l.length)) := by
  have hlen := nextB_len hn
  have hb := frB_len hn
  rw [List.length_drop] at hlen
  rw [hy] at hb
  have hle := h.le
  refine ⟨h.at_, ?_, by omega, ?_, by rw [List.length_append, List.length_singleton]; omega⟩
  · rw [frsI_snoc, sizeL_snoc, h.en, Fr.size]; omega
  · rw [h.fr, framesL_yes hn, hy, groupsL, if_pos ⟨h1, by rw [List.length_map]; exact hl⟩, List.drop_drop, ← hb]
    simp
theorem RdG.com (h : RdG b gs ops k e) (hn : nextB (b.drop e) = true) {y : Fi} (hy : frB (b.drop e) = y.f) (h2 : y.f.k = 2) (v : Value) : RdG b (gs ++ [⟨ops, v, y⟩]) [] (e + (7 + y.f.l.length)) (e + (7 + y.f.l.length)) := by
  have hlen := nextB_len hn
  have hb := frB_len hn
  rw [List.length_drop] at hlen
  rw [hy] at hb
  have hle := h.le
  have hen := h.en
  refine ⟨?_, by simp [frsI, sizeL], by omega, ?_, by decide⟩
  · rw [List.map_append, List.map_cons, List.map_nil, sizeG_snoc, hx_size, ← h.at_, Fr.size]; omega
  · rw [h.fr, framesL_yes hn, hy, groupsL, if_neg (fun h => by omega), if_pos h2, List.drop_drop, ← hb]
    simp [Hx.gr]
theorem RdG.stop (h : RdG b gs ops k e) (hs : nextB (b.drop e) = false ∨ (nextB (b.drop e) = true ∧ ¬ ((frB (b.drop e)).k = 1 ∧ ops.length < 256) ∧ (frB (b.drop e)).k ≠ 2)) : gs.map Hx.gr = groupsL (framesL b) [] ∧ k = sizeG (groupsL (framesL b) []) := by
  have e1 : groupsL (framesL b) [] = gs.map Hx.gr := by
    rw [h.fr]
    rcases hs with hn | ⟨hn, h1, h2⟩
    · rw [framesL_no hn]; simp [groupsL]
    · rw [framesL_yes hn, groupsL, if_neg (fun h => h1 ⟨h.1, by simpa using h.2⟩), if_neg h2, List.append_nil]
  exact ⟨e1.symm, by rw [e1]; exact h.at_⟩
end
/-- The document's groups under way, in memory. -/
structure GD (base : Nat) (gs : List Hx) (ops : List Fi) (vl vo : Value) (W : World) : Prop where
  row : W.ownsRow base 52 2 vl gs.length (cellsHr gs)
  ro : W.ownsRow base 22 1 vo ops.length (cellsHo ops)
  olds : ∀ g ∈ gs, W.ownsRow base 22 1 g.v g.ops.length (cellsHo g.ops)
  apart : ∀ g ∈ gs, g.v.ownBlock = none ∨ g.v.ownBlock ≠ vo.ownBlock
  body : ∀ y ∈ (gs.flatMap fun g => g.ops ++ [g.com]) ++ ops, Own1 base W (.slice y.A y.f.l.length y.c) y.f.l
theorem GD.start (base : Nat) (W : World) : GD base [] [] (.slice none 0 0) (.slice none 0 0) W :=
  ⟨World.ownsRow_nil _ _ _ _, World.ownsRow_nil _ _ _ _, (fun g hg => by cases hg), (fun g hg => by cases hg), (fun y hy => by simp at hy)⟩
section
variable {base : Nat} {gs : List Hx} {ops : List Fi} {vl vo : Value} {W W' : World}
/-- What leaves rows of bytes, rows of rows, and the groups' row as they are. -/
theorem GD.kept (h : GD base gs ops vl vo W) (hk : ∀ j c t fr, W.heap[j]? = some (.cells c t fr) → (t = 22 ∨ t = 5 ∨ vl.ownBlock = some j) → W'.heap[j]? = W.heap[j]?) : GD base gs ops vl vo W' :=
  ⟨row_kept h.row fun j c fr hj hh => hk j c _ fr hh (.inr (.inr hj)), row_kept h.ro fun j c fr _ hh => hk j c _ fr hh (.inl rfl), fun g hg => row_kept (h.olds g hg) fun j c fr _ hh => hk j c _ fr hh (.inl rfl), h.apart, fun y hy => row_kept (h.body y hy) fun j c fr _ hh => hk j c _ fr hh (.inr (.inl rfl))⟩
theorem GD.later (h : GD base gs ops vl vo W) (hb : Below W.heap.size W W') : GD base gs ops vl vo W' :=
  h.kept fun j _ _ _ hh _ => hb.block j (Array.getElem?_eq_some_iff.1 hh).1
theorem GD.box {G i : Nat} {x y z : Value} {t : TypeId} (h : GD base gs ops vl vo W) (hc : C2 W G t x y) (h1 : t ≠ 22) (h2 : t ≠ 5) (h3 : vl.ownBlock ≠ some G) : GD base gs ops vl vo (W.setCell ⟨G, i, none⟩ z) :=
  h.kept fun j c t' fr hh hj => by
    refine Below.heap_setCell _ _ _ _ fun e => ?_
    have e : j = G := e
    subst e
    rw [show W.heap[j]? = _ from hc] at hh
    simp at hh
    obtain ⟨_, rfl, _⟩ := hh
    rcases hj with hj | hj | hj
    · exact h1 hj
    · exact h2 hj
    · exact h3 hj
theorem own_box {G i : Nat} {x y z v : Value} {l : List UInt8} {t : TypeId} (h : Own1 base W v l) (hc : C2 W G t x y) (h2 : t ≠ 5) : Own1 base (W.setCell ⟨G, i, none⟩ z) v l :=
  row_kept h fun j c fr hj hh => by
    refine Below.heap_setCell _ _ _ _ fun e => ?_
    have e : j = G := e
    subst e
    rw [show W.heap[j]? = _ from hc] at hh
    simp at hh
    exact h2 hh.2.1
theorem C2.other {g k i : Nat} {t : TypeId} {x y z : Value} (h : C2 W g t x y) (hne : g ≠ k) : C2 (W.setCell ⟨k, i, none⟩ z) g t x y := (Below.heap_setCell _ _ _ _ hne).trans h
theorem C2.grown {g : Nat} {t : TypeId} {x y : Value} {row : Option Nat} (h : C2 W g t x y) (hg : W.grownBy W' row) (hne : some g ≠ row) : C2 W' g t x y := (hg.block g (Array.getElem?_eq_some_iff.1 h).1 hne).trans h
theorem C2.not_row {g : Nat} {t e : TypeId} {x y v : Value} {size n : Nat} {xs : List Value} (h : C2 W g t x y) (hr : W.ownsRow base e size v n xs) (hte : t ≠ e) : some g ≠ v.ownBlock := block_not_row hr h hte
theorem GD.op {y : Fi} {v' : Value} {w1 : World} {tmp : Obj} (h : GD base gs ops vl vo W) (hy : Own1 base W (.slice y.A y.f.l.length y.c) y.f.l) (hown : w1.ownsRow base 22 1 v' (ops.length + 1) (cellsHo ops ++ [bodyH y])) (hgrow : (W.alloc tmp).grownBy w1 vo.ownBlock)
    (hat : v'.ownBlock = vo.ownBlock ∨ v'.ownBlock = some (W.alloc tmp).heap.size) (hbs : base ≤ W.heap.size) : GD base gs (ops ++ [y]) vl v' w1 ∧ Below base W w1 := by
  have hb1 : ∀ z : Fi, Own1 base W (.slice z.A z.f.l.length z.c) z.f.l → Own1 base w1 (.slice z.A z.f.l.length z.c) z.f.l := fun z hz => World.ownsRow.kept (World.ownsRow.alloc hz tmp) hgrow (row_not_row (World.ownsRow.alloc hz tmp) (h.ro.alloc tmp) (by decide))
  refine ⟨⟨(h.row.alloc tmp).kept hgrow (row_not_row (h.row.alloc tmp) (h.ro.alloc tmp) (by decide)), by rw [cellsHo_append, List.length_append]; exact hown, fun g hg => ((h.olds g hg).alloc tmp).kept hgrow (h.apart g hg), fun g hg => ?_, fun z hz => ?_⟩, ?_⟩
  · cases e : g.v.ownBlock with
    | none => exact .inl rfl
    | some j =>
      refine .inr fun e' => ?_
      rcases hat with h1 | h1
      · rcases h.apart g hg with h2 | h2
        · rw [h2] at e; cases e
        · exact h2 (e.trans (e'.trans h1))
      · rw [h1] at e'
        injection e' with e'
        have := ownBlock_lt (h.olds g hg) e
        simp at e'
        omega
  · rw [← List.append_assoc, List.mem_append, List.mem_singleton] at hz
    rcases hz with hz | rfl
    · exact hb1 z (h.body z hz)
    · exact hb1 z hy
  · exact ((Below.refl base W).alloc hbs tmp).grown hgrow (by simp; omega) (fun k hk => (World.ownsRow.lt h.ro k hk).1)
theorem GD.com {y : Fi} {v' : Value} {w1 : World} {tmp : Obj} (h : GD base gs ops vl vo W) (hy : Own1 base W (.slice y.A y.f.l.length y.c) y.f.l) (hown : w1.ownsRow base 52 2 v' (gs.length + 1) (cellsHr gs ++ [vo, bodyH y])) (hgrow : (W.alloc tmp).grownBy w1 vl.ownBlock) (hbs : base ≤ W.heap.size) :
    GD base (gs ++ [⟨ops, vo, y⟩]) [] v' (.slice none 0 0) w1 ∧ Below base W w1 := by
  have hr : ∀ {v : Value} {n : Nat} {xs : List Value}, W.ownsRow base 22 1 v n xs → w1.ownsRow base 22 1 v n xs := fun hr => (hr.alloc tmp).kept hgrow (row_not_row (hr.alloc tmp) (h.row.alloc tmp) (by decide))
  have hb1 : ∀ z : Fi, Own1 base W (.slice z.A z.f.l.length z.c) z.f.l → Own1 base w1 (.slice z.A z.f.l.length z.c) z.f.l := fun z hz => World.ownsRow.kept (World.ownsRow.alloc hz tmp) hgrow (row_not_row (World.ownsRow.alloc hz tmp) (h.row.alloc tmp) (by decide))
  refine ⟨⟨by rw [cellsHr_append, List.length_append]; exact hown, World.ownsRow_nil _ _ _ _, fun g hg => ?_, fun g hg => ?_, fun z hz => ?_⟩, ((Below.refl base W).alloc hbs tmp).grown hgrow (by simp; omega) (fun k hk => (World.ownsRow.lt h.row k hk).1)⟩
  · rw [List.mem_append, List.mem_singleton] at hg
    rcases hg with hg | rfl
    · exact hr (h.olds g hg)
    · exact hr h.ro
  · cases e : g.v.ownBlock with
    | none => exact .inl rfl
    | some j => exact .inr (by simp [Value.ownBlock])
  · simp only [List.flatMap_append, List.flatMap_cons, List.flatMap_nil, List.append_nil, List.mem_append, List.mem_singleton] at hz
    rcases hz with hz | hz | rfl
    · exact hb1 z (h.body z (List.mem_append_left _ hz))
    · exact hb1 z (h.body z (List.mem_append_right _ hz))
    · exact hb1 z hy
end
end Go.Proofs.YtbmhgmigcgeooaaDoor
