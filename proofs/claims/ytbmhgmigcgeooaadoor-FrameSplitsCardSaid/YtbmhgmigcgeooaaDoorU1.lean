/- The law's own groups, in plain terms and in memory. -/
import Derived.Test.YtbmhgmigcgeooaaDoorT2
import Derived.Maps.AppendAt
namespace Go.Proofs.YtbmhgmigcgeooaaDoor
open Go.RowKit
structure Hx where
  ops : List Fi
  v : Value
  com : Fi
def Hx.gr (g : Hx) : Gr := ⟨g.ops.map (fun x => x.f.l), g.com.f.l⟩
inductive RunH : List Fi → List Hx → List Fi → Prop
  | nil : RunH [] [] []
  | op {pre : List Fi} {gs : List Hx} {ops : List Fi} {x : Fi} : RunH pre gs ops → x.f.k = 1 → RunH (pre ++ [x]) gs (ops ++ [x])
  | com {pre : List Fi} {gs : List Hx} {ops : List Fi} {x : Fi} (v : Value) : RunH pre gs ops → x.f.k = 2 → RunH (pre ++ [x]) (gs ++ [⟨ops, v, x⟩]) []
theorem frsI_snoc (L : List Fi) (x : Fi) : frsI (L ++ [x]) = frsI L ++ [x.f] := by simp [frsI]
theorem RunH.le {pre : List Fi} {gs : List Hx} {ops : List Fi} (h : RunH pre gs ops) : gs.length + ops.length ≤ pre.length := by
  induction h with
  | nil => exact Nat.le_refl _
  | op _ _ ih => simp only [List.length_append, List.length_singleton]; omega
  | com v _ _ ih => simp only [List.length_append, List.length_singleton, List.length_nil]; omega
theorem RunH.groups {pre : List Fi} {gs : List Hx} {ops : List Fi} (h : RunH pre gs ops) : pre.length ≤ 255 → ∀ R, groupsL (frsI pre ++ R) [] = gs.map Hx.gr ++ groupsL R (ops.map fun x => x.f.l) := by
  induction h with
  | nil => intro _ R; rfl
  | op h0 hk ih =>
    intro hl R
    simp only [List.length_append, List.length_singleton] at hl
    have := h0.le
    rw [frsI_snoc, List.append_assoc, ih (by omega)]
    show _ ++ groupsL (_ :: R) _ = _
    rw [groupsL, if_pos ⟨hk, by rw [List.length_map]; omega⟩]
    simp
  | com v _ hk ih =>
    intro hl R
    simp only [List.length_append, List.length_singleton] at hl
    rw [frsI_snoc, List.append_assoc, ih (by omega)]
    show _ ++ groupsL (_ :: R) _ = _
    rw [groupsL, if_neg (fun h => by omega), if_pos hk]
    simp [Hx.gr]
theorem hx_size (ops : List Fi) (v : Value) (x : Fi) : (Hx.gr ⟨ops, v, x⟩).size = sizeL (frsI ops) + x.f.size := by
  have : ((ops.map fun x => x.f.l).map fun o => o.length + 7).sum = sizeL (frsI ops) := by
    induction ops with
    | nil => rfl
    | cons y L ih => simp only [frsI, List.map_cons, List.sum_cons, sizeL_cons] at *; rw [ih]; rfl
  rw [Gr.size, Hx.gr, this, Fr.size]
  show _ + x.f.l.length + 7 = _
  omega
theorem RunH.sizes {pre : List Fi} {gs : List Hx} {ops : List Fi} (h : RunH pre gs ops) : sizeL (frsI pre) = sizeG (gs.map Hx.gr) + sizeL (frsI ops) := by
  induction h with
  | nil => rfl
  | op _ _ ih => rw [frsI_snoc, sizeL_snoc, ih, frsI_snoc, sizeL_snoc]; omega
  | com v _ _ ih =>
    rw [List.map_append, List.map_cons, List.map_nil, sizeG_snoc, hx_size, frsI_snoc, sizeL_snoc, ih]
    simp [frsI, sizeL]
    omega
theorem RunH.mem {pre : List Fi} {gs : List Hx} {ops : List Fi} (h : RunH pre gs ops) : (∀ y ∈ ops, y ∈ pre) ∧ ∀ g ∈ gs, g.com ∈ pre ∧ ∀ y ∈ g.ops, y ∈ pre := by
  induction h with
  | nil => exact ⟨(fun y hy => by cases hy), (fun y hy => by cases hy)⟩
  | op _ _ ih =>
    refine ⟨fun y hy => ?_, fun g hg => ⟨List.mem_append_left _ (ih.2 g hg).1, fun y hy => List.mem_append_left _ ((ih.2 g hg).2 y hy)⟩⟩
    rw [List.mem_append] at hy ⊢
    exact hy.imp (ih.1 y) id
  | com v _ _ ih =>
    refine ⟨fun y hy => by (cases hy), fun g hg => ?_⟩
    rw [List.mem_append, List.mem_singleton] at hg
    rcases hg with hg | rfl
    · exact ⟨List.mem_append_left _ (ih.2 g hg).1, fun y hy => List.mem_append_left _ ((ih.2 g hg).2 y hy)⟩
    · exact ⟨by simp, fun y hy => List.mem_append_left _ (ih.1 y hy)⟩
theorem wholeL_past : ∀ (A B : List Fr) (f : Fr) (n : Nat), sizeL A + f.size ≤ n → ∃ R, wholeL (A ++ f :: B) n = A ++ f :: R := by
  intro A
  induction A with
  | nil =>
    intro B f n hn
    refine ⟨wholeL B (n - f.size), ?_⟩
    show wholeL (f :: B) n = _
    rw [wholeL, if_pos (by simp [sizeL] at hn; omega)]
    rfl
  | cons a A ih =>
    intro B f n hn
    rw [sizeL_cons] at hn
    obtain ⟨R, hR⟩ := ih B f (n - a.size) (by omega)
    refine ⟨R, ?_⟩
    show wholeL (a :: (A ++ f :: B)) n = _
    rw [wholeL, if_pos (by omega), hR]
    rfl
/-- Where the law leaves its loop, its groups are those of the beginning. -/
theorem RunH.whole {L : List Fi} {en j : Nat} {gs : List Hx} {ops : List Fi} (h : RunH (L.take j) gs ops) (hL : L.length ≤ 30) (hj : j ≤ L.length) (he : sizeL ((frsI L).take j) ≤ en)
    (hend : ∀ h : j < L.length, en < sizeL ((frsI L).take j) + L[j].f.size ∨ L[j].f.k = 3) : groupsL (wholeL (frsI L) en) [] = gs.map Hx.gr := by
  have hp : frsI (L.take j) = (frsI L).take j := by simp [frsI, List.map_take]
  have hlt : (L.take j).length ≤ 255 := by rw [List.length_take]; clear hend; omega
  by_cases hstop : ∀ h : j < L.length, en < sizeL ((frsI L).take j) + L[j].f.size
  · have e : ∀ (h : j < (frsI L).length), en < sizeL ((frsI L).take j) + (frsI L)[j].size := fun h => by
      have h2 : j < L.length := by simpa [frsI] using h
      have h3 := hstop h2
      have e : (frsI L)[j] = L[j].f := by simp [frsI]
      rw [e]
      exact h3
    have hw := wholeL_stop (frsI L) en j (by simpa [frsI] using hj) he e
    have := h.groups hlt []
    rw [List.append_nil, hp] at this
    rw [hw, this]
    simp [groupsL]
  · have hjl : j < L.length := by
      refine Decidable.byContradiction fun h => hstop fun h2 => absurd h2 h
    have hfit : sizeL ((frsI L).take j) + L[j].f.size ≤ en := by
      refine Nat.le_of_not_lt fun h => hstop fun _ => h
    have hk : L[j].f.k = 3 := by
      rcases hend hjl with h | h
      · exact absurd h (Nat.not_lt.2 hfit)
      · exact h
    have hjf : j < (frsI L).length := by simpa [frsI] using hjl
    have hsp := split_at (frsI L) j hjf
    have e : (frsI L)[j] = L[j].f := by simp [frsI]
    rw [e] at hsp
    obtain ⟨R, hR⟩ := wholeL_past ((frsI L).take j) ((frsI L).drop (j + 1)) L[j].f en hfit
    rw [← hsp] at hR
    rw [hR, ← hp, h.groups hlt]
    rw [groupsL, if_neg (fun h => by rw [hk] at h; cases h.1), if_neg (by rw [hk]; decide), List.append_nil]
def bodyH (y : Fi) : Value := .slice y.A y.f.l.length y.c
def cellsHo (L : List Fi) : List Value := L.map bodyH
theorem cellsHo_append (A B : List Fi) : cellsHo (A ++ B) = cellsHo A ++ cellsHo B := by simp [cellsHo]
def cellsHr (L : List Hx) : List Value := L.flatMap fun g => [g.v, bodyH g.com]
theorem cellsHr_append (A B : List Hx) : cellsHr (A ++ B) = cellsHr A ++ cellsHr B := by simp [cellsHr]
/-- The law's groups under way, in memory. -/
structure HM (base : Nat) (gs : List Hx) (ops : List Fi) (vw vo : Value) (W : World) : Prop where
  rw_ : W.ownsRow base 51 2 vw gs.length (cellsHr gs)
  ro : W.ownsRow base 22 1 vo ops.length (cellsHo ops)
  olds : ∀ g ∈ gs, W.ownsRow base 22 1 g.v g.ops.length (cellsHo g.ops)
  apart : ∀ g ∈ gs, g.v.ownBlock = none ∨ g.v.ownBlock ≠ vo.ownBlock
section
variable {base : Nat} {gs : List Hx} {ops : List Fi} {vw vo : Value} {W W' : World}
theorem HM.later (h : HM base gs ops vw vo W) (hb : Below W.heap.size W W') : HM base gs ops vw vo W' :=
  ⟨World.ownsRow.kept h.rw_ (grown_of hb) (by cases hv : vw.ownBlock <;> simp), World.ownsRow.kept h.ro (grown_of hb) (by cases hv : vo.ownBlock <;> simp), fun g hg => World.ownsRow.kept (h.olds g hg) (grown_of hb) (by cases hv : g.v.ownBlock <;> simp), h.apart⟩
theorem HM.op {y : Fi} {v' : Value} {w1 : World} {tmp : Obj} (h : HM base gs ops vw vo W) (hown : w1.ownsRow base 22 1 v' (ops.length + 1) (cellsHo ops ++ [bodyH y])) (hgrow : (W.alloc tmp).grownBy w1 vo.ownBlock)
    (hat : v'.ownBlock = vo.ownBlock ∨ v'.ownBlock = some (W.alloc tmp).heap.size) (hbs : base ≤ W.heap.size) : HM base gs (ops ++ [y]) vw v' w1 ∧ Below base W w1 := by
  refine ⟨⟨(h.rw_.alloc tmp).kept hgrow (row_not_row (h.rw_.alloc tmp) (h.ro.alloc tmp) (by decide)), by rw [cellsHo_append, List.length_append]; exact hown, fun g hg => ((h.olds g hg).alloc tmp).kept hgrow (h.apart g hg), fun g hg => ?_⟩, ?_⟩
  · cases e : g.v.ownBlock with
    | none => exact .inl rfl
    | some j =>
      refine .inr fun e' => ?_
      rcases hat with h1 | h1
      · rcases h.apart g hg with h2 | h2
        · rw [h2] at e; cases e
        · exact h2 (e.trans (e'.trans h1))
      · rw [h1] at e'
        injection e' with e'
        have := ownBlock_lt (h.olds g hg) e
        simp at e'
        omega
  · exact ((Below.refl base W).alloc hbs tmp).grown hgrow (by simp; omega) (fun k hk => (World.ownsRow.lt h.ro k hk).1)
theorem HM.com {y : Fi} {v' : Value} {w1 : World} {tmp : Obj} (h : HM base gs ops vw vo W) (hown : w1.ownsRow base 51 2 v' (gs.length + 1) (cellsHr gs ++ [vo, bodyH y])) (hgrow : (W.alloc tmp).grownBy w1 vw.ownBlock) (hbs : base ≤ W.heap.size) :
    HM base (gs ++ [⟨ops, vo, y⟩]) [] v' (.slice none 0 0) w1 ∧ Below base W w1 := by
  have hr : ∀ {v : Value} {n : Nat} {xs : List Value}, W.ownsRow base 22 1 v n xs → w1.ownsRow base 22 1 v n xs := fun hr => (hr.alloc tmp).kept hgrow (row_not_row (hr.alloc tmp) (h.rw_.alloc tmp) (by decide))
  refine ⟨⟨by rw [cellsHr_append, List.length_append]; exact hown, World.ownsRow_nil _ _ _ _, fun g hg => ?_, fun g hg => ?_⟩, ((Below.refl base W).alloc hbs tmp).grown hgrow (by simp; omega) (fun k hk => (World.ownsRow.lt h.rw_ k hk).1)⟩
  · rw [List.mem_append, List.mem_singleton] at hg
    rcases hg with hg | rfl
    · exact hr (h.olds g hg)
    · exact hr h.ro
  · cases e : g.v.ownBlock with
    | none => exact .inl rfl
    | some j => exact .inr (by simp [Value.ownBlock])
end
end Go.Proofs.YtbmhgmigcgeooaaDoor
