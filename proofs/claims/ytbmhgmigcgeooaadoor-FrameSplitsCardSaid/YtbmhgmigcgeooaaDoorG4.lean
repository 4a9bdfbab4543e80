/- Groups in plain terms and in memory. -/
import Derived.Test.YtbmhgmigcgeooaaDoorG3
import Derived.Maps.OwnIn
namespace Go.Proofs.YtbmhgmigcgeooaaDoor
open Go.RowKit
/-- A group that was read: its ops, the slice that holds them, its commit. -/
structure Gx where
  ops : List Fx
  v : Value
  com : Fx
def Gx.gr (g : Gx) : Gr := ⟨g.ops.map (fun x => x.f.l), g.com.f.l⟩
/-- How groups come of frames: those that are whole, the ops behind them. -/
inductive RunG : List Fx → List Gx → List Fx → Prop
  | nil : RunG [] [] []
  | op {pre : List Fx} {gs : List Gx} {ops : List Fx} {x : Fx} : RunG pre gs ops → x.f.k = 1 → ops.length < 256 → RunG (pre ++ [x]) gs (ops ++ [x])
  | com {pre : List Fx} {gs : List Gx} {ops : List Fx} {x : Fx} (v : Value) : RunG pre gs ops → x.f.k = 2 → RunG (pre ++ [x]) (gs ++ [⟨ops, v, x⟩]) []
theorem RunG.groups {pre : List Fx} {gs : List Gx} {ops : List Fx} (h : RunG pre gs ops) : ∀ R, groupsL (frs pre ++ R) [] = gs.map Gx.gr ++ groupsL R (ops.map fun x => x.f.l) := by
  induction h with
  | nil => intro R; rfl
  | op _ hk hl ih =>
    intro R
    rw [frs_snoc, List.append_assoc, ih]
    show _ ++ groupsL (_ :: R) _ = _
    rw [groupsL, if_pos ⟨hk, by simpa using hl⟩]
    simp
  | com v _ hk ih =>
    intro R
    rw [frs_snoc, List.append_assoc, ih]
    show _ ++ groupsL (_ :: R) _ = _
    rw [groupsL, if_neg (fun h => by omega), if_pos hk]
    simp [Gx.gr]
theorem EndsF.init {L : List Fx} {x : Fx} : ∀ {n : Nat}, EndsF n (L ++ [x]) → EndsF n L ∧ x.e = n + sizeL (frs L) + x.f.size := by
  induction L with
  | nil => intro n h; exact ⟨trivial, by simpa [frs, sizeL] using h.1⟩
  | cons y L ih =>
    intro n h
    obtain ⟨h1, h2⟩ := ih h.2
    exact ⟨⟨h.1, h1⟩, by rw [h2, frs, frs, List.map_cons, sizeL_cons]; omega⟩
def lastC (gs : List Gx) : Int := match gs.getLast? with
  | some g => (g.com.e : Int)
  | none => 0
theorem lastC_snoc (L : List Gx) (g : Gx) : lastC (L ++ [g]) = (g.com.e : Int) := by simp [lastC]
theorem gr_size (ops : List Fx) (v : Value) (x : Fx) : (Gx.gr ⟨ops, v, x⟩).size = sizeL (frs ops) + x.f.size := by
  have : ((ops.map fun x => x.f.l).map fun o => o.length + 7).sum = sizeL (frs ops) := by
    induction ops with
    | nil => rfl
    | cons y L ih => simp only [frs, List.map_cons, List.sum_cons, sizeL_cons] at *; rw [ih]; rfl
  rw [Gr.size, Gx.gr, this, Fr.size]
  show _ + x.f.l.length + 7 = _
  omega
theorem RunG.sizes {pre : List Fx} {gs : List Gx} {ops : List Fx} (h : RunG pre gs ops) : EndsF 0 pre → sizeL (frs pre) = sizeG (gs.map Gx.gr) + sizeL (frs ops) ∧ lastC gs = ((sizeG (gs.map Gx.gr) : Nat) : Int) := by
  induction h with
  | nil => intro _; exact ⟨rfl, rfl⟩
  | op _ _ _ ih =>
    intro he
    obtain ⟨h1, h2⟩ := ih he.init.1
    exact ⟨by rw [frs_snoc, sizeL_snoc, h1, frs_snoc, sizeL_snoc]; omega, h2⟩
  | com v _ _ ih =>
    intro he
    obtain ⟨h0, h3⟩ := he.init
    obtain ⟨h1, h2⟩ := ih h0
    rw [lastC_snoc, List.map_append, List.map_cons, List.map_nil, sizeG_snoc, gr_size, frs_snoc, sizeL_snoc, h1]
    exact ⟨by simp [frs, sizeL]; omega, by rw [h3, h1]; congr 1; omega⟩
theorem RunG.le {pre : List Fx} {gs : List Gx} {ops : List Fx} (h : RunG pre gs ops) : gs.length + ops.length ≤ pre.length := by
  induction h with
  | nil => exact Nat.le_refl _
  | op _ _ _ ih => simp only [List.length_append, List.length_singleton]; omega
  | com v _ _ ih => simp only [List.length_append, List.length_singleton, List.length_nil]; omega
theorem RunG.flat {pre : List Fx} {gs : List Gx} {ops : List Fx} (h : RunG pre gs ops) : pre = gs.flatMap (fun g => g.ops ++ [g.com]) ++ ops := by
  induction h with
  | nil => rfl
  | op _ _ _ ih => rw [ih]; simp
  | com v _ _ ih => rw [ih]; simp
def bodyX (x : Fx) : Value := .slice (bodyA x.g x.f.l.length) x.f.l.length x.f.l.length
def cellsO (L : List Fx) : List Value := L.map bodyX
theorem cellsO_append (A B : List Fx) : cellsO (A ++ B) = cellsO A ++ cellsO B := by simp [cellsO]
def cellsGr (L : List Gx) : List Value := L.flatMap fun g => [g.v, bodyX g.com]
theorem cellsGr_append (A B : List Gx) : cellsGr (A ++ B) = cellsGr A ++ cellsGr B := by simp [cellsGr]
/-- Groups under way, in memory: boxes from n0 on, rows. -/
structure GM (n0 : Nat) (sl : Value) (gs : List Gx) (ops : List Fx) (vg vo : Value) (W : World) : Prop where
  bg : Boxed W n0 41 vg
  rg : W.ownsRow n0 51 2 vg gs.length (cellsGr gs)
  bo : Boxed W (n0 + 1) 49 vo
  ro : W.ownsRow n0 22 1 vo ops.length (cellsO ops)
  bs : Boxed W (n0 + 2) 3 (.int .i64 (lastC gs))
  bb : Boxed W (n0 + 3) 22 sl
  faro : ∀ j, vo.ownBlock = some j → n0 + 4 ≤ j
  olds : ∀ g ∈ gs, W.ownsRow n0 22 1 g.v g.ops.length (cellsO g.ops)
  farg : ∀ g ∈ gs, ∀ j, g.v.ownBlock = some j → n0 + 4 ≤ j
  apart : ∀ g ∈ gs, g.v.ownBlock = none ∨ g.v.ownBlock ≠ vo.ownBlock
section
variable {n0 : Nat} {sl : Value} {gs : List Gx} {ops : List Fx} {vg vo : Value} {W : World}
theorem rows_own (n0 : Nat) (e : TypeId) (size : Nat) (v : Value) (k : Nat) (f : List Value) : Own (fun (_ : Unit) W => W.ownsRow n0 e size v k f) := by
  rintro s X Y row hr hg hrow
  refine hr.kept hg ?_
  rcases hr.2 with ⟨rfl, _⟩ | ⟨g, cap, cur, rfl, _, hgb, _⟩
  · exact .inl rfl
  · refine .inr fun e' => ?_
    obtain ⟨o, ho, hc⟩ := hrow g (by simpa [Value.ownBlock] using e'.symm)
    rw [hgb] at ho; cases ho; cases hc
theorem GM.own (n0 : Nat) (sl : Value) (gs : List Gx) (ops : List Fx) (vg vo : Value) : Own (fun (_ : Unit) W => GM n0 sl gs ops vg vo W) := fun s X Y row h hg hr =>
  ⟨boxed_own1 (β := Unit) n0 _ (fun _ => vg) s X Y row h.bg hg hr, rows_own n0 _ 2 vg _ _ s X Y row h.rg hg hr, boxed_own1 (β := Unit) (n0 + 1) _ (fun _ => vo) s X Y row h.bo hg hr, rows_own n0 _ 1 vo _ _ s X Y row h.ro hg hr,
    boxed_own1 (β := Unit) (n0 + 2) _ (fun _ => .int .i64 (lastC gs)) s X Y row h.bs hg hr, boxed_own1 (β := Unit) (n0 + 3) _ (fun _ => sl) s X Y row h.bb hg hr, h.faro, fun g hgm => rows_own n0 _ 1 g.v _ _ s X Y row (h.olds g hgm) hg hr, h.farg, h.apart⟩
theorem heap_step {W w1 : World} {B : Nat} {v v' : Value} {tmp : Obj} (hgrow : (W.alloc tmp).grownBy w1 v.ownBlock) {i : Nat} (hi : i < W.heap.size) (n1 : i ≠ B) (n2 : some i ≠ v.ownBlock) : (w1.setCell ⟨B, 0, none⟩ v').heap[i]? = W.heap[i]? :=
  (Below.heap_setCell _ _ _ i (by simpa using n1)).trans ((hgrow.block i (by simp; omega) n2).trans (Below.heap_alloc _ _ i hi))
theorem ownBlock_lt {base : Nat} {e : TypeId} {size : Nat} {v : Value} {n : Nat} {xs : List Value} {j : Nat} (h : W.ownsRow base e size v n xs) (hj : v.ownBlock = some j) : j < W.heap.size := by
  rcases h.2 with ⟨rfl, _⟩ | ⟨g, cap, cur, rfl, _, hgb, _⟩
  · simp [Value.ownBlock] at hj
  · obtain rfl : g = j := by simpa [Value.ownBlock] using hj
    exact (Array.getElem?_eq_some_iff.1 hgb).1
theorem row_not_box {base : Nat} {e t : TypeId} {size : Nat} {v u : Value} {n : Nat} {xs : List Value} {B : Nat} (h : W.ownsRow base e size v n xs) (hb : Boxed W B t u) (hte : t ≠ e) : v.ownBlock ≠ some B := fun e' => (hb.not_row hte h) e'.symm
/-- An op more. -/
theorem GM.op {x : Fx} {v' : Value} {w1 : World} {tmp : Obj} (h : GM n0 sl gs ops vg vo W) (hs : n0 + 4 ≤ W.heap.size) (hown : w1.ownsRow n0 22 1 v' (ops.length + 1) (cellsO ops ++ [bodyX x])) (hgrow : (W.alloc tmp).grownBy w1 vo.ownBlock)
    (hat : v'.ownBlock = vo.ownBlock ∨ v'.ownBlock = some (W.alloc tmp).heap.size) :
    GM n0 sl gs (ops ++ [x]) vg v' (w1.setCell ⟨n0 + 1, 0, none⟩ v') ∧ Boxed w1 (n0 + 1) 49 vo ∧ KeepsOthers W (w1.setCell ⟨n0 + 1, 0, none⟩ v') ∧ Below n0 W (w1.setCell ⟨n0 + 1, 0, none⟩ v') := by
  obtain ⟨a1, a2, a3, a4, a5⟩ := h.bo.appended (by decide) h.ro (by omega) (by omega) hown hgrow
  have hst : ∀ {t : TypeId} {B : Nat} {u : Value}, Boxed W B t u → B ≠ n0 + 1 → some B ≠ vo.ownBlock → Boxed (w1.setCell ⟨n0 + 1, 0, none⟩ v') B t u := fun hb h1 h2 => (heap_step hgrow hb.lt h1 h2).trans hb
  have hbox : ∀ {t : TypeId} {B : Nat} {u : Value}, Boxed W B t u → t ≠ 22 → some B ≠ vo.ownBlock := fun hb ht => hb.not_row ht h.ro
  have hrow : ∀ {e : TypeId} {size n : Nat} {v : Value} {xs : List Value}, W.ownsRow n0 e size v n xs → e ≠ 49 → (v.ownBlock = none ∨ v.ownBlock ≠ vo.ownBlock) → (w1.setCell ⟨n0 + 1, 0, none⟩ v').ownsRow n0 e size v n xs := fun hr he hn =>
    have hr1 := (hr.alloc tmp).kept hgrow hn
    hr1.kept (grownBy_setCell' w1 (n0 + 1) v') (.inr (row_not_box hr1 a1 (fun e' => he e'.symm)))
  have hv' : ∀ j, v'.ownBlock = some j → j = W.heap.size + 1 ∨ vo.ownBlock = some j := fun j hj => by
    rcases hat with e | e
    · exact .inr (e ▸ hj)
    · rw [e] at hj
      injection hj with hj
      exact .inl (by simpa using hj.symm)
  refine ⟨⟨hst h.bg (by omega) (hbox h.bg (by decide)), hrow h.rg (by decide) ?_, a2, by rw [cellsO_append, List.length_append]; exact a3, hst h.bs (by omega) (hbox h.bs (by decide)), hst h.bb (by omega) (fun e => by have := h.faro _ e.symm; omega), ?_, fun g hg => hrow (h.olds g hg) (by decide) (h.apart g hg), h.farg, ?_⟩, a1, a4, a5⟩
  · -- the groups' row and the ops' row are of two types
    rcases h.rg.2 with ⟨rfl, _⟩ | ⟨g, cap, cur, rfl, _, hgb, _⟩
    · exact .inl rfl
    · refine .inr fun e' => ?_
      rcases h.ro.2 with ⟨rfl, _⟩ | ⟨g2, cap2, cur2, rfl, _, hgb2, _⟩
      · simp [Value.ownBlock] at e'
      · obtain rfl : g = g2 := by simpa [Value.ownBlock] using e'
        rw [hgb] at hgb2
        simp at hgb2
  · intro j hj
    rcases hv' j hj with rfl | e
    · omega
    · exact h.faro j e
  · intro g hg
    cases e : g.v.ownBlock with
    | none => exact .inl rfl
    | some j =>
      refine .inr fun e' => ?_
      rcases hv' j e'.symm with rfl | e2
      · have := ownBlock_lt (h.olds g hg) e; omega
      · rcases h.apart g hg with h1 | h1
        · rw [h1] at e; cases e
        · exact h1 (e.trans e2.symm)
/-- A commit. -/
theorem GM.com {x : Fx} {v' : Value} {w1 : World} {tmp : Obj} (h : GM n0 sl gs ops vg vo W) (hs : n0 + 4 ≤ W.heap.size) (hown : w1.ownsRow n0 51 2 v' (gs.length + 1) (cellsGr gs ++ [vo, bodyX x])) (hgrow : (W.alloc tmp).grownBy w1 vg.ownBlock) :
    GM n0 sl (gs ++ [⟨ops, vo, x⟩]) [] v' (.slice none 0 0) (((w1.setCell ⟨n0, 0, none⟩ v').setCell ⟨n0 + 2, 0, none⟩ (.int .i64 (x.e : Int))).setCell ⟨n0 + 1, 0, none⟩ (.slice none 0 0)) ∧ Boxed w1 n0 41 vg ∧ Boxed w1 (n0 + 2) 3 (.int .i64 (lastC gs)) ∧ Boxed w1 (n0 + 1) 49 vo ∧
      KeepsOthers W (((w1.setCell ⟨n0, 0, none⟩ v').setCell ⟨n0 + 2, 0, none⟩ (.int .i64 (x.e : Int))).setCell ⟨n0 + 1, 0, none⟩ (.slice none 0 0)) ∧ Below n0 W (((w1.setCell ⟨n0, 0, none⟩ v').setCell ⟨n0 + 2, 0, none⟩ (.int .i64 (x.e : Int))).setCell ⟨n0 + 1, 0, none⟩ (.slice none 0 0)) := by
  obtain ⟨a1, a2, a3, a4, a5⟩ := h.bg.appended (by decide) h.rg (by omega) (Nat.le_refl _) hown hgrow
  obtain ⟨V, hV⟩ : ∃ V, w1.setCell ⟨n0, 0, none⟩ v' = V := ⟨_, rfl⟩
  have hst : ∀ {t : TypeId} {B : Nat} {u : Value}, Boxed W B t u → B ≠ n0 → some B ≠ vg.ownBlock → Boxed V B t u := fun hb h1 h2 => by rw [← hV]; exact (heap_step hgrow hb.lt h1 h2).trans hb
  have hbox : ∀ {t : TypeId} {B : Nat} {u : Value}, Boxed W B t u → t ≠ 51 → some B ≠ vg.ownBlock := fun hb ht => hb.not_row ht h.rg
  have bo := hst h.bo (by omega) (hbox h.bo (by decide))
  have bs := hst h.bs (by omega) (hbox h.bs (by decide))
  have bb := hst h.bb (by omega) (hbox h.bb (by decide))
  have hrow : ∀ {v : Value} {n : Nat} {xs : List Value}, W.ownsRow n0 22 1 v n xs → V.ownsRow n0 22 1 v n xs := fun {v n xs} hr => by
    have hn : v.ownBlock = none ∨ v.ownBlock ≠ vg.ownBlock := by
      rcases hr.2 with ⟨rfl, _⟩ | ⟨g, cap, cur, rfl, _, hgb, _⟩
      · exact .inl rfl
      · refine .inr fun e' => ?_
        rcases h.rg.2 with ⟨rfl, _⟩ | ⟨g2, cap2, cur2, rfl, _, hgb2, _⟩
        · simp [Value.ownBlock] at e'
        · obtain rfl : g = g2 := by simpa [Value.ownBlock] using e'
          rw [hgb] at hgb2
          simp at hgb2
    have hr1 := (hr.alloc tmp).kept hgrow hn
    rw [← hV]
    exact hr1.kept (grownBy_setCell' w1 n0 v') (.inr (row_not_box hr1 a1 (by decide)))
  have q1 : Boxed w1 (n0 + 2) 3 (.int .i64 (lastC gs)) := (h.bs.alloc tmp).kept hgrow (hbox h.bs (by decide))
  have q2 : Boxed w1 (n0 + 1) 49 vo := (h.bo.alloc tmp).kept hgrow (hbox h.bo (by decide))
  rw [hV] at a2 a3 a4 a5 ⊢
  have hro := hrow h.ro
  -- behind the two stores
  have bs2 := bs.set (.int .i64 (x.e : Int))
  have keep2 : ∀ {t : TypeId} {B : Nat} {u : Value}, Boxed V B t u → B ≠ n0 + 2 → B ≠ n0 + 1 → Boxed ((V.setCell ⟨n0 + 2, 0, none⟩ (.int .i64 (x.e : Int))).setCell ⟨n0 + 1, 0, none⟩ (.slice none 0 0)) B t u := fun hb h1 h2 => (hb.other h1 _).other h2 _
  have row2 : ∀ {e : TypeId} {size n : Nat} {v : Value} {xs : List Value}, V.ownsRow n0 e size v n xs → e ≠ 3 → e ≠ 49 → ((V.setCell ⟨n0 + 2, 0, none⟩ (.int .i64 (x.e : Int))).setCell ⟨n0 + 1, 0, none⟩ (.slice none 0 0)).ownsRow n0 e size v n xs := fun hr he1 he2 =>
    have hr1 := hr.kept (grownBy_setCell' V (n0 + 2) (.int .i64 (x.e : Int))) (.inr (row_not_box hr bs (fun e' => he1 e'.symm)))
    hr1.kept (grownBy_setCell' _ (n0 + 1) (.slice none 0 0)) (.inr (row_not_box hr1 (bo.other (by omega) _) (fun e' => he2 e'.symm)))
  refine ⟨⟨keep2 a2 (by omega) (by omega), ?_, (bo.other (by omega) _).set _, World.ownsRow_nil _ _ _ _, ?_, keep2 bb (by omega) (by omega), (fun j hj => by simp [Value.ownBlock] at hj), ?_, ?_, ?_⟩, a1, q1, q2, (a4.trans (KeepsOthers.setCell _ _ _)).trans (KeepsOthers.setCell _ _ _), (a5.setCell (p := ⟨n0 + 2, 0, none⟩) (by simp) _).setCell (p := ⟨n0 + 1, 0, none⟩) (by simp) _⟩
  · rw [cellsGr_append, List.length_append]
    exact row2 a3 (by decide) (by decide)
  · rw [lastC_snoc]
    exact bs2.other (by omega) _
  · intro g hg
    rw [List.mem_append, List.mem_singleton] at hg
    rcases hg with hg | rfl
    · exact row2 (hrow (h.olds g hg)) (by decide) (by decide)
    · exact row2 hro (by decide) (by decide)
  · intro g hg
    rw [List.mem_append, List.mem_singleton] at hg
    rcases hg with hg | rfl
    · exact h.farg g hg
    · exact h.faro
  · intro g hg
    cases e : g.v.ownBlock with
    | none => exact .inl rfl
    | some j => exact .inr (by simp [Value.ownBlock])
end
end Go.Proofs.YtbmhgmigcgeooaaDoor
