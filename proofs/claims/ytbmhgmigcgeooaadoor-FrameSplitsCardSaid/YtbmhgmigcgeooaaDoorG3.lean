/- Split: the frames of the valid beginning, in a slice. -/
import Derived.Test.YtbmhgmigcgeooaaDoorG2
namespace Go.Proofs.YtbmhgmigcgeooaaDoor
open Go.RowKit
attribute [local go_sem] Oper.semAt_some
theorem infoX : (Tryd.prog.info? 27).map (fun i => (i.zero, i.size, i.bytes)) = some (some (.agg #[.int .i64 0, .slice none 0 0]), 2, 32) := by kernel_rfl
def cellsX (L : List Fx) : List Value := L.flatMap fun x => [.int .i64 (x.f.k : Int), .slice (bodyA x.g x.f.l.length) x.f.l.length x.f.l.length]
theorem cellsX_length (L : List Fx) : (cellsX L).length = L.length * 2 := by
  induction L with
  | nil => rfl
  | cons x L ih => simp only [cellsX, List.flatMap_cons, List.length_append, List.length_cons, List.length_nil] at *; omega
theorem cellsX_append (A B : List Fx) : cellsX (A ++ B) = cellsX A ++ cellsX B := by simp [cellsX]
theorem cell_two_new (w : World) (x y : Value) (t : TypeId) : ∀ j u, [x, y][j]? = some u → (w.alloc (.cells #[x, y] t)).cell? ((⟨w.heap.size, 0, none⟩ : Addr).add j) = some u := by
  intro j u hj
  match j, hj with
  | 0, hj => simp at hj; subst hj; simp [Addr.add]
  | 1, hj => simp at hj; subst hj; simp [Addr.add]
/-- A block of another type stays when a row that the call owns is appended to and the box of its slice is set. -/
theorem heap_appended {W w1 : World} {n0 B : Nat} {t0 e : TypeId} {size : Nat} {v v' : Value} {k : Nat} {xs : List Value} {tmp : Obj} (hv : Boxed W B t0 v) (hrow : W.ownsRow n0 e size v k xs) (hgrow : (W.alloc tmp).grownBy w1 v.ownBlock)
    {i : Nat} {c : Array Value} {t : TypeId} {fr : Nat × Nat} (h : W.heap[i]? = some (.cells c t fr)) (h1 : t ≠ t0) (h2 : t ≠ e) : (w1.setCell ⟨B, 0, none⟩ v').heap[i]? = W.heap[i]? := by
  have hi := (Array.getElem?_eq_some_iff.1 h).1
  have n1 : i ≠ B := fun e => by
    have := (show W.heap[B]? = _ from hv).symm.trans (e ▸ h)
    simp at this
    exact h1 this.2.1.symm
  have n2 : some i ≠ v.ownBlock := fun e => by
    rcases hrow.2 with ⟨rfl, _⟩ | ⟨g, cap, cur, rfl, _, hgb, _⟩
    · simp [Value.ownBlock] at e
    · obtain rfl : i = g := by simpa [Value.ownBlock] using e
      rw [hgb] at h
      simp at h
      exact h2 h.2.1.symm
  exact (Below.heap_setCell _ _ _ i (by simpa using n1)).trans ((hgrow.block i (by simp; omega) n2).trans (Below.heap_alloc _ _ i hi))
theorem Body.of_block {m0 : Nat} {x : Fx} {W W' : World} (h : Body m0 x W) (e : W'.heap[x.g]? = W.heap[x.g]?) (hs : W.heap.size ≤ W'.heap.size) : Body m0 x W' :=
  ⟨h.ge, Nat.lt_of_lt_of_le h.lt hs, fun i hi => by rw [← h.cell i hi]; simp only [World.cell?, e], fun i => by rw [← h.free i]; simp only [World.frozen?, e], by rw [e]; exact h.typ⟩
theorem body_own {β : Type} (m0 : Nat) (f : β → List Fx) : Own (fun s W => ∀ x ∈ f s, Body m0 x W) := fun s X Y row hs hg hrow x hx => by
  have h := hs x hx
  obtain ⟨c, fr, ht⟩ := h.typ
  exact h.of_block (hg.block x.g h.lt (fun e' => by obtain ⟨o, ho, hc⟩ := hrow x.g e'.symm; rw [ht] at ho; cases ho; cases hc)) hg.size
theorem boxed_own1 {β : Type} (B : Nat) (t : TypeId) (f : β → Value) : Own (fun s W => Boxed W B t (f s)) := boxed_own B t f
theorem kpF_book {n0 bx D : Nat} (W : World) (o o' : Obj) (hn : n0 ≤ D + 1) (hb : bx < D) (h : W.heap[D + 1]? = some o) : KpF n0 bx W (W.putObj (D + 1) o') :=
  ⟨(Below.refl n0 W).grown (grownBy_putObj' W (D + 1) o') (by have := (Array.getElem?_eq_some_iff.1 h).1; omega) (fun k e => by cases e; omega), World.putObj_heap_other (by omega)⟩
/-- The place behind the last frame. -/
def lastE (L : List Fx) : Int := match L.getLast? with
  | some x => (x.e : Int)
  | none => 0
theorem lastE_snoc (L : List Fx) (x : Fx) : lastE (L ++ [x]) = (x.e : Int) := by simp [lastE]
theorem lastE_ends : ∀ (L : List Fx) (n : Nat), EndsF n L → lastE L = (if L = [] then 0 else ((n + sizeL (frs L) : Nat) : Int)) := by
  intro L
  induction L with
  | nil => intro n _; rfl
  | cons x L ih =>
    intro n h
    rw [if_neg (by simp)]
    have h2 := ih _ h.2
    cases L with
    | nil => show (x.e : Int) = _; rw [h.1]; simp [frs, sizeL]
    | cons y L =>
      have e : lastE (x :: y :: L) = lastE (y :: L) := by simp [lastE]
      rw [e, h2, if_neg (by simp)]
      simp only [frs, List.map_cons, sizeL_cons]
      omega
theorem lastE_all {b : List UInt8} {L : List Fx} {R : List Fr} (h : ReadF b L R) : lastE L = ((sizeL (frs L) : Nat) : Int) := by
  rw [lastE_ends L 0 h.ends]
  split
  · rename_i e; subst e; rfl
  · simp
theorem valid_any (A : Option Addr) (n c : Nat) (w : World) : Calls Tryd.prog 26 #[.slice A n c] w fun e w' => e = .returned (.func (.func 32) #[] #[.pointer (some ⟨w.heap.size, 0, none⟩)]) ∧ w' = w.alloc (.cells #[.slice A n c] 22) := by
  go_enter Tryd.func26, Tryd.ntmps26
  go_wp2
  go_ret
  exact ⟨rfl, rfl⟩
/-- What Split gives. -/
structure Splits (w : World) (b : List UInt8) (v : Value) (L : List Fx) (w' : World) : Prop where
  row : w'.ownsRow w.heap.size 27 2 v L.length (cellsX L)
  read : ReadF b L []
  body : ∀ x ∈ L, Body w.heap.size x w'
  below : Below w.heap.size w w'
set_option maxRecDepth 100000 in
set_option maxHeartbeats 4000000 in
theorem Split_any (A : Option Addr) (cap : Nat) (b : List UInt8) (w : World) (hE : Env w) (hA : At w A b) (hz : A = none → cap = 0) (hs : ∀ ad, A = some ad → ∃ bb off, ad = ⟨bb, off, none⟩) (hc : b.length ≤ cap) (hm : b.length ≤ 1000000) :
    Calls Tryd.prog 13 #[.slice A b.length cap] w fun e w' => ∃ v L, e = .returned (.tuple #[v, .int .i64 (sizeL (framesL b) : Nat)]) ∧ Splits w b v L w' := by
  have HE := Lib.hid hE
  have HA := Lib.hid hA
  have VA := Lib.hid (fun w => valid_any A b.length cap w)
  clear hE hA
  refine (callsIn_wide (n := 9)).1 (callsIn_of_wp_marks Tryd.func13 rfl trivial ?_ rfl)
  simp only [Tryd.ntmps13, List.size_toArray, List.length_cons, List.length_nil, Nat.reduceAdd, Nat.reduceSub, Array.replicate_succ, Array.replicate_zero, List.push_toArray, List.append_toArray, List.nil_append, List.cons_append]
  refine (wpIn_wide (n := 9)).2 ?_
  go_wp2_with (first | (go_at_call 26; ((with_reducible refine (VA.out _).mono ?_); rintro e0 w3 ⟨rfl, rfl⟩)) | fail)
  obtain ⟨W3, hW3⟩ : ∃ W3, ((w.alloc (.cells #[.slice none 0 0] 35)).alloc (.cells #[.int .i64 0] 3)).alloc (.cells #[.slice A b.length cap] 22) = W3 := ⟨_, rfl⟩
  have s3 : W3.heap.size = w.heap.size + 3 := by rw [← hW3]; simp
  have b3 : Below w.heap.size w W3 := by rw [← hW3]; exact (((Below.refl _ _).alloc (Nat.le_refl _) _).alloc (by simp) _).alloc (by simp; omega) _
  have x0 : Boxed W3 w.heap.size 35 (.slice none 0 0) := by rw [← hW3]; exact ((Boxed.new w _ _).alloc _).alloc _
  have x1 : Boxed W3 (w.heap.size + 1) 3 (.int .i64 0) := by
    rw [← hW3]
    have := Boxed.new (w.alloc (.cells #[.slice none 0 0] 35)) 3 (.int .i64 0)
    rw [World.size_alloc] at this
    exact this.alloc _
  have x2 : Boxed W3 (w.heap.size + 2) 22 (.slice A b.length cap) := by
    rw [← hW3]
    have := Boxed.new ((w.alloc (.cells #[.slice none 0 0] 35)).alloc (.cells #[.int .i64 0] 3)) 22 (.slice A b.length cap)
    rw [World.size_alloc, World.size_alloc] at this
    exact this
  rw [hW3]
  clear hW3
  obtain ⟨i0, hi, hz0, hz1, hz2⟩ := info_parts infoX
  obtain ⟨I, hIdef⟩ : ∃ I : List Fx → World → Prop, I = fun pre W => ((∃ v, Boxed W w.heap.size 35 v ∧ W.ownsRow w.heap.size 27 2 v pre.length (cellsX pre) ∧ True) ∧ Boxed W (w.heap.size + 1) 3 (.int .i64 (lastE pre)) ∧ Boxed W (w.heap.size + 2) 22 (.slice A b.length cap) ∧ (∀ x ∈ pre, Body w.heap.size x W)) ∧ Below w.heap.size w W := ⟨_, rfl⟩
  have hIo : OwnFrom W3.heap.size I := by
    rw [hIdef]
    exact OwnFrom.and (OwnFrom.and (Own.from (holdsRow_own w.heap.size w.heap.size 35 27 2 (fun pre => pre.length) cellsX (fun _ _ => True)) _) (OwnFrom.and (Own.from (boxed_own1 (w.heap.size + 1) 3 (fun pre => .int .i64 (lastE pre))) _) (OwnFrom.and (Own.from (boxed_own1 (w.heap.size + 2) 22 (fun _ => .slice A b.length cap)) _) (Own.from (body_own w.heap.size (fun pre => pre)) _)))) (ownFrom_below (Nat.le_refl _) (by omega))
  refine (wpIn_wide (n := 9)).1 ?_
  refine wp_ranged (gf := 32) (lb := #[.pointer (some ⟨w.heap.size + 2, 0, none⟩)]) rfl (enters_of Tryd.func32 (by kernel_rfl) rfl)
    (valid_iter w.heap.size w.heap.size A cap (w.heap.size + 2) b W3 (by omega) (by omega) (fun W hb => ⟨HE.out.below (b3.trans hb), HA.out.below (b3.trans hb)⟩) hz hs x2.cell hc (by omega)) (fun _ => rfl) KpF.trans (fun W o o' h _ => kpF_book W o o' (by omega) (by omega) h)
    I (fun _ _ _ => False)
    (fun x a' W => ∃ Bx, w.heap.size + 2 < Bx ∧ FBox W Bx (x.f.k : Int) (bodyA x.g x.f.l.length) x.f.l.length x.f.l.length ∧ a' = { tmps := #[.slice A b.length cap, undef, .slice none 0 0, .int .i64 0, .pointer (some ⟨w.heap.size, 0, none⟩), .pointer (some ⟨w.heap.size + 1, 0, none⟩), .pointer (some ⟨Bx, 0, none⟩), .int .i64 (x.e : Int), .slice A b.length cap, .func (.func 32) #[] #[.pointer (some ⟨w.heap.size + 2, 0, none⟩)], .agg #[.int .i64 (x.f.k : Int), .slice (bodyA x.g x.f.l.length) x.f.l.length x.f.l.length], .int .i64 (x.e : Int), undef, undef, undef, undef, undef, undef, undef], defers := [] })
    (fun s => Abides2.of_own (fun _ X Y row h hg hr => hIo s X Y row h hg hr)) (fun _ _ => ⟨fun _ _ h _ => h, fun _ _ _ h _ _ => h⟩)
    (fun x a' => Abides2.of_own (fun _ X Y row h hg hr => by
      obtain ⟨Bx, h1, h2, h3⟩ := h
      exact ⟨Bx, h1, h2.grown hg (fun e' => by obtain ⟨_, o, ho, hc'⟩ := hr Bx e'; rw [show X.heap[Bx]? = _ from h2] at ho; cases ho; cases hc'), h3⟩))
    (fun x => Abides2.of_own (fun _ X Y row h hg hr => Own.from (body_own (β := Unit) w.heap.size (fun _ => [x])) W3.heap.size () X Y row (by simpa using h) hg hr x (by simp)))
    (by rw [hIdef]; exact ⟨⟨⟨_, x0, World.ownsRow_nil _ _ _ _, trivial⟩, x1, x2, fun x hx => by cases hx⟩, b3⟩)
    ?assign ?body ?done ?stop
  case assign =>
    rintro l m pre x W K hsz hIW hF hK
    dsimp only [encF]
    gi_wp2
    refine hK _ _ ((KeepsOthers.alloc _ _).from _) ⟨(Below.refl _ _).alloc (by omega) _, Below.heap_alloc _ _ _ (by omega)⟩ (hIo.alloc _ hIW) (hF.grown (World.grownBy_alloc _ _ _)) ⟨W.heap.size, by omega, FBox.new W _ _ _ _, rfl⟩
  case body =>
    rintro l m pre x a' W hsz hIW hF ⟨Bx, hBx, bX, rfl⟩ hlt
    rw [hIdef] at hIW
    obtain ⟨⟨⟨v, hv, hrow, _⟩, hb1, hb2, hall⟩, hB⟩ := hIW
    have hc := hv.cell
    have hd := hb1.cell
    have he := hb1.frozen
    have y0 := bX.c0
    have y1 := bX.c1
    rw [hIdef]
    clear hIo hIdef
    obtain ⟨⟨fk, fl⟩, fg, fe⟩ := x
    dsimp only at *
    gi_wp2_with (gi_at_builtin; refine wpListIn_append_own _ rfl _ _ 35 rfl w.heap.size 27 i0 _ 2 32 Tryd.underlying35 hi hz0 hz1 hz2 rfl (by decide) _ _ _ rfl (hrow.alloc _) ⟨W.heap.size, 0, none⟩ 1 1 [.int .i64 (fk : Int), .slice (bodyA fg fl.length) fl.length fl.length] rfl rfl (cell_two_new _ _ _ _) (by simp [Value.oneCell']) (by unfold maxLen; omega) (by omega) (by have := hB.size; simp; omega) ?_; intro v' w1' hown' hgrow _; have hha := fun (i : Nat) (c : Array Value) (t : TypeId) (fr : Nat × Nat) => heap_appended (v' := v') hv hrow hgrow (i := i) (c := c) (t := t) (fr := fr); obtain ⟨g', cap', rfl⟩ := ownsRow_succ hown'; obtain ⟨hv1, hv2, hr2, hk2, hbb2⟩ := hv.appended (by decide) hrow hB.size (Nat.le_refl _) hown' hgrow; have hc1 := hv1.cell; have hf1 := hv1.frozen; have hq1 : Boxed w1' (w.heap.size + 1) 3 (.int .i64 (lastE pre)) := (hb1.alloc _).kept hgrow (hb1.not_row (by decide) hrow); have hqc := hq1.cell; have hqf := hq1.frozen)
    have hz1' := hq1.other (B' := w.heap.size) (by omega) (.slice (some ⟨g', 0, none⟩) (pre.length + 1) cap')
    have hz2' : Boxed (w1'.setCell ⟨w.heap.size, 0, none⟩ (.slice (some ⟨g', 0, none⟩) (pre.length + 1) cap')) (w.heap.size + 2) 22 (.slice A b.length cap) := (hha _ _ _ _ hb2 (by decide) (by decide)).trans hb2
    have hall2 : ∀ y ∈ pre ++ [⟨⟨fk, fl⟩, fg, fe⟩], Body w.heap.size y W := fun y hy => by
      rw [List.mem_append, List.mem_singleton] at hy
      rcases hy with hy | rfl
      · exact hall y hy
      · exact hF
    have hbb3 := hbb2.setCell (p := ⟨w.heap.size + 1, 0, none⟩) (by simp) (.int .i64 (fe : Int))
    refine ⟨(hk2.trans (KeepsOthers.setCell _ _ _)).from _, ⟨hbb3, (Below.heap_setCell _ _ _ _ (by simp)).trans (hha _ _ _ _ hb2 (by decide) (by decide))⟩, ⟨⟨_, hv2.other (by omega) _, ?_, trivial⟩, ?_, hz2'.other (by omega) _, fun y hy => ?_⟩, hB.trans hbb3⟩
    · rw [cellsX_append, List.length_append]
      exact hr2.kept (grownBy_setCell' _ (w.heap.size + 1) _) (.inr (hz1'.not_row (by decide) hr2).symm)
    · rw [lastE_snoc]
      exact hz1'.set _
    · have h := hall2 y hy
      obtain ⟨c', fr', ht⟩ := h.typ
      have hne : y.g ≠ w.heap.size + 1 := fun e => by
        rw [e, show W.heap[w.heap.size + 1]? = _ from hb1] at ht
        simp at ht
      exact h.of_block ((Below.heap_setCell _ _ _ _ (by simpa using hne)).trans (hha _ _ _ _ ht (by decide) (by decide))) hbb3.size
  case done =>
    rintro D L W hD hR hIW hK
    rw [hIdef] at hIW
    obtain ⟨⟨⟨v, hv, hrow, _⟩, hb1, hb2, hall⟩, hB⟩ := hIW
    have hc := hv.cell
    have hd := hb1.cell
    have he := lastE_all hR
    have hf := hR.all
    rw [List.append_nil] at hf
    rw [he, ← hf] at hd
    clear hIdef hIo he hf I
    have hR' := Lib.hid hR
    clear hR
    go_upto_region 7 with fail
    go_quiet (fail)
    go_wp2
    refine ⟨by simp, .inl ⟨_, _, rfl, run_takeDeferred (show (W.drewN nq).heap[D]? = _ from hK), ?_⟩⟩
    have hKd : (W.drewN nq).heap[D]? = some (.deferred (some [])) := hK
    have hB2 : Below w.heap.size w ((W.drewN nq).putObj D (.deferred none)) := (below_drewN' hB nq).trans (belowK_b (w := W3) (by omega) (W.drewN nq) D _ _ hD hKd rfl rfl)
    refine ⟨_, by simp [results, Tryd.results13, go_sem], v, L, rfl, ⟨?_, hR'.out, fun x hx => ?_, hB2⟩⟩
    · exact ownsRow_putObj (W := W.drewN nq) hrow _ hKd rfl
    · exact body_own (β := Unit) w.heap.size (fun _ => L) () (W.drewN nq) _ (some D) (fun y hy => (hall y hy).of_block rfl (Nat.le_refl _)) (grownBy_putObj' (W.drewN nq) D (.deferred none)) (fun r e => by cases e; exact ⟨_, hKd, rfl⟩) x hx
  case stop =>
    rintro D c pre W _ _ h _
    exact h.elim
end Go.Proofs.YtbmhgmigcgeooaaDoor
