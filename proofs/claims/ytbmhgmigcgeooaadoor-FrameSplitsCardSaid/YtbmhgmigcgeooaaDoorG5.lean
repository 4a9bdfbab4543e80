/- Groups: the groups at the beginning. -/
import Derived.Test.YtbmhgmigcgeooaaDoorG4
namespace Go.Proofs.YtbmhgmigcgeooaaDoor
open Go.RowKit
attribute [local go_sem] Oper.semAt_some
theorem infoGr : (Tryd.prog.info? 51).map (fun i => (i.zero, i.size, i.bytes)) = some (some (.agg #[.slice none 0 0, .slice none 0 0]), 2, 48) := by kernel_rfl
theorem infoOp : (Tryd.prog.info? 22).map (fun i => (i.zero, i.size, i.bytes)) = some (some (.slice none 0 0), 1, 24) := by kernel_rfl
theorem cell_one_new' (w : World) (x : Value) (t : TypeId) : ∀ j u, [x][j]? = some u → (w.alloc (.cells #[x] t)).cell? ((⟨w.heap.size, 0, none⟩ : Addr).add j) = some u := by
  intro j u hj
  match j, hj with
  | 0, hj => simp at hj; subst hj; simp [Addr.add]
/-- What Groups gives. -/
structure GroupsR (w : World) (b : List UInt8) (v : Value) (gs : List Gx) (w' : World) : Prop where
  row : w'.ownsRow w.heap.size 51 2 v gs.length (cellsGr gs)
  olds : ∀ g ∈ gs, w'.ownsRow w.heap.size 22 1 g.v g.ops.length (cellsO g.ops)
  all : gs.map Gx.gr = groupsL (framesL b) []
  body : ∀ x ∈ gs.flatMap (fun g => g.ops ++ [g.com]), Body w.heap.size x w'
  apart : (gs.flatMap fun g => g.ops ++ [g.com]).Pairwise fun x y => x.g < y.g
  below : Below w.heap.size w w'
theorem RunG.read {b : List UInt8} {pre : List Fx} {gs : List Gx} {ops : List Fx} (h : RunG pre gs ops) (hR : ReadF b pre []) :
    gs.map Gx.gr = groupsL (framesL b) [] ∧ lastC gs = ((sizeG (groupsL (framesL b) []) : Nat) : Int) ∧ (gs.flatMap fun g => g.ops ++ [g.com]).Pairwise fun x y => x.g < y.g := by
  have e : gs.map Gx.gr = groupsL (framesL b) [] := by
    rw [hR.all, h.groups]
    simp [groupsL]
  refine ⟨e, by rw [← e]; exact (h.sizes hR.ends).2, ?_⟩
  have := hR.apart
  rw [h.flat, List.pairwise_append] at this
  exact this.1
theorem RunG.stop {b : List UInt8} {pre : List Fx} {gs : List Gx} {ops : List Fx} {x : Fx} {R : List Fr} (h : RunG pre gs ops) (hR : ReadF b (pre ++ [x]) R) (h1 : ¬ (x.f.k = 1 ∧ ops.length < 256)) (h2 : x.f.k ≠ 2) :
    gs.map Gx.gr = groupsL (framesL b) [] ∧ lastC gs = ((sizeG (groupsL (framesL b) []) : Nat) : Int) ∧ (gs.flatMap fun g => g.ops ++ [g.com]).Pairwise fun x y => x.g < y.g := by
  have e : gs.map Gx.gr = groupsL (framesL b) [] := by
    rw [hR.all, frs_snoc, List.append_assoc, h.groups]
    show _ = _ ++ groupsL (x.f :: R) _
    rw [groupsL, if_neg (by simpa using h1), if_neg h2, List.append_nil]
  refine ⟨e, by rw [← e]; exact (h.sizes hR.ends.init.1).2, ?_⟩
  have := hR.apart
  rw [List.pairwise_append] at this
  have := this.1
  rw [h.flat, List.pairwise_append] at this
  exact this.1
theorem own_slice {base : Nat} {W : World} {e : TypeId} {size : Nat} {v : Value} {n : Nat} {xs : List Value} (h : W.ownsRow base e size v n xs) : ∃ P c, v = .slice P n c := by
  rcases h.2 with ⟨rfl, h0⟩ | ⟨g, cap, cur, rfl, _⟩
  · exact ⟨none, 0, by rw [h0]⟩
  · exact ⟨_, _, rfl⟩
/-- Between two rounds. -/
def GI (w : World) (sl : Value) (pre : List Fx) (W : World) : Prop :=
  ∃ gs ops vg vo, RunG pre gs ops ∧ GM w.heap.size sl gs ops vg vo W ∧ (∀ x ∈ pre, Body w.heap.size x W) ∧ Below w.heap.size w W
/-- The loop is left. -/
def GX (w : World) (sl : Value) (pre : List Fx) (W : World) : Prop :=
  ∃ pre0 x gs ops vg vo, pre = pre0 ++ [x] ∧ ¬ (x.f.k = 1 ∧ ops.length < 256) ∧ x.f.k ≠ 2 ∧ RunG pre0 gs ops ∧ GM w.heap.size sl gs ops vg vo W ∧ (∀ x ∈ pre0, Body w.heap.size x W) ∧ Below w.heap.size w W
theorem GI.own (w : World) (sl : Value) {D : Nat} (hD : w.heap.size ≤ D) : OwnFrom D (GI w sl) := fun pre X Y row ⟨gs, ops, vg, vo, hr, hm, hb, hB⟩ hg hrow =>
  ⟨gs, ops, vg, vo, hr, GM.own _ _ _ _ _ _ () X Y row hm hg (fun r e => (hrow r e).2), body_own (β := Unit) _ (fun _ => pre) () X Y row hb hg (fun r e => (hrow r e).2), ownFrom_below (β := Unit) (Nat.le_refl _) hD () X Y row hB hg hrow⟩
theorem GX.own (w : World) (sl : Value) {D : Nat} (hD : w.heap.size ≤ D) : OwnFrom D (GX w sl) := fun _ X Y row ⟨pre0, x, gs, ops, vg, vo, he, h1, h2, hr, hm, hb, hB⟩ hg hrow =>
  ⟨pre0, x, gs, ops, vg, vo, he, h1, h2, hr, GM.own _ _ _ _ _ _ () X Y row hm hg (fun r e => (hrow r e).2), body_own (β := Unit) _ (fun _ => pre0) () X Y row hb hg (fun r e => (hrow r e).2), ownFrom_below (β := Unit) (Nat.le_refl _) hD () X Y row hB hg hrow⟩
set_option maxRecDepth 100000 in
set_option maxHeartbeats 8000000 in
theorem Groups_any (A : Option Addr) (cap : Nat) (b : List UInt8) (w : World) (hE : Env w) (hA : At w A b) (hz : A = none → cap = 0) (hs : ∀ ad, A = some ad → ∃ bb off, ad = ⟨bb, off, none⟩) (hc : b.length ≤ cap) (hm : b.length ≤ 1000000) :
    Calls Tryd.prog 15 #[.slice A b.length cap] w fun e w' => ∃ v gs, e = .returned (.tuple #[v, .int .i64 (sizeG (groupsL (framesL b) []) : Nat)]) ∧ GroupsR w b v gs w' := by
  have HE := Lib.hid hE
  have HA := Lib.hid hA
  have VA := Lib.hid (fun w => valid_any A b.length cap w)
  clear hE hA
  refine (callsIn_wide (n := 9)).1 (callsIn_of_wp_marks Tryd.func15 rfl trivial ?_ rfl)
  simp only [Tryd.ntmps15, List.size_toArray, List.length_cons, List.length_nil, Nat.reduceAdd, Nat.reduceSub, Array.replicate_succ, Array.replicate_zero, List.push_toArray, List.append_toArray, List.nil_append, List.cons_append]
  refine (wpIn_wide (n := 9)).2 ?_
  go_wp2
  go_step3
  go_wp2
  go_step3
  go_wp2_with (first | (go_at_call 26; ((with_reducible refine (VA.out _).mono ?_); rintro e0 w3 ⟨rfl, rfl⟩)) | fail)
  obtain ⟨W3, hW3⟩ : ∃ W3, (((w.alloc (.cells #[.slice none 0 0] 41)).alloc (.cells #[.slice none 0 0] 49)).alloc (.cells #[.int .i64 0] 3)).alloc (.cells #[.slice A b.length cap] 22) = W3 := ⟨_, rfl⟩
  have s3 : W3.heap.size = w.heap.size + 4 := by rw [← hW3]; simp
  have b3 : Below w.heap.size w W3 := by rw [← hW3]; exact ((((Below.refl _ _).alloc (Nat.le_refl _) _).alloc (by simp) _).alloc (by simp; omega) _).alloc (by simp; omega) _
  have x0 : Boxed W3 w.heap.size 41 (.slice none 0 0) := by rw [← hW3]; exact (((Boxed.new w _ _).alloc _).alloc _).alloc _
  have x1 : Boxed W3 (w.heap.size + 1) 49 (.slice none 0 0) := by
    rw [← hW3]
    have := Boxed.new (w.alloc (.cells #[.slice none 0 0] 41)) 49 (.slice none 0 0)
    rw [World.size_alloc] at this
    exact (this.alloc _).alloc _
  have x2 : Boxed W3 (w.heap.size + 2) 3 (.int .i64 0) := by
    rw [← hW3]
    have := Boxed.new ((w.alloc (.cells #[.slice none 0 0] 41)).alloc (.cells #[.slice none 0 0] 49)) 3 (.int .i64 0)
    rw [World.size_alloc, World.size_alloc] at this
    exact this.alloc _
  have x3 : Boxed W3 (w.heap.size + 3) 22 (.slice A b.length cap) := by
    rw [← hW3]
    have := Boxed.new (((w.alloc (.cells #[.slice none 0 0] 41)).alloc (.cells #[.slice none 0 0] 49)).alloc (.cells #[.int .i64 0] 3)) 22 (.slice A b.length cap)
    rw [World.size_alloc, World.size_alloc, World.size_alloc] at this
    exact this
  rw [hW3]
  clear hW3
  obtain ⟨i0, hi, hz0, hz1, hz2⟩ := info_parts infoGr
  obtain ⟨j0, ji, jz0, jz1, jz2⟩ := info_parts infoOp
  refine (wpIn_wide (n := 9)).1 ?_
  refine wp_ranged (gf := 32) (lb := #[.pointer (some ⟨w.heap.size + 3, 0, none⟩)]) rfl (enters_of Tryd.func32 (by kernel_rfl) rfl)
    (valid_iter w.heap.size w.heap.size A cap (w.heap.size + 3) b W3 (by omega) (by omega) (fun W hb => ⟨HE.out.below (b3.trans hb), HA.out.below (b3.trans hb)⟩) hz hs x3.cell hc (by omega)) (fun _ => rfl) KpF.trans (fun W o o' h _ => kpF_book W o o' (by omega) (by omega) h)
    (GI w (.slice A b.length cap)) (fun c pre W => c = .exit 0 ∧ GX w (.slice A b.length cap) pre W)
    (fun x a' W => ∃ Bx, w.heap.size + 3 < Bx ∧ FBox W Bx (x.f.k : Int) (bodyA x.g x.f.l.length) x.f.l.length x.f.l.length ∧ a' = { tmps := #[.slice A b.length cap, undef, .slice none 0 0, .int .i64 0, .pointer (some ⟨w.heap.size, 0, none⟩), .pointer (some ⟨w.heap.size + 1, 0, none⟩), .pointer (some ⟨w.heap.size + 2, 0, none⟩), .pointer (some ⟨Bx, 0, none⟩), .int .i64 (x.e : Int), .slice A b.length cap, .func (.func 32) #[] #[.pointer (some ⟨w.heap.size + 3, 0, none⟩)], .agg #[.int .i64 (x.f.k : Int), .slice (bodyA x.g x.f.l.length) x.f.l.length x.f.l.length], .int .i64 (x.e : Int), undef, undef, undef, undef, undef, undef, undef, undef, undef, undef, undef, undef, undef, undef, undef, undef, undef, undef, undef, undef, undef, undef, undef, undef, undef, undef, undef, undef], defers := [] })
    (fun s => Abides2.of_own (fun _ X Y row h hg hr => GI.own w _ (by omega) s X Y row h hg hr)) (fun c s => Abides2.of_own (fun _ X Y row h hg hr => ⟨h.1, GX.own w _ (by omega) s X Y row h.2 hg hr⟩))
    (fun x a' => Abides2.of_own (fun _ X Y row h hg hr => by
      obtain ⟨Bx, h1, h2, h3⟩ := h
      exact ⟨Bx, h1, h2.grown hg (fun e' => by obtain ⟨_, o, ho, hc'⟩ := hr Bx e'; rw [show X.heap[Bx]? = _ from h2] at ho; cases ho; cases hc'), h3⟩))
    (fun x => Abides2.of_own (fun _ X Y row h hg hr => Own.from (body_own (β := Unit) w.heap.size (fun _ => [x])) W3.heap.size () X Y row (by simpa using h) hg hr x (by simp)))
    ⟨[], [], _, _, .nil, ⟨x0, World.ownsRow_nil _ _ _ _, x1, World.ownsRow_nil _ _ _ _, x2, x3, (fun j hj => by simp [Value.ownBlock] at hj), (fun g hg => by cases hg), (fun g hg => by cases hg), (fun g hg => by cases hg)⟩, (fun x hx => by cases hx), b3⟩
    ?assign ?body ?done ?stop
  case assign =>
    rintro l m pre x W K hsz hIW hF hK
    dsimp only [encF]
    gi_wp2
    refine hK _ _ ((KeepsOthers.alloc _ _).from _) ⟨(Below.refl _ _).alloc (by omega) _, Below.heap_alloc _ _ _ (by omega)⟩ ((GI.own w _ (by omega : w.heap.size ≤ W3.heap.size)).alloc _ hIW) (hF.grown (World.grownBy_alloc _ _ _)) ⟨W.heap.size, by omega, FBox.new W _ _ _ _, rfl⟩
  case body =>
    rintro l m pre x a' W hsz ⟨gs, ops, vg, vo, hrun, hm', hall, hB⟩ hF ⟨Bx, hBx, bX, rfl⟩ hlt
    have hle := hrun.le
    have HM := Lib.hid hm'
    have HF := Lib.hid hF
    have hg0 := hm'.bg.cell
    have hg1 := hm'.bo.cell
    have hg2 := hm'.bs.cell
    have hg3 := hm'.bo.frozen
    have y0 := bX.c0
    have y1 := bX.c1
    obtain ⟨Po, co, hvo⟩ := own_slice hm'.ro
    subst hvo
    clear hF x0 x1 x2 x3
    have HR := Lib.hid hrun
    have HAl := Lib.hid hall
    clear hrun hall
    obtain ⟨⟨fk, fl⟩, fg, fe⟩ := x
    dsimp only at *
    by_cases h1 : fk = 1 ∧ ops.length < 256
    · obtain ⟨rfl, hol⟩ := h1
      have holi : (ops.length : Int) < 256 := by omega
      have hro := hm'.ro
      clear hm'
      gi_wp2_with (gi_at_builtin; refine wpListIn_append_own_at _ rfl _ _ 49 rfl w.heap.size 22 j0 _ 1 24 Tryd.underlying49 ji jz0 jz1 jz2 rfl (by decide) _ _ _ rfl (hro.alloc _) ⟨W.heap.size, 0, none⟩ 1 1 [.slice (bodyA fg fl.length) fl.length fl.length] rfl rfl (cell_one_new' _ _ _) (by simp [Value.oneCell']) (by unfold maxLen; omega) (by omega) (by have := hB.size; simp; omega) ?_; intro v' w1' hown' hgrow _ hat; have hha := fun (i : Nat) (c : Array Value) (t : TypeId) (fr : Nat × Nat) => heap_appended (v' := v') HM.out.bo HM.out.ro hgrow (i := i) (c := c) (t := t) (fr := fr); obtain ⟨g', cap', rfl⟩ := ownsRow_succ hown'; obtain ⟨hm2, hq, hk2, hbb2⟩ := HM.out.op (x := ⟨⟨1, fl⟩, fg, fe⟩) (by omega) hown' hgrow hat; have hc1 := hq.cell; have hf1 := hq.frozen)
      refine ⟨hk2.from _, ⟨hbb2, (show _ = _ from hm2.bb).trans (show _ = _ from HM.out.bb).symm⟩, gs, ops ++ [⟨⟨1, fl⟩, fg, fe⟩], vg, _, .op HR.out rfl hol, hm2, fun y hy => ?_, hB.trans hbb2⟩
      have hy2 : Body w.heap.size y W := by
        rw [List.mem_append, List.mem_singleton] at hy
        rcases hy with hy | rfl
        · exact HAl.out y hy
        · exact HF.out
      obtain ⟨c', fr', ht⟩ := hy2.typ
      exact hy2.of_block (hha _ _ _ _ ht (by decide) (by decide)) hbb2.size
    · by_cases h2 : fk = 2
      · subst h2
        have hrg := hm'.rg
        obtain ⟨Pg, cg, hvg⟩ := own_slice hrg
        subst hvg
        clear hm' h1
        gi_wp2_with (gi_at_builtin; refine wpListIn_append_own_at _ rfl _ _ 41 rfl w.heap.size 51 i0 _ 2 48 Tryd.underlying41 hi hz0 hz1 hz2 rfl (by decide) _ _ _ rfl (hrg.alloc _) ⟨W.heap.size, 0, none⟩ 1 1 [.slice Po ops.length co, .slice (bodyA fg fl.length) fl.length fl.length] rfl rfl (cell_two_new _ _ _ _) (by simp [Value.oneCell']) (by unfold maxLen; omega) (by omega) (by have := hB.size; simp; omega) ?_; intro v' w1' hown' hgrow _ _; have hha := fun (i : Nat) (c : Array Value) (t : TypeId) (fr : Nat × Nat) => heap_appended (v' := v') HM.out.bg HM.out.rg hgrow (i := i) (c := c) (t := t) (fr := fr); obtain ⟨g', cap', rfl⟩ := ownsRow_succ hown'; obtain ⟨hm2, hq, hq2, hq3, hk2, hbb2⟩ := HM.out.com (x := ⟨⟨2, fl⟩, fg, fe⟩) (by omega) hown' hgrow; have hc1 := hq.cell; have hf1 := hq.frozen; have hc2 := hq2.cell; have hf2 := hq2.frozen; have hc3 := hq3.cell; have hf3 := hq3.frozen)
        refine ⟨hk2.from _, ⟨hbb2, (show _ = _ from hm2.bb).trans (show _ = _ from HM.out.bb).symm⟩, _, _, _, _, .com _ HR.out rfl, hm2, fun y hy => ?_, hB.trans hbb2⟩
        have hy2 : Body w.heap.size y W := by
          rw [List.mem_append, List.mem_singleton] at hy
          rcases hy with hy | rfl
          · exact HAl.out y hy
          · exact HF.out
        obtain ⟨c', fr', ht⟩ := hy2.typ
        have hne1 : y.g ≠ w.heap.size + 1 := fun e => by
          rw [e, show W.heap[w.heap.size + 1]? = _ from HM.out.bo] at ht
          simp at ht
        have hne2 : y.g ≠ w.heap.size + 2 := fun e => by
          rw [e, show W.heap[w.heap.size + 2]? = _ from HM.out.bs] at ht
          simp at ht
        exact hy2.of_block ((Below.heap_setCell _ _ _ _ hne1).trans ((Below.heap_setCell _ _ _ _ hne2).trans (hha _ _ _ _ ht (by decide) (by decide)))) hbb2.size
      · have HX : Hid (GX w (.slice A b.length cap) (pre ++ [⟨⟨fk, fl⟩, fg, fe⟩]) W) := Lib.hid ⟨pre, _, gs, ops, vg, _, rfl, h1, h2, HR.out, HM.out, HAl.out, hB⟩
        clear hm'
        by_cases h3 : fk = 1
        · subst h3
          have hol : ¬ (ops.length : Int) < 256 := fun e => h1 ⟨rfl, by omega⟩
          clear h1 h2
          gi_wp2
          exact ⟨KeepsFrom.refl _ _, rfl, HX.out⟩
        · have t1 : ((fk : Int) == 1) = false := by simpa using (show ¬ (fk : Int) = 1 by omega)
          have t2 : ((fk : Int) == 2) = false := by simpa using (show ¬ (fk : Int) = 2 by omega)
          clear h1 h2 h3
          gi_wp2
          exact ⟨KeepsFrom.refl _ _, rfl, HX.out⟩
  case done =>
    rintro D L W hD hR ⟨gs, ops, vg, vo, hrun, hm', hall, hB⟩ hK
    obtain ⟨e1, e2, e3⟩ := hrun.read hR
    have hc := hm'.bg.cell
    have hd := hm'.bs.cell
    rw [e2] at hd
    have HM := Lib.hid hm'
    have HA := Lib.hid hall
    clear hm' hall x0 x1 x2 x3 e2
    skip
    go_upto_region 12 with fail
    go_quiet (fail)
    go_wp2
    try rw [Exit.noGoto_ret]
    refine ⟨by simp, .inl ⟨_, _, rfl, run_takeDeferred (show (W.drewN nq).heap[D]? = _ from hK), ?_⟩⟩
    have hKd : (W.drewN nq).heap[D]? = some (.deferred (some [])) := hK
    have hB2 : Below w.heap.size w ((W.drewN nq).putObj D (.deferred none)) := (below_drewN' hB nq).trans (belowK_b (w := W3) (by omega) (W.drewN nq) D _ _ hD hKd rfl rfl)
    refine ⟨_, by simp [results, Tryd.results15, go_sem], vg, gs, rfl, ⟨?_, fun g hg => ?_, e1, fun x hx => ?_, e3, hB2⟩⟩
    · exact ownsRow_putObj (W := W.drewN nq) HM.out.rg _ hKd rfl
    · exact ownsRow_putObj (W := W.drewN nq) (HM.out.olds g hg) _ hKd rfl
    · refine body_own (β := Unit) w.heap.size (fun _ => L) () (W.drewN nq) _ (some D) (fun y hy => (HA.out y hy).of_block rfl (Nat.le_refl _)) (grownBy_putObj' (W.drewN nq) D (.deferred none)) (fun r e => by cases e; exact ⟨_, hKd, rfl⟩) x ?_
      show x ∈ L
      rw [hrun.flat]
      exact List.mem_append_left _ hx
  case stop =>
    rintro D c pre W hD ⟨R, hR⟩ ⟨rfl, pre0, x, gs, ops, vg, vo, rfl, h1, h2, hrun, hm', hall, hB⟩ hK
    obtain ⟨e1, e2, e3⟩ := hrun.stop hR h1 h2
    clear h1 h2
    have hc := hm'.bg.cell
    have hd := hm'.bs.cell
    rw [e2] at hd
    have HM := Lib.hid hm'
    have HA := Lib.hid hall
    clear hm' hall x0 x1 x2 x3 e2
    refine (wpIn_wide (n := 9)).2 ?_
    go_wp2
    go_upto_region 12 with fail
    go_quiet (fail)
    go_wp2
    try rw [Exit.noGoto_ret]
    refine ⟨by simp, .inl ⟨_, _, rfl, run_takeDeferred (show (W.drewN nq).heap[D]? = _ from hK), ?_⟩⟩
    have hKd : (W.drewN nq).heap[D]? = some (.deferred (some [])) := hK
    have hB2 : Below w.heap.size w ((W.drewN nq).putObj D (.deferred none)) := (below_drewN' hB nq).trans (belowK_b (w := W3) (by omega) (W.drewN nq) D _ _ hD hKd rfl rfl)
    refine ⟨_, by simp [results, Tryd.results15, go_sem], vg, gs, rfl, ⟨?_, fun g hg => ?_, e1, fun x hx => ?_, e3, hB2⟩⟩
    · exact ownsRow_putObj (W := W.drewN nq) HM.out.rg _ hKd rfl
    · exact ownsRow_putObj (W := W.drewN nq) (HM.out.olds g hg) _ hKd rfl
    · refine body_own (β := Unit) w.heap.size (fun _ => pre0) () (W.drewN nq) _ (some D) (fun y hy => (HA.out y hy).of_block rfl (Nat.le_refl _)) (grownBy_putObj' (W.drewN nq) D (.deferred none)) (fun r e => by cases e; exact ⟨_, hKd, rfl⟩) x ?_
      show x ∈ pre0
      rw [hrun.flat]
      exact List.mem_append_left _ hx
end Go.Proofs.YtbmhgmigcgeooaaDoor
