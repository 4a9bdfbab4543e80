/- Overlap, Stab, All: what overlaps, in order, in a slice of the call's own. -/
import Derived.Test.YtbifgmamjdniaaaC4
namespace Go.Proofs.Ytbifgmamjdniaaa
open Go.RowKit
open Itree (E T dep endT bs ord sz nodes lean rotL rotR bal ins del hasT first AVL Srt eachL over)
attribute [local go_sem] Oper.semAt_some
def cellsE (L : List E) : List Value := L.flatMap fun e => [.int .u64 e.a, .int .u64 e.b, .int .u64 e.n]
theorem cellsE_length (L : List E) : (cellsE L).length = L.length * 3 := by
  induction L with
  | nil => rfl
  | cons x L ih => simp only [cellsE, List.flatMap_cons, List.length_append, List.length_cons, List.length_nil] at *; omega
theorem cellsE_append (A B : List E) : cellsE (A ++ B) = cellsE A ++ cellsE B := by simp [cellsE]
/-- A slice that the call owns holds these entries. -/
def OwnE (base : Nat) (w : World) (v : Value) (L : List E) : Prop := w.ownsRow base 53 3 v L.length (cellsE L)
theorem infoE : (Try.prog.info? 53).map (fun i => (i.zero, i.size, i.bytes)) = some (some (.agg #[.int .u64 0, .int .u64 0, .int .u64 0]), 3, 24) := by kernel_rfl
/-- overlapping: a function over two boxes. -/
theorem overlapping_any (pt : Option Addr) (p q : Int) (w : World) :
    Calls Try.prog 40 #[.pointer pt, .agg #[.int .u64 p, .int .u64 q]] w fun e w' => e = .returned (.func (.func 51) #[] #[.pointer (some ⟨w.heap.size, 0, none⟩), .pointer (some ⟨w.heap.size + 1, 0, none⟩)]) ∧ w' = (w.alloc (.cells #[.pointer pt] 71)).alloc (.cells #[.int .u64 p, .int .u64 q] 32) := by
  go_enter Try.func40, Try.ntmps40
  go_wp2
  go_ret
  exact ⟨rfl, rfl⟩
set_option maxRecDepth 100000 in
set_option maxHeartbeats 1000000 in
theorem overlapping1_any (n0 N : Nat) (J Jx : List E → World → Prop) (hJ : ∀ s W W', J s W → W.grownBy W' none → J s W') (l : Nat) (hY : Rounds l n0 N J Jx) (p q : Int) (t : T) (b1 b2 : Nat) (W : World)
    (ht : IsT W t) (hlt : ∀ k ∈ bs t, k < n0) (hs : n0 ≤ W.heap.size) (hJ0 : J [] W) (hN : sz t ≤ N) (c1 : W.cell? ⟨b1, 0, none⟩ = some (.pointer (ptr t))) (c2 : PBox W b2 p q) :
    Calls Try.prog 51 #[.func (.yield l) #[] #[], .pointer (some ⟨b1, 0, none⟩), .pointer (some ⟨b2, 0, none⟩)] W fun e W' => (∃ v, e = .returned v) ∧ ((∃ ys, ys = eachL p q t ∧ J ys W') ∨ (∃ pre, pre <+: eachL p q t ∧ Jx pre W')) := by
  have d0 := c2.c0
  have d1 := c2.c1
  have HE := Lib.hid (each_any n0 N J Jx hJ l hY p q t [] W ht hlt hs hJ0 (by simpa using hN))
  clear hJ hY ht hlt hs hJ0 hN c2
  generalize ptr t = pt at *
  generalize eachL p q t = L at *
  go_enter Try.func51, Try.ntmps51
  go_wp2_with (first
    | (go_at_call 52; ((with_reducible refine Calls.mono HE.out ?_); rintro e1 w1 ⟨b, rfl, hb⟩; have HB := Lib.hid hb; clear hb))
    | fail)
  go_end0
  rcases HB.out with ⟨rfl, h1, _⟩ | ⟨rfl, s, h1, h2⟩
  · exact ⟨⟨_, rfl⟩, .inl ⟨_, rfl, by simpa using h1⟩⟩
  · exact ⟨⟨_, rfl⟩, .inr ⟨_, h1, by simpa using h2⟩⟩
/-- The iterator that overlapping gives. -/
theorem overlap_stops (n0 : Nat) (p q : Int) (t : T) (b1 b2 : Nat) (w : World) (hb1 : b1 < w.heap.size) (hb2 : b2 < w.heap.size) (ht : IsT w t) (hlt : ∀ k ∈ bs t, k < n0) (hs : n0 ≤ w.heap.size)
    (c1 : w.cell? ⟨b1, 0, none⟩ = some (.pointer (ptr t))) (c2 : PBox w b2 p q) (n : Nat) :
    SeqStopsK Fence.wide n Try.prog 51 #[.pointer (some ⟨b1, 0, none⟩), .pointer (some ⟨b2, 0, none⟩)] (fun x : E => #[entV x]) (Kp n0) (fun ys => ys = eachL p q t) (fun pre => pre <+: eachL p q t) (sz t) w :=
  fun l J Jx W hW hJ _ hY h0 => callsIn_wide.2 (overlapping1_any n0 (sz t) J Jx (fun s A B h g => hJ s A B none h g (fun r e => by cases e)) l
    (fun m pre x W1 hj hl => YieldAt.any' (hY pre x W1 hj hl)) p q t b1 b2 W (ht.below hW) hlt (Nat.le_trans hs hW.size) h0 (Nat.le_refl _)
    ((hW.cell (p := ⟨b1, 0, none⟩) hb1).trans c1) ((hW.block b2 hb2).trans c2))
/-- A block that holds an entry. -/
def EBlk (w : World) (g : Nat) (x : E) : Prop := w.heap[g]? = some (.cells #[.int .u64 x.a, .int .u64 x.b, .int .u64 x.n] 53 (0, 0))
theorem EBlk.cells {w : World} {g : Nat} {x : E} (h : EBlk w g x) : w.cell? ⟨g, 0, none⟩ = some (.int .u64 x.a) ∧ w.cell? ⟨g, 1, none⟩ = some (.int .u64 x.b) ∧ w.cell? ⟨g, 2, none⟩ = some (.int .u64 x.n) := by
  refine ⟨?_, ?_, ?_⟩ <;> simp [World.cell?, show w.heap[g]? = _ from h]
theorem EBlk.kept {W W' : World} {row : Option Nat} {B : Nat} {x : E} (h : EBlk W B x) (hg : W.grownBy W' row) (hne : some B ≠ row) : EBlk W' B x := (hg.block B (Array.getElem?_eq_some_iff.1 h).1 hne).trans h
theorem eblk_own (B : Nat) (x : E) : Own (fun (_ : Unit) W => EBlk W B x) := fun _ X Y row hs hg hrow =>
  hs.kept hg (fun e' => by obtain ⟨o, ho, hc⟩ := hrow B e'.symm; rw [show X.heap[B]? = _ from hs] at ho; cases ho; cases hc)
theorem cell_three_new (w : World) (x y z : Value) (t : TypeId) : ∀ j u, [x, y, z][j]? = some u → (w.alloc (.cells #[x, y, z] t)).cell? ((⟨w.heap.size, 0, none⟩ : Addr).add j) = some u := by
  intro j u hj
  match j, hj with
  | 0, hj => simp at hj; subst hj; simp [Addr.add]
  | 1, hj => simp at hj; subst hj; simp [Addr.add]
  | 2, hj => simp at hj; subst hj; simp [Addr.add]
theorem per_appended {W w1 : World} {n0 B : Nat} {v v' : Value} {k : Nat} {xs : List Value} {tmp : Obj} (hv : Boxed W B 39 v) (hrow : W.ownsRow n0 53 3 v k xs) (hgrow : (W.alloc tmp).grownBy w1 v.ownBlock)
    (i : Nat) (c : Array Value) (h : W.heap[i]? = some (.cells c 32 (0, 0))) : (w1.setCell ⟨B, 0, none⟩ v').heap[i]? = some (.cells c 32 (0, 0)) := by
  have hi := (Array.getElem?_eq_some_iff.1 h).1
  have n1 : i ≠ B := fun e => by
    have := (show W.heap[B]? = _ from hv).symm.trans (e ▸ h)
    simp at this
  have n2 : some i ≠ v.ownBlock := fun e => by
    rcases hrow.2 with ⟨rfl, _⟩ | ⟨g, cap, cur, rfl, _, hgb, _⟩
    · simp [Value.ownBlock] at e
    · obtain rfl : i = g := by simpa [Value.ownBlock] using e
      rw [hgb] at h
      simp at h
  exact (Below.heap_setCell _ _ _ i (by simpa using n1)).trans ((hgrow.block i (by simp; omega) n2).trans ((Below.heap_alloc _ _ i hi).trans h))
theorem kp_book {n0 : Nat} {w : World} (hn : n0 ≤ w.heap.size) (W : World) (l : Nat) (o o' : Obj) (hl : w.heap.size ≤ l) (h : W.heap[l]? = some o) (hc : o.isCells = false) (hw : o.isWalk = false) : Kp n0 W (W.putObj l o') :=
  ⟨belowK_b hn W l o o' hl h hc hw, fun k c hk => (World.putObj_heap_other (fun e => by
    subst e
    rw [hk] at h
    cases h
    cases hc)).trans hk⟩
set_option maxRecDepth 100000 in
set_option maxHeartbeats 1000000 in
theorem Overlap_yes (p q : Int) (hm : mayB p q = true) (qa q2 : Nat) (t : T) (w : World) (h : Tree w qa q2 t) (hs : sz t ≤ 1000000) :
    Calls Try.prog 16 #[.pointer (some ⟨qa, 0, none⟩), .agg #[.int .u64 p, .int .u64 q]] w fun e w' => ∃ v, e = .returned v ∧ OwnE w.heap.size w' v ((ord t).filter (over p q)) ∧ Below w.heap.size w w' := by
  obtain ⟨W, hW⟩ : ∃ W, w.alloc (.cells #[.int .u64 p, .int .u64 q] 32) = W := ⟨_, rfl⟩
  have b0 : Below w.heap.size w W := by rw [← hW]; exact (Below.refl _ _).alloc (Nat.le_refl _) _
  have pb : PBox W w.heap.size p q := by rw [← hW]; exact World.alloc_heap_new w _
  have TW := Lib.hid (h.below b0)
  have B0 := Lib.hid b0
  have d0 := pb.c0
  have d1 := pb.c1
  have PB := Lib.hid pb
  have MA := Lib.hid (made_any qa q2 W TW.out.c0)
  have MY := Lib.hid (hm ▸ May_any p q)
  have HL := Lib.hid (Itree.eachL_eq p q t h.srt)
  have HS := Lib.hid hs
  have LT := Lib.hid (show ∀ k ∈ bs t, k < w.heap.size from fun k hk => h.lt k (by simp [hk]))
  clear h b0 pb hm hs
  refine (callsIn_wide (n := 9)).1 (callsIn_of_wp_marks Try.func16 rfl trivial ?_ rfl)
  simp only [Try.ntmps16, List.size_toArray, List.length_cons, List.length_nil, Nat.reduceAdd, Nat.reduceSub, Array.replicate_succ, Array.replicate_zero, List.push_toArray, List.append_toArray, List.nil_append, List.cons_append]
  refine (wpIn_wide (n := 9)).2 ?_
  go_upto_region 1 with fail
  try rw [hW]
  clear hW
  go_upto_region 4 with (first | (go_at_call 33; ((with_reducible refine (MA.out).mono ?_); rintro e0 w0 ⟨rfl, rfl⟩)) | (go_at_call 24; ((with_reducible refine (MY.out _).mono ?_); rintro e1 w1 ⟨rfl, hb1⟩; have ch1 := Lib.hid hb1; clear hb1)) | fail)
  clear d0 d1 MA MY
  obtain ⟨V, hV⟩ : ∃ V, w1.alloc (.cells #[.slice none 0 0] 39) = V := ⟨_, rfl⟩
  have bW : Below W.heap.size W V.drew := by rw [← hV]; exact ((ch1.out).alloc ch1.out.size _).drew
  have bF : Boxed V.drew w1.heap.size 39 (.slice none 0 0) := by rw [← hV]; exact Boxed.new w1 39 _
  rw [hV]
  have TV := Lib.hid (TW.out.below bW)
  have pb : PBox V.drew w.heap.size p q := (bW.block _ (Array.getElem?_eq_some_iff.1 PB.out).1).trans PB.out
  have e0 := TV.out.c0
  have e1 := TV.out.d0
  have d0 := pb.c0
  have d1 := pb.c1
  have PB2 := Lib.hid pb
  have BW := Lib.hid bW
  have BF := Lib.hid bF
  have HV := Lib.hid hV
  clear pb bW bF hV
  generalize hp : ptr t = pt at *
  have HP := Lib.hid hp
  clear hp
  have OV := Lib.hid (overlapping_any pt p q)
  refine wp_region_noPanic ?_
  go_region_with (first
      | (go_at_call 40; ((with_reducible refine Calls.mono (OV.out _) ?_); rintro e2 w2 ⟨rfl, hw2⟩; have H2 := Lib.hid hw2; clear hw2))
      | fail)
  all_goals (
    refine NoPanic.normal ?_
    clear e0 e1 d0 d1 OV
    go_wp2
    have hw2 := H2.out
    have hsz : w2.heap.size = V.heap.size + 2 := by rw [hw2]; simp
    have bV : Below V.drew.heap.size V.drew w2 := by rw [hw2]; exact ((Below.refl _ _).alloc (Nat.le_refl _) _).alloc (by simp) _
    have c1 : w2.cell? ⟨V.heap.size, 0, none⟩ = some (.pointer (ptr t)) := by rw [hw2, HP.out]; go_simp
    have c2 : PBox w2 (V.heap.size + 1) p q := by
      rw [hw2]
      have := World.alloc_heap_new (V.drew.alloc (.cells #[.pointer pt] 71)) (.cells #[.int .u64 p, .int .u64 q] 32)
      rwa [World.size_alloc] at this
    have bF : Boxed w2 w1.heap.size 39 (.slice none 0 0) := (bV.block _ BF.out.lt).trans BF.out
    have nF : w1.heap.size + 1 = V.heap.size := by rw [← HV.out]; simp
    have s0 := B0.out.size
    have s1 := ch1.out.size
    have bw : Below w.heap.size w w2 := (B0.out.trans (BW.out.mono s0)).trans (bV.mono (by show w.heap.size ≤ V.heap.size; omega))
    have tw : IsT w2 t := TV.out.it.below bV
    have lt0 := LT.out
    have hs := HS.out
    clear hw2 H2 bV BF PB2 TV HV BW
    obtain ⟨i0, hi, hz0, hz1, hz2⟩ := info_parts infoE
    refine (wpIn_wide (n := 9)).1 ?_
    refine wpIn_rangeFunc_ownH (F := Fence.wide) rfl (by decide) (gf := 51) (lb := #[.pointer (some ⟨V.heap.size, 0, none⟩), .pointer (some ⟨V.heap.size + 1, 0, none⟩)]) rfl trivial (enters_of Try.func51 (by kernel_rfl) rfl)
      (overlap_stops w.heap.size p q t V.heap.size (V.heap.size + 1) w2 (by omega) (by omega) tw lt0 (by omega) c1 c2 (9 - 1)) Kp.trans (kp_book (by omega)) (Below.refl _ _) (fun _ => rfl)
      (fun pre W' => (∃ v, Boxed W' w1.heap.size 39 v ∧ W'.ownsRow w.heap.size 53 3 v pre.length (cellsE pre) ∧ True) ∧ Below w.heap.size w W')
      (fun _ _ _ => False)
      (OwnFrom.and (Own.from (holdsRow_own w.heap.size w1.heap.size 39 53 3 (fun pre => pre.length) cellsE (fun _ _ => True)) _) (ownFrom_below (Nat.le_refl _) (by omega)))
      (fun _ _ _ _ _ hs _ _ => hs)
      ⟨⟨_, bF, World.ownsRow_nil _ _ _ _, trivial⟩, bw⟩
      (fun x a' W' => ∃ Bx, w1.heap.size < Bx ∧ EBlk W' Bx x ∧ a' = { tmps := #[.pointer (some ⟨qa, 0, none⟩), .agg #[.int .u64 p, .int .u64 q], undef, .pointer (some ⟨w.heap.size, 0, none⟩), .slice none 0 0, .pointer (some ⟨w1.heap.size, 0, none⟩), .pointer (some ⟨Bx, 0, none⟩), .pointer (some ⟨qa, 0, none⟩), .bool true, .bool false, .bool false, .agg #[.int .u64 p, .int .u64 q], .bool true, .bool false, .bool false, .pointer (some ⟨qa, 0, none⟩), .pointer (some ⟨qa, 0, none⟩), .pointer (some ⟨qa, 0, none⟩), .pointer (some ⟨q2, 0, none⟩), .pointer (some ⟨q2, 0, none⟩), .pointer (some ⟨q2, 0, none⟩), .pointer pt, .agg #[.int .u64 p, .int .u64 q], .func (.func 51) #[] #[.pointer (some ⟨V.heap.size, 0, none⟩), .pointer (some ⟨V.heap.size + 1, 0, none⟩)], entV x, undef, undef, undef, undef, undef], defers := [] })
      (fun x a' _ X Y row hs hg hr => by obtain ⟨Bx, h1, h2, h3⟩ := hs; exact ⟨Bx, h1, eblk_own Bx x () X Y row h2 hg (fun r e => (hr r e).2), h3⟩)
      ?assign ?body ?done ?stop
    case assign =>
      rintro l pre x W' K ⟨⟨v, hv, hrow, _⟩, hB⟩ hK
      gi_wp2
      exact hK _ _ ((KeepsOthers.alloc _ _).from _) (Kp.grown (World.grownBy_alloc _ _ _) hB.size) ⟨⟨v, hv.alloc _, hrow.alloc _, trivial⟩, hB.alloc hB.size _⟩ ⟨W'.heap.size, hv.lt, World.alloc_heap_new W' _, rfl⟩
    case body =>
      rintro l pre x a' W' hl ⟨r, hr⟩ ⟨⟨v, hv, hrow, _⟩, hB⟩ ⟨Bx, hBx, bX, rfl⟩ hlt
      have hc := hv.cell
      obtain ⟨x0, x1, x2⟩ := bX.cells
      gi_wp2_with (gi_at_builtin; refine wpListIn_append_own _ rfl _ _ 39 rfl w.heap.size 53 i0 _ 3 24 Try.underlying39 hi hz0 hz1 hz2 rfl (by decide) _ _ _ rfl (hrow.alloc _) ⟨W'.heap.size, 0, none⟩ 1 1 [.int .u64 x.a, .int .u64 x.b, .int .u64 x.n] rfl rfl (cell_three_new _ _ _ _ _) (by simp [Value.oneCell']) (by unfold maxLen; omega) (by omega) (by have := hB.size; simp; omega) ?_; intro v' w1' hown' hgrow _; have hper := per_appended (v' := v') hv hrow hgrow; obtain ⟨g', cap', rfl⟩ := ownsRow_succ hown'; obtain ⟨hv1, hv2, hr2, hk2, hb2⟩ := hv.appended (by decide) hrow hB.size (by omega) hown' hgrow; have hc1 := hv1.cell; have hf1 := hv1.frozen)
      exact ⟨hk2.from _, ⟨hb2, hper⟩, ⟨_, hv2, by rw [cellsE_append, List.length_append]; exact hr2, trivial⟩, hB.trans hb2⟩
    case done =>
      rintro D ys W' hD rfl ⟨⟨v, hv, hrow, _⟩, hB⟩ hK
      have hc := hv.cell
      go_wp2
      refine ⟨by simp, .inl ⟨_, _, rfl, run_takeDeferred hK, ?_⟩⟩
      exact ⟨_, results_tmp rfl _ _ _, v, rfl, by rw [← HL.out]; exact ownsRow_putObj hrow _ hK rfl, hB.trans (belowK_b (w := w2) (by omega) W' D _ _ hD hK rfl rfl)⟩
    case stop =>
      rintro D c pre W' _ _ h _
      exact h.elim)
set_option maxRecDepth 100000 in
set_option maxHeartbeats 1000000 in
theorem Overlap_no (p q : Int) (hm : mayB p q = false) (qa q2 : Nat) (t : T) (w : World) (h : Tree w qa q2 t) :
    Calls Try.prog 16 #[.pointer (some ⟨qa, 0, none⟩), .agg #[.int .u64 p, .int .u64 q]] w fun e w' => e = .returned (.slice none 0 0) ∧ Below w.heap.size w w' := by
  obtain ⟨W, hW⟩ : ∃ W, w.alloc (.cells #[.int .u64 p, .int .u64 q] 32) = W := ⟨_, rfl⟩
  have b0 : Below w.heap.size w W := by rw [← hW]; exact (Below.refl _ _).alloc (Nat.le_refl _) _
  have pb : PBox W w.heap.size p q := by rw [← hW]; exact World.alloc_heap_new w _
  have TW := Lib.hid (h.below b0)
  have B0 := Lib.hid b0
  have d0 := pb.c0
  have d1 := pb.c1
  have MA := Lib.hid (made_any qa q2 W TW.out.c0)
  have MY := Lib.hid (hm ▸ May_any p q)
  clear h b0 pb hm
  refine (callsIn_wide (n := 9)).1 (callsIn_of_wp_marks Try.func16 rfl trivial ?_ rfl)
  simp only [Try.ntmps16, List.size_toArray, List.length_cons, List.length_nil, Nat.reduceAdd, Nat.reduceSub, Array.replicate_succ, Array.replicate_zero, List.push_toArray, List.append_toArray, List.nil_append, List.cons_append]
  refine (wpIn_wide (n := 9)).2 ?_
  go_upto_region 1 with fail
  try rw [hW]
  clear hW
  go_wp2_with (first | (go_at_call 33; ((with_reducible refine (MA.out).mono ?_); rintro e0 w0 ⟨rfl, rfl⟩)) | (go_at_call 24; ((with_reducible refine (MY.out _).mono ?_); rintro e1 w1 ⟨rfl, hb1⟩; have ch1 := Lib.hid hb1; clear hb1)) | fail)
  exact ⟨_, results_tmp rfl _ _ _, rfl, B0.out.trans (ch1.out.mono B0.out.size)⟩
set_option maxRecDepth 100000 in
set_option maxHeartbeats 1000000 in
theorem Overlap_nil (p q : Int) (w : World) :
    Calls Try.prog 16 #[.pointer none, .agg #[.int .u64 p, .int .u64 q]] w fun e w' => e = .returned (.slice none 0 0) ∧ Below w.heap.size w w' := by
  have MA := Lib.hid (made_nil)
  refine (callsIn_wide (n := 9)).1 (callsIn_of_wp_marks Try.func16 rfl trivial ?_ rfl)
  simp only [Try.ntmps16, List.size_toArray, List.length_cons, List.length_nil, Nat.reduceAdd, Nat.reduceSub, Array.replicate_succ, Array.replicate_zero, List.push_toArray, List.append_toArray, List.nil_append, List.cons_append]
  refine (wpIn_wide (n := 9)).2 ?_
  go_wp2_with (first | (go_at_call 33; ((with_reducible refine (MA.out _).mono ?_); rintro e0 w0 ⟨rfl, rfl⟩)) | fail)
  exact ⟨_, results_tmp rfl _ _ _, rfl, (Below.refl _ _).alloc (Nat.le_refl _) _⟩
/-- What overlaps. -/
def ovl (p q : Int) (t : T) : List E := if mayB p q = true then (ord t).filter (over p q) else []
theorem OwnE.nil (base : Nat) (w : World) : OwnE base w (.slice none 0 0) [] := World.ownsRow_nil _ _ _ _
theorem Overlap_any (p q : Int) (qa q2 : Nat) (t : T) (w : World) (h : Tree w qa q2 t) (hs : sz t ≤ 1000000) :
    Calls Try.prog 16 #[.pointer (some ⟨qa, 0, none⟩), .agg #[.int .u64 p, .int .u64 q]] w fun e w' => ∃ v, e = .returned v ∧ OwnE w.heap.size w' v (ovl p q t) ∧ Below w.heap.size w w' := by
  unfold ovl
  cases hm : mayB p q with
  | true => exact Overlap_yes p q hm qa q2 t w h hs
  | false =>
    refine (Overlap_no p q hm qa q2 t w h).mono ?_
    rintro e w' ⟨rfl, hb⟩
    exact ⟨_, rfl, OwnE.nil _ _, hb⟩
theorem all_ovl {w : World} {qa q2 : Nat} {t : T} (h : Tree w qa q2 t) (h0 : ∀ e ∈ ord t, 0 ≤ e.a) : ovl 0 1099511627776 t = ord t := by
  unfold ovl
  rw [if_pos (by decide), List.filter_eq_self]
  intro e he
  have := h.may e he
  have := h0 e he
  simp only [mayB, Bool.and_eq_true, decide_eq_true_eq] at *
  simp only [over, Bool.and_eq_true, decide_eq_true_eq]
  omega
theorem stab_ovl {w : World} {qa q2 : Nat} {t : T} (h : Tree w qa q2 t) (at' : Int) (ha : 0 ≤ at' ∧ at' ≤ 18446744073709551615) : ovl at' (IntKind.u64.wrap (at' + 1)) t = (ord t).filter (fun e => hasB e.a e.b at') := by
  have nope : 1099511627776 ≤ at' → (ord t).filter (fun e => hasB e.a e.b at') = [] := fun hl => by
    rw [List.filter_eq_nil_iff]
    intro e he
    have h1 := h.may e he
    simp only [hasB, h1, Bool.true_and]
    simp only [mayB, Bool.and_eq_true, decide_eq_true_eq] at *
    omega
  by_cases hm : at' = 18446744073709551615
  · have hw : IntKind.u64.wrap (at' + 1) = 0 := by rw [IntKind.wrap_u64]; omega
    have hx : mayB at' 0 = false := by unfold mayB; rw [decide_eq_false (by omega), Bool.false_and]
    rw [hw, nope (by omega)]
    unfold ovl
    rw [hx]
    rfl
  · have hw : IntKind.u64.wrap (at' + 1) = at' + 1 := by rw [IntKind.wrap_u64]; omega
    rw [hw]
    unfold ovl
    split
    · rename_i hm
      refine List.filter_congr fun e he => ?_
      have h1 := h.may e he
      simp only [over, hasB, h1, Bool.true_and]
      congr 1
      simp only [decide_eq_decide]
      omega
    · rename_i hm
      refine (nope ?_).symm
      simp only [mayB, Bool.and_eq_true, decide_eq_true_eq] at hm
      omega
set_option maxRecDepth 100000 in
theorem All_any (qa q2 : Nat) (t : T) (w : World) (h : Tree w qa q2 t) (h0 : ∀ e ∈ ord t, 0 ≤ e.a) (hs : sz t ≤ 1000000) :
    Calls Try.prog 20 #[.pointer (some ⟨qa, 0, none⟩)] w fun e w' => ∃ v, e = .returned v ∧ OwnE w.heap.size w' v (ord t) ∧ Below w.heap.size w w' := by
  have HO := Overlap_any 0 1099511627776 qa q2 t w h hs
  rw [all_ovl h h0] at HO
  have HO := Lib.hid HO
  clear h
  go_enter Try.func20, Try.ntmps20
  go_wp2_with (first | (go_at_call 16; ((with_reducible refine (HO.out).mono ?_); rintro e0 w0 ⟨v, rfl, hv, hb⟩; have HV := Lib.hid (And.intro hv hb); clear hv hb)) | fail)
  go_ret
  exact ⟨v, rfl, HV.out⟩
set_option maxRecDepth 100000 in
theorem All_nil (w : World) : Calls Try.prog 20 #[.pointer none] w fun e w' => e = .returned (.slice none 0 0) ∧ Below w.heap.size w w' := by
  have HO := Lib.hid (Overlap_nil 0 1099511627776 w)
  go_enter Try.func20, Try.ntmps20
  go_wp2_with (first | (go_at_call 16; ((with_reducible refine (HO.out).mono ?_); rintro e0 w0 ⟨rfl, hb⟩; have HV := Lib.hid hb; clear hb)) | fail)
  go_ret
  exact ⟨rfl, HV.out⟩
set_option maxRecDepth 100000 in
theorem Stab_any (at' : Int) (ha : 0 ≤ at' ∧ at' ≤ 18446744073709551615) (qa q2 : Nat) (t : T) (w : World) (h : Tree w qa q2 t) (hs : sz t ≤ 1000000) :
    Calls Try.prog 14 #[.pointer (some ⟨qa, 0, none⟩), .int .u64 at'] w fun e w' => ∃ v, e = .returned v ∧ OwnE w.heap.size w' v ((ord t).filter (fun e => hasB e.a e.b at')) ∧ Below w.heap.size w w' := by
  have HO := Overlap_any at' (IntKind.u64.wrap (at' + 1)) qa q2 t w h hs
  rw [stab_ovl h at' ha] at HO
  have HO := Lib.hid HO
  clear h ha
  obtain ⟨at2, h2⟩ : ∃ z, IntKind.u64.wrap (at' + 1) = z := ⟨_, rfl⟩
  rw [h2] at HO
  go_enter Try.func14, Try.ntmps14
  go_wp2_with (first | (go_at_call 16; ((with_reducible refine (HO.out).mono ?_); rintro e0 w0 ⟨v, rfl, hv, hb⟩; have HV := Lib.hid (And.intro hv hb); clear hv hb)) | fail)
  go_ret
  exact ⟨v, rfl, HV.out⟩
set_option maxRecDepth 100000 in
theorem Stab_nil (at' : Int) (w : World) : Calls Try.prog 14 #[.pointer none, .int .u64 at'] w fun e w' => e = .returned (.slice none 0 0) ∧ Below w.heap.size w w' := by
  have HO := Lib.hid (fun q => Overlap_nil at' q w)
  obtain ⟨at2, h2⟩ : ∃ z, IntKind.u64.wrap (at' + 1) = z := ⟨_, rfl⟩
  go_enter Try.func14, Try.ntmps14
  go_wp2_with (first | (go_at_call 16; ((with_reducible refine (HO.out _).mono ?_); rintro e0 w0 ⟨rfl, hb⟩; have HV := Lib.hid hb; clear hb)) | fail)
  go_ret
  exact ⟨rfl, HV.out⟩
end Go.Proofs.Ytbifgmamjdniaaa
