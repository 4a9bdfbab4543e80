/- Three boxes: what they hold, wherever the walk has come to. -/
/- value.Eq and value.Less, for every two values that may be. -/
/- strings.Clone and value.Word: the same bytes. -/
/- Values and pieces in memory; slices of pieces; what a call says; settable, clone, follows. -/
import Derived.Test.YtmolpogehgeebaaGreatbV4
import Derived.Lib.UnsafeStr
import Derived.Lib.BufferWrite
import Derived.Laws.MakeOwn
import Derived.Test.YtmolpogehgeebaaGreatbB2
import Derived.Test.YtmolpogehgeebaaGreatbJ1
import Derived.Deep.MidRow
namespace Go.Proofs.YtmolpogehgeebaaGreat
open Go.RowKit
/-- What three boxes hold, wherever the walk has come to. -/
def Three (w wc : World) (A B C : Array Value) : Prop :=
  Below w.heap.size w wc ∧ w.heap.size + 3 ≤ wc.heap.size ∧ (∀ j, wc.cell? ⟨w.heap.size, j, none⟩ = A[j]?) ∧ (∀ j, wc.cell? ⟨w.heap.size + 1, j, none⟩ = B[j]?) ∧ (∀ j, wc.cell? ⟨w.heap.size + 2, j, none⟩ = C[j]?)
theorem Three.step {w wc wd : World} {A B C : Array Value} (h : Three w wc A B C) (hb : Below wc.heap.size wc wd) : Three w wd A B C := by
  obtain ⟨h1, h2, h3, h4, h5⟩ := h
  have c := (bcell hb).1
  have s := hb.size
  exact ⟨h1.trans (hb.mono h1.size), by omega, fun j => (c _ j (by omega)).trans (h3 j), fun j => (c _ j (by omega)).trans (h4 j), fun j => (c _ j (by omega)).trans (h5 j)⟩
theorem Three.below {w wc : World} {A B C : Array Value} (h : Three w wc A B C) : Below w.heap.size w wc := h.1
theorem Three.drew {w wc : World} {A B C : Array Value} (h : Three w wc A B C) : Three w wc.drew A B C := ⟨h.1.drew, h.2⟩
theorem Three.on {w wc wd : World} {A B C : Array Value} (hb : Below wc.heap.size wc wd) (h1 : Below w.heap.size w wc) (h2 : w.heap.size + 3 ≤ wc.heap.size) (h3 : ∀ j, wc.cell? ⟨w.heap.size, j, none⟩ = A[j]?) (h4 : ∀ j, wc.cell? ⟨w.heap.size + 1, j, none⟩ = B[j]?) (h5 : ∀ j, wc.cell? ⟨w.heap.size + 2, j, none⟩ = C[j]?) : Three w wd A B C :=
  Three.step ⟨h1, h2, h3, h4, h5⟩ hb
theorem Three.start (w : World) (A B C : Array Value) (t u v : TypeId) : Three w (((w.alloc (.cells A t)).alloc (.cells B u)).alloc (.cells C v)) A B C := by
  refine ⟨(below2 w _ _ 0).alloc (by simp; omega) _, by simp, fun j => ?_, fun j => ?_, fun j => ?_⟩
  · rw [World.cell?_alloc_lt _ _ _ (by simp; omega), World.cell?_alloc_lt _ _ _ (by simp)]
    exact cell_of_row _ _ _ _ _ _ (heap_alloc_new w _)
  · rw [World.cell?_alloc_lt _ _ _ (by simp)]
    exact cell_of_row _ _ _ _ _ _ (by have := heap_alloc_new (w.alloc (.cells A t)) (.cells B u); simpa using this)
  · exact cell_of_row _ _ _ _ _ _ (by have := heap_alloc_new ((w.alloc (.cells A t)).alloc (.cells B u)) (.cells C v); simpa using this)
/-- The same, and the third may be written. -/
def Res (w wc : World) (A B C : Array Value) : Prop := Three w wc A B C ∧ ∀ j, wc.frozen? ⟨w.heap.size + 2, j, none⟩ = false
theorem Res.step {w wc wd : World} {A B C : Array Value} (h : Res w wc A B C) (hb : Below wc.heap.size wc wd) : Res w wd A B C :=
  ⟨h.1.step hb, fun j => ((bcell hb).2 _ j (by have := h.1.2.1; omega)).trans (h.2 j)⟩
theorem Res.below {w wc : World} {A B C : Array Value} (h : Res w wc A B C) : Below w.heap.size w wc := h.1.1
theorem Res.start (w : World) (A B C : Array Value) (t u v : TypeId) : Res w (((w.alloc (.cells A t)).alloc (.cells B u)).alloc (.cells C v)) A B C := by
  refine ⟨Three.start w A B C t u v, fun j => ?_⟩
  have h := heap_alloc_new ((w.alloc (.cells A t)).alloc (.cells B u)) (.cells C v)
  have e : ((w.alloc (.cells A t)).alloc (.cells B u)).heap.size = w.heap.size + 2 := by simp
  rw [e] at h
  unfold World.frozen?
  simp only []
  rw [h]
  simp
end Go.Proofs.YtmolpogehgeebaaGreat


namespace Go.Proofs.YtmolpogehgeebaaGreat
open Go.RowKit
/-- Five cells of one block, written. -/
theorem set5 (W : World) (g : Nat) (x0 x1 x2 x3 x4 : Value) (C : Array Value) (hC : C.size = 5) (hc : ∀ j, W.cell? ⟨g, j, none⟩ = C[j]?) :
    (((((W.setCell ⟨g, 0, none⟩ x0).setCell ⟨g, 1, none⟩ x1).setCell ⟨g, 2, none⟩ x2).setCell ⟨g, 3, none⟩ x3).setCell ⟨g, 4, none⟩ x4).cell? ⟨g, 0, none⟩ = some x0 ∧
    (((((W.setCell ⟨g, 0, none⟩ x0).setCell ⟨g, 1, none⟩ x1).setCell ⟨g, 2, none⟩ x2).setCell ⟨g, 3, none⟩ x3).setCell ⟨g, 4, none⟩ x4).cell? ⟨g, 1, none⟩ = some x1 ∧
    (((((W.setCell ⟨g, 0, none⟩ x0).setCell ⟨g, 1, none⟩ x1).setCell ⟨g, 2, none⟩ x2).setCell ⟨g, 3, none⟩ x3).setCell ⟨g, 4, none⟩ x4).cell? ⟨g, 2, none⟩ = some x2 ∧
    (((((W.setCell ⟨g, 0, none⟩ x0).setCell ⟨g, 1, none⟩ x1).setCell ⟨g, 2, none⟩ x2).setCell ⟨g, 3, none⟩ x3).setCell ⟨g, 4, none⟩ x4).cell? ⟨g, 3, none⟩ = some x3 ∧
    (((((W.setCell ⟨g, 0, none⟩ x0).setCell ⟨g, 1, none⟩ x1).setCell ⟨g, 2, none⟩ x2).setCell ⟨g, 3, none⟩ x3).setCell ⟨g, 4, none⟩ x4).cell? ⟨g, 4, none⟩ = some x4 := by
  have o : ∀ (w : World) (i j : Nat) (x : Value), i ≠ j → (w.setCell ⟨g, i, none⟩ x).cell? ⟨g, j, none⟩ = w.cell? ⟨g, j, none⟩ := fun w i j x h => World.cell?_setCell_other _ _ _ _ (by intro e; simp only [Addr.mk.injEq] at e; omega)
  have k : ∀ j, j < 5 → ∃ u, W.cell? ⟨g, j, none⟩ = some u := fun j hj => ⟨C[j], by rw [hc]; exact Array.getElem?_eq_getElem (by omega)⟩
  obtain ⟨u0, k0⟩ := k 0 (by omega)
  obtain ⟨u1, k1⟩ := k 1 (by omega)
  obtain ⟨u2, k2⟩ := k 2 (by omega)
  obtain ⟨u3, k3⟩ := k 3 (by omega)
  obtain ⟨u4, k4⟩ := k 4 (by omega)
  refine ⟨?_, ?_, ?_, ?_, ?_⟩
  · rw [o _ 4 0 _ (by omega), o _ 3 0 _ (by omega), o _ 2 0 _ (by omega), o _ 1 0 _ (by omega)]
    exact World.cell?_setCell_same _ _ _ k0
  · rw [o _ 4 1 _ (by omega), o _ 3 1 _ (by omega), o _ 2 1 _ (by omega)]
    exact World.cell?_setCell_same _ _ _ (by rw [o _ 0 1 _ (by omega)]; exact k1)
  · rw [o _ 4 2 _ (by omega), o _ 3 2 _ (by omega)]
    exact World.cell?_setCell_same _ _ _ (by rw [o _ 1 2 _ (by omega), o _ 0 2 _ (by omega)]; exact k2)
  · rw [o _ 4 3 _ (by omega)]
    exact World.cell?_setCell_same _ _ _ (by rw [o _ 2 3 _ (by omega), o _ 1 3 _ (by omega), o _ 0 3 _ (by omega)]; exact k3)
  · exact World.cell?_setCell_same _ _ _ (by rw [o _ 3 4 _ (by omega), o _ 2 4 _ (by omega), o _ 1 4 _ (by omega), o _ 0 4 _ (by omega)]; exact k4)
theorem set5_below {w W : World} (g : Nat) (x0 x1 x2 x3 x4 : Value) (hg : w.heap.size ≤ g) (h : Below w.heap.size w W) :
    Below w.heap.size w (((((W.setCell ⟨g, 0, none⟩ x0).setCell ⟨g, 1, none⟩ x1).setCell ⟨g, 2, none⟩ x2).setCell ⟨g, 3, none⟩ x3).setCell ⟨g, 4, none⟩ x4) :=
  ((((h.setCell (p := ⟨g, 0, none⟩) hg _).setCell (p := ⟨g, 1, none⟩) hg _).setCell (p := ⟨g, 2, none⟩) hg _).setCell (p := ⟨g, 3, none⟩) hg _).setCell (p := ⟨g, 4, none⟩) hg _
end Go.Proofs.YtmolpogehgeebaaGreat


namespace Go.Proofs.YtmolpogehgeebaaGreat
open Go.RowKit
theorem uint8_info : (Tryz.prog.info? 5).map (fun i => (i.zero, i.size, i.bytes)) = some (some (.int .u8 0), 1, 1) := by kernel_rfl
set_option maxRecDepth 100000 in
set_option maxHeartbeats 2000000 in
theorem strClone_any (s : ByteArray) (w : World) (h0 : 0 < s.size) (h1 : s.size ≤ 1000) :
    Calls Tryz.prog 147 #[.string s] w fun e w' => e = .returned (.string s) ∧ Below w.heap.size w w' := by
  obtain ⟨i0, hi, hz0, hz1, hz2⟩ := info_parts uint8_info
  have hinfo : (Tryz.prog.info? 5).map (·.size) = some 1 := by rw [hi]; simp [hz1]
  have hco : Tryz.prog.cellsOf 5 = 1 := by kernel_rfl
  obtain ⟨M, hM⟩ : ∃ M, M = madeCells (Value.int .u8 0).cells (((s.size : Nat) : Int).toNat * i0.size) := ⟨_, rfl⟩
  have hMs : M.size = s.size := by rw [hM, size_madeCells, hz1]; simp
  have hmk : ∀ W : World, (Instr.makeSlice 70 (.int .i64 (s.size : Int)) (.int .i64 (s.size : Int))).run Tryz.prog W = .ok (.slice (some ⟨W.heap.size, 0, none⟩) s.size s.size) (W.alloc (.cells M 5)) := fun W => by
    have h := run_make (P := Tryz.prog) W 70 5 i0 (.int .u8 0) Tryz.underlying70 hi hz0 .i64 .i64 (s.size : Int) (s.size : Int) (by omega) (by omega) (by rw [hz2]; omega) (by omega)
    rw [← hM] at h
    simpa using h
  clear hM
  have hcp := Lib.run_copy_row_string (P := Tryz.prog) (w.alloc (.cells M 5)) 70 9 3 5 w.heap.size 0 s.size s.size s M 5 Tryz.underlying70 hinfo (heap_alloc_new w _) (Nat.le_refl _) (by omega)
  obtain ⟨Y, hY⟩ : ∃ Y, Y = (M.toList.take 0 ++ Lib.byteCells s.data.toList ++ M.toList.drop (0 + s.size)).toArray := ⟨_, rfl⟩
  rw [← hY] at hcp
  have hYl : Y.toList = Lib.byteCells s.data.toList := by
    rw [hY, List.toList_toArray, List.take_zero, List.nil_append, List.drop_of_length_le (by rw [Array.length_toList]; omega), List.append_nil]
  have hYs : Y.size = s.size := by rw [← Array.length_toList, hYl, Lib.byteCells_length, ← Lib.size_eq]
  have hgY : ((w.alloc (.cells M 5)).setRow w.heap.size Y).heap[w.heap.size]? = some (.cells Y 5 (0, 0)) := setRow_heap _ _ M _ 5 (0, 0) (heap_alloc_new w _)
  have hne : s.data.toList ≠ [] := fun e => by
    have h := Lib.size_eq s
    rw [e, List.length_nil] at h
    omega
  have hUS := Lib.run_unsafeString_row (P := Tryz.prog) ((w.alloc (.cells M 5)).setRow w.heap.size Y) 253 3 9 5 Tryz.underlying253 hco w.heap.size Y.size (by unfold World.shape?; rw [hgY]) s.data.toList hne (by rw [← Lib.size_eq]; omega) (by rw [← Lib.size_eq]; omega)
    (fun j x hx => Lib.cells_of_row hgY Y.size j _ (by rw [List.take_of_length_le (by rw [Array.length_toList]; exact Nat.le_refl _), hYl]; simp [Lib.byteCells, hx]))
  rw [← Lib.size_eq] at hUS
  clear hY
  have t0 : ((s.size : Int) == 0) = false := beq_eq_false_iff_ne.2 (by omega)
  go_enter Tryz.func147, Tryz.ntmps147
  go_wp2
  go_ret
  have hb1 : Below w.heap.size w (w.alloc (.cells M 5)) := (Below.refl _ w).alloc (Nat.le_refl _) _
  have hb2 : Below w.heap.size (w.alloc (.cells M 5)) ((w.alloc (.cells M 5)).setRow w.heap.size Y) := ⟨rfl, rfl, rfl, by simp, fun k hk => setRow_other _ _ _ _ (by omega)⟩
  exact ⟨rfl, Lib.below_freeze (hb1.trans hb2) (p := ⟨w.heap.size, 0, none⟩) (Nat.le_refl _) _⟩
end Go.Proofs.YtmolpogehgeebaaGreat


namespace Go.Proofs.YtmolpogehgeebaaGreat
open Go.RowKit
/-- A value: its kind, and its four other fields. -/
structure VP where
  k : Int
  b : Bool
  n : Int
  f : Nat
  s : ByteArray
theorem VP.eq {x y : VP} (h1 : x.k = y.k) (h2 : x.b = y.b) (h3 : x.n = y.n) (h4 : x.f = y.f) (h5 : x.s = y.s) : x = y := by
  cases x; cases y; simp only at h1 h2 h3 h4 h5; subst h1 h2 h3 h4 h5; rfl
/-- The value that is nothing. -/
def VP.none : VP := ⟨0, false, 0, 0, ByteArray.empty⟩
def VP.may (v : VP) : Prop := MayV v.k v.b v.n v.f v.s
def VP.wide (v : VP) : Prop := WideV v.k v.n v.f v.s
abbrev VP.cells (v : VP) : Array Value := #[.int .i64 v.k, .bool v.b, .int .i64 v.n, .float .f64 v.f, .string v.s]
abbrev VP.val (v : VP) : Value := .agg v.cells
abbrev Pie := Pl.PC VP
abbrev Pie.cells (x : Pie) : Array Value := #[.int .u64 x.a, .int .u64 x.b, .int .i64 x.v.k, .bool x.v.b, .int .i64 x.v.n, .float .f64 x.v.f, .string x.v.s]
abbrev Pie.val (x : Pie) : Value := .agg (Pie.cells x)
theorem may_none {v : VP} (h : v.may) (hk : v.k = 0) : v = VP.none := by
  unfold VP.may MayV at h
  rw [hk] at h
  simp at h
  exact VP.eq hk h.1 h.2.1 h.2.2.1 h.2.2.2
theorem none_may : VP.none.may := by unfold VP.may MayV VP.none; simp
theorem none_wide : VP.none.wide := by unfold VP.wide WideV VP.none fits; simp
/-- What a property may be set to; what it may be. -/
def setP (v : VP) : Prop := v.may ∧ v.k ≠ 5 ∧ v.k ≠ 6
def okV (v : VP) : Prop := v.wide ∧ v.may ∧ v.k ≠ 0 ∧ v.k ≠ 5 ∧ v.k ≠ 6
theorem none_ok : ¬ okV VP.none := fun h => h.2.2.1 rfl
theorem okV.set {v : VP} (h : okV v) : setP v := ⟨h.2.1, h.2.2.2⟩
theorem set_ok {v : VP} (h : setP v) (hw : v.wide) (hk : v.k ≠ 0) : okV v := ⟨hw, h.1, hk, h.2⟩
/-- The order of two values. -/
def ordV (x y : VP) : Int := cmpK (keyV x.k x.b x.n x.f x.s) (keyV y.k y.b y.n y.f y.s)
theorem ordV_zero {x y : VP} (mx : x.may) (my : y.may) (hx : x.wide) (hy : y.wide) : (ordV x y == 0) = true ↔ x = y := by
  unfold ordV
  rw [beq_iff_eq, good_cmpK.zero]
  constructor
  · intro h
    obtain ⟨h1, h2, h3, h4, h5⟩ := key_inj _ _ _ _ _ _ _ _ _ _ mx my hx.2.2.1 hy.2.2.1 h
    exact VP.eq h1 h2 h3 h4 h5
  · rintro rfl; rfl
theorem lt_heap {w : World} {g : Nat} {o : Obj} (h : w.heap[g]? = some o) : g < w.heap.size := (Array.getElem?_eq_some_iff.1 h).1
theorem bel_drewN {B : Nat} {a w : World} (n : Nat) (h : Below B a w) : Below B a (w.drewN n) := ⟨h.os, h.tape, h.output, h.size, h.block⟩
/-- A call that tells whether P. -/
def Says (P : Prop) (w : World) (e : Ending) (w' : World) : Prop := ∃ c : Bool, e = .returned (.bool c) ∧ (c = true ↔ P) ∧ Below w.heap.size w w'
/-- A box that holds these cells. -/
structure Bx (w : World) (g : Nat) (A : Array Value) : Prop where
  lt : g < w.heap.size
  c : ∀ j, w.cell? ⟨g, j, none⟩ = A[j]?
  fr : ∀ j, w.frozen? ⟨g, j, none⟩ = false
theorem Bx.below {w w' : World} {g : Nat} {A : Array Value} (h : Bx w g A) (hb : Below w.heap.size w w') : Bx w' g A :=
  ⟨Nat.lt_of_lt_of_le h.lt hb.size, fun j => (hb.cell (p := ⟨g, j, none⟩) h.lt).trans (h.c j), fun j => (hb.frozen (p := ⟨g, j, none⟩) h.lt).trans (h.fr j)⟩
theorem Bx.new (w : World) (A : Array Value) (t : TypeId) : Bx (w.alloc (.cells A t)) w.heap.size A := by
  refine ⟨by simp, fun j => cell_of_row _ _ _ _ _ _ (heap_alloc_new w _), fun j => ?_⟩
  have h := heap_alloc_new w (.cells A t)
  unfold World.frozen?
  simp only []
  rw [h]
  simp
theorem al1 {w w1 : World} {A : Array Value} {t : TypeId} (h : Below (w.alloc (.cells A t)).heap.size (w.alloc (.cells A t)) w1) : Below w.heap.size w w1 :=
  ((Below.refl _ _).alloc (Nat.le_refl _) _).trans (h.mono (by simp))
/-! Slices of pieces. -/
def cellsL (l : List Pie) : List Value := l.flatMap fun x => (Pie.cells x).toList
theorem pie_len (x : Pie) : (Pie.cells x).toList.length = 7 := rfl
theorem cellsL_length (l : List Pie) : (cellsL l).length = l.length * 7 := by
  induction l with
  | nil => rfl
  | cons x l ih =>
    have e : cellsL (x :: l) = (Pie.cells x).toList ++ cellsL l := by simp [cellsL]
    rw [e, List.length_append, pie_len, ih, List.length_cons]
    omega
theorem cellsL_append (a b : List Pie) : cellsL (a ++ b) = cellsL a ++ cellsL b := by simp [cellsL]
theorem cellsL_one (x : Pie) : cellsL [x] = (Pie.cells x).toList := by simp [cellsL]
theorem cellsL_get (l : List Pie) (i : Nat) (h : i < l.length) (j : Nat) (hj : j < 7) : (cellsL l)[i * 7 + j]? = ((Pie.cells l[i]).toList)[j]? := by
  induction l generalizing i with
  | nil => simp at h
  | cons x l ih =>
    have e : cellsL (x :: l) = (Pie.cells x).toList ++ cellsL l := by simp [cellsL]
    rw [e]
    cases i with
    | zero => rw [Nat.zero_mul, Nat.zero_add, List.getElem?_append_left (by rw [pie_len]; exact hj)]; rfl
    | succ i =>
      rw [List.getElem?_append_right (by rw [pie_len]; omega), pie_len, show (i + 1) * 7 + j - 7 = i * 7 + j by omega]
      exact ih i (by simpa using h)
/-- Where the pieces of a slice lie. -/
def LAt (w : World) (A : Option Addr) (l : List Pie) : Prop := 0 < l.length → ∃ b off, A = some ⟨b, off, none⟩ ∧ b < w.heap.size ∧ ∀ i (h : i < l.length), w.rangeAt b (off + i * 7) ((Pie.cells l[i]).toList)
/-- A slice that holds these pieces. -/
def SL (w : World) (v : Value) (l : List Pie) : Prop := ∃ A c, v = .slice A l.length c ∧ LAt w A l ∧ l.length ≤ 9223372036854775807
theorem LAt.below {w w' : World} {A : Option Addr} {l : List Pie} (h : LAt w A l) (hb : Below w.heap.size w w') : LAt w' A l := fun h0 => by
  obtain ⟨g, off, e, hl, hc⟩ := h h0
  exact ⟨g, off, e, Nat.lt_of_lt_of_le hl hb.size, fun i hi j v hv => (hb.cell (p := ⟨g, off + i * 7 + j, none⟩) hl).trans (hc i hi j v hv)⟩
theorem SL.below {w w' : World} {v : Value} {l : List Pie} (h : SL w v l) (hb : Below w.heap.size w w') : SL w' v l := by
  obtain ⟨A, c, e, hA, hm⟩ := h
  exact ⟨A, c, e, hA.below hb, hm⟩
theorem SL.nil (w : World) : SL w (.slice none 0 0) [] := ⟨none, 0, rfl, fun h => absurd h (Nat.lt_irrefl 0), by simp⟩
/-- A slice that the call owns holds these pieces. -/
def OwnL (base : Nat) (w : World) (v : Value) (l : List Pie) : Prop := w.ownsRow base 148 7 v l.length (cellsL l)
theorem OwnL.nil (base : Nat) (w : World) : OwnL base w (.slice none 0 0) [] := World.ownsRow_nil w base _ 7
theorem OwnL.below {base : Nat} {w w' : World} {v : Value} {l : List Pie} (h : OwnL base w v l) (hb : Below w.heap.size w w') : OwnL base w' v l := by
  refine ⟨h.1, ?_⟩
  rcases h.2 with h0 | ⟨g, cap, cur, h1, h2, h3, h4⟩
  · exact .inl h0
  · exact .inr ⟨g, cap, cur, h1, h2, (hb.block g (lt_heap h3)).trans h3, h4⟩
theorem OwnL.mono {base base' : Nat} {w : World} {v : Value} {l : List Pie} (h : OwnL base w v l) (hb : base' ≤ base) : OwnL base' w v l := by
  refine ⟨h.1, ?_⟩
  rcases h.2 with h0 | ⟨g, cap, cur, h1, h2, h3⟩
  · exact .inl h0
  · exact .inr ⟨g, cap, cur, h1, Nat.le_trans hb h2, h3⟩
theorem OwnL.at {base : Nat} {w : World} {v : Value} {l : List Pie} (h : OwnL base w v l) : SL w v l := by
  rcases h.2 with ⟨rfl, h0⟩ | ⟨g, cap, cur, rfl, hb, hg, hn, hm, hs, ht⟩
  · obtain rfl : l = [] := List.eq_nil_of_length_eq_zero h0
    exact SL.nil _
  · refine ⟨_, cap, rfl, fun h0 => ⟨g, 0, rfl, lt_heap hg, fun i hi j v hv => ?_⟩, by unfold maxLen at hm; omega⟩
    have hj : j < 7 := by
      have := (List.getElem?_eq_some_iff.1 hv).1
      rwa [pie_len] at this
    have c0 := cellsL_get l i hi j hj
    rw [← ht, List.getElem?_take_of_lt (by omega), Array.getElem?_toList] at c0
    rw [Nat.zero_add, cell_of_row w g (i * 7 + j) cur _ _ hg, c0, hv]
theorem infoL : (Tryz.prog.info? 148).map (fun i => (i.zero, i.size, i.bytes)) = some (some (.agg #[.int .u64 0, .int .u64 0, .int .i64 0, .bool false, .int .i64 0, .float .f64 0, .string ⟨#[]⟩]), 7, 64) := by kernel_rfl
theorem rowL : (Tryz.prog.info? 148).map (·.size) = some 7 := by kernel_rfl
section
set_option maxRecDepth 100000
set_option maxHeartbeats 2000000
theorem valMay_any (v : VP) (hw : v.wide) (w : World) : Calls Tryz.prog 193 #[v.val] w (Says v.may w) :=
  (May_any v.k v.b v.n v.f v.s w hw.2.2.1).mono fun _ _ ⟨e, hb⟩ => ⟨_, e, by unfold mayB; exact decide_eq_true_iff, hb⟩
theorem valSame_any (x y : VP) (hx : x.wide) (hy : y.wide) (mx : x.may) (my : y.may) (w : World) : Calls Tryz.prog 31 #[x.val, y.val] w (Says (x = y) w) :=
  (Same_any x.k x.n y.k y.n x.b y.b x.f y.f x.s y.s w hx hy mx my).mono fun _ _ ⟨e, hb⟩ => ⟨_, e, ordV_zero mx my hx hy, hb⟩
theorem settable_any (v : VP) (hw : v.wide) (w : World) : Calls Tryz.prog 206 #[v.val] w (Says (setP v) w) := by
  have CM := Lib.hid (fun W => valMay_any v hw W)
  have HP : Hid (∀ c : Bool, (c = true ↔ v.may) → ((c && (v.k != 5) && (v.k != 6)) = true ↔ setP v)) := Lib.hid fun c h => by
    unfold setP
    rw [← h]; simp [and_assoc]
  have hsf := store_float
  obtain ⟨k, b, n, f, s⟩ := v
  simp only at HP
  clear hw
  go_enter Tryz.func206, Tryz.ntmps206
  go_upto_region 1 with fail
  go_wp2_with (go_at_call 193; (with_reducible refine (CM.out _).mono ?_); rintro e w1 ⟨c, rfl, hc, hb⟩; obtain ⟨hc1, hf1⟩ := bcell hb; have HS := Lib.hid (HP.out c hc); have B1 := Lib.hid hb; clear hc; cases c)
  all_goals
    go_ret
    refine ⟨_, rfl, ?_, al1 B1.out⟩
    have hh := HS.out; first | (simpa using hh) | (simp_all; done)
end
end Go.Proofs.YtmolpogehgeebaaGreat


