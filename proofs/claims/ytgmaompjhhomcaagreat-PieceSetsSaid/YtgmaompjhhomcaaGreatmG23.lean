/- Three boxes: what they hold, wherever the walk has come to. -/
/- value.Eq and value.Less, for every two values that may be. -/
/- strings.Clone and value.Word: the same bytes. -/
import Derived.Test.YtgmaompjhhomcaaGreatmG22
import Derived.Lib.UnsafeStr
import Derived.Lib.BufferWrite
import Derived.Laws.MakeOwn
namespace Go.Proofs.YtgmaompjhhomcaaGreat
open Go.RowKit
/-- What three boxes hold, wherever the walk has come to. -/
def Three (w wc : World) (A B C : Array Value) : Prop :=
  Below w.heap.size w wc ∧ w.heap.size + 3 ≤ wc.heap.size ∧ (∀ j, wc.cell? ⟨w.heap.size, j, none⟩ = A[j]?) ∧ (∀ j, wc.cell? ⟨w.heap.size + 1, j, none⟩ = B[j]?) ∧ (∀ j, wc.cell? ⟨w.heap.size + 2, j, none⟩ = C[j]?)
theorem Three.step {w wc wd : World} {A B C : Array Value} (h : Three w wc A B C) (hb : Below wc.heap.size wc wd) : Three w wd A B C := by
  obtain ⟨h1, h2, h3, h4, h5⟩ := h
  have c := (bcell hb).1
  have s := hb.size
  exact ⟨h1.trans (hb.mono h1.size), by omega, fun j => (c _ j (by omega)).trans (h3 j), fun j => (c _ j (by omega)).trans (h4 j), fun j => (c _ j (by omega)).trans (h5 j)⟩
theorem Three.below {w wc : World} {A B C : Array Value} (h : Three w wc A B C) : Below w.heap.size w wc := h.1
theorem Three.drew {w wc : World} {A B C : Array Value} (h : Three w wc A B C) : Three w wc.drew A B C := ⟨h.1.drew, h.2⟩
theorem Three.on {w wc wd : World} {A B C : Array Value} (hb : Below wc.heap.size wc wd) (h1 : Below w.heap.size w wc) (h2 : w.heap.size + 3 ≤ wc.heap.size) (h3 : ∀ j, wc.cell? ⟨w.heap.size, j, none⟩ = A[j]?) (h4 : ∀ j, wc.cell? ⟨w.heap.size + 1, j, none⟩ = B[j]?) (h5 : ∀ j, wc.cell? ⟨w.heap.size + 2, j, none⟩ = C[j]?) : Three w wd A B C :=
  Three.step ⟨h1, h2, h3, h4, h5⟩ hb
theorem Three.start (w : World) (A B C : Array Value) (t u v : TypeId) : Three w (((w.alloc (.cells A t)).alloc (.cells B u)).alloc (.cells C v)) A B C := by
  refine ⟨(below2 w _ _ 0).alloc (by simp; omega) _, by simp, fun j => ?_, fun j => ?_, fun j => ?_⟩
  · rw [World.cell?_alloc_lt _ _ _ (by simp; omega), World.cell?_alloc_lt _ _ _ (by simp)]
    exact cell_of_row _ _ _ _ _ _ (heap_alloc_new w _)
  · rw [World.cell?_alloc_lt _ _ _ (by simp)]
    exact cell_of_row _ _ _ _ _ _ (by have := heap_alloc_new (w.alloc (.cells A t)) (.cells B u); simpa using this)
  · exact cell_of_row _ _ _ _ _ _ (by have := heap_alloc_new ((w.alloc (.cells A t)).alloc (.cells B u)) (.cells C v); simpa using this)
/-- The same, and the third may be written. -/
def Res (w wc : World) (A B C : Array Value) : Prop := Three w wc A B C ∧ ∀ j, wc.frozen? ⟨w.heap.size + 2, j, none⟩ = false
theorem Res.step {w wc wd : World} {A B C : Array Value} (h : Res w wc A B C) (hb : Below wc.heap.size wc wd) : Res w wd A B C :=
  ⟨h.1.step hb, fun j => ((bcell hb).2 _ j (by have := h.1.2.1; omega)).trans (h.2 j)⟩
theorem Res.below {w wc : World} {A B C : Array Value} (h : Res w wc A B C) : Below w.heap.size w wc := h.1.1
theorem Res.start (w : World) (A B C : Array Value) (t u v : TypeId) : Res w (((w.alloc (.cells A t)).alloc (.cells B u)).alloc (.cells C v)) A B C := by
  refine ⟨Three.start w A B C t u v, fun j => ?_⟩
  have h := heap_alloc_new ((w.alloc (.cells A t)).alloc (.cells B u)) (.cells C v)
  have e : ((w.alloc (.cells A t)).alloc (.cells B u)).heap.size = w.heap.size + 2 := by simp
  rw [e] at h
  unfold World.frozen?
  simp only []
  rw [h]
  simp
end Go.Proofs.YtgmaompjhhomcaaGreat

namespace Go.Proofs.YtgmaompjhhomcaaGreat
open Go.RowKit
/-- Five cells of one block, written. -/
theorem set5 (W : World) (g : Nat) (x0 x1 x2 x3 x4 : Value) (C : Array Value) (hC : C.size = 5) (hc : ∀ j, W.cell? ⟨g, j, none⟩ = C[j]?) :
    (((((W.setCell ⟨g, 0, none⟩ x0).setCell ⟨g, 1, none⟩ x1).setCell ⟨g, 2, none⟩ x2).setCell ⟨g, 3, none⟩ x3).setCell ⟨g, 4, none⟩ x4).cell? ⟨g, 0, none⟩ = some x0 ∧
    (((((W.setCell ⟨g, 0, none⟩ x0).setCell ⟨g, 1, none⟩ x1).setCell ⟨g, 2, none⟩ x2).setCell ⟨g, 3, none⟩ x3).setCell ⟨g, 4, none⟩ x4).cell? ⟨g, 1, none⟩ = some x1 ∧
    (((((W.setCell ⟨g, 0, none⟩ x0).setCell ⟨g, 1, none⟩ x1).setCell ⟨g, 2, none⟩ x2).setCell ⟨g, 3, none⟩ x3).setCell ⟨g, 4, none⟩ x4).cell? ⟨g, 2, none⟩ = some x2 ∧
    (((((W.setCell ⟨g, 0, none⟩ x0).setCell ⟨g, 1, none⟩ x1).setCell ⟨g, 2, none⟩ x2).setCell ⟨g, 3, none⟩ x3).setCell ⟨g, 4, none⟩ x4).cell? ⟨g, 3, none⟩ = some x3 ∧
    (((((W.setCell ⟨g, 0, none⟩ x0).setCell ⟨g, 1, none⟩ x1).setCell ⟨g, 2, none⟩ x2).setCell ⟨g, 3, none⟩ x3).setCell ⟨g, 4, none⟩ x4).cell? ⟨g, 4, none⟩ = some x4 := by
  have o : ∀ (w : World) (i j : Nat) (x : Value), i ≠ j → (w.setCell ⟨g, i, none⟩ x).cell? ⟨g, j, none⟩ = w.cell? ⟨g, j, none⟩ := fun w i j x h => World.cell?_setCell_other _ _ _ _ (by intro e; simp only [Addr.mk.injEq] at e; omega)
  have k : ∀ j, j < 5 → ∃ u, W.cell? ⟨g, j, none⟩ = some u := fun j hj => ⟨C[j], by rw [hc]; exact Array.getElem?_eq_getElem (by omega)⟩
  obtain ⟨u0, k0⟩ := k 0 (by omega)
  obtain ⟨u1, k1⟩ := k 1 (by omega)
  obtain ⟨u2, k2⟩ := k 2 (by omega)
  obtain ⟨u3, k3⟩ := k 3 (by omega)
  obtain ⟨u4, k4⟩ := k 4 (by omega)
  refine ⟨?_, ?_, ?_, ?_, ?_⟩
  · rw [o _ 4 0 _ (by omega), o _ 3 0 _ (by omega), o _ 2 0 _ (by omega), o _ 1 0 _ (by omega)]
    exact World.cell?_setCell_same _ _ _ k0
  · rw [o _ 4 1 _ (by omega), o _ 3 1 _ (by omega), o _ 2 1 _ (by omega)]
    exact World.cell?_setCell_same _ _ _ (by rw [o _ 0 1 _ (by omega)]; exact k1)
  · rw [o _ 4 2 _ (by omega), o _ 3 2 _ (by omega)]
    exact World.cell?_setCell_same _ _ _ (by rw [o _ 1 2 _ (by omega), o _ 0 2 _ (by omega)]; exact k2)
  · rw [o _ 4 3 _ (by omega)]
    exact World.cell?_setCell_same _ _ _ (by rw [o _ 2 3 _ (by omega), o _ 1 3 _ (by omega), o _ 0 3 _ (by omega)]; exact k3)
  · exact World.cell?_setCell_same _ _ _ (by rw [o _ 3 4 _ (by omega), o _ 2 4 _ (by omega), o _ 1 4 _ (by omega), o _ 0 4 _ (by omega)]; exact k4)
theorem set5_below {w W : World} (g : Nat) (x0 x1 x2 x3 x4 : Value) (hg : w.heap.size ≤ g) (h : Below w.heap.size w W) :
    Below w.heap.size w (((((W.setCell ⟨g, 0, none⟩ x0).setCell ⟨g, 1, none⟩ x1).setCell ⟨g, 2, none⟩ x2).setCell ⟨g, 3, none⟩ x3).setCell ⟨g, 4, none⟩ x4) :=
  ((((h.setCell (p := ⟨g, 0, none⟩) hg _).setCell (p := ⟨g, 1, none⟩) hg _).setCell (p := ⟨g, 2, none⟩) hg _).setCell (p := ⟨g, 3, none⟩) hg _).setCell (p := ⟨g, 4, none⟩) hg _
abbrev nullV : Value := vagg 0 false 0 0 ⟨#[]⟩
abbrev truthV (b : Bool) : Value := vagg 1 b 0 0 ⟨#[]⟩
end Go.Proofs.YtgmaompjhhomcaaGreat

namespace Go.Proofs.YtgmaompjhhomcaaGreat
open Go.RowKit
theorem uint8_info : (Tryz.prog.info? 5).map (fun i => (i.zero, i.size, i.bytes)) = some (some (.int .u8 0), 1, 1) := by kernel_rfl
set_option maxRecDepth 100000 in
set_option maxHeartbeats 2000000 in
theorem strClone_any (s : ByteArray) (w : World) (h0 : 0 < s.size) (h1 : s.size ≤ 1000) :
    Calls Tryz.prog 139 #[.string s] w fun e w' => e = .returned (.string s) ∧ Below w.heap.size w w' := by
  obtain ⟨i0, hi, hz0, hz1, hz2⟩ := info_parts uint8_info
  have hinfo : (Tryz.prog.info? 5).map (·.size) = some 1 := by rw [hi]; simp [hz1]
  have hco : Tryz.prog.cellsOf 5 = 1 := by kernel_rfl
  obtain ⟨M, hM⟩ : ∃ M, M = madeCells (Value.int .u8 0).cells (((s.size : Nat) : Int).toNat * i0.size) := ⟨_, rfl⟩
  have hMs : M.size = s.size := by rw [hM, size_madeCells, hz1]; simp
  have hmk : ∀ W : World, (Instr.makeSlice 106 (.int .i64 (s.size : Int)) (.int .i64 (s.size : Int))).run Tryz.prog W = .ok (.slice (some ⟨W.heap.size, 0, none⟩) s.size s.size) (W.alloc (.cells M 5)) := fun W => by
    have h := run_make (P := Tryz.prog) W 106 5 i0 (.int .u8 0) Tryz.underlying106 hi hz0 .i64 .i64 (s.size : Int) (s.size : Int) (by omega) (by omega) (by rw [hz2]; omega) (by omega)
    rw [← hM] at h
    simpa using h
  clear hM
  have hcp := Lib.run_copy_row_string (P := Tryz.prog) (w.alloc (.cells M 5)) 106 9 3 5 w.heap.size 0 s.size s.size s M 5 Tryz.underlying106 hinfo (heap_alloc_new w _) (Nat.le_refl _) (by omega)
  obtain ⟨Y, hY⟩ : ∃ Y, Y = (M.toList.take 0 ++ Lib.byteCells s.data.toList ++ M.toList.drop (0 + s.size)).toArray := ⟨_, rfl⟩
  rw [← hY] at hcp
  have hYl : Y.toList = Lib.byteCells s.data.toList := by
    rw [hY, List.toList_toArray, List.take_zero, List.nil_append, List.drop_of_length_le (by rw [Array.length_toList]; omega), List.append_nil]
  have hYs : Y.size = s.size := by rw [← Array.length_toList, hYl, Lib.byteCells_length, ← Lib.size_eq]
  have hgY : ((w.alloc (.cells M 5)).setRow w.heap.size Y).heap[w.heap.size]? = some (.cells Y 5 (0, 0)) := setRow_heap _ _ M _ 5 (0, 0) (heap_alloc_new w _)
  have hne : s.data.toList ≠ [] := fun e => by
    have h := Lib.size_eq s
    rw [e, List.length_nil] at h
    omega
  have hUS := Lib.run_unsafeString_row (P := Tryz.prog) ((w.alloc (.cells M 5)).setRow w.heap.size Y) 186 3 9 5 Tryz.underlying186 hco w.heap.size Y.size (by unfold World.shape?; rw [hgY]) s.data.toList hne (by rw [← Lib.size_eq]; omega) (by rw [← Lib.size_eq]; omega)
    (fun j x hx => Lib.cells_of_row hgY Y.size j _ (by rw [List.take_of_length_le (by rw [Array.length_toList]; exact Nat.le_refl _), hYl]; simp [Lib.byteCells, hx]))
  rw [← Lib.size_eq] at hUS
  clear hY
  have t0 : ((s.size : Int) == 0) = false := beq_eq_false_iff_ne.2 (by omega)
  go_enter Tryz.func139, Tryz.ntmps139
  go_wp2
  go_ret
  have hb1 : Below w.heap.size w (w.alloc (.cells M 5)) := (Below.refl _ w).alloc (Nat.le_refl _) _
  have hb2 : Below w.heap.size (w.alloc (.cells M 5)) ((w.alloc (.cells M 5)).setRow w.heap.size Y) := ⟨rfl, rfl, rfl, by simp, fun k hk => setRow_other _ _ _ _ (by omega)⟩
  exact ⟨rfl, Lib.below_freeze (hb1.trans hb2) (p := ⟨w.heap.size, 0, none⟩) (Nat.le_refl _) _⟩
theorem frozen_new (w : World) (C : Array Value) (t : TypeId) (j : Nat) : (w.alloc (.cells C t)).frozen? ⟨w.heap.size, j, none⟩ = false := by
  have h := heap_alloc_new w (.cells C t)
  unfold World.frozen?
  simp only []
  rw [h]
  simp
end Go.Proofs.YtgmaompjhhomcaaGreat

