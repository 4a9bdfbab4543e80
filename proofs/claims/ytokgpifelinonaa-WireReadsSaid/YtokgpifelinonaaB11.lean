/- A step of a reader: what fails is undone. -/
import Derived.Test.YtokgpifelinonaaB10
import Derived.Defers
namespace Go.Proofs.Ytokgpifelinonaa
open Go.RowKit
theorem cell_a3 (w : World) (g : Nat) (h : g < w.heap.size) (o1 o2 o3 : Obj) (i : Nat) : (((w.alloc o1).alloc o2).alloc o3).cell? ⟨g, i, none⟩ = w.cell? ⟨g, i, none⟩ := by
  rw [World.cell?_alloc_lt _ _ _ (by simp <;> omega), World.cell?_alloc_lt _ _ _ (by simp <;> omega), World.cell?_alloc_lt _ _ _ (by simp <;> omega)]
theorem cell_a4 (w : World) (g : Nat) (h : g < w.heap.size) (o1 o2 o3 o4 : Obj) (i : Nat) : ((((w.alloc o1).alloc o2).alloc o3).alloc o4).cell? ⟨g, i, none⟩ = w.cell? ⟨g, i, none⟩ := by
  rw [World.cell?_alloc_lt _ _ _ (by simp <;> omega), cell_a3 w g h]
/-- What lies behind the four variables of a step. -/
structure Vars (w : World) (g k j : Nat) (z : Value) (w5 : World) : Prop where
  c0 : w5.cell? ⟨w.heap.size, 0, none⟩ = some (.pointer (some ⟨g, 0, none⟩))
  c1 : w5.cell? ⟨w.heap.size + 1, 0, none⟩ = some z
  f1 : w5.frozen? ⟨w.heap.size + 1, 0, none⟩ = false
  c2 : w5.cell? ⟨w.heap.size + 1 + 1, 0, none⟩ = some (.int .i64 0)
  f2 : w5.frozen? ⟨w.heap.size + 1 + 1, 0, none⟩ = false
  c3 : w5.cell? ⟨w.heap.size + 1 + 1 + 1, 0, none⟩ = some (.int .i64 k)
  size : w.heap.size + 4 ≤ w5.heap.size
  moved : Moved w g j w5
theorem row_cell {w : World} {b : Nat} {v : Value} {t : TypeId} (h : w.heap[b]? = some (.cells #[v] t (0, 0))) : w.cell? ⟨b, 0, none⟩ = some v ∧ w.frozen? ⟨b, 0, none⟩ = false := by
  refine ⟨by simpa using cell_of_row w b 0 _ _ _ h, ?_⟩
  unfold World.frozen?
  simp only []
  rw [h]
  simp
theorem heap_old (w : World) (o : Obj) {b : Nat} (h : b < w.heap.size) : (w.alloc o).heap[b]? = w.heap[b]? := Below.heap_alloc w o b h
theorem Vars.mk' {w w5 : World} {g k j : Nat} {z : Value} {t0 t1 t2 t3 : TypeId} (hg : g < w.heap.size)
    (hm : Moved ((((w.alloc (.cells #[.pointer (some ⟨g, 0, none⟩)] t0)).alloc (.cells #[z] t1)).alloc (.cells #[.int .i64 0] t2)).alloc (.cells #[.int .i64 k] t3)) g j w5) : Vars w g k j z w5 := by
  have hs := Moved.size hm
  have hs' : w.heap.size + 4 ≤ w5.heap.size := by simpa using hs
  have e0 : w5.heap[w.heap.size]? = some (.cells #[.pointer (some ⟨g, 0, none⟩)] t0 (0, 0)) := by
    rw [Moved.far hm (by simp <;> omega) (by omega), heap_old _ _ (by simp <;> omega), heap_old _ _ (by simp <;> omega), heap_old _ _ (by simp)]
    exact heap_alloc_new w _
  have e1 : w5.heap[w.heap.size + 1]? = some (.cells #[z] t1 (0, 0)) := by
    rw [Moved.far hm (by simp <;> omega) (by omega), heap_old _ _ (by simp <;> omega), heap_old _ _ (by simp)]
    simpa using heap_alloc_new (w.alloc (.cells #[.pointer (some ⟨g, 0, none⟩)] t0)) (.cells #[z] t1)
  have e2 : w5.heap[w.heap.size + 1 + 1]? = some (.cells #[.int .i64 0] t2 (0, 0)) := by
    rw [Moved.far hm (by simp) (by omega), heap_old _ _ (by simp)]
    simpa using heap_alloc_new ((w.alloc (.cells #[.pointer (some ⟨g, 0, none⟩)] t0)).alloc (.cells #[z] t1)) (.cells #[.int .i64 0] t2)
  have e3 : w5.heap[w.heap.size + 1 + 1 + 1]? = some (.cells #[.int .i64 k] t3 (0, 0)) := by
    rw [Moved.far hm (by simp) (by omega)]
    simpa using heap_alloc_new (((w.alloc (.cells #[.pointer (some ⟨g, 0, none⟩)] t0)).alloc (.cells #[z] t1)).alloc (.cells #[.int .i64 0] t2)) (.cells #[.int .i64 k] t3)
  exact ⟨(row_cell e0).1, (row_cell e1).1, (row_cell e1).2, (row_cell e2).1, (row_cell e2).2, (row_cell e3).1, hs',
    Moved.after (((((Below.refl _ _).alloc (Nat.le_refl _) _).alloc (by simp) _).alloc (by simp <;> omega) _).alloc (by simp <;> omega) _) hg hm⟩
set_option maxRecDepth 100000 in
theorem undoU_ok (pe ps pr pt : Addr) (u : FrameMode) (w : World) (h : w.cell? pe = some (.int .i64 0)) :
    CallsD Try.prog 47 #[.pointer (some pe), .pointer (some ps), .pointer (some pr), .pointer (some pt)] u w fun e u' w' => u' = u ∧ (e = .returned (.tuple #[]) ∧ w' = w) := by
  go_enter_d Try.func47, Try.ntmps47
  go_wp2
  go_end0
  exact ⟨rfl, rfl⟩
set_option maxRecDepth 100000 in
theorem undoU_err (pe ps pr pt : Addr) (g : Nat) (k er : Int) (z z' : Value) (u : FrameMode) (w : World) (h : w.cell? pe = some (.int .i64 er)) (her : (er == 0) = false) (hs : w.cell? ps = some (.int .i64 k)) (hr : w.cell? pr = some (.pointer (some ⟨g, 0, none⟩)))
    (hc : w.cell? ⟨g, 1, none⟩ = some z) (hf : w.frozen? ⟨g, 1, none⟩ = false) (ht : w.cell? pt = some z') (htf : w.frozen? pt = false) (hne : pt.block ≠ g) :
    CallsD Try.prog 47 #[.pointer (some pe), .pointer (some ps), .pointer (some pr), .pointer (some pt)] u w fun e u' w' => u' = u ∧ (e = .returned (.tuple #[]) ∧ w' = (w.setCell ⟨g, 1, none⟩ (.int .i64 k)).setCell pt (.int .u64 0)) := by
  have her' : (er != 0) = true := by simp [bne, her]
  have ht' : (w.setCell ⟨g, 1, none⟩ (.int .i64 k)).cell? pt = some z' := by
    rw [World.cell?_setCell_other _ _ _ _ (fun e => hne (congrArg Addr.block e).symm)]
    exact ht
  clear hne her ht
  go_enter_d Try.func47, Try.ntmps47
  go_wp2
  go_end0
  exact ⟨rfl, rfl⟩
set_option maxRecDepth 100000 in
set_option maxHeartbeats 2000000 in
theorem stepU_ok (g k j c : Nat) (A : Option Addr) (l : List UInt8) (w : World) (F : FuncId) (first caps : Array Value) (v : Int) (h : Rd w g k A c l)
    (hF : ∀ args w, (callFunc F args).run Try.prog w = .ok (.enter F args) w)
    (HF : ∀ W, Below w.heap.size w W → Calls Try.prog F (first ++ caps) W fun e W' => e = .returned (.tuple #[.int .u64 v, .int .i64 0]) ∧ Moved W g j W') :
    Calls Try.prog 26 #[.pointer (some ⟨g, 0, none⟩), .func (Fn.func F) first caps] w fun e w' => e = .returned (.tuple #[.int .u64 v, .int .i64 0]) ∧ Moved w g j w' := by
  have h1 := h.c1
  have h2 := h.c2
  have hlt := h.lt
  have HH := Lib.hid HF
  have ha3 := cell_a3 w g hlt
  have ha4 := cell_a4 w g hlt
  clear h HF
  have hmf : ∀ (fn : Fn) (first cap : Array Value) (w : World), (Instr.makeFunc fn first cap).run Try.prog w = .ok (.func fn first cap) w := fun _ _ _ _ => rfl
  go_enter_defers Try.func26, Try.ntmps26
  go_wp2_with (fail)
  refine (HH.out _ (((((Below.refl _ _).alloc (Nat.le_refl _) _).alloc (by simp) _).alloc (by simp <;> omega) _).alloc (by simp <;> omega) _)).mono ?_
  rintro e w5 ⟨rfl, hm⟩
  have V := Vars.mk' hlt hm
  have HV := Lib.hid V
  have v1 := V.c1
  have v2 := V.c2
  have v3 := V.f1
  have v4 := V.f2
  clear hm V ha3 ha4 h1 h2
  go_wp2
  refine leaves_cons (f := 47) (args := #[.pointer (some ⟨w.heap.size + 1 + 1, 0, none⟩), .pointer (some ⟨w.heap.size + 1 + 1 + 1, 0, none⟩), .pointer (some ⟨w.heap.size, 0, none⟩), .pointer (some ⟨w.heap.size + 1, 0, none⟩)]) (by simp) (by simp [go_sem]) ?_
  refine (undoU_ok _ _ _ _ _ _ ?_).mono ?_
  · exact World.cell?_setCell_same _ _ _ (by rw [World.cell?_setCell_other _ _ _ _ (by simp)]; exact v2)
  rintro e u' w'' ⟨rfl, rfl, rfl⟩
  have q1 : ((w5.setCell ⟨w.heap.size + 1, 0, none⟩ (.int .u64 v)).setCell ⟨w.heap.size + 1 + 1, 0, none⟩ (.int .i64 0)).cell? ⟨w.heap.size + 1, 0, none⟩ = some (.int .u64 v) := by
    rw [World.cell?_setCell_other _ _ _ _ (by simp)]
    exact World.cell?_setCell_same _ _ _ v1
  have q2 : ((w5.setCell ⟨w.heap.size + 1, 0, none⟩ (.int .u64 v)).setCell ⟨w.heap.size + 1 + 1, 0, none⟩ (.int .i64 0)).cell? ⟨w.heap.size + 1 + 1, 0, none⟩ = some (.int .i64 0) :=
    World.cell?_setCell_same _ _ _ (by rw [World.cell?_setCell_other _ _ _ _ (by simp)]; exact v2)
  have hmv : Moved w g j ((w5.setCell ⟨w.heap.size + 1, 0, none⟩ (.int .u64 v)).setCell ⟨w.heap.size + 1 + 1, 0, none⟩ (.int .i64 0)) := Below.setCell (Below.setCell HV.out.moved (by simp) _) (by simp <;> omega) _
  have HMV := Lib.hid hmv
  clear hmv
  generalize (w5.setCell ⟨w.heap.size + 1, 0, none⟩ (.int .u64 v)).setCell ⟨w.heap.size + 1 + 1, 0, none⟩ (.int .i64 0) = w6 at *
  simp [Leaves, settle, results, Try.results26, go_sem, q1, q2]
  exact HMV.out
set_option maxRecDepth 100000 in
set_option maxHeartbeats 2000000 in
theorem stepU_err (g k j c : Nat) (A : Option Addr) (l : List UInt8) (w : World) (F : FuncId) (first caps : Array Value) (v er : Int) (h : Rd w g k A c l) (hj : j ≤ l.length) (her : (er == 0) = false)
    (hF : ∀ args w, (callFunc F args).run Try.prog w = .ok (.enter F args) w)
    (HF : ∀ W, Below w.heap.size w W → Calls Try.prog F (first ++ caps) W fun e W' => e = .returned (.tuple #[.int .u64 v, .int .i64 er]) ∧ Moved W g j W') :
    Calls Try.prog 26 #[.pointer (some ⟨g, 0, none⟩), .func (Fn.func F) first caps] w fun e w' => e = .returned (.tuple #[.int .u64 0, .int .i64 er]) ∧ Moved w g k w' := by
  have h1 := h.c1
  have h2 := h.c2
  have hlt := h.lt
  have HH := Lib.hid HF
  have H := Lib.hid h
  have HER := Lib.hid her
  have ha3 := cell_a3 w g hlt
  have ha4 := cell_a4 w g hlt
  clear h HF her
  have hmf : ∀ (fn : Fn) (first cap : Array Value) (w : World), (Instr.makeFunc fn first cap).run Try.prog w = .ok (.func fn first cap) w := fun _ _ _ _ => rfl
  go_enter_defers Try.func26, Try.ntmps26
  go_wp2_with (fail)
  refine (HH.out _ (((((Below.refl _ _).alloc (Nat.le_refl _) _).alloc (by simp) _).alloc (by simp <;> omega) _).alloc (by simp <;> omega) _)).mono ?_
  rintro e w5 ⟨rfl, hm⟩
  have V := Vars.mk' hlt hm
  have HV := Lib.hid V
  have v1 := V.c1
  have v2 := V.c2
  have v3 := V.f1
  have v4 := V.f2
  clear hm V ha3 ha4 h1 h2
  go_wp2
  refine leaves_cons (f := 47) (args := #[.pointer (some ⟨w.heap.size + 1 + 1, 0, none⟩), .pointer (some ⟨w.heap.size + 1 + 1 + 1, 0, none⟩), .pointer (some ⟨w.heap.size, 0, none⟩), .pointer (some ⟨w.heap.size + 1, 0, none⟩)]) (by simp) (by simp [go_sem]) ?_
  have hrd := (H.out.moved HV.out.moved hj)
  have q0 : ∀ b : Addr, b.block ≠ w.heap.size + 1 → b.block ≠ w.heap.size + 1 + 1 → ((w5.setCell ⟨w.heap.size + 1, 0, none⟩ (.int .u64 v)).setCell ⟨w.heap.size + 1 + 1, 0, none⟩ (.int .i64 er)).cell? b = w5.cell? b := by
    intro b b1 b2
    rw [World.cell?_setCell_other _ _ _ _ (fun e => b2 (congrArg Addr.block e).symm), World.cell?_setCell_other _ _ _ _ (fun e => b1 (congrArg Addr.block e).symm)]
  have q1 : ((w5.setCell ⟨w.heap.size + 1, 0, none⟩ (.int .u64 v)).setCell ⟨w.heap.size + 1 + 1, 0, none⟩ (.int .i64 er)).cell? ⟨w.heap.size + 1, 0, none⟩ = some (.int .u64 v) := by
    rw [World.cell?_setCell_other _ _ _ _ (by simp <;> omega)]
    exact World.cell?_setCell_same _ _ _ v1
  have q2 : ((w5.setCell ⟨w.heap.size + 1, 0, none⟩ (.int .u64 v)).setCell ⟨w.heap.size + 1 + 1, 0, none⟩ (.int .i64 er)).cell? ⟨w.heap.size + 1 + 1, 0, none⟩ = some (.int .i64 er) :=
    World.cell?_setCell_same _ _ _ (by rw [World.cell?_setCell_other _ _ _ _ (by simp <;> omega)]; exact v2)
  refine (undoU_err _ _ _ _ g k er _ _ _ _ q2 HER.out ((q0 _ (by simp <;> omega) (by simp <;> omega)).trans HV.out.c3) ((q0 _ (by simp <;> omega) (by simp <;> omega)).trans HV.out.c0) ((q0 _ (by simp <;> omega) (by simp <;> omega)).trans hrd.c1) (by simpa using hrd.f1) q1 (by simpa using v3) (by simp <;> omega)).mono ?_
  rintro e u' w'' ⟨rfl, rfl, rfl⟩
  have r1 : ((((w5.setCell ⟨w.heap.size + 1, 0, none⟩ (.int .u64 v)).setCell ⟨w.heap.size + 1 + 1, 0, none⟩ (.int .i64 er)).setCell ⟨g, 1, none⟩ (.int .i64 k)).setCell ⟨w.heap.size + 1, 0, none⟩ (.int .u64 0)).cell? ⟨w.heap.size + 1, 0, none⟩ = some (.int .u64 0) :=
    World.cell?_setCell_same _ _ _ (by rw [World.cell?_setCell_other _ _ _ _ (by simp <;> omega)]; exact q1)
  have r2 : ((((w5.setCell ⟨w.heap.size + 1, 0, none⟩ (.int .u64 v)).setCell ⟨w.heap.size + 1 + 1, 0, none⟩ (.int .i64 er)).setCell ⟨g, 1, none⟩ (.int .i64 k)).setCell ⟨w.heap.size + 1, 0, none⟩ (.int .u64 0)).cell? ⟨w.heap.size + 1 + 1, 0, none⟩ = some (.int .i64 er) := by
    rw [World.cell?_setCell_other _ _ _ _ (by simp <;> omega), World.cell?_setCell_other _ _ _ _ (by simp <;> omega)]
    exact q2
  have hmv : Moved w g j ((w5.setCell ⟨w.heap.size + 1, 0, none⟩ (.int .u64 v)).setCell ⟨w.heap.size + 1 + 1, 0, none⟩ (.int .i64 er)) := Below.setCell (Below.setCell HV.out.moved (by simp <;> omega) _) (by simp <;> omega) _
  have hmv2 : Moved w g k ((((w5.setCell ⟨w.heap.size + 1, 0, none⟩ (.int .u64 v)).setCell ⟨w.heap.size + 1 + 1, 0, none⟩ (.int .i64 er)).setCell ⟨g, 1, none⟩ (.int .i64 k)).setCell ⟨w.heap.size + 1, 0, none⟩ (.int .u64 0)) :=
    Below.setCell (hmv.trans (Below.refl _ _)) (by simp <;> omega) _
  have HMV := Lib.hid hmv2
  clear hmv hmv2 q0 q1 q2 hrd v1 v2 v3 v4
  generalize ((((w5.setCell ⟨w.heap.size + 1, 0, none⟩ (.int .u64 v)).setCell ⟨w.heap.size + 1 + 1, 0, none⟩ (.int .i64 er)).setCell ⟨g, 1, none⟩ (.int .i64 k)).setCell ⟨w.heap.size + 1, 0, none⟩ (.int .u64 0)) = w6 at *
  simp [Leaves, settle, results, Try.results26, go_sem, r1, r2]
  exact HMV.out
theorem stepU_any (g k j c : Nat) (A : Option Addr) (l : List UInt8) (w : World) (F : FuncId) (first caps : Array Value) (v : Int) (er : Nat) (h : Rd w g k A c l) (hj : j ≤ l.length)
    (hF : ∀ args w, (callFunc F args).run Try.prog w = .ok (.enter F args) w)
    (HF : ∀ W, Below w.heap.size w W → Calls Try.prog F (first ++ caps) W fun e W' => e = .returned (.tuple #[.int .u64 v, .int .i64 er]) ∧ Moved W g j W') :
    Calls Try.prog 26 #[.pointer (some ⟨g, 0, none⟩), .func (Fn.func F) first caps] w fun e w' => e = .returned (.tuple #[if er = 0 then .int .u64 v else .int .u64 0, .int .i64 er]) ∧ Moved w g (if er = 0 then j else k) w' := by
  by_cases h0 : er = 0
  · subst h0
    simp only [if_true]
    exact stepU_ok g k j c A l w F first caps v h hF HF
  · simp only [h0, if_false]
    exact stepU_err g k j c A l w F first caps v er h hj (by simpa using h0) hF HF
end Go.Proofs.Ytokgpifelinonaa
