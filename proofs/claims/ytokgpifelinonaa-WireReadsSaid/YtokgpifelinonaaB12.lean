/- A step of a reader, for the other kinds of result. -/
import Derived.Test.YtokgpifelinonaaB11
namespace Go.Proofs.Ytokgpifelinonaa
open Go.RowKit
/-- A float is stored as any other cell. -/
theorem store_float (w : World) (a : Addr) (m : Mode) (f : Nat) : (store a (.float .f64 f) m).run Try.prog w = stored Try.prog w a (.float .f64 f) m := run_store Try.prog w a _ m rfl
set_option maxRecDepth 100000 in
theorem undoI_ok (pe ps pr pt : Addr) (u : FrameMode) (w : World) (h : w.cell? pe = some (.int .i64 0)) :
    CallsD Try.prog 49 #[.pointer (some pe), .pointer (some ps), .pointer (some pr), .pointer (some pt)] u w fun e u' w' => u' = u ∧ (e = .returned (.tuple #[]) ∧ w' = w) := by
  go_enter_d Try.func49, Try.ntmps49
  go_wp2
  go_end0
  exact ⟨rfl, rfl⟩
set_option maxRecDepth 100000 in
theorem undoI_err (pe ps pr pt : Addr) (g : Nat) (k er : Int) (z z' : Value) (u : FrameMode) (w : World) (h : w.cell? pe = some (.int .i64 er)) (her : (er == 0) = false) (hs : w.cell? ps = some (.int .i64 k)) (hr : w.cell? pr = some (.pointer (some ⟨g, 0, none⟩)))
    (hc : w.cell? ⟨g, 1, none⟩ = some z) (hf : w.frozen? ⟨g, 1, none⟩ = false) (ht : w.cell? pt = some z') (htf : w.frozen? pt = false) (hne : pt.block ≠ g) :
    CallsD Try.prog 49 #[.pointer (some pe), .pointer (some ps), .pointer (some pr), .pointer (some pt)] u w fun e u' w' => u' = u ∧ (e = .returned (.tuple #[]) ∧ w' = (w.setCell ⟨g, 1, none⟩ (.int .i64 k)).setCell pt (.int .i64 0)) := by
  have her' : (er != 0) = true := by simp [bne, her]
  have ht' : (w.setCell ⟨g, 1, none⟩ (.int .i64 k)).cell? pt = some z' := by
    rw [World.cell?_setCell_other _ _ _ _ (fun e => hne (congrArg Addr.block e).symm)]
    exact ht
  clear hne her ht
  go_enter_d Try.func49, Try.ntmps49
  go_wp2
  go_end0
  exact ⟨rfl, rfl⟩
set_option maxRecDepth 100000 in
set_option maxHeartbeats 2000000 in
theorem stepI_ok (g k j c : Nat) (A : Option Addr) (l : List UInt8) (w : World) (F : FuncId) (first caps : Array Value) (v : Int) (h : Rd w g k A c l)
    (hF : ∀ args w, (callFunc F args).run Try.prog w = .ok (.enter F args) w)
    (HF : ∀ W, Below w.heap.size w W → Calls Try.prog F (first ++ caps) W fun e W' => e = .returned (.tuple #[.int .i64 v, .int .i64 0]) ∧ Moved W g j W') :
    Calls Try.prog 30 #[.pointer (some ⟨g, 0, none⟩), .func (Fn.func F) first caps] w fun e w' => e = .returned (.tuple #[.int .i64 v, .int .i64 0]) ∧ Moved w g j w' := by
  have h1 := h.c1
  have h2 := h.c2
  have hlt := h.lt
  have HH := Lib.hid HF
  have ha3 := cell_a3 w g hlt
  have ha4 := cell_a4 w g hlt
  clear h HF
  have hmf : ∀ (fn : Fn) (first cap : Array Value) (w : World), (Instr.makeFunc fn first cap).run Try.prog w = .ok (.func fn first cap) w := fun _ _ _ _ => rfl
  go_enter_defers Try.func30, Try.ntmps30
  go_wp2_with (fail)
  refine (HH.out _ (((((Below.refl _ _).alloc (Nat.le_refl _) _).alloc (by simp) _).alloc (by simp <;> omega) _).alloc (by simp <;> omega) _)).mono ?_
  rintro e w5 ⟨rfl, hm⟩
  have V := Vars.mk' hlt hm
  have HV := Lib.hid V
  have v1 := V.c1
  have v2 := V.c2
  have v3 := V.f1
  have v4 := V.f2
  clear hm V ha3 ha4 h1 h2
  go_wp2
  refine leaves_cons (f := 49) (args := #[.pointer (some ⟨w.heap.size + 1 + 1, 0, none⟩), .pointer (some ⟨w.heap.size + 1 + 1 + 1, 0, none⟩), .pointer (some ⟨w.heap.size, 0, none⟩), .pointer (some ⟨w.heap.size + 1, 0, none⟩)]) (by simp) (by simp [go_sem]) ?_
  refine (undoI_ok _ _ _ _ _ _ ?_).mono ?_
  · exact World.cell?_setCell_same _ _ _ (by rw [World.cell?_setCell_other _ _ _ _ (by simp)]; exact v2)
  rintro e u' w'' ⟨rfl, rfl, rfl⟩
  have q1 : ((w5.setCell ⟨w.heap.size + 1, 0, none⟩ (.int .i64 v)).setCell ⟨w.heap.size + 1 + 1, 0, none⟩ (.int .i64 0)).cell? ⟨w.heap.size + 1, 0, none⟩ = some (.int .i64 v) := by
    rw [World.cell?_setCell_other _ _ _ _ (by simp)]
    exact World.cell?_setCell_same _ _ _ v1
  have q2 : ((w5.setCell ⟨w.heap.size + 1, 0, none⟩ (.int .i64 v)).setCell ⟨w.heap.size + 1 + 1, 0, none⟩ (.int .i64 0)).cell? ⟨w.heap.size + 1 + 1, 0, none⟩ = some (.int .i64 0) :=
    World.cell?_setCell_same _ _ _ (by rw [World.cell?_setCell_other _ _ _ _ (by simp)]; exact v2)
  have hmv : Moved w g j ((w5.setCell ⟨w.heap.size + 1, 0, none⟩ (.int .i64 v)).setCell ⟨w.heap.size + 1 + 1, 0, none⟩ (.int .i64 0)) := Below.setCell (Below.setCell HV.out.moved (by simp) _) (by simp <;> omega) _
  have HMV := Lib.hid hmv
  clear hmv
  generalize (w5.setCell ⟨w.heap.size + 1, 0, none⟩ (.int .i64 v)).setCell ⟨w.heap.size + 1 + 1, 0, none⟩ (.int .i64 0) = w6 at *
  simp [Leaves, settle, results, Try.results30, go_sem, q1, q2]
  exact HMV.out
set_option maxRecDepth 100000 in
set_option maxHeartbeats 2000000 in
theorem stepI_err (g k j c : Nat) (A : Option Addr) (l : List UInt8) (w : World) (F : FuncId) (first caps : Array Value) (v : Int) (er : Int) (h : Rd w g k A c l) (hj : j ≤ l.length) (her : (er == 0) = false)
    (hF : ∀ args w, (callFunc F args).run Try.prog w = .ok (.enter F args) w)
    (HF : ∀ W, Below w.heap.size w W → Calls Try.prog F (first ++ caps) W fun e W' => e = .returned (.tuple #[.int .i64 v, .int .i64 er]) ∧ Moved W g j W') :
    Calls Try.prog 30 #[.pointer (some ⟨g, 0, none⟩), .func (Fn.func F) first caps] w fun e w' => e = .returned (.tuple #[.int .i64 0, .int .i64 er]) ∧ Moved w g k w' := by
  have h1 := h.c1
  have h2 := h.c2
  have hlt := h.lt
  have HH := Lib.hid HF
  have H := Lib.hid h
  have HER := Lib.hid her
  have ha3 := cell_a3 w g hlt
  have ha4 := cell_a4 w g hlt
  clear h HF her
  have hmf : ∀ (fn : Fn) (first cap : Array Value) (w : World), (Instr.makeFunc fn first cap).run Try.prog w = .ok (.func fn first cap) w := fun _ _ _ _ => rfl
  go_enter_defers Try.func30, Try.ntmps30
  go_wp2_with (fail)
  refine (HH.out _ (((((Below.refl _ _).alloc (Nat.le_refl _) _).alloc (by simp) _).alloc (by simp <;> omega) _).alloc (by simp <;> omega) _)).mono ?_
  rintro e w5 ⟨rfl, hm⟩
  have V := Vars.mk' hlt hm
  have HV := Lib.hid V
  have v1 := V.c1
  have v2 := V.c2
  have v3 := V.f1
  have v4 := V.f2
  clear hm V ha3 ha4 h1 h2
  go_wp2
  refine leaves_cons (f := 49) (args := #[.pointer (some ⟨w.heap.size + 1 + 1, 0, none⟩), .pointer (some ⟨w.heap.size + 1 + 1 + 1, 0, none⟩), .pointer (some ⟨w.heap.size, 0, none⟩), .pointer (some ⟨w.heap.size + 1, 0, none⟩)]) (by simp) (by simp [go_sem]) ?_
  have hrd := (H.out.moved HV.out.moved hj)
  have q0 : ∀ b : Addr, b.block ≠ w.heap.size + 1 → b.block ≠ w.heap.size + 1 + 1 → ((w5.setCell ⟨w.heap.size + 1, 0, none⟩ (.int .i64 v)).setCell ⟨w.heap.size + 1 + 1, 0, none⟩ (.int .i64 er)).cell? b = w5.cell? b := by
    intro b b1 b2
    rw [World.cell?_setCell_other _ _ _ _ (fun e => b2 (congrArg Addr.block e).symm), World.cell?_setCell_other _ _ _ _ (fun e => b1 (congrArg Addr.block e).symm)]
  have q1 : ((w5.setCell ⟨w.heap.size + 1, 0, none⟩ (.int .i64 v)).setCell ⟨w.heap.size + 1 + 1, 0, none⟩ (.int .i64 er)).cell? ⟨w.heap.size + 1, 0, none⟩ = some (.int .i64 v) := by
    rw [World.cell?_setCell_other _ _ _ _ (by simp <;> omega)]
    exact World.cell?_setCell_same _ _ _ v1
  have q2 : ((w5.setCell ⟨w.heap.size + 1, 0, none⟩ (.int .i64 v)).setCell ⟨w.heap.size + 1 + 1, 0, none⟩ (.int .i64 er)).cell? ⟨w.heap.size + 1 + 1, 0, none⟩ = some (.int .i64 er) :=
    World.cell?_setCell_same _ _ _ (by rw [World.cell?_setCell_other _ _ _ _ (by simp <;> omega)]; exact v2)
  refine (undoI_err _ _ _ _ g k er _ _ _ _ q2 HER.out ((q0 _ (by simp <;> omega) (by simp <;> omega)).trans HV.out.c3) ((q0 _ (by simp <;> omega) (by simp <;> omega)).trans HV.out.c0) ((q0 _ (by simp <;> omega) (by simp <;> omega)).trans hrd.c1) (by simpa using hrd.f1) q1 (by simpa using v3) (by simp <;> omega)).mono ?_
  rintro e u' w'' ⟨rfl, rfl, rfl⟩
  have r1 : ((((w5.setCell ⟨w.heap.size + 1, 0, none⟩ (.int .i64 v)).setCell ⟨w.heap.size + 1 + 1, 0, none⟩ (.int .i64 er)).setCell ⟨g, 1, none⟩ (.int .i64 k)).setCell ⟨w.heap.size + 1, 0, none⟩ (.int .i64 0)).cell? ⟨w.heap.size + 1, 0, none⟩ = some (.int .i64 0) :=
    World.cell?_setCell_same _ _ _ (by rw [World.cell?_setCell_other _ _ _ _ (by simp <;> omega)]; exact q1)
  have r2 : ((((w5.setCell ⟨w.heap.size + 1, 0, none⟩ (.int .i64 v)).setCell ⟨w.heap.size + 1 + 1, 0, none⟩ (.int .i64 er)).setCell ⟨g, 1, none⟩ (.int .i64 k)).setCell ⟨w.heap.size + 1, 0, none⟩ (.int .i64 0)).cell? ⟨w.heap.size + 1 + 1, 0, none⟩ = some (.int .i64 er) := by
    rw [World.cell?_setCell_other _ _ _ _ (by simp <;> omega), World.cell?_setCell_other _ _ _ _ (by simp <;> omega)]
    exact q2
  have hmv : Moved w g j ((w5.setCell ⟨w.heap.size + 1, 0, none⟩ (.int .i64 v)).setCell ⟨w.heap.size + 1 + 1, 0, none⟩ (.int .i64 er)) := Below.setCell (Below.setCell HV.out.moved (by simp <;> omega) _) (by simp <;> omega) _
  have hmv2 : Moved w g k ((((w5.setCell ⟨w.heap.size + 1, 0, none⟩ (.int .i64 v)).setCell ⟨w.heap.size + 1 + 1, 0, none⟩ (.int .i64 er)).setCell ⟨g, 1, none⟩ (.int .i64 k)).setCell ⟨w.heap.size + 1, 0, none⟩ (.int .i64 0)) :=
    Below.setCell (hmv.trans (Below.refl _ _)) (by simp <;> omega) _
  have HMV := Lib.hid hmv2
  clear hmv hmv2 q0 q1 q2 hrd v1 v2 v3 v4
  generalize ((((w5.setCell ⟨w.heap.size + 1, 0, none⟩ (.int .i64 v)).setCell ⟨w.heap.size + 1 + 1, 0, none⟩ (.int .i64 er)).setCell ⟨g, 1, none⟩ (.int .i64 k)).setCell ⟨w.heap.size + 1, 0, none⟩ (.int .i64 0)) = w6 at *
  simp [Leaves, settle, results, Try.results30, go_sem, r1, r2]
  exact HMV.out
theorem stepI_any (g k j c : Nat) (A : Option Addr) (l : List UInt8) (w : World) (F : FuncId) (first caps : Array Value) (v : Int) (er : Nat) (h : Rd w g k A c l) (hj : j ≤ l.length)
    (hF : ∀ args w, (callFunc F args).run Try.prog w = .ok (.enter F args) w)
    (HF : ∀ W, Below w.heap.size w W → Calls Try.prog F (first ++ caps) W fun e W' => e = .returned (.tuple #[.int .i64 v, .int .i64 er]) ∧ Moved W g j W') :
    Calls Try.prog 30 #[.pointer (some ⟨g, 0, none⟩), .func (Fn.func F) first caps] w fun e w' => e = .returned (.tuple #[if er = 0 then .int .i64 v else .int .i64 0, .int .i64 er]) ∧ Moved w g (if er = 0 then j else k) w' := by
  by_cases h0 : er = 0
  · subst h0
    simp only [if_true]
    exact stepI_ok g k j c A l w F first caps v h hF HF
  · simp only [h0, if_false]
    exact stepI_err g k j c A l w F first caps v er h hj (by simpa using h0) hF HF
set_option maxRecDepth 100000 in
theorem undoF_ok (pe ps pr pt : Addr) (u : FrameMode) (w : World) (h : w.cell? pe = some (.int .i64 0)) :
    CallsD Try.prog 50 #[.pointer (some pe), .pointer (some ps), .pointer (some pr), .pointer (some pt)] u w fun e u' w' => u' = u ∧ (e = .returned (.tuple #[]) ∧ w' = w) := by
  have hsf := store_float
  go_enter_d Try.func50, Try.ntmps50
  go_wp2
  go_end0
  exact ⟨rfl, rfl⟩
set_option maxRecDepth 100000 in
theorem undoF_err (pe ps pr pt : Addr) (g : Nat) (k er : Int) (z z' : Value) (u : FrameMode) (w : World) (h : w.cell? pe = some (.int .i64 er)) (her : (er == 0) = false) (hs : w.cell? ps = some (.int .i64 k)) (hr : w.cell? pr = some (.pointer (some ⟨g, 0, none⟩)))
    (hc : w.cell? ⟨g, 1, none⟩ = some z) (hf : w.frozen? ⟨g, 1, none⟩ = false) (ht : w.cell? pt = some z') (htf : w.frozen? pt = false) (hne : pt.block ≠ g) :
    CallsD Try.prog 50 #[.pointer (some pe), .pointer (some ps), .pointer (some pr), .pointer (some pt)] u w fun e u' w' => u' = u ∧ (e = .returned (.tuple #[]) ∧ w' = (w.setCell ⟨g, 1, none⟩ (.int .i64 k)).setCell pt (.float .f64 0)) := by
  have her' : (er != 0) = true := by simp [bne, her]
  have ht' : (w.setCell ⟨g, 1, none⟩ (.int .i64 k)).cell? pt = some z' := by
    rw [World.cell?_setCell_other _ _ _ _ (fun e => hne (congrArg Addr.block e).symm)]
    exact ht
  clear hne her ht
  have hsf := store_float
  go_enter_d Try.func50, Try.ntmps50
  go_wp2
  go_end0
  exact ⟨rfl, rfl⟩
set_option maxRecDepth 100000 in
set_option maxHeartbeats 2000000 in
theorem stepF_ok (g k j c : Nat) (A : Option Addr) (l : List UInt8) (w : World) (F : FuncId) (first caps : Array Value) (v : Nat) (h : Rd w g k A c l)
    (hF : ∀ args w, (callFunc F args).run Try.prog w = .ok (.enter F args) w)
    (HF : ∀ W, Below w.heap.size w W → Calls Try.prog F (first ++ caps) W fun e W' => e = .returned (.tuple #[.float .f64 v, .int .i64 0]) ∧ Moved W g j W') :
    Calls Try.prog 32 #[.pointer (some ⟨g, 0, none⟩), .func (Fn.func F) first caps] w fun e w' => e = .returned (.tuple #[.float .f64 v, .int .i64 0]) ∧ Moved w g j w' := by
  have h1 := h.c1
  have h2 := h.c2
  have hlt := h.lt
  have HH := Lib.hid HF
  have ha3 := cell_a3 w g hlt
  have ha4 := cell_a4 w g hlt
  clear h HF
  have hmf : ∀ (fn : Fn) (first cap : Array Value) (w : World), (Instr.makeFunc fn first cap).run Try.prog w = .ok (.func fn first cap) w := fun _ _ _ _ => rfl
  have hsf := store_float
  go_enter_defers Try.func32, Try.ntmps32
  go_wp2_with (fail)
  refine (HH.out _ (((((Below.refl _ _).alloc (Nat.le_refl _) _).alloc (by simp) _).alloc (by simp <;> omega) _).alloc (by simp <;> omega) _)).mono ?_
  rintro e w5 ⟨rfl, hm⟩
  have V := Vars.mk' hlt hm
  have HV := Lib.hid V
  have v1 := V.c1
  have v2 := V.c2
  have v3 := V.f1
  have v4 := V.f2
  clear hm V ha3 ha4 h1 h2
  go_wp2
  refine leaves_cons (f := 50) (args := #[.pointer (some ⟨w.heap.size + 1 + 1, 0, none⟩), .pointer (some ⟨w.heap.size + 1 + 1 + 1, 0, none⟩), .pointer (some ⟨w.heap.size, 0, none⟩), .pointer (some ⟨w.heap.size + 1, 0, none⟩)]) (by simp) (by simp [go_sem]) ?_
  refine (undoF_ok _ _ _ _ _ _ ?_).mono ?_
  · exact World.cell?_setCell_same _ _ _ (by rw [World.cell?_setCell_other _ _ _ _ (by simp)]; exact v2)
  rintro e u' w'' ⟨rfl, rfl, rfl⟩
  have q1 : ((w5.setCell ⟨w.heap.size + 1, 0, none⟩ (.float .f64 v)).setCell ⟨w.heap.size + 1 + 1, 0, none⟩ (.int .i64 0)).cell? ⟨w.heap.size + 1, 0, none⟩ = some (.float .f64 v) := by
    rw [World.cell?_setCell_other _ _ _ _ (by simp)]
    exact World.cell?_setCell_same _ _ _ v1
  have q2 : ((w5.setCell ⟨w.heap.size + 1, 0, none⟩ (.float .f64 v)).setCell ⟨w.heap.size + 1 + 1, 0, none⟩ (.int .i64 0)).cell? ⟨w.heap.size + 1 + 1, 0, none⟩ = some (.int .i64 0) :=
    World.cell?_setCell_same _ _ _ (by rw [World.cell?_setCell_other _ _ _ _ (by simp)]; exact v2)
  have hmv : Moved w g j ((w5.setCell ⟨w.heap.size + 1, 0, none⟩ (.float .f64 v)).setCell ⟨w.heap.size + 1 + 1, 0, none⟩ (.int .i64 0)) := Below.setCell (Below.setCell HV.out.moved (by simp) _) (by simp <;> omega) _
  have HMV := Lib.hid hmv
  clear hmv
  generalize (w5.setCell ⟨w.heap.size + 1, 0, none⟩ (.float .f64 v)).setCell ⟨w.heap.size + 1 + 1, 0, none⟩ (.int .i64 0) = w6 at *
  simp [Leaves, settle, results, Try.results32, go_sem, q1, q2]
  exact HMV.out
set_option maxRecDepth 100000 in
set_option maxHeartbeats 2000000 in
theorem stepF_err (g k j c : Nat) (A : Option Addr) (l : List UInt8) (w : World) (F : FuncId) (first caps : Array Value) (v : Nat) (er : Int) (h : Rd w g k A c l) (hj : j ≤ l.length) (her : (er == 0) = false)
    (hF : ∀ args w, (callFunc F args).run Try.prog w = .ok (.enter F args) w)
    (HF : ∀ W, Below w.heap.size w W → Calls Try.prog F (first ++ caps) W fun e W' => e = .returned (.tuple #[.float .f64 v, .int .i64 er]) ∧ Moved W g j W') :
    Calls Try.prog 32 #[.pointer (some ⟨g, 0, none⟩), .func (Fn.func F) first caps] w fun e w' => e = .returned (.tuple #[.float .f64 0, .int .i64 er]) ∧ Moved w g k w' := by
  have h1 := h.c1
  have h2 := h.c2
  have hlt := h.lt
  have HH := Lib.hid HF
  have H := Lib.hid h
  have HER := Lib.hid her
  have ha3 := cell_a3 w g hlt
  have ha4 := cell_a4 w g hlt
  clear h HF her
  have hmf : ∀ (fn : Fn) (first cap : Array Value) (w : World), (Instr.makeFunc fn first cap).run Try.prog w = .ok (.func fn first cap) w := fun _ _ _ _ => rfl
  have hsf := store_float
  go_enter_defers Try.func32, Try.ntmps32
  go_wp2_with (fail)
  refine (HH.out _ (((((Below.refl _ _).alloc (Nat.le_refl _) _).alloc (by simp) _).alloc (by simp <;> omega) _).alloc (by simp <;> omega) _)).mono ?_
  rintro e w5 ⟨rfl, hm⟩
  have V := Vars.mk' hlt hm
  have HV := Lib.hid V
  have v1 := V.c1
  have v2 := V.c2
  have v3 := V.f1
  have v4 := V.f2
  clear hm V ha3 ha4 h1 h2
  go_wp2
  refine leaves_cons (f := 50) (args := #[.pointer (some ⟨w.heap.size + 1 + 1, 0, none⟩), .pointer (some ⟨w.heap.size + 1 + 1 + 1, 0, none⟩), .pointer (some ⟨w.heap.size, 0, none⟩), .pointer (some ⟨w.heap.size + 1, 0, none⟩)]) (by simp) (by simp [go_sem]) ?_
  have hrd := (H.out.moved HV.out.moved hj)
  have q0 : ∀ b : Addr, b.block ≠ w.heap.size + 1 → b.block ≠ w.heap.size + 1 + 1 → ((w5.setCell ⟨w.heap.size + 1, 0, none⟩ (.float .f64 v)).setCell ⟨w.heap.size + 1 + 1, 0, none⟩ (.int .i64 er)).cell? b = w5.cell? b := by
    intro b b1 b2
    rw [World.cell?_setCell_other _ _ _ _ (fun e => b2 (congrArg Addr.block e).symm), World.cell?_setCell_other _ _ _ _ (fun e => b1 (congrArg Addr.block e).symm)]
  have q1 : ((w5.setCell ⟨w.heap.size + 1, 0, none⟩ (.float .f64 v)).setCell ⟨w.heap.size + 1 + 1, 0, none⟩ (.int .i64 er)).cell? ⟨w.heap.size + 1, 0, none⟩ = some (.float .f64 v) := by
    rw [World.cell?_setCell_other _ _ _ _ (by simp <;> omega)]
    exact World.cell?_setCell_same _ _ _ v1
  have q2 : ((w5.setCell ⟨w.heap.size + 1, 0, none⟩ (.float .f64 v)).setCell ⟨w.heap.size + 1 + 1, 0, none⟩ (.int .i64 er)).cell? ⟨w.heap.size + 1 + 1, 0, none⟩ = some (.int .i64 er) :=
    World.cell?_setCell_same _ _ _ (by rw [World.cell?_setCell_other _ _ _ _ (by simp <;> omega)]; exact v2)
  refine (undoF_err _ _ _ _ g k er _ _ _ _ q2 HER.out ((q0 _ (by simp <;> omega) (by simp <;> omega)).trans HV.out.c3) ((q0 _ (by simp <;> omega) (by simp <;> omega)).trans HV.out.c0) ((q0 _ (by simp <;> omega) (by simp <;> omega)).trans hrd.c1) (by simpa using hrd.f1) q1 (by simpa using v3) (by simp <;> omega)).mono ?_
  rintro e u' w'' ⟨rfl, rfl, rfl⟩
  have r1 : ((((w5.setCell ⟨w.heap.size + 1, 0, none⟩ (.float .f64 v)).setCell ⟨w.heap.size + 1 + 1, 0, none⟩ (.int .i64 er)).setCell ⟨g, 1, none⟩ (.int .i64 k)).setCell ⟨w.heap.size + 1, 0, none⟩ (.float .f64 0)).cell? ⟨w.heap.size + 1, 0, none⟩ = some (.float .f64 0) :=
    World.cell?_setCell_same _ _ _ (by rw [World.cell?_setCell_other _ _ _ _ (by simp <;> omega)]; exact q1)
  have r2 : ((((w5.setCell ⟨w.heap.size + 1, 0, none⟩ (.float .f64 v)).setCell ⟨w.heap.size + 1 + 1, 0, none⟩ (.int .i64 er)).setCell ⟨g, 1, none⟩ (.int .i64 k)).setCell ⟨w.heap.size + 1, 0, none⟩ (.float .f64 0)).cell? ⟨w.heap.size + 1 + 1, 0, none⟩ = some (.int .i64 er) := by
    rw [World.cell?_setCell_other _ _ _ _ (by simp <;> omega), World.cell?_setCell_other _ _ _ _ (by simp <;> omega)]
    exact q2
  have hmv : Moved w g j ((w5.setCell ⟨w.heap.size + 1, 0, none⟩ (.float .f64 v)).setCell ⟨w.heap.size + 1 + 1, 0, none⟩ (.int .i64 er)) := Below.setCell (Below.setCell HV.out.moved (by simp <;> omega) _) (by simp <;> omega) _
  have hmv2 : Moved w g k ((((w5.setCell ⟨w.heap.size + 1, 0, none⟩ (.float .f64 v)).setCell ⟨w.heap.size + 1 + 1, 0, none⟩ (.int .i64 er)).setCell ⟨g, 1, none⟩ (.int .i64 k)).setCell ⟨w.heap.size + 1, 0, none⟩ (.float .f64 0)) :=
    Below.setCell (hmv.trans (Below.refl _ _)) (by simp <;> omega) _
  have HMV := Lib.hid hmv2
  clear hmv hmv2 q0 q1 q2 hrd v1 v2 v3 v4
  generalize ((((w5.setCell ⟨w.heap.size + 1, 0, none⟩ (.float .f64 v)).setCell ⟨w.heap.size + 1 + 1, 0, none⟩ (.int .i64 er)).setCell ⟨g, 1, none⟩ (.int .i64 k)).setCell ⟨w.heap.size + 1, 0, none⟩ (.float .f64 0)) = w6 at *
  simp [Leaves, settle, results, Try.results32, go_sem, r1, r2]
  exact HMV.out
theorem stepF_any (g k j c : Nat) (A : Option Addr) (l : List UInt8) (w : World) (F : FuncId) (first caps : Array Value) (v : Nat) (er : Nat) (h : Rd w g k A c l) (hj : j ≤ l.length)
    (hF : ∀ args w, (callFunc F args).run Try.prog w = .ok (.enter F args) w)
    (HF : ∀ W, Below w.heap.size w W → Calls Try.prog F (first ++ caps) W fun e W' => e = .returned (.tuple #[.float .f64 v, .int .i64 er]) ∧ Moved W g j W') :
    Calls Try.prog 32 #[.pointer (some ⟨g, 0, none⟩), .func (Fn.func F) first caps] w fun e w' => e = .returned (.tuple #[if er = 0 then .float .f64 v else .float .f64 0, .int .i64 er]) ∧ Moved w g (if er = 0 then j else k) w' := by
  by_cases h0 : er = 0
  · subst h0
    simp only [if_true]
    exact stepF_ok g k j c A l w F first caps v h hF HF
  · simp only [h0, if_false]
    exact stepF_err g k j c A l w F first caps v er h hj (by simpa using h0) hF HF
set_option maxRecDepth 100000 in
theorem undoS_ok (pe ps pr pt : Addr) (u : FrameMode) (w : World) (h : w.cell? pe = some (.int .i64 0)) :
    CallsD Try.prog 56 #[.pointer (some pe), .pointer (some ps), .pointer (some pr), .pointer (some pt)] u w fun e u' w' => u' = u ∧ (e = .returned (.tuple #[]) ∧ w' = w) := by
  go_enter_d Try.func56, Try.ntmps56
  go_wp2
  go_end0
  exact ⟨rfl, rfl⟩
set_option maxRecDepth 100000 in
theorem undoS_err (pe ps pr pt : Addr) (g : Nat) (k er : Int) (z z' : Value) (u : FrameMode) (w : World) (h : w.cell? pe = some (.int .i64 er)) (her : (er == 0) = false) (hs : w.cell? ps = some (.int .i64 k)) (hr : w.cell? pr = some (.pointer (some ⟨g, 0, none⟩)))
    (hc : w.cell? ⟨g, 1, none⟩ = some z) (hf : w.frozen? ⟨g, 1, none⟩ = false) (ht : w.cell? pt = some z') (htf : w.frozen? pt = false) (hne : pt.block ≠ g) :
    CallsD Try.prog 56 #[.pointer (some pe), .pointer (some ps), .pointer (some pr), .pointer (some pt)] u w fun e u' w' => u' = u ∧ (e = .returned (.tuple #[]) ∧ w' = (w.setCell ⟨g, 1, none⟩ (.int .i64 k)).setCell pt (.string ⟨#[]⟩)) := by
  have her' : (er != 0) = true := by simp [bne, her]
  have ht' : (w.setCell ⟨g, 1, none⟩ (.int .i64 k)).cell? pt = some z' := by
    rw [World.cell?_setCell_other _ _ _ _ (fun e => hne (congrArg Addr.block e).symm)]
    exact ht
  clear hne her ht
  go_enter_d Try.func56, Try.ntmps56
  go_wp2
  go_end0
  exact ⟨rfl, rfl⟩
set_option maxRecDepth 100000 in
set_option maxHeartbeats 2000000 in
theorem stepS_ok (g k j c : Nat) (A : Option Addr) (l : List UInt8) (w : World) (F : FuncId) (first caps : Array Value) (v : ByteArray) (h : Rd w g k A c l)
    (hF : ∀ args w, (callFunc F args).run Try.prog w = .ok (.enter F args) w)
    (HF : ∀ W, Below w.heap.size w W → Calls Try.prog F (first ++ caps) W fun e W' => e = .returned (.tuple #[.string v, .int .i64 0]) ∧ Moved W g j W') :
    Calls Try.prog 36 #[.pointer (some ⟨g, 0, none⟩), .func (Fn.func F) first caps] w fun e w' => e = .returned (.tuple #[.string v, .int .i64 0]) ∧ Moved w g j w' := by
  have h1 := h.c1
  have h2 := h.c2
  have hlt := h.lt
  have HH := Lib.hid HF
  have ha3 := cell_a3 w g hlt
  have ha4 := cell_a4 w g hlt
  clear h HF
  have hmf : ∀ (fn : Fn) (first cap : Array Value) (w : World), (Instr.makeFunc fn first cap).run Try.prog w = .ok (.func fn first cap) w := fun _ _ _ _ => rfl
  go_enter_defers Try.func36, Try.ntmps36
  go_wp2_with (fail)
  refine (HH.out _ (((((Below.refl _ _).alloc (Nat.le_refl _) _).alloc (by simp) _).alloc (by simp <;> omega) _).alloc (by simp <;> omega) _)).mono ?_
  rintro e w5 ⟨rfl, hm⟩
  have V := Vars.mk' hlt hm
  have HV := Lib.hid V
  have v1 := V.c1
  have v2 := V.c2
  have v3 := V.f1
  have v4 := V.f2
  clear hm V ha3 ha4 h1 h2
  go_wp2
  refine leaves_cons (f := 56) (args := #[.pointer (some ⟨w.heap.size + 1 + 1, 0, none⟩), .pointer (some ⟨w.heap.size + 1 + 1 + 1, 0, none⟩), .pointer (some ⟨w.heap.size, 0, none⟩), .pointer (some ⟨w.heap.size + 1, 0, none⟩)]) (by simp) (by simp [go_sem]) ?_
  refine (undoS_ok _ _ _ _ _ _ ?_).mono ?_
  · exact World.cell?_setCell_same _ _ _ (by rw [World.cell?_setCell_other _ _ _ _ (by simp)]; exact v2)
  rintro e u' w'' ⟨rfl, rfl, rfl⟩
  have q1 : ((w5.setCell ⟨w.heap.size + 1, 0, none⟩ (.string v)).setCell ⟨w.heap.size + 1 + 1, 0, none⟩ (.int .i64 0)).cell? ⟨w.heap.size + 1, 0, none⟩ = some (.string v) := by
    rw [World.cell?_setCell_other _ _ _ _ (by simp)]
    exact World.cell?_setCell_same _ _ _ v1
  have q2 : ((w5.setCell ⟨w.heap.size + 1, 0, none⟩ (.string v)).setCell ⟨w.heap.size + 1 + 1, 0, none⟩ (.int .i64 0)).cell? ⟨w.heap.size + 1 + 1, 0, none⟩ = some (.int .i64 0) :=
    World.cell?_setCell_same _ _ _ (by rw [World.cell?_setCell_other _ _ _ _ (by simp)]; exact v2)
  have hmv : Moved w g j ((w5.setCell ⟨w.heap.size + 1, 0, none⟩ (.string v)).setCell ⟨w.heap.size + 1 + 1, 0, none⟩ (.int .i64 0)) := Below.setCell (Below.setCell HV.out.moved (by simp) _) (by simp <;> omega) _
  have HMV := Lib.hid hmv
  clear hmv
  generalize (w5.setCell ⟨w.heap.size + 1, 0, none⟩ (.string v)).setCell ⟨w.heap.size + 1 + 1, 0, none⟩ (.int .i64 0) = w6 at *
  simp [Leaves, settle, results, Try.results36, go_sem, q1, q2]
  exact HMV.out
set_option maxRecDepth 100000 in
set_option maxHeartbeats 2000000 in
theorem stepS_err (g k j c : Nat) (A : Option Addr) (l : List UInt8) (w : World) (F : FuncId) (first caps : Array Value) (v : ByteArray) (er : Int) (h : Rd w g k A c l) (hj : j ≤ l.length) (her : (er == 0) = false)
    (hF : ∀ args w, (callFunc F args).run Try.prog w = .ok (.enter F args) w)
    (HF : ∀ W, Below w.heap.size w W → Calls Try.prog F (first ++ caps) W fun e W' => e = .returned (.tuple #[.string v, .int .i64 er]) ∧ Moved W g j W') :
    Calls Try.prog 36 #[.pointer (some ⟨g, 0, none⟩), .func (Fn.func F) first caps] w fun e w' => e = .returned (.tuple #[.string ⟨#[]⟩, .int .i64 er]) ∧ Moved w g k w' := by
  have h1 := h.c1
  have h2 := h.c2
  have hlt := h.lt
  have HH := Lib.hid HF
  have H := Lib.hid h
  have HER := Lib.hid her
  have ha3 := cell_a3 w g hlt
  have ha4 := cell_a4 w g hlt
  clear h HF her
  have hmf : ∀ (fn : Fn) (first cap : Array Value) (w : World), (Instr.makeFunc fn first cap).run Try.prog w = .ok (.func fn first cap) w := fun _ _ _ _ => rfl
  go_enter_defers Try.func36, Try.ntmps36
  go_wp2_with (fail)
  refine (HH.out _ (((((Below.refl _ _).alloc (Nat.le_refl _) _).alloc (by simp) _).alloc (by simp <;> omega) _).alloc (by simp <;> omega) _)).mono ?_
  rintro e w5 ⟨rfl, hm⟩
  have V := Vars.mk' hlt hm
  have HV := Lib.hid V
  have v1 := V.c1
  have v2 := V.c2
  have v3 := V.f1
  have v4 := V.f2
  clear hm V ha3 ha4 h1 h2
  go_wp2
  refine leaves_cons (f := 56) (args := #[.pointer (some ⟨w.heap.size + 1 + 1, 0, none⟩), .pointer (some ⟨w.heap.size + 1 + 1 + 1, 0, none⟩), .pointer (some ⟨w.heap.size, 0, none⟩), .pointer (some ⟨w.heap.size + 1, 0, none⟩)]) (by simp) (by simp [go_sem]) ?_
  have hrd := (H.out.moved HV.out.moved hj)
  have q0 : ∀ b : Addr, b.block ≠ w.heap.size + 1 → b.block ≠ w.heap.size + 1 + 1 → ((w5.setCell ⟨w.heap.size + 1, 0, none⟩ (.string v)).setCell ⟨w.heap.size + 1 + 1, 0, none⟩ (.int .i64 er)).cell? b = w5.cell? b := by
    intro b b1 b2
    rw [World.cell?_setCell_other _ _ _ _ (fun e => b2 (congrArg Addr.block e).symm), World.cell?_setCell_other _ _ _ _ (fun e => b1 (congrArg Addr.block e).symm)]
  have q1 : ((w5.setCell ⟨w.heap.size + 1, 0, none⟩ (.string v)).setCell ⟨w.heap.size + 1 + 1, 0, none⟩ (.int .i64 er)).cell? ⟨w.heap.size + 1, 0, none⟩ = some (.string v) := by
    rw [World.cell?_setCell_other _ _ _ _ (by simp <;> omega)]
    exact World.cell?_setCell_same _ _ _ v1
  have q2 : ((w5.setCell ⟨w.heap.size + 1, 0, none⟩ (.string v)).setCell ⟨w.heap.size + 1 + 1, 0, none⟩ (.int .i64 er)).cell? ⟨w.heap.size + 1 + 1, 0, none⟩ = some (.int .i64 er) :=
    World.cell?_setCell_same _ _ _ (by rw [World.cell?_setCell_other _ _ _ _ (by simp <;> omega)]; exact v2)
  refine (undoS_err _ _ _ _ g k er _ _ _ _ q2 HER.out ((q0 _ (by simp <;> omega) (by simp <;> omega)).trans HV.out.c3) ((q0 _ (by simp <;> omega) (by simp <;> omega)).trans HV.out.c0) ((q0 _ (by simp <;> omega) (by simp <;> omega)).trans hrd.c1) (by simpa using hrd.f1) q1 (by simpa using v3) (by simp <;> omega)).mono ?_
  rintro e u' w'' ⟨rfl, rfl, rfl⟩
  have r1 : ((((w5.setCell ⟨w.heap.size + 1, 0, none⟩ (.string v)).setCell ⟨w.heap.size + 1 + 1, 0, none⟩ (.int .i64 er)).setCell ⟨g, 1, none⟩ (.int .i64 k)).setCell ⟨w.heap.size + 1, 0, none⟩ (.string ⟨#[]⟩)).cell? ⟨w.heap.size + 1, 0, none⟩ = some (.string ⟨#[]⟩) :=
    World.cell?_setCell_same _ _ _ (by rw [World.cell?_setCell_other _ _ _ _ (by simp <;> omega)]; exact q1)
  have r2 : ((((w5.setCell ⟨w.heap.size + 1, 0, none⟩ (.string v)).setCell ⟨w.heap.size + 1 + 1, 0, none⟩ (.int .i64 er)).setCell ⟨g, 1, none⟩ (.int .i64 k)).setCell ⟨w.heap.size + 1, 0, none⟩ (.string ⟨#[]⟩)).cell? ⟨w.heap.size + 1 + 1, 0, none⟩ = some (.int .i64 er) := by
    rw [World.cell?_setCell_other _ _ _ _ (by simp <;> omega), World.cell?_setCell_other _ _ _ _ (by simp <;> omega)]
    exact q2
  have hmv : Moved w g j ((w5.setCell ⟨w.heap.size + 1, 0, none⟩ (.string v)).setCell ⟨w.heap.size + 1 + 1, 0, none⟩ (.int .i64 er)) := Below.setCell (Below.setCell HV.out.moved (by simp <;> omega) _) (by simp <;> omega) _
  have hmv2 : Moved w g k ((((w5.setCell ⟨w.heap.size + 1, 0, none⟩ (.string v)).setCell ⟨w.heap.size + 1 + 1, 0, none⟩ (.int .i64 er)).setCell ⟨g, 1, none⟩ (.int .i64 k)).setCell ⟨w.heap.size + 1, 0, none⟩ (.string ⟨#[]⟩)) :=
    Below.setCell (hmv.trans (Below.refl _ _)) (by simp <;> omega) _
  have HMV := Lib.hid hmv2
  clear hmv hmv2 q0 q1 q2 hrd v1 v2 v3 v4
  generalize ((((w5.setCell ⟨w.heap.size + 1, 0, none⟩ (.string v)).setCell ⟨w.heap.size + 1 + 1, 0, none⟩ (.int .i64 er)).setCell ⟨g, 1, none⟩ (.int .i64 k)).setCell ⟨w.heap.size + 1, 0, none⟩ (.string ⟨#[]⟩)) = w6 at *
  simp [Leaves, settle, results, Try.results36, go_sem, r1, r2]
  exact HMV.out
theorem stepS_any (g k j c : Nat) (A : Option Addr) (l : List UInt8) (w : World) (F : FuncId) (first caps : Array Value) (v : ByteArray) (er : Nat) (h : Rd w g k A c l) (hj : j ≤ l.length)
    (hF : ∀ args w, (callFunc F args).run Try.prog w = .ok (.enter F args) w)
    (HF : ∀ W, Below w.heap.size w W → Calls Try.prog F (first ++ caps) W fun e W' => e = .returned (.tuple #[.string v, .int .i64 er]) ∧ Moved W g j W') :
    Calls Try.prog 36 #[.pointer (some ⟨g, 0, none⟩), .func (Fn.func F) first caps] w fun e w' => e = .returned (.tuple #[if er = 0 then .string v else .string ⟨#[]⟩, .int .i64 er]) ∧ Moved w g (if er = 0 then j else k) w' := by
  by_cases h0 : er = 0
  · subst h0
    simp only [if_true]
    exact stepS_ok g k j c A l w F first caps v h hF HF
  · simp only [h0, if_false]
    exact stepS_err g k j c A l w F first caps v er h hj (by simpa using h0) hF HF
set_option maxRecDepth 100000 in
theorem undoB_ok (pe ps pr pt : Addr) (u : FrameMode) (w : World) (h : w.cell? pe = some (.int .i64 0)) :
    CallsD Try.prog 57 #[.pointer (some pe), .pointer (some ps), .pointer (some pr), .pointer (some pt)] u w fun e u' w' => u' = u ∧ (e = .returned (.tuple #[]) ∧ w' = w) := by
  go_enter_d Try.func57, Try.ntmps57
  go_wp2
  go_end0
  exact ⟨rfl, rfl⟩
set_option maxRecDepth 100000 in
theorem undoB_err (pe ps pr pt : Addr) (g : Nat) (k er : Int) (z z' : Value) (u : FrameMode) (w : World) (h : w.cell? pe = some (.int .i64 er)) (her : (er == 0) = false) (hs : w.cell? ps = some (.int .i64 k)) (hr : w.cell? pr = some (.pointer (some ⟨g, 0, none⟩)))
    (hc : w.cell? ⟨g, 1, none⟩ = some z) (hf : w.frozen? ⟨g, 1, none⟩ = false) (ht : w.cell? pt = some z') (htf : w.frozen? pt = false) (hne : pt.block ≠ g) :
    CallsD Try.prog 57 #[.pointer (some pe), .pointer (some ps), .pointer (some pr), .pointer (some pt)] u w fun e u' w' => u' = u ∧ (e = .returned (.tuple #[]) ∧ w' = (w.setCell ⟨g, 1, none⟩ (.int .i64 k)).setCell pt (.int .u8 0)) := by
  have her' : (er != 0) = true := by simp [bne, her]
  have ht' : (w.setCell ⟨g, 1, none⟩ (.int .i64 k)).cell? pt = some z' := by
    rw [World.cell?_setCell_other _ _ _ _ (fun e => hne (congrArg Addr.block e).symm)]
    exact ht
  clear hne her ht
  go_enter_d Try.func57, Try.ntmps57
  go_wp2
  go_end0
  exact ⟨rfl, rfl⟩
set_option maxRecDepth 100000 in
set_option maxHeartbeats 2000000 in
theorem stepB_ok (g k j c : Nat) (A : Option Addr) (l : List UInt8) (w : World) (F : FuncId) (first caps : Array Value) (v : Int) (h : Rd w g k A c l)
    (hF : ∀ args w, (callFunc F args).run Try.prog w = .ok (.enter F args) w)
    (HF : ∀ W, Below w.heap.size w W → Calls Try.prog F (first ++ caps) W fun e W' => e = .returned (.tuple #[.int .u8 v, .int .i64 0]) ∧ Moved W g j W') :
    Calls Try.prog 39 #[.pointer (some ⟨g, 0, none⟩), .func (Fn.func F) first caps] w fun e w' => e = .returned (.tuple #[.int .u8 v, .int .i64 0]) ∧ Moved w g j w' := by
  have h1 := h.c1
  have h2 := h.c2
  have hlt := h.lt
  have HH := Lib.hid HF
  have ha3 := cell_a3 w g hlt
  have ha4 := cell_a4 w g hlt
  clear h HF
  have hmf : ∀ (fn : Fn) (first cap : Array Value) (w : World), (Instr.makeFunc fn first cap).run Try.prog w = .ok (.func fn first cap) w := fun _ _ _ _ => rfl
  go_enter_defers Try.func39, Try.ntmps39
  go_wp2_with (fail)
  refine (HH.out _ (((((Below.refl _ _).alloc (Nat.le_refl _) _).alloc (by simp) _).alloc (by simp <;> omega) _).alloc (by simp <;> omega) _)).mono ?_
  rintro e w5 ⟨rfl, hm⟩
  have V := Vars.mk' hlt hm
  have HV := Lib.hid V
  have v1 := V.c1
  have v2 := V.c2
  have v3 := V.f1
  have v4 := V.f2
  clear hm V ha3 ha4 h1 h2
  go_wp2
  refine leaves_cons (f := 57) (args := #[.pointer (some ⟨w.heap.size + 1 + 1, 0, none⟩), .pointer (some ⟨w.heap.size + 1 + 1 + 1, 0, none⟩), .pointer (some ⟨w.heap.size, 0, none⟩), .pointer (some ⟨w.heap.size + 1, 0, none⟩)]) (by simp) (by simp [go_sem]) ?_
  refine (undoB_ok _ _ _ _ _ _ ?_).mono ?_
  · exact World.cell?_setCell_same _ _ _ (by rw [World.cell?_setCell_other _ _ _ _ (by simp)]; exact v2)
  rintro e u' w'' ⟨rfl, rfl, rfl⟩
  have q1 : ((w5.setCell ⟨w.heap.size + 1, 0, none⟩ (.int .u8 v)).setCell ⟨w.heap.size + 1 + 1, 0, none⟩ (.int .i64 0)).cell? ⟨w.heap.size + 1, 0, none⟩ = some (.int .u8 v) := by
    rw [World.cell?_setCell_other _ _ _ _ (by simp)]
    exact World.cell?_setCell_same _ _ _ v1
  have q2 : ((w5.setCell ⟨w.heap.size + 1, 0, none⟩ (.int .u8 v)).setCell ⟨w.heap.size + 1 + 1, 0, none⟩ (.int .i64 0)).cell? ⟨w.heap.size + 1 + 1, 0, none⟩ = some (.int .i64 0) :=
    World.cell?_setCell_same _ _ _ (by rw [World.cell?_setCell_other _ _ _ _ (by simp)]; exact v2)
  have hmv : Moved w g j ((w5.setCell ⟨w.heap.size + 1, 0, none⟩ (.int .u8 v)).setCell ⟨w.heap.size + 1 + 1, 0, none⟩ (.int .i64 0)) := Below.setCell (Below.setCell HV.out.moved (by simp) _) (by simp <;> omega) _
  have HMV := Lib.hid hmv
  clear hmv
  generalize (w5.setCell ⟨w.heap.size + 1, 0, none⟩ (.int .u8 v)).setCell ⟨w.heap.size + 1 + 1, 0, none⟩ (.int .i64 0) = w6 at *
  simp [Leaves, settle, results, Try.results39, go_sem, q1, q2]
  exact HMV.out
set_option maxRecDepth 100000 in
set_option maxHeartbeats 2000000 in
theorem stepB_err (g k j c : Nat) (A : Option Addr) (l : List UInt8) (w : World) (F : FuncId) (first caps : Array Value) (v : Int) (er : Int) (h : Rd w g k A c l) (hj : j ≤ l.length) (her : (er == 0) = false)
    (hF : ∀ args w, (callFunc F args).run Try.prog w = .ok (.enter F args) w)
    (HF : ∀ W, Below w.heap.size w W → Calls Try.prog F (first ++ caps) W fun e W' => e = .returned (.tuple #[.int .u8 v, .int .i64 er]) ∧ Moved W g j W') :
    Calls Try.prog 39 #[.pointer (some ⟨g, 0, none⟩), .func (Fn.func F) first caps] w fun e w' => e = .returned (.tuple #[.int .u8 0, .int .i64 er]) ∧ Moved w g k w' := by
  have h1 := h.c1
  have h2 := h.c2
  have hlt := h.lt
  have HH := Lib.hid HF
  have H := Lib.hid h
  have HER := Lib.hid her
  have ha3 := cell_a3 w g hlt
  have ha4 := cell_a4 w g hlt
  clear h HF her
  have hmf : ∀ (fn : Fn) (first cap : Array Value) (w : World), (Instr.makeFunc fn first cap).run Try.prog w = .ok (.func fn first cap) w := fun _ _ _ _ => rfl
  go_enter_defers Try.func39, Try.ntmps39
  go_wp2_with (fail)
  refine (HH.out _ (((((Below.refl _ _).alloc (Nat.le_refl _) _).alloc (by simp) _).alloc (by simp <;> omega) _).alloc (by simp <;> omega) _)).mono ?_
  rintro e w5 ⟨rfl, hm⟩
  have V := Vars.mk' hlt hm
  have HV := Lib.hid V
  have v1 := V.c1
  have v2 := V.c2
  have v3 := V.f1
  have v4 := V.f2
  clear hm V ha3 ha4 h1 h2
  go_wp2
  refine leaves_cons (f := 57) (args := #[.pointer (some ⟨w.heap.size + 1 + 1, 0, none⟩), .pointer (some ⟨w.heap.size + 1 + 1 + 1, 0, none⟩), .pointer (some ⟨w.heap.size, 0, none⟩), .pointer (some ⟨w.heap.size + 1, 0, none⟩)]) (by simp) (by simp [go_sem]) ?_
  have hrd := (H.out.moved HV.out.moved hj)
  have q0 : ∀ b : Addr, b.block ≠ w.heap.size + 1 → b.block ≠ w.heap.size + 1 + 1 → ((w5.setCell ⟨w.heap.size + 1, 0, none⟩ (.int .u8 v)).setCell ⟨w.heap.size + 1 + 1, 0, none⟩ (.int .i64 er)).cell? b = w5.cell? b := by
    intro b b1 b2
    rw [World.cell?_setCell_other _ _ _ _ (fun e => b2 (congrArg Addr.block e).symm), World.cell?_setCell_other _ _ _ _ (fun e => b1 (congrArg Addr.block e).symm)]
  have q1 : ((w5.setCell ⟨w.heap.size + 1, 0, none⟩ (.int .u8 v)).setCell ⟨w.heap.size + 1 + 1, 0, none⟩ (.int .i64 er)).cell? ⟨w.heap.size + 1, 0, none⟩ = some (.int .u8 v) := by
    rw [World.cell?_setCell_other _ _ _ _ (by simp <;> omega)]
    exact World.cell?_setCell_same _ _ _ v1
  have q2 : ((w5.setCell ⟨w.heap.size + 1, 0, none⟩ (.int .u8 v)).setCell ⟨w.heap.size + 1 + 1, 0, none⟩ (.int .i64 er)).cell? ⟨w.heap.size + 1 + 1, 0, none⟩ = some (.int .i64 er) :=
    World.cell?_setCell_same _ _ _ (by rw [World.cell?_setCell_other _ _ _ _ (by simp <;> omega)]; exact v2)
  refine (undoB_err _ _ _ _ g k er _ _ _ _ q2 HER.out ((q0 _ (by simp <;> omega) (by simp <;> omega)).trans HV.out.c3) ((q0 _ (by simp <;> omega) (by simp <;> omega)).trans HV.out.c0) ((q0 _ (by simp <;> omega) (by simp <;> omega)).trans hrd.c1) (by simpa using hrd.f1) q1 (by simpa using v3) (by simp <;> omega)).mono ?_
  rintro e u' w'' ⟨rfl, rfl, rfl⟩
  have r1 : ((((w5.setCell ⟨w.heap.size + 1, 0, none⟩ (.int .u8 v)).setCell ⟨w.heap.size + 1 + 1, 0, none⟩ (.int .i64 er)).setCell ⟨g, 1, none⟩ (.int .i64 k)).setCell ⟨w.heap.size + 1, 0, none⟩ (.int .u8 0)).cell? ⟨w.heap.size + 1, 0, none⟩ = some (.int .u8 0) :=
    World.cell?_setCell_same _ _ _ (by rw [World.cell?_setCell_other _ _ _ _ (by simp <;> omega)]; exact q1)
  have r2 : ((((w5.setCell ⟨w.heap.size + 1, 0, none⟩ (.int .u8 v)).setCell ⟨w.heap.size + 1 + 1, 0, none⟩ (.int .i64 er)).setCell ⟨g, 1, none⟩ (.int .i64 k)).setCell ⟨w.heap.size + 1, 0, none⟩ (.int .u8 0)).cell? ⟨w.heap.size + 1 + 1, 0, none⟩ = some (.int .i64 er) := by
    rw [World.cell?_setCell_other _ _ _ _ (by simp <;> omega), World.cell?_setCell_other _ _ _ _ (by simp <;> omega)]
    exact q2
  have hmv : Moved w g j ((w5.setCell ⟨w.heap.size + 1, 0, none⟩ (.int .u8 v)).setCell ⟨w.heap.size + 1 + 1, 0, none⟩ (.int .i64 er)) := Below.setCell (Below.setCell HV.out.moved (by simp <;> omega) _) (by simp <;> omega) _
  have hmv2 : Moved w g k ((((w5.setCell ⟨w.heap.size + 1, 0, none⟩ (.int .u8 v)).setCell ⟨w.heap.size + 1 + 1, 0, none⟩ (.int .i64 er)).setCell ⟨g, 1, none⟩ (.int .i64 k)).setCell ⟨w.heap.size + 1, 0, none⟩ (.int .u8 0)) :=
    Below.setCell (hmv.trans (Below.refl _ _)) (by simp <;> omega) _
  have HMV := Lib.hid hmv2
  clear hmv hmv2 q0 q1 q2 hrd v1 v2 v3 v4
  generalize ((((w5.setCell ⟨w.heap.size + 1, 0, none⟩ (.int .u8 v)).setCell ⟨w.heap.size + 1 + 1, 0, none⟩ (.int .i64 er)).setCell ⟨g, 1, none⟩ (.int .i64 k)).setCell ⟨w.heap.size + 1, 0, none⟩ (.int .u8 0)) = w6 at *
  simp [Leaves, settle, results, Try.results39, go_sem, r1, r2]
  exact HMV.out
theorem stepB_any (g k j c : Nat) (A : Option Addr) (l : List UInt8) (w : World) (F : FuncId) (first caps : Array Value) (v : Int) (er : Nat) (h : Rd w g k A c l) (hj : j ≤ l.length)
    (hF : ∀ args w, (callFunc F args).run Try.prog w = .ok (.enter F args) w)
    (HF : ∀ W, Below w.heap.size w W → Calls Try.prog F (first ++ caps) W fun e W' => e = .returned (.tuple #[.int .u8 v, .int .i64 er]) ∧ Moved W g j W') :
    Calls Try.prog 39 #[.pointer (some ⟨g, 0, none⟩), .func (Fn.func F) first caps] w fun e w' => e = .returned (.tuple #[if er = 0 then .int .u8 v else .int .u8 0, .int .i64 er]) ∧ Moved w g (if er = 0 then j else k) w' := by
  by_cases h0 : er = 0
  · subst h0
    simp only [if_true]
    exact stepB_ok g k j c A l w F first caps v h hF HF
  · simp only [h0, if_false]
    exact stepB_err g k j c A l w F first caps v er h hj (by simpa using h0) hF HF
end Go.Proofs.Ytokgpifelinonaa
