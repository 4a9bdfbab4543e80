/- Sync, Remove, Append. -/
import Derived.Test.YthnfpkbpakffgaaC5
namespace Go.Proofs.Ythnfpkbpakffgaa
open Go.RowKit Go.Maps Go.Sort Go.Shelf
open Disk (Nm Fl DS Up ins del upd fnd okName okByte used Wf stepR stepD fileR syncR syncD syncG removeR removeD removeG appendR appendD appendG)
theorem Sync_any {w : World} {p : Nat} {d : DS} {S : Nat → Prop} (h0 : IsD w p d S) (s : ByteArray) :
    Calls Try.prog 15 #[.pointer (some ⟨p, 0, none⟩), .string s] w fun r w' => r = .returned (.int .i64 (syncR (nmOf s) d)) ∧ WroteD w p S (syncD (nmOf s) d) w' := by
  obtain ⟨c, m, C, h⟩ := h0
  by_cases hr : fileR (nmOf s) d = 0
  · obtain ⟨x, hx, hn, F0⟩ := file_ok h s hr
    have F := Lib.hid F0
    have e1 : syncR (nmOf s) d = stepR d := by unfold syncR; rw [if_neg (by simp [hr])]
    have e2 : syncD (nmOf s) d = stepD d (syncG (nmOf s)) := by unfold syncD; rw [if_neg (by simp [hr])]
    rw [e1, e2]
    have ST := Lib.hid (fun W (hb : Below w.heap.size w W) => step_any (h.below hb) 40 #[.pointer (some ⟨x.k, 0, none⟩)] #[] (syncG (nmOf s)) (enters_of Try.func40 (by kernel_rfl) rfl) (h.wf.syncc _) (fun w1 fu _ hi _ => by rw [← hn]; exact sync_step hi hx))
    have H := Lib.hid h
    clear h hr F0 e1 e2 hn
    go_enter Try.func15, Try.ntmps15
    go_wp2_with fail
    refine F.out.mono ?_
    rintro r1 w1 ⟨rfl, b1⟩
    have B1 := Lib.hid b1
    have p0 := (H.out.below b1).ptr
    have ST1 := Lib.hid (ST.out w1 b1)
    clear b1 F ST
    go_wp2_with fail
    refine ST1.out.mono ?_
    rintro r w' ⟨rfl, hw⟩
    have HW := Lib.hid hw
    clear hw ST1
    go_wp2_with fail
    go_ret
    exact ⟨rfl, HW.out.of_below B1.out⟩
  · have F := Lib.hid (file_err h s hr)
    have e1 : syncR (nmOf s) d = fileR (nmOf s) d := by unfold syncR; rw [if_pos hr]
    have e2 : syncD (nmOf s) d = d := by unfold syncD; rw [if_pos hr]
    rw [e1, e2]
    obtain ⟨r, hr'⟩ : ∃ r, fileR (nmOf s) d = r := ⟨_, rfl⟩
    rw [hr'] at F hr ⊢
    have hne : (r == 0) = false := by simpa using hr
    have H := Lib.hid h
    clear hr hr' h e1 e2
    go_enter Try.func15, Try.ntmps15
    go_wp2_with fail
    refine F.out.mono ?_
    rintro e1 w1 ⟨rfl, b1⟩
    have B1 := Lib.hid b1
    clear b1 F
    go_wp2_with fail
    go_ret
    exact ⟨rfl, .same ⟨c, m, C, H.out⟩ B1.out⟩
theorem Remove_any {w : World} {p : Nat} {d : DS} {S : Nat → Prop} (h0 : IsD w p d S) (s : ByteArray) :
    Calls Try.prog 16 #[.pointer (some ⟨p, 0, none⟩), .string s] w fun r w' => r = .returned (.int .i64 (removeR (nmOf s) d)) ∧ WroteD w p S (removeD (nmOf s) d) w' := by
  obtain ⟨c, m, C, h⟩ := h0
  have b1 : Below w.heap.size w (w.alloc (.cells #[.pointer (some ⟨p, 0, none⟩)] 23)) := (Below.refl _ _).alloc (Nat.le_refl _) _
  have x1 : (w.alloc (.cells #[.pointer (some ⟨p, 0, none⟩)] 23)).cell? ⟨w.heap.size, 0, none⟩ = some (.pointer (some ⟨p, 0, none⟩)) := cell_new _ _ _
  have s1 : (w.alloc (.cells #[.pointer (some ⟨p, 0, none⟩)] 23)).heap.size = w.heap.size + 1 := by simp
  obtain ⟨W1, hW1⟩ : ∃ W1, w.alloc (.cells #[.pointer (some ⟨p, 0, none⟩)] 23) = W1 := ⟨_, rfl⟩
  rw [hW1] at b1 x1 s1
  have b2 : Below W1.heap.size W1 (W1.alloc (.cells #[.string s] 9)) := (Below.refl _ _).alloc (Nat.le_refl _) _
  have x2 : (W1.alloc (.cells #[.string s] 9)).cell? ⟨W1.heap.size, 0, none⟩ = some (.string s) := cell_new _ _ _
  have s2 : (W1.alloc (.cells #[.string s] 9)).heap.size = W1.heap.size + 1 := by simp
  obtain ⟨W2, hW2⟩ : ∃ W2, W1.alloc (.cells #[.string s] 9) = W2 := ⟨_, rfl⟩
  rw [hW2] at b2 x2 s2
  have y1 : W2.cell? ⟨w.heap.size, 0, none⟩ = some (.pointer (some ⟨p, 0, none⟩)) := (b2.cell (p := ⟨w.heap.size, 0, none⟩) (by show w.heap.size < W1.heap.size; omega)).trans x1
  have BX := Lib.hid (show Box2 W2 w.heap.size W1.heap.size (.pointer (some ⟨p, 0, none⟩)) (.string s) from ⟨y1, x2, by omega, by omega⟩)
  have L1 := Lib.hid (show w.heap.size ≤ W1.heap.size by omega)
  have HB2 := Lib.hid (below_then b1 b2)
  have h2 := h.below HB2.out
  have hpl : p < w.heap.size := h.plt
  clear b1 b2 s1 s2 x1
  by_cases hr : fileR (nmOf s) d = 0
  · obtain ⟨x, hx, hn, F0⟩ := file_ok h2 s hr
    have F := Lib.hid F0
    have hok : okName (nmOf s) = true := (fileR_ok hr).2.1
    have e1 : removeR (nmOf s) d = stepR d := by unfold removeR; rw [if_neg (by simp [hr])]
    have e2 : removeD (nmOf s) d = stepD d (removeG (nmOf s)) := by unfold removeD; rw [if_neg (by simp [hr])]
    rw [e1, e2]
    have ST := Lib.hid (fun W (hb : Below W2.heap.size W2 W) => step_any (h2.below hb) 41 #[] #[.pointer (some ⟨w.heap.size, 0, none⟩), .pointer (some ⟨W1.heap.size, 0, none⟩)] (removeG (nmOf s)) (enters_of Try.func41 (by kernel_rfl) rfl) (h2.wf.removee _) (fun w1 fu hb1 hi hc => by
      have hcl : c < w.heap.size := h.cont.lt
      have hL1 := L1.out
      exact remove_step hi w.heap.size W1.heap.size p c s ((BX.out.below hb).but hb1 (by omega) (by omega)) ((hb1.cell p 0 (h2.below hb).plt h.pc).trans (h2.below hb).ptr) hc.c0 hok))
    have H := Lib.hid h2
    clear h hr F0 e1 e2 hn hok h2
    go_enter Try.func16, Try.ntmps16
    go_wp2_with fail
    try rw [hW1]
    try rw [hW2]
    refine F.out.mono ?_
    rintro r1 w1 ⟨rfl, b1⟩
    have B1 := Lib.hid b1
    have p0 := (H.out.below b1).ptr
    have z1 := (BX.out.below b1).1
    have ST1 := Lib.hid (ST.out w1 b1)
    clear b1 F ST hW1 hW2 x2 y1
    go_wp2_with fail
    refine ST1.out.mono ?_
    rintro r w' ⟨rfl, hw⟩
    have HW := Lib.hid hw
    clear hw ST1
    go_wp2_with fail
    go_ret
    exact ⟨rfl, (HW.out.of_below B1.out).of_below HB2.out⟩
  · have F := Lib.hid (file_err h2 s hr)
    have e1 : removeR (nmOf s) d = fileR (nmOf s) d := by unfold removeR; rw [if_pos hr]
    have e2 : removeD (nmOf s) d = d := by unfold removeD; rw [if_pos hr]
    rw [e1, e2]
    obtain ⟨r, hr'⟩ : ∃ r, fileR (nmOf s) d = r := ⟨_, rfl⟩
    rw [hr'] at F hr ⊢
    have hne : (r == 0) = false := by simpa using hr
    have H := Lib.hid h2
    clear hr hr' h e1 e2 h2
    go_enter Try.func16, Try.ntmps16
    go_wp2_with fail
    try rw [hW1]
    try rw [hW2]
    refine F.out.mono ?_
    rintro e1 w1 ⟨rfl, b1⟩
    have B1 := Lib.hid b1
    clear b1 F hW1 hW2 x2 y1
    go_wp2_with fail
    go_ret
    exact ⟨rfl, (WroteD.same ⟨c, m, C, H.out⟩ B1.out).of_below HB2.out⟩
end Go.Proofs.Ythnfpkbpakffgaa
