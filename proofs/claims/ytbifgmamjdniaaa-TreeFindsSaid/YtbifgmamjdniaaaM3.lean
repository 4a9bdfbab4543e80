/- TreeFinds' other closures. -/
import Derived.Test.YtbifgmamjdniaaaM1
import Derived.Shelf.Abstract
namespace Go.Proofs.Ytbifgmamjdniaaa
open Go.RowKit Go.Maps
open Itree (E T dep endT bs ord sz nodes lean rotL rotR bal ins del hasT first AVL Srt eachL over)
theorem eg2 : ∀ args w, (callFunc 27 args).run Try.prog w = .ok (.enter 27 args) w := enters_of Try.func27 (by kernel_rfl) rfl
theorem eg3 : ∀ args w, (callFunc 29 args).run Try.prog w = .ok (.enter 29 args) w := enters_of Try.func29 (by kernel_rfl) rfl
theorem eg4 : ∀ args w, (callFunc 31 args).run Try.prog w = .ok (.enter 31 args) w := enters_of Try.func31 (by kernel_rfl) rfl
set_option maxRecDepth 100000 in
set_option maxHeartbeats 1000000 in
theorem is2_any (x : E) (t : Int) (h : Nat) (w : World) (hc : w.cell? ⟨h, 0, none⟩ = some (.int .u64 t)) (hl : h < w.heap.size) :
    Calls Try.prog 27 #[entV x, .pointer (some ⟨h, 0, none⟩)] w fun e w' => e = .returned (.bool (hasB x.a x.b t)) ∧ Below w.heap.size w w' := by
  have HM := Lib.hid (Has_any x.a x.b t)
  generalize hasB x.a x.b t = o at *
  obtain ⟨W, hW⟩ : ∃ W, w.alloc (.cells #[.int .u64 x.a, .int .u64 x.b, .int .u64 x.n] 53) = W := ⟨_, rfl⟩
  have EX := Lib.hid (show EBox W w.heap.size x by rw [← hW]; exact ebox_at _ x _ _ rfl)
  have hb : Below w.heap.size w W := by rw [← hW]; exact (Below.refl _ _).alloc (Nat.le_refl _) _
  have y0 := (hb.cell (p := ⟨h, 0, none⟩) hl).trans hc
  have HB := Lib.hid hb
  have x0 := EX.out.c0
  have x1 := EX.out.c1
  clear hb hc
  go_enter Try.func27, Try.ntmps27
  go_upto_region 1 with fail
  try rw [hW]
  clear hW
  go_wp2_with fail
  refine (HM.out _).mono ?_
  rintro e1 w1 ⟨rfl, b1⟩
  have HF := Lib.hid (HB.out.trans (b1.mono HB.out.size))
  clear b1 x0 x1 y0
  go_wp2
  go_ret
  exact ⟨rfl, HF.out⟩
set_option maxRecDepth 100000 in
set_option maxHeartbeats 1000000 in
theorem is3_any (x : E) (p p' : Int) (h : Nat) (w : World) (hc : w.cell? ⟨h, 0, none⟩ = some (.int .u64 p)) (hc2 : w.cell? ⟨h, 1, none⟩ = some (.int .u64 p')) (hl : h < w.heap.size) :
    Calls Try.prog 29 #[entV x, .pointer (some ⟨h, 0, none⟩)] w fun e w' => e = .returned (.bool (meetB x.a x.b p p')) ∧ Below w.heap.size w w' := by
  have HM := Lib.hid (Meet_any x.a x.b p p')
  generalize meetB x.a x.b p p' = o at *
  generalize meetF x.a x.b p p' = o1 at *
  generalize meetT x.a x.b p p' = o2 at *
  obtain ⟨W, hW⟩ : ∃ W, w.alloc (.cells #[.int .u64 x.a, .int .u64 x.b, .int .u64 x.n] 53) = W := ⟨_, rfl⟩
  have EX := Lib.hid (show EBox W w.heap.size x by rw [← hW]; exact ebox_at _ x _ _ rfl)
  have hb : Below w.heap.size w W := by rw [← hW]; exact (Below.refl _ _).alloc (Nat.le_refl _) _
  have y0 := (hb.cell (p := ⟨h, 0, none⟩) hl).trans hc
  have y1 := (hb.cell (p := ⟨h, 1, none⟩) hl).trans hc2
  have HB := Lib.hid hb
  have x0 := EX.out.c0
  have x1 := EX.out.c1
  clear hb hc hc2
  go_enter Try.func29, Try.ntmps29
  go_upto_region 1 with fail
  try rw [hW]
  clear hW
  go_wp2_with fail
  refine (HM.out _).mono ?_
  rintro e1 w1 ⟨rfl, b1⟩
  have HF := Lib.hid (HB.out.trans (b1.mono HB.out.size))
  clear b1 x0 x1 y0 y1
  go_wp2
  go_ret
  exact ⟨rfl, HF.out.alloc HF.out.size _⟩
set_option maxRecDepth 100000 in
set_option maxHeartbeats 1000000 in
theorem is4_any (x : E) (w : World) :
    Calls Try.prog 31 #[entV x] w fun e w' => e = .returned (.bool true) ∧ Below w.heap.size w w' := by
  go_enter Try.func31, Try.ntmps31
  go_wp2
  go_ret
  exact ⟨rfl, (Below.refl _ _).alloc (Nat.le_refl _) _⟩
end Go.Proofs.Ytbifgmamjdniaaa
