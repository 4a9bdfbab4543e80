/- value.Text at the examples. -/
import Derived.Test.YtbpakmiopmgmbaaGreatDoorV9
import Derived.Test.YtbpakmiopmgmbaaGreatDoorT1
namespace Go.Proofs.YtbpakmiopmgmbaaGreatDoor
open Go.RowKit
set_option maxRecDepth 100000 in
set_option maxHeartbeats 1000000 in
theorem FormatInt_7 (w : World) : Calls Tryz.prog 53 #[.int .i64 7, .int .i64 10] w fun e w' => e = .returned (.string ⟨#[55]⟩) ∧ w = w' := by
  go_enter Tryz.func53, Tryz.ntmps53
  go_wp2
  go_ret
  exact ⟨by kernel_rfl, rfl⟩
set_option maxRecDepth 100000 in
theorem digits7 (k : Int) (w : World) : Calls Tryz.prog 38 #[vagg k false 7 0 ⟨#[]⟩] w fun e w' => e = .returned (.string ⟨#[55]⟩) ∧ Below w.heap.size w w' := by
  go_enter Tryz.func38, Tryz.ntmps38
  go_wp2_with (go_at_call 53; ((with_reducible refine (FormatInt_7 _).mono ?_); rintro e w' ⟨rfl, rfl⟩))
  go_ret
  exact ⟨rfl, (Below.refl _ _).alloc (Nat.le_refl _) _⟩
theorem box_facts {w w1 : World} {A : Array Value} {t : TypeId} (hb : Below (w.alloc (.cells A t)).heap.size (w.alloc (.cells A t)) w1) : Below w.heap.size w w1 ∧ ∀ j, w1.cell? ⟨w.heap.size, j, none⟩ = A[j]? :=
  ⟨((Below.refl _ _).alloc (Nat.le_refl _) _).trans (hb.mono (by simp)), fun j => ((bcell hb).1 _ j (by simp)).trans (cell_of_row _ _ _ _ _ _ (heap_alloc_new w _))⟩
set_option maxRecDepth 100000 in
set_option maxHeartbeats 1000000 in
theorem Text_int7 (w : World) : Calls Tryz.prog 24 #[vagg 2 false 7 0 ⟨#[]⟩] w fun e w' => e = .returned (.tuple #[.string ⟨#[55]⟩, .int .i64 0]) ∧ Below w.heap.size w w' := by
  have hm : mayB 2 false 7 0 ⟨#[]⟩ = true := by decide
  have M := fun w => May_any 2 false 7 0 ⟨#[]⟩ w (by omega)
  rw [hm] at M
  have MM := Lib.hid M
  clear M hm
  go_enter Tryz.func24, Tryz.ntmps24
  go_wp2_with (first | (go_at_call 5; ((with_reducible refine (MM.out _).mono ?_); rintro e w1 ⟨rfl, hb⟩; obtain ⟨hB, hbc⟩ := box_facts hb)) | (go_at_call 38; ((with_reducible refine (digits7 2 _).mono ?_); rintro e w2 ⟨rfl, hb2⟩)))
  go_ret2
  exact ⟨rfl, hB.trans (hb2.mono hB.size)⟩
set_option maxRecDepth 100000 in
set_option maxHeartbeats 1000000 in
theorem Text_node7 (w : World) : Calls Tryz.prog 24 #[vagg 5 false 7 0 ⟨#[]⟩] w fun e w' => e = .returned (.tuple #[.string ⟨#[40, 55, 41]⟩, .int .i64 0]) ∧ Below w.heap.size w w' := by
  have hm : mayB 5 false 7 0 ⟨#[]⟩ = true := by decide
  have M := fun w => May_any 5 false 7 0 ⟨#[]⟩ w (by omega)
  rw [hm] at M
  have MM := Lib.hid M
  clear M hm
  have e1 : (⟨#[40]⟩ : ByteArray) ++ ⟨#[55]⟩ = ⟨#[40, 55]⟩ := by decide
  have e2 : (⟨#[40, 55]⟩ : ByteArray) ++ ⟨#[41]⟩ = ⟨#[40, 55, 41]⟩ := by decide
  go_enter Tryz.func24, Tryz.ntmps24
  go_wp2_with (first | (go_at_call 5; ((with_reducible refine (MM.out _).mono ?_); rintro e w1 ⟨rfl, hb⟩; obtain ⟨hB, hbc⟩ := box_facts hb)) | (go_at_call 38; ((with_reducible refine (digits7 5 _).mono ?_); rintro e w2 ⟨rfl, hb2⟩)))
  go_ret2
  exact ⟨rfl, hB.trans (hb2.mono hB.size)⟩
set_option maxRecDepth 100000 in
set_option maxHeartbeats 1000000 in
theorem Text_half (w : World) (h : Env w) : Calls Tryz.prog 24 #[vagg 3 false 0 4609434218613702656 ⟨#[]⟩] w fun e w' => e = .returned (.tuple #[.string ⟨#[49, 46, 53]⟩, .int .i64 0]) ∧ Below w.heap.size w w' := by
  have hm : mayB 3 false 0 4609434218613702656 ⟨#[]⟩ = true := by decide
  have M := fun w => May_any 3 false 0 4609434218613702656 ⟨#[]⟩ w (by omega)
  rw [hm] at M
  have MM := Lib.hid M
  have HE := Lib.hid h
  clear M hm h
  go_enter Tryz.func24, Tryz.ntmps24
  go_wp2_with (first | (go_at_call 5; ((with_reducible refine (MM.out _).mono ?_); rintro e w1 ⟨rfl, hb⟩; obtain ⟨hB, hbc⟩ := box_facts hb; have HB := Lib.hid hB; have HE1 := Lib.hid (HE.out.below hB))) | (go_at_call 39; ((with_reducible refine (Text_b _ (by have := HE1.out.sz; omega) (by have := HE1.out.sz; omega) HE1.out.p0 HE1.out.p1 HE1.out.u10).mono ?_); rintro e w2 ⟨rfl, hb2⟩)))
  go_ret2
  exact ⟨rfl, HB.out.trans (hb2.mono HB.out.size)⟩
end Go.Proofs.YtbpakmiopmgmbaaGreatDoor
