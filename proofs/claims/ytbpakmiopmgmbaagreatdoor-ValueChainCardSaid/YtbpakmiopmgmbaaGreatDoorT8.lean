/- value.Parse at 007 and at 1.50: neither is a value's own text. -/
import Derived.Test.YtbpakmiopmgmbaaGreatDoorT7
import Derived.Test.YtbpakmiopmgmbaaGreatDoorT5
import Derived.Test.YtbpakmiopmgmbaaGreatDoorV10
namespace Go.Proofs.YtbpakmiopmgmbaaGreatDoor
open Go.RowKit
/-- What one box holds, wherever the walk has come to; it may be written. -/
def One (w wc : World) (A : Array Value) : Prop := Below w.heap.size w wc ∧ w.heap.size < wc.heap.size ∧ (∀ j, wc.cell? ⟨w.heap.size, j, none⟩ = A[j]?) ∧ ∀ j, wc.frozen? ⟨w.heap.size, j, none⟩ = false
theorem One.step {w wc wd : World} {A : Array Value} (h : One w wc A) (hb : Below wc.heap.size wc wd) : One w wd A := by
  obtain ⟨h1, h2, h3, h4⟩ := h
  have s := hb.size
  exact ⟨h1.trans (hb.mono h1.size), by omega, fun j => ((bcell hb).1 _ j (by omega)).trans (h3 j), fun j => ((bcell hb).2 _ j (by omega)).trans (h4 j)⟩
theorem One.below {w wc : World} {A : Array Value} (h : One w wc A) : Below w.heap.size w wc := h.1
theorem One.start (w : World) (A : Array Value) (t : TypeId) : One w (w.alloc (.cells A t)) A :=
  ⟨(Below.refl _ _).alloc (Nat.le_refl _) _, by simp, fun j => cell_of_row _ _ _ _ _ _ (heap_alloc_new w _), fun j => frozen_new w A t j⟩
set_option maxRecDepth 100000 in
theorem Number_any (n : Int) (w : World) : Calls Tryz.prog 75 #[.int .i64 n] w fun e w' => e = .returned (vagg 2 false n 0 ⟨#[]⟩) ∧ Below w.heap.size w w' := by
  have hsf := store_float
  go_enter Tryz.func75, Tryz.ntmps75
  go_wp2
  go_returns
  exact ⟨rfl, (Below.refl _ _).alloc (Nat.le_refl _) _⟩
set_option maxRecDepth 100000 in
theorem Point_any (f : Nat) (w : World) (hf : f < 18446744073709551616) : Calls Tryz.prog 16 #[.float .f64 f] w fun e w' => e = .returned (vagg 3 false 0 (canonF f) ⟨#[]⟩) ∧ Below w.heap.size w w' := by
  have hsf := store_float
  have C := Lib.hid (fun w => Canon_any f w hf)
  go_enter Tryz.func16, Tryz.ntmps16
  go_wp2_with (go_at_call 34; ((with_reducible refine (C.out _).mono ?_); rintro e w' ⟨rfl, rfl⟩))
  go_returns
  exact ⟨rfl, (Below.refl _ _).alloc (Nat.le_refl _) _⟩
theorem Point_half (w : World) : Calls Tryz.prog 16 #[.float .f64 4609434218613702656] w fun e w' => e = .returned (vagg 3 false 0 4609434218613702656 ⟨#[]⟩) ∧ Below w.heap.size w w' := by
  have h := Point_any 4609434218613702656 w (by omega)
  rwa [show canonF 4609434218613702656 = 4609434218613702656 by decide] at h
set_option maxRecDepth 100000 in
set_option maxHeartbeats 1000000 in
theorem readNumber_7 (w : World) :
    Calls Tryz.prog 60 #[.string ⟨#[48, 48, 55]⟩] w fun e w' => e = .returned (.tuple #[vagg 2 false 7 0 ⟨#[]⟩, .bool true]) ∧ Below w.heap.size w w' := by
  have O := Lib.hid (One.start w #[.int .i64 0, .bool false, .int .i64 0, .float .f64 0, .string ⟨#[]⟩] 24)
  have hsf := store_float
  go_enter Tryz.func60, Tryz.ntmps60
  go_wp2_with (first | (go_at_call 74; ((with_reducible refine (Whole_7 _).mono ?_); rintro e w1 ⟨rfl, hb⟩; replace O := Lib.hid (O.out.step hb); clear hb; obtain ⟨_, _, x1, x2⟩ := O.out)) | (go_at_call 75; ((with_reducible refine (Number_any 7 _).mono ?_); rintro e w1 ⟨rfl, hb⟩; replace O := Lib.hid (O.out.step hb); clear hb; obtain ⟨_, _, x1, x2⟩ := O.out)))
  obtain ⟨s0, s1, s2, s3, s4⟩ := set5 w1 w.heap.size (.int .i64 2) (.bool false) (.int .i64 7) (.float .f64 0) (.string ⟨#[]⟩) _ rfl x1
  refine bodyPost_ret (v := .tuple #[vagg 2 false 7 0 ⟨#[]⟩, .bool true]) (by simp [results, Tryz.results60, go_sem, s0, s1, s2, s3, s4]) rfl ?_
  exact ⟨rfl, set5_below _ _ _ _ _ _ (Nat.le_refl _) O.out.below⟩
set_option maxRecDepth 100000 in
set_option maxHeartbeats 1000000 in
theorem readNumber_half (w : World) (h : Env2 w) :
    Calls Tryz.prog 60 #[.string ⟨#[49, 46, 53, 48]⟩] w fun e w' => e = .returned (.tuple #[vagg 3 false 0 4609434218613702656 ⟨#[]⟩, .bool true]) ∧ Below w.heap.size w w' := by
  have O := Lib.hid (One.start w #[.int .i64 0, .bool false, .int .i64 0, .float .f64 0, .string ⟨#[]⟩] 24)
  have hsf := store_float
  have HE := Lib.hid h
  clear h
  go_enter Tryz.func60, Tryz.ntmps60
  go_wp2_with (first | (go_at_call 74; ((with_reducible refine (Whole_no _).mono ?_); rintro e w1 ⟨rfl, hb⟩; replace O := Lib.hid (O.out.step hb); clear hb; obtain ⟨_, _, x1, x2⟩ := O.out)) | (go_at_call 76; ((with_reducible refine (Parse_b _ (HE.out.below O.out.below)).mono ?_); rintro e w1 ⟨rfl, hb⟩; replace O := Lib.hid (O.out.step hb); clear hb; obtain ⟨_, _, x1, x2⟩ := O.out)) | (go_at_call 16; ((with_reducible refine (Point_half _).mono ?_); rintro e w1 ⟨rfl, hb⟩; replace O := Lib.hid (O.out.step hb); clear hb; obtain ⟨_, _, x1, x2⟩ := O.out)))
  obtain ⟨s0, s1, s2, s3, s4⟩ := set5 w1 w.heap.size (.int .i64 3) (.bool false) (.int .i64 0) (.float .f64 4609434218613702656) (.string ⟨#[]⟩) _ rfl x1
  refine bodyPost_ret (v := .tuple #[vagg 3 false 0 4609434218613702656 ⟨#[]⟩, .bool true]) (by simp [results, Tryz.results60, go_sem, s0, s1, s2, s3, s4]) rfl ?_
  exact ⟨rfl, set5_below _ _ _ _ _ _ (Nat.le_refl _) O.out.below⟩
set_option maxRecDepth 100000 in
set_option maxHeartbeats 1000000 in
theorem read_7 (w : World) :
    Calls Tryz.prog 41 #[.string ⟨#[48, 48, 55]⟩] w fun e w' => e = .returned (.tuple #[vagg 2 false 7 0 ⟨#[]⟩, .bool true]) ∧ Below w.heap.size w w' := by
  have c0 : (⟨#[48, 48, 55]⟩ : ByteArray).extract 0 1 = ⟨#[48]⟩ ∧ (⟨#[49, 46, 53, 48]⟩ : ByteArray).extract 0 1 = ⟨#[49]⟩ := by decide
  obtain ⟨c1, c2⟩ := c0
  have O := Lib.hid (One.start w #[.int .i64 0, .bool false, .int .i64 0, .float .f64 0, .string ⟨#[]⟩] 24)
  have hsf := store_float
  go_enter Tryz.func41, Tryz.ntmps41
  go_wp2_with (first | (go_at_call 60; ((with_reducible refine (readNumber_7 _).mono ?_); rintro e w1 ⟨rfl, hb⟩; replace O := Lib.hid (O.out.step hb); clear hb; obtain ⟨_, _, x1, x2⟩ := O.out)) | go_in)
  obtain ⟨s0, s1, s2, s3, s4⟩ := set5 w1 w.heap.size (.int .i64 2) (.bool false) (.int .i64 7) (.float .f64 0) (.string ⟨#[]⟩) _ rfl x1
  refine bodyPost_ret (v := .tuple #[vagg 2 false 7 0 ⟨#[]⟩, .bool true]) (by simp [results, Tryz.results41, go_sem, s0, s1, s2, s3, s4]) rfl ?_
  exact ⟨rfl, set5_below _ _ _ _ _ _ (Nat.le_refl _) O.out.below⟩
set_option maxRecDepth 100000 in
set_option maxHeartbeats 1000000 in
theorem read_half (w : World) (h : Env2 w) :
    Calls Tryz.prog 41 #[.string ⟨#[49, 46, 53, 48]⟩] w fun e w' => e = .returned (.tuple #[vagg 3 false 0 4609434218613702656 ⟨#[]⟩, .bool true]) ∧ Below w.heap.size w w' := by
  have c0 : (⟨#[48, 48, 55]⟩ : ByteArray).extract 0 1 = ⟨#[48]⟩ ∧ (⟨#[49, 46, 53, 48]⟩ : ByteArray).extract 0 1 = ⟨#[49]⟩ := by decide
  obtain ⟨c1, c2⟩ := c0
  have O := Lib.hid (One.start w #[.int .i64 0, .bool false, .int .i64 0, .float .f64 0, .string ⟨#[]⟩] 24)
  have hsf := store_float
  have HE := Lib.hid h
  clear h
  go_enter Tryz.func41, Tryz.ntmps41
  go_wp2_with (first | (go_at_call 60; ((with_reducible refine (readNumber_half _ (HE.out.below O.out.below)).mono ?_); rintro e w1 ⟨rfl, hb⟩; replace O := Lib.hid (O.out.step hb); clear hb; obtain ⟨_, _, x1, x2⟩ := O.out)) | go_in)
  obtain ⟨s0, s1, s2, s3, s4⟩ := set5 w1 w.heap.size (.int .i64 3) (.bool false) (.int .i64 0) (.float .f64 4609434218613702656) (.string ⟨#[]⟩) _ rfl x1
  refine bodyPost_ret (v := .tuple #[vagg 3 false 0 4609434218613702656 ⟨#[]⟩, .bool true]) (by simp [results, Tryz.results41, go_sem, s0, s1, s2, s3, s4]) rfl ?_
  exact ⟨rfl, set5_below _ _ _ _ _ _ (Nat.le_refl _) O.out.below⟩
end Go.Proofs.YtbpakmiopmgmbaaGreatDoor
