/- value.Parse at the examples. -/
import Derived.Test.YtbpakmiopmgmbaaGreatDoorT8
namespace Go.Proofs.YtbpakmiopmgmbaaGreatDoor
open Go.RowKit
set_option maxRecDepth 100000 in
set_option maxHeartbeats 1000000 in
theorem Parse_7 (w : World) :
    Calls Tryz.prog 25 #[.string ⟨#[48, 48, 55]⟩] w fun e w' => e = .returned (.tuple #[vagg 0 false 0 0 ⟨#[]⟩, .int .i64 5]) ∧ Below w.heap.size w w' := by
  have O := Lib.hid (One.start w #[.int .i64 0, .bool false, .int .i64 0, .float .f64 0, .string ⟨#[]⟩] 24)
  have hsf := store_float
  go_enter Tryz.func25, Tryz.ntmps25
  go_wp2_with (first | (go_at_call 41; ((with_reducible refine (read_7 _).mono ?_); rintro e w1 ⟨rfl, hb⟩; replace O := Lib.hid (O.out.step hb); clear hb)) | (go_at_call 24; ((with_reducible refine (Text_int7 _).mono ?_); rintro e w2 ⟨rfl, hb⟩; replace O := Lib.hid ((O.out.step ((Below.refl _ _).alloc (Nat.le_refl _) _)).step hb); clear hb; obtain ⟨_, _, x1, x2⟩ := O.out)))
  obtain ⟨s0, s1, s2, s3, s4⟩ := set5 w2 w.heap.size (.int .i64 0) (.bool false) (.int .i64 0) (.float .f64 0) (.string ⟨#[]⟩) _ rfl x1
  refine bodyPost_ret (v := .tuple #[vagg 0 false 0 0 ⟨#[]⟩, .int .i64 5]) (by simp [results, Tryz.results25, go_sem, s0, s1, s2, s3, s4]) rfl ?_
  exact ⟨rfl, set5_below _ _ _ _ _ _ (Nat.le_refl _) O.out.below⟩
set_option maxRecDepth 100000 in
set_option maxHeartbeats 1000000 in
theorem Parse_half (w : World) (h : Env2 w) :
    Calls Tryz.prog 25 #[.string ⟨#[49, 46, 53, 48]⟩] w fun e w' => e = .returned (.tuple #[vagg 0 false 0 0 ⟨#[]⟩, .int .i64 5]) ∧ Below w.heap.size w w' := by
  have O := Lib.hid (One.start w #[.int .i64 0, .bool false, .int .i64 0, .float .f64 0, .string ⟨#[]⟩] 24)
  have hsf := store_float
  have HE := Lib.hid h
  clear h
  go_enter Tryz.func25, Tryz.ntmps25
  go_wp2_with (first | (go_at_call 41; ((with_reducible refine (read_half _ (HE.out.below O.out.below)).mono ?_); rintro e w1 ⟨rfl, hb⟩; replace O := Lib.hid (O.out.step hb); clear hb)) | (go_at_call 24; ((with_reducible refine (Text_half _ ((HE.out.below O.out.below).below ((Below.refl _ _).alloc (Nat.le_refl _) _)).env).mono ?_); rintro e w2 ⟨rfl, hb⟩; replace O := Lib.hid ((O.out.step ((Below.refl _ _).alloc (Nat.le_refl _) _)).step hb); clear hb; obtain ⟨_, _, x1, x2⟩ := O.out)))
  obtain ⟨s0, s1, s2, s3, s4⟩ := set5 w2 w.heap.size (.int .i64 0) (.bool false) (.int .i64 0) (.float .f64 0) (.string ⟨#[]⟩) _ rfl x1
  refine bodyPost_ret (v := .tuple #[vagg 0 false 0 0 ⟨#[]⟩, .int .i64 5]) (by simp [results, Tryz.results25, go_sem, s0, s1, s2, s3, s4]) rfl ?_
  exact ⟨rfl, set5_below _ _ _ _ _ _ (Nat.le_refl _) O.out.below⟩
end Go.Proofs.YtbpakmiopmgmbaaGreatDoor
