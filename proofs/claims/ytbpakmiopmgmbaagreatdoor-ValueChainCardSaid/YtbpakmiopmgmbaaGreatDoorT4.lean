/- num.Whole at 007 and at 1.50. -/
import Derived.Test.YtbpakmiopmgmbaaGreatDoorA3
import Derived.Test.YtbpakmiopmgmbaaGreatDoorA2
namespace Go.Proofs.YtbpakmiopmgmbaaGreatDoor
open Go.RowKit
set_option maxRecDepth 100000 in
set_option maxHeartbeats 1000000 in
theorem digits_c (w : World) :
    Calls Tryz.prog 96 #[.string ⟨#[48, 48, 55]⟩] w fun e w' => e = .returned (.tuple #[.string ⟨#[48, 48, 55]⟩, .string ⟨#[]⟩]) ∧ w.drew = w' := by
  go_enter Tryz.func96, Tryz.ntmps96
  go_wp2
  go_rounds 5
  go_region
  go_wp2
  go_ret2
  exact ⟨by kernel_rfl, rfl⟩
set_option maxRecDepth 100000 in
set_option maxHeartbeats 1000000 in
theorem digits_d (w : World) :
    Calls Tryz.prog 96 #[.string ⟨#[49, 46, 53, 48]⟩] w fun e w' => e = .returned (.tuple #[.string ⟨#[49]⟩, .string ⟨#[46, 53, 48]⟩]) ∧ w.drew = w' := by
  go_enter Tryz.func96, Tryz.ntmps96
  go_wp2
  go_rounds 5
  go_region
  go_wp2
  go_ret2
  exact ⟨by kernel_rfl, rfl⟩
set_option maxRecDepth 100000 in
set_option maxHeartbeats 1000000 in
theorem digits_e (w : World) :
    Calls Tryz.prog 96 #[.string ⟨#[53, 48]⟩] w fun e w' => e = .returned (.tuple #[.string ⟨#[53, 48]⟩, .string ⟨#[]⟩]) ∧ w.drew = w' := by
  go_enter Tryz.func96, Tryz.ntmps96
  go_wp2
  go_rounds 5
  go_region
  go_wp2
  go_ret2
  exact ⟨by kernel_rfl, rfl⟩
set_option maxRecDepth 100000 in
set_option maxHeartbeats 1000000 in
theorem ParseUint_7 (w : World) :
    Calls Tryz.prog 97 #[.string ⟨#[48, 48, 55]⟩, .int .i64 10, .int .i64 64] w fun e w' => e = .returned (.tuple #[.int .u64 7, .nilIface]) ∧ Below w.heap.size w w' := by
  obtain ⟨hw64, hand, hor, hiand⟩ := closedKit
  have hcv := Lib.run_convert_string_bytes (P := Tryz.prog) w 9 66 5 ⟨#[48, 48, 55]⟩ (u := .string) (by kernel_rfl) (by kernel_rfl) (by kernel_rfl)
  have h0 : (Lib.bytesWorld w 5 ⟨#[48, 48, 55]⟩).cell? ⟨w.heap.size, 0, none⟩ = some (.int .u8 48) := Lib.bytesWorld_cell w 5 ⟨#[48, 48, 55]⟩ 0 (by decide)
  have h1 : (Lib.bytesWorld w 5 ⟨#[48, 48, 55]⟩).cell? ⟨w.heap.size, 1, none⟩ = some (.int .u8 48) := Lib.bytesWorld_cell w 5 ⟨#[48, 48, 55]⟩ 1 (by decide)
  have h2 : (Lib.bytesWorld w 5 ⟨#[48, 48, 55]⟩).cell? ⟨w.heap.size, 2, none⟩ = some (.int .u8 55) := Lib.bytesWorld_cell w 5 ⟨#[48, 48, 55]⟩ 2 (by decide)
  go_enter Tryz.func97, Tryz.ntmps97
  go_wp2
  go_rounds 4
  go_ret2
  exact ⟨rfl, below_bytes _ _ _⟩
set_option maxRecDepth 100000 in
set_option maxHeartbeats 1000000 in
theorem Whole_7 (w : World) :
    Calls Tryz.prog 74 #[.string ⟨#[48, 48, 55]⟩] w fun e w' => e = .returned (.tuple #[.int .i64 7, .int .i64 0]) ∧ Below w.heap.size w w' := by
  have c1 : (⟨#[48, 48, 55]⟩ : ByteArray).extract 0 1 = ⟨#[48]⟩ ∧ (⟨#[49, 46, 53, 48]⟩ : ByteArray).extract 0 1 = ⟨#[49]⟩ := by decide
  obtain ⟨c1, c2⟩ := c1
  go_enter Tryz.func74, Tryz.ntmps74
  go_wp2_with (first | (go_at_call 96; go_must (go_fit (digits_c _)); rintro e w' ⟨rfl, rfl⟩) | (go_at_call 97; ((with_reducible refine (ParseUint_7 _).mono ?_); rintro e w1 ⟨rfl, hb⟩)) | go_in)
  go_ret2
  have hB : Below w.heap.size w w1 := (Below.refl w.heap.size w).drew.trans hb
  exact ⟨rfl, (hB.alloc hB.size _).alloc (by have := hB.size; simp; omega) _⟩
set_option maxRecDepth 100000 in
set_option maxHeartbeats 1000000 in
theorem Whole_no (w : World) :
    Calls Tryz.prog 74 #[.string ⟨#[49, 46, 53, 48]⟩] w fun e w' => e = .returned (.tuple #[.int .i64 0, .int .i64 5]) ∧ Below w.heap.size w w' := by
  have c1 : (⟨#[48, 48, 55]⟩ : ByteArray).extract 0 1 = ⟨#[48]⟩ ∧ (⟨#[49, 46, 53, 48]⟩ : ByteArray).extract 0 1 = ⟨#[49]⟩ := by decide
  obtain ⟨c1, c2⟩ := c1
  go_enter Tryz.func74, Tryz.ntmps74
  go_wp2_with (first | (go_at_call 96; go_must (go_fit (digits_d _)); rintro e w' ⟨rfl, rfl⟩) | go_in)
  go_ret2
  exact ⟨rfl, by go_grown⟩
end Go.Proofs.YtbpakmiopmgmbaaGreatDoor
