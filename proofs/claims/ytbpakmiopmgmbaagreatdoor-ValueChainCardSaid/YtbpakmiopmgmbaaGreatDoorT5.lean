/- num.Parse of 1.50 is the float 1.5. -/
import Derived.Test.YtbpakmiopmgmbaaGreatDoorA2
import Derived.Test.YtbpakmiopmgmbaaGreatDoorT4
namespace Go.Proofs.YtbpakmiopmgmbaaGreatDoor
open Go.RowKit
set_option maxRecDepth 100000 in
set_option maxHeartbeats 1000000 in
theorem TrimLeft_b (w : World) :
    Calls Tryz.prog 129 #[.string ⟨#[49, 53, 48]⟩, .string ⟨#[48]⟩] w fun e w' => e = .returned (.string ⟨#[49, 53, 48]⟩) ∧ w = w' := by
  go_enter Tryz.func129, Tryz.ntmps129
  go_wp2
  go_rounds 2
  go_ret
  exact ⟨rfl, rfl⟩
set_option maxRecDepth 100000 in
set_option maxHeartbeats 1000000 in
theorem readDecimal_b (w : World) :
    Calls Tryz.prog 99 #[.string ⟨#[49, 46, 53, 48]⟩] w fun e w' => e = .returned (.tuple #[.agg #[.bool false, .string ⟨#[49]⟩, .string ⟨#[53, 48]⟩, .int .i64 0], .bool true]) ∧ Below w.heap.size w w' := by
  have c0 : (⟨#[49, 46, 53, 48]⟩ : ByteArray).extract 0 1 = ⟨#[49]⟩ ∧ (⟨#[46, 53, 48]⟩ : ByteArray).extract 0 1 = ⟨#[46]⟩ ∧ (⟨#[46, 53, 48]⟩ : ByteArray).extract 1 3 = ⟨#[53, 48]⟩ := by decide
  obtain ⟨c1, c2, c3⟩ := c0
  go_enter Tryz.func99, Tryz.ntmps99
  go_wp2_with (first | (go_at_call 96; ((with_reducible refine (digits_d _).mono ?_); rintro e w' ⟨rfl, rfl⟩)) | (go_at_call 96; ((with_reducible refine (digits_e _).mono ?_); rintro e w' ⟨rfl, rfl⟩)) | go_in)
  go_returns
  exact ⟨rfl, by go_grown⟩
abbrev y24 : Array Value := #[.int .u8 45, .int .u8 50, .int .u8 0, .int .u8 0, .int .u8 0, .int .u8 0, .int .u8 0, .int .u8 0, .int .u8 0, .int .u8 0, .int .u8 0, .int .u8 0, .int .u8 0, .int .u8 0, .int .u8 0, .int .u8 0, .int .u8 0, .int .u8 0, .int .u8 0, .int .u8 0, .int .u8 0, .int .u8 0, .int .u8 0, .int .u8 0]
theorem bytes2 (w : World) : (convert 66 9 (.slice (some ⟨w.heap.size, 0, none⟩) 2 24)).run Tryz.prog (w.alloc (.cells y24 83)) = .ok (.string (strOfNums [45, 50])) (w.alloc (.cells y24 83)) := by
  refine run_convert_bytes_arg _ 66 5 (by kernel_rfl) (by kernel_rfl) w.heap.size 0 2 24 [45, 50] rfl ?_ 9 (by kernel_rfl)
  intro i hi
  have hc := cell_of_row (w.alloc (.cells y24 83)) w.heap.size i _ _ _ (heap_alloc_new w _)
  match i, hi with
  | 0, _ => exact hc
  | 1, _ => exact hc
set_option maxRecDepth 100000 in
set_option maxHeartbeats 1000000 in
theorem len64_d (w : World) :
    Calls Tryz.prog 103 #[.int .u64 2] w fun e w' => e = .returned (.int .i64 2) ∧ w = w' := by
  obtain ⟨hw64, hand, hor, hiand⟩ := closedKit
  go_enter Tryz.func103, Tryz.ntmps103
  go_wp2
  go_ret
  exact ⟨by kernel_rfl, rfl⟩
set_option maxRecDepth 100000 in
set_option maxHeartbeats 1000000 in
theorem numDigits_d (w : World) (h : w.cell? ⟨2, 0, none⟩ = some (.int .u64 1)) :
    Calls Tryz.prog 83 #[.int .u64 2] w fun e w' => e = .returned (.int .i64 1) ∧ w = w' := by
  obtain ⟨hw64, hand, hor, hiand⟩ := closedKit
  go_enter Tryz.func83, Tryz.ntmps83
  go_wp2_with (first | (go_at_call 103; refine (len64_d _).mono ?_; rintro e w' ⟨rfl, rfl⟩) | go_in)
  go_ret
  exact ⟨rfl, rfl⟩
set_option maxRecDepth 100000 in
set_option maxHeartbeats 1000000 in
theorem Itoa_b (w : World) (h : w.cell? ⟨2, 0, none⟩ = some (.int .u64 1)) (hs6 : 2 < w.heap.size) :
    Calls Tryz.prog 132 #[.int .i64 (-2)] w fun e w' => e = .returned (.string ⟨#[45, 50]⟩) ∧ Below w.heap.size w w' := by
  obtain ⟨hw64, hand, hor, hiand⟩ := closedKit
  have hN : ∀ o1 : Obj, (w.alloc o1).cell? ⟨2, 0, none⟩ = some (.int .u64 1) := fun o1 => (World.cell?_alloc_lt _ _ _ hs6).trans h
  have HN := Lib.hid hN
  clear hN
  have hcv := bytes2
  go_enter Tryz.func132, Tryz.ntmps132
  go_wp2_with (first | (go_at_call 83; ((with_reducible refine (numDigits_d _ h).mono ?_); rintro e w' ⟨rfl, rfl⟩)) | (go_at_call 83; ((with_reducible refine (numDigits_d _ (HN.out _)).mono ?_); rintro e w' ⟨rfl, rfl⟩)) | go_in)
  go_rounds 3
  go_ret
  exact ⟨by kernel_rfl, (Below.refl _ _).alloc (Nat.le_refl _) _⟩
set_option maxHeartbeats 400000 in
theorem special_b (w : World) :
    Calls Tryz.prog 183 #[.string ⟨#[48, 49, 53, 48, 101, 45, 50]⟩] w fun e w' => e = .returned (.tuple #[.float .f64 0, .int .i64 0, .bool false]) ∧ w = w' := by
  go_enter Tryz.func183, Tryz.ntmps183
  go_wp2
  go_ret3
  exact ⟨rfl, rfl⟩
set_option maxHeartbeats 400000 in
theorem exact_b (w : World) (a : Addr) (h5 : w.cell? ⟨13, 0, none⟩ = some (.int .u64 52)) (h12 : w.cell? ⟨16, 0, none⟩ = some (.slice (some a) 23 23)) 
    (hc : w.cell? ⟨a.block, a.off + 2, none⟩ = some (.float .f64 4636737291354636288)) :
    Calls Tryz.prog 193 #[.int .u64 150, .int .i64 (-2), .bool false] w fun e w' => e = .returned (.tuple #[.float .f64 4609434218613702656, .bool true]) ∧ w = w' := by
  have hm : ∀ w, (binOp .quo 22 (.float .f64 (floatOfInt .f64 150)) (.float .f64 4636737291354636288)).run Tryz.prog w = .ok (.float .f64 4609434218613702656) w := fun _ => by kernel_rfl
  go_enter Tryz.func193, Tryz.ntmps193
  go_wp2
  go_ret2
  exact ⟨rfl, rfl⟩
set_option maxRecDepth 100000 in
set_option maxHeartbeats 1000000 in
theorem readFloat_15b (w : World) :
    Calls Tryz.prog 184 #[.string ⟨#[48, 49, 53, 48, 101, 45, 50]⟩] w fun e w' => e = .returned (.tuple #[.int .u64 150, .int .i64 (-2), .bool false, .bool false, .bool false, .int .i64 7, .bool true]) ∧ w = w' := by
  go_enter Tryz.func184, Tryz.ntmps184
  go_wp2
  go_step3
  go_wp2
  go_step3
  go_wp2
  go_rounds 6
  go_rounds 6
  rw [Exit.noGoto_ret]
  refine bodyPost_ret (results_tmp7 rfl _ _ _) rfl ?_
  exact ⟨rfl, rfl⟩
set_option maxRecDepth 100000 in
set_option maxHeartbeats 1000000 in
theorem atof64_b (w : World) (a : Addr) (h3 : w.cell? ⟨3, 0, none⟩ = some (.bool true)) (h5 : w.cell? ⟨13, 0, none⟩ = some (.int .u64 52)) (h12 : w.cell? ⟨16, 0, none⟩ = some (.slice (some a) 23 23)) 
    (hc : w.cell? ⟨a.block, a.off + 2, none⟩ = some (.float .f64 4636737291354636288)) :
    Calls Tryz.prog 182 #[.string ⟨#[48, 49, 53, 48, 101, 45, 50]⟩] w fun e w' => e = .returned (.tuple #[.float .f64 4609434218613702656, .int .i64 7, .nilIface]) ∧ w = w' := by
  go_enter Tryz.func182, Tryz.ntmps182
  go_wp2_with (first | (go_at_call 183; refine (special_b _).mono ?_; rintro e w' ⟨rfl, rfl⟩) | (go_at_call 184; refine (readFloat_15b _).mono ?_; rintro e w' ⟨rfl, rfl⟩) | (go_at_call 193; refine (exact_b _ a h5 h12 hc).mono ?_; rintro e w' ⟨rfl, rfl⟩) | go_in)
  go_ret3
  exact ⟨rfl, rfl⟩
set_option maxRecDepth 100000 in
set_option maxHeartbeats 1000000 in
theorem ParseFloat_b (w : World) (a : Addr) (h3 : w.cell? ⟨3, 0, none⟩ = some (.bool true)) (h5 : w.cell? ⟨13, 0, none⟩ = some (.int .u64 52)) (h12 : w.cell? ⟨16, 0, none⟩ = some (.slice (some a) 23 23)) 
    (hc : w.cell? ⟨a.block, a.off + 2, none⟩ = some (.float .f64 4636737291354636288)) :
    Calls Tryz.prog 131 #[.string ⟨#[48, 49, 53, 48, 101, 45, 50]⟩, .int .i64 64] w fun e w' => e = .returned (.tuple #[.float .f64 4609434218613702656, .nilIface]) ∧ w = w' := by
  go_enter Tryz.func131, Tryz.ntmps131
  go_wp2_with (first | (go_at_call 182; refine (atof64_b _ a h3 h5 h12 hc).mono ?_; rintro e w' ⟨rfl, rfl⟩) | go_in)
  go_ret2
  exact ⟨rfl, rfl⟩
/-- What the closed runs of value's examples ask of the world besides. -/
structure Env2 (w : World) : Prop where
  env : Env w
  u0 : w.cell? ⟨2, 0, none⟩ = some (.int .u64 1)
  f2 : ∃ a : Addr, a.block < w.heap.size ∧ w.cell? ⟨16, 0, none⟩ = some (.slice (some a) 23 23) ∧ w.cell? ⟨a.block, a.off + 2, none⟩ = some (.float .f64 4636737291354636288)
theorem Env2.below {w w' : World} (h : Env2 w) (hb : Below w.heap.size w w') : Env2 w' := by
  have hs := h.env.sz
  have hl := hb.size
  obtain ⟨a, ha, h1, h2⟩ := h.f2
  have c : ∀ b o, b < w.heap.size → w'.cell? ⟨b, o, none⟩ = w.cell? ⟨b, o, none⟩ := fun b o hbb => hb.cell (p := ⟨b, o, none⟩) hbb
  exact ⟨h.env.below hb, (c _ _ (by omega)).trans h.u0, a, by omega, (c _ _ (by omega)).trans h1, (c _ _ (by omega)).trans h2⟩
theorem ParseFloat_f {w : World} (h : Env2 w) :
    Calls Tryz.prog 131 #[.string ⟨#[48, 49, 53, 48, 101, 45, 50]⟩, .int .i64 64] w fun e w' => e = .returned (.tuple #[.float .f64 4609434218613702656, .nilIface]) ∧ w = w' := by
  obtain ⟨a, _, h1, h2⟩ := h.f2
  exact ParseFloat_b w a h.env.opt h.env.info h1 h2
set_option maxRecDepth 100000 in
set_option maxHeartbeats 1000000 in
theorem nearest_b (w : World) (h : Env2 w) :
    Calls Tryz.prog 100 #[.agg #[.bool false, .string ⟨#[49]⟩, .string ⟨#[53, 48]⟩, .int .i64 0]] w fun e w' => e = .returned (.float .f64 4609434218613702656) ∧ Below w.heap.size w w' := by
  have e0 : (⟨#[49]⟩ : ByteArray) ++ ⟨#[53, 48]⟩ = ⟨#[49, 53, 48]⟩ := by decide
  have e1 : (⟨#[]⟩ : ByteArray) ++ ⟨#[48]⟩ = ⟨#[48]⟩ := by decide
  have e2 : (⟨#[48]⟩ : ByteArray) ++ ⟨#[49, 53, 48]⟩ = ⟨#[48, 49, 53, 48]⟩ := by decide
  have e3 : (⟨#[48, 49, 53, 48]⟩ : ByteArray) ++ ⟨#[101]⟩ = ⟨#[48, 49, 53, 48, 101]⟩ := by decide
  have e4 : (⟨#[48, 49, 53, 48, 101]⟩ : ByteArray) ++ ⟨#[45, 50]⟩ = ⟨#[48, 49, 53, 48, 101, 45, 50]⟩ := by decide
  have ha : ∀ o : Obj, Env2 (w.alloc o) := fun o => h.below ((Below.refl _ _).alloc (Nat.le_refl _) _)
  have hu : ∀ o : Obj, (w.alloc o).cell? ⟨2, 0, none⟩ = some (.int .u64 1) := fun o => (ha o).u0
  have hz : ∀ o : Obj, 2 < (w.alloc o).heap.size := fun o => by have := (ha o).env.sz; omega
  have HE := Lib.hid ha
  have HU := Lib.hid hu
  have HZ := Lib.hid hz
  clear h ha hu hz
  go_enter Tryz.func100, Tryz.ntmps100
  go_wp2_with (first | (go_at_call 129; ((with_reducible refine (TrimLeft_b _).mono ?_); rintro e w' ⟨rfl, rfl⟩)) | (go_at_call 132; ((with_reducible refine (Itoa_b _ (HU.out _) (HZ.out _)).mono ?_); rintro e w1 ⟨rfl, hb⟩)) | (go_at_call 131; ((with_reducible refine (ParseFloat_f ((HE.out _).below hb)).mono ?_); rintro e w2 ⟨rfl, rfl⟩)) | go_in)
  go_ret
  exact ⟨rfl, ((Below.refl _ _).alloc (Nat.le_refl _) _).trans (hb.mono (by simp))⟩
set_option maxRecDepth 100000 in
set_option maxHeartbeats 1000000 in
theorem Parse_b (w : World) (h : Env2 w) :
    Calls Tryz.prog 76 #[.string ⟨#[49, 46, 53, 48]⟩] w fun e w' => e = .returned (.tuple #[.float .f64 4609434218613702656, .int .i64 0]) ∧ Below w.heap.size w w' := by
  have HE := Lib.hid h
  clear h
  go_enter Tryz.func76, Tryz.ntmps76
  go_wp2_with (first | (go_at_call 99; ((with_reducible refine (readDecimal_b _).mono ?_); rintro e w1 ⟨rfl, hb⟩); have HB := Lib.hid hb; clear hb) | (go_at_call 100; ((with_reducible refine (nearest_b _ ((HE.out.below HB.out).below ((Below.refl _ _).alloc (Nat.le_refl _) _))).mono ?_); rintro e w2 ⟨rfl, hb2⟩)) | go_in)
  go_ret2
  exact ⟨rfl, (HB.out.alloc HB.out.size _).trans (hb2.mono (by have := HB.out.size; simp; omega))⟩
end Go.Proofs.YtbpakmiopmgmbaaGreatDoor
