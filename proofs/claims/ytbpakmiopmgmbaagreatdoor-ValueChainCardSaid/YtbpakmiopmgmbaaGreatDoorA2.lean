/- num.Parse of 1e5 is the float 100000, in every world whose tables are laid: a walk through strconv.ParseFloat. -/
import Derived.Test.YtbpakmiopmgmbaaGreatDoorA0
namespace Go.Proofs.YtbpakmiopmgmbaaGreatDoor
open Go.RowKit
set_option maxHeartbeats 400000 in
theorem exact_15 (w : World) (a : Addr) (h5 : w.cell? ⟨13, 0, none⟩ = some (.int .u64 52)) (h12 : w.cell? ⟨16, 0, none⟩ = some (.slice (some a) 23 23)) 
    (hc : w.cell? ⟨a.block, a.off + 5, none⟩ = some (.float .f64 4681608360884174848)) :
    Calls Tryz.prog 193 #[.int .u64 1, .int .i64 5, .bool false] w fun e w' => e = .returned (.tuple #[.float .f64 4681608360884174848, .bool true]) ∧ w = w' := by
  have hm : ∀ w, (binOp .mul 22 (.float .f64 (floatOfInt .f64 1)) (.float .f64 4681608360884174848)).run Tryz.prog w = .ok (.float .f64 4681608360884174848) w := fun _ => by kernel_rfl
  go_enter Tryz.func193, Tryz.ntmps193
  go_wp2
  go_ret2
  exact ⟨rfl, rfl⟩
set_option maxHeartbeats 400000 in
theorem special_15 (w : World) :
    Calls Tryz.prog 183 #[.string ⟨#[48, 49, 101, 53]⟩] w fun e w' => e = .returned (.tuple #[.float .f64 0, .int .i64 0, .bool false]) ∧ w = w' := by
  go_enter Tryz.func183, Tryz.ntmps183
  go_wp2
  go_ret3
  exact ⟨rfl, rfl⟩
set_option maxRecDepth 100000 in
set_option maxHeartbeats 1000000 in
theorem readFloat_15 (w : World) :
    Calls Tryz.prog 184 #[.string ⟨#[48, 49, 101, 53]⟩] w fun e w' => e = .returned (.tuple #[.int .u64 1, .int .i64 5, .bool false, .bool false, .bool false, .int .i64 4, .bool true]) ∧ w = w' := by
  go_enter Tryz.func184, Tryz.ntmps184
  go_wp2
  go_step3
  go_wp2
  go_step3
  go_wp2
  go_rounds 5
  go_rounds 5
  rw [Exit.noGoto_ret]
  refine bodyPost_ret (results_tmp7 rfl _ _ _) rfl ?_
  exact ⟨rfl, rfl⟩
set_option maxRecDepth 100000 in
set_option maxHeartbeats 1000000 in
theorem atof64_15 (w : World) (a : Addr) (h3 : w.cell? ⟨3, 0, none⟩ = some (.bool true)) (h5 : w.cell? ⟨13, 0, none⟩ = some (.int .u64 52)) (h12 : w.cell? ⟨16, 0, none⟩ = some (.slice (some a) 23 23)) 
    (hc : w.cell? ⟨a.block, a.off + 5, none⟩ = some (.float .f64 4681608360884174848)) :
    Calls Tryz.prog 182 #[.string ⟨#[48, 49, 101, 53]⟩] w fun e w' => e = .returned (.tuple #[.float .f64 4681608360884174848, .int .i64 4, .nilIface]) ∧ w = w' := by
  go_enter Tryz.func182, Tryz.ntmps182
  go_wp2_with (first | (go_at_call 183; refine (special_15 _).mono ?_; rintro e w' ⟨rfl, rfl⟩) | (go_at_call 184; refine (readFloat_15 _).mono ?_; rintro e w' ⟨rfl, rfl⟩) | (go_at_call 193; refine (exact_15 _ a h5 h12 hc).mono ?_; rintro e w' ⟨rfl, rfl⟩) | go_in)
  go_ret3
  exact ⟨rfl, rfl⟩

set_option maxRecDepth 100000 in
set_option maxHeartbeats 1000000 in
theorem ParseFloat_15 (w : World) (a : Addr) (h3 : w.cell? ⟨3, 0, none⟩ = some (.bool true)) (h5 : w.cell? ⟨13, 0, none⟩ = some (.int .u64 52)) (h12 : w.cell? ⟨16, 0, none⟩ = some (.slice (some a) 23 23)) 
    (hc : w.cell? ⟨a.block, a.off + 5, none⟩ = some (.float .f64 4681608360884174848)) :
    Calls Tryz.prog 131 #[.string ⟨#[48, 49, 101, 53]⟩, .int .i64 64] w fun e w' => e = .returned (.tuple #[.float .f64 4681608360884174848, .nilIface]) ∧ w = w' := by
  go_enter Tryz.func131, Tryz.ntmps131
  go_wp2_with (first | (go_at_call 182; refine (atof64_15 _ a h3 h5 h12 hc).mono ?_; rintro e w' ⟨rfl, rfl⟩) | go_in)
  go_ret2
  exact ⟨rfl, rfl⟩
set_option maxRecDepth 100000 in
set_option maxHeartbeats 1000000 in
theorem digits_a (w : World) :
    Calls Tryz.prog 96 #[.string ⟨#[49, 101, 53]⟩] w fun e w' => e = .returned (.tuple #[.string ⟨#[49]⟩, .string ⟨#[101, 53]⟩]) ∧ w.drew = w' := by
  go_enter Tryz.func96, Tryz.ntmps96
  go_wp2
  go_rounds 3
  go_region
  go_wp2
  go_ret2
  exact ⟨by kernel_rfl, rfl⟩
set_option maxRecDepth 100000 in
set_option maxHeartbeats 1000000 in
theorem digits_b (w : World) :
    Calls Tryz.prog 96 #[.string ⟨#[53]⟩] w fun e w' => e = .returned (.tuple #[.string ⟨#[53]⟩, .string ⟨#[]⟩]) ∧ w.drew = w' := by
  go_enter Tryz.func96, Tryz.ntmps96
  go_wp2
  go_rounds 3
  go_region
  go_wp2
  go_ret2
  exact ⟨by kernel_rfl, rfl⟩
theorem below_bytes (w : World) (e : TypeId) (s : ByteArray) : Below w.heap.size w (Lib.bytesWorld w e s) :=
  ⟨rfl, rfl, rfl, by rw [Lib.bytesWorld_size]; omega, fun j hj => Lib.bytesWorld_at_old w e s j hj⟩
set_option maxRecDepth 100000 in
set_option maxHeartbeats 1000000 in
theorem Atoi_a (w : World) :
    Calls Tryz.prog 159 #[.string ⟨#[53]⟩] w fun e w' => e = .returned (.tuple #[.int .i64 5, .nilIface]) ∧ Below w.heap.size w w' := by
  have hcv := Lib.run_convert_string_bytes (P := Tryz.prog) w 9 66 5 ⟨#[53]⟩ (u := .string) (by kernel_rfl) (by kernel_rfl) (by kernel_rfl)
  have hcl : (Lib.bytesWorld w 5 ⟨#[53]⟩).cell? ⟨w.heap.size, 0, none⟩ = some (.int .u8 53) := Lib.bytesWorld_cell w 5 ⟨#[53]⟩ 0 (by decide)
  go_enter Tryz.func159, Tryz.ntmps159
  go_wp2
  go_rounds 3
  go_ret2
  exact ⟨rfl, below_bytes _ _ _⟩
theorem cuts : (⟨#[101, 53]⟩ : ByteArray).extract 0 1 = ⟨#[101]⟩ ∧ (⟨#[101, 53]⟩ : ByteArray).extract 1 2 = ⟨#[53]⟩ ∧ (⟨#[49, 101, 53]⟩ : ByteArray).extract 0 1 = ⟨#[49]⟩ ∧ (⟨#[53]⟩ : ByteArray).extract 0 1 = ⟨#[53]⟩ ∧ (⟨#[49]⟩ : ByteArray).extract 0 1 = ⟨#[49]⟩ := by decide
set_option maxRecDepth 100000 in
set_option maxHeartbeats 1000000 in
theorem HasPrefix_a (w : World) :
    Calls Tryz.prog 57 #[.string ⟨#[53]⟩, .string ⟨#[43]⟩] w fun e w' => e = .returned (.bool false) ∧ w = w' := by
  obtain ⟨c1, c2, c3, c4, c5⟩ := cuts
  go_enter Tryz.func57, Tryz.ntmps57
  go_wp2
  go_ret
  exact ⟨rfl, rfl⟩
theorem CutPrefix_a (w : World) :
    Calls Tryz.prog 95 #[.string ⟨#[101, 53]⟩, .string ⟨#[101]⟩] w fun e w' => e = .returned (.tuple #[.string ⟨#[53]⟩, .bool true]) ∧ w = w' := by
  obtain ⟨c1, c2, c3, c4, c5⟩ := cuts
  go_enter Tryz.func95, Tryz.ntmps95
  go_wp2

  go_ret2
  exact ⟨rfl, rfl⟩
set_option maxRecDepth 100000 in
set_option maxHeartbeats 1000000 in
theorem readPower_a (w : World) :
    Calls Tryz.prog 128 #[.string ⟨#[101, 53]⟩] w fun e w' => e = .returned (.tuple #[.int .i64 5, .bool true]) ∧ Below w.heap.size w w' := by
  obtain ⟨c1, c2, c3, c4, c5⟩ := cuts
  go_enter Tryz.func128, Tryz.ntmps128
  go_wp2_with (first | (go_at_call 96; go_must (go_fit (digits_b _)); rintro e w' ⟨rfl, rfl⟩) | (go_at_call 159; go_must (go_fit (Atoi_a _)); rintro e w' ⟨rfl, hb⟩) | go_in)

  go_ret2
  exact ⟨rfl, (Below.refl _ _).drew.trans hb⟩
set_option maxRecDepth 100000 in
set_option maxHeartbeats 1000000 in
theorem Itoa_a (w : World) :
    Calls Tryz.prog 132 #[.int .i64 5] w fun e w' => e = .returned (.string ⟨#[53]⟩) ∧ w = w' := by
  go_enter Tryz.func132, Tryz.ntmps132
  go_wp2
  go_ret
  exact ⟨by kernel_rfl, rfl⟩
set_option maxRecDepth 100000 in
set_option maxHeartbeats 1000000 in
theorem TrimLeft_a (w : World) :
    Calls Tryz.prog 129 #[.string ⟨#[49]⟩, .string ⟨#[48]⟩] w fun e w' => e = .returned (.string ⟨#[49]⟩) ∧ w = w' := by
  go_enter Tryz.func129, Tryz.ntmps129
  go_wp2
  go_rounds 2
  go_ret
  exact ⟨rfl, rfl⟩
set_option maxRecDepth 100000 in
set_option maxHeartbeats 1000000 in
theorem readDecimal_a (w : World) :
    Calls Tryz.prog 99 #[.string ⟨#[49, 101, 53]⟩] w fun e w' => e = .returned (.tuple #[.agg #[.bool false, .string ⟨#[49]⟩, .string ⟨#[]⟩, .int .i64 5], .bool true]) ∧ Below w.heap.size w w' := by
  obtain ⟨c1, c2, c3, c4, c5⟩ := cuts
  go_enter Tryz.func99, Tryz.ntmps99
  go_wp2_with (first | (go_at_call 96; go_must (go_fit (digits_a _)); rintro e w' ⟨rfl, rfl⟩) | (go_at_call 128; go_must (go_fit (readPower_a _)); rintro e w1 ⟨rfl, hb⟩; obtain ⟨hc, hf⟩ := bcell hb; have hz : w.heap.size + 1 < w1.heap.size := (by have := hb.size; simp at this; omega)) | go_in)
  have hB : Below w.heap.size w w1 := ((((Below.refl _ _).alloc (Nat.le_refl _) _).alloc (by simp) _).drew).trans (hb.mono (by simp; omega))
  have k0 : w1.cell? ⟨w.heap.size, 0, none⟩ = some (.bool false) := (hc _ _ (by simp; omega)).trans (by simp [go_sem])
  have k1 : w1.cell? ⟨w.heap.size, 1, none⟩ = some (.string ⟨#[]⟩) := (hc _ _ (by simp; omega)).trans (by simp [go_sem])
  have k2 : w1.cell? ⟨w.heap.size, 2, none⟩ = some (.string ⟨#[]⟩) := (hc _ _ (by simp; omega)).trans (by simp [go_sem])
  have k3 : w1.cell? ⟨w.heap.size, 3, none⟩ = some (.int .i64 0) := (hc _ _ (by simp; omega)).trans (by simp [go_sem])
  refine bodyPost_ret (v := .tuple #[.agg #[.bool false, .string ⟨#[49]⟩, .string ⟨#[]⟩, .int .i64 5], .bool true]) (by simp [results, Tryz.results99, go_sem, k0, k1, k2, k3]) rfl ⟨rfl, ?_⟩
  exact ((((hB.setCell (by simp) _).setCell (by simp) _).setCell (by simp) _).setCell (by simp) _).setCell (by simp) _

/-- What the closed runs ask of the world: some cells of strconv's tables. -/
structure Env (w : World) : Prop where
  sz : 17 ≤ w.heap.size
  opt : w.cell? ⟨3, 0, none⟩ = some (.bool true)
  info : w.cell? ⟨13, 0, none⟩ = some (.int .u64 52)
  u10 : w.cell? ⟨2, 15, none⟩ = some (.int .u64 1000000000000000)
  p0 : w.cell? ⟨6, 728, none⟩ = some (.int .u64 10240000000000000000)
  p1 : w.cell? ⟨6, 729, none⟩ = some (.int .u64 0)
  f10 : ∃ a : Addr, a.block < w.heap.size ∧ w.cell? ⟨16, 0, none⟩ = some (.slice (some a) 23 23) ∧ w.cell? ⟨a.block, a.off + 5, none⟩ = some (.float .f64 4681608360884174848)

theorem Env.below {w w' : World} (h : Env w) (hb : Below w.heap.size w w') : Env w' := by
  have hs := h.sz
  have hl := hb.size
  obtain ⟨a, ha, h1, h2⟩ := h.f10
  have c : ∀ b o, b < w.heap.size → w'.cell? ⟨b, o, none⟩ = w.cell? ⟨b, o, none⟩ := fun b o hbb => hb.cell (p := ⟨b, o, none⟩) hbb
  exact ⟨by omega, (c _ _ (by omega)).trans h.opt, (c _ _ (by omega)).trans h.info, (c _ _ (by omega)).trans h.u10, (c _ _ (by omega)).trans h.p0, (c _ _ (by omega)).trans h.p1,
    a, by omega, (c _ _ (by omega)).trans h1, (c _ _ (by omega)).trans h2⟩
theorem Env.alloc {w : World} (h : Env w) (o : Obj) : Env (w.alloc o) := h.below ((Below.refl _ _).alloc (Nat.le_refl _) _)

theorem ParseFloat_e {w : World} (h : Env w) :
    Calls Tryz.prog 131 #[.string ⟨#[48, 49, 101, 53]⟩, .int .i64 64] w fun e w' => e = .returned (.tuple #[.float .f64 4681608360884174848, .nilIface]) ∧ w = w' := by
  obtain ⟨a, _, h1, h2⟩ := h.f10
  exact ParseFloat_15 w a h.opt h.info h1 h2

set_option maxRecDepth 100000 in
set_option maxHeartbeats 1000000 in
theorem nearest_a (w : World) (h : Env w) :
    Calls Tryz.prog 100 #[.agg #[.bool false, .string ⟨#[49]⟩, .string ⟨#[]⟩, .int .i64 5]] w fun e w' => e = .returned (.float .f64 4681608360884174848) ∧ Below w.heap.size w w' := by
  have e0 : (⟨#[49]⟩ : ByteArray) ++ ⟨#[]⟩ = ⟨#[49]⟩ := by decide
  have e1 : (⟨#[]⟩ : ByteArray) ++ ⟨#[48]⟩ = ⟨#[48]⟩ := by decide
  have e2 : (⟨#[48]⟩ : ByteArray) ++ ⟨#[49]⟩ = ⟨#[48, 49]⟩ := by decide
  have e3 : (⟨#[48, 49]⟩ : ByteArray) ++ ⟨#[101]⟩ = ⟨#[48, 49, 101]⟩ := by decide
  have e4 : (⟨#[48, 49, 101]⟩ : ByteArray) ++ ⟨#[53]⟩ = ⟨#[48, 49, 101, 53]⟩ := by decide
  have HE := Lib.hid (fun o => h.alloc o)
  clear h
  go_enter Tryz.func100, Tryz.ntmps100
  go_wp2_with (first | (go_at_call 129; go_must (go_fit (TrimLeft_a _)); rintro e w' ⟨rfl, rfl⟩) | (go_at_call 132; go_must (go_fit (Itoa_a _)); rintro e w1 ⟨rfl, rfl⟩) | (go_at_call 131; go_must (go_fit (ParseFloat_e (HE.out _))); rintro e w1 ⟨rfl, rfl⟩) | go_in)


  go_ret
  exact ⟨rfl, (Below.refl _ _).alloc (Nat.le_refl _) _⟩

set_option maxRecDepth 100000 in
set_option maxHeartbeats 1000000 in
theorem Parse_a (w : World) (h : Env w) :
    Calls Tryz.prog 76 #[.string ⟨#[49, 101, 53]⟩] w fun e w' => e = .returned (.tuple #[.float .f64 4681608360884174848, .int .i64 0]) ∧ Below w.heap.size w w' := by
  have HE := Lib.hid h
  clear h
  go_enter Tryz.func76, Tryz.ntmps76
  go_wp2_with (first | (go_at_call 99; go_must (go_fit (readDecimal_a _)); rintro e w1 ⟨rfl, hb⟩; have HB := Lib.hid hb; clear hb) | (go_at_call 100; go_must (go_fit (nearest_a _ ((HE.out.below HB.out).alloc _))); rintro e w2 ⟨rfl, hb2⟩) | go_in)


  go_ret2
  exact ⟨rfl, (HB.out.alloc HB.out.size _).trans (hb2.mono (by have := HB.out.size; simp; omega))⟩
end Go.Proofs.YtbpakmiopmgmbaaGreatDoor
