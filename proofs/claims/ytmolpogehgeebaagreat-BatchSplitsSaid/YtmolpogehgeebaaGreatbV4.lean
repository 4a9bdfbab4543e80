/- The order of values: Compare at each Kind; Compare, Same, for every two values that may be. -/
/- Compare and Same, for every two values that may be: the order of values. -/
/- value.May, for every value. -/
/- Equality and less of numbers, in plain numbers; Truth, number, notANumber, sameNumber, for every value. -/
import Derived.Test.YtmolpogehgeebaaGreatbQ1
namespace Go.Proofs.YtmolpogehgeebaaGreat
open Go.RowKit
set_option maxRecDepth 100000 in
set_option maxHeartbeats 1000000 in
theorem Compare_k0 (n k' n' : Int) (b b' : Bool) (f f' : Nat) (s s' : ByteArray) (w : World) (hk : classK 0 = classK k') (r : Int)
    (hc : ∀ w, Calls Tryz.prog 225 #[vagg 0 b n f s, vagg k' b' n' f' s'] w fun e w' => e = .returned (.int .i64 r) ∧ Below w.heap.size w w') :
    Calls Tryz.prog 108 #[vagg 0 b n f s, vagg k' b' n' f' s'] w fun e w' => e = .returned (.int .i64 r) ∧ Below w.heap.size w w' := by
  have K1 := Lib.hid (fun w => class_any 0 w)
  have K2 := Lib.hid (fun w => class_any k' w)
  have k3 := fun w => CompareN_any (classK 0) (classK k') w
  have K4 := Lib.hid (fun w => known_any 0 w (by omega) (by omega))
  have HC := Lib.hid hc
  rw [(cmpI_zero _ _).2 hk] at k3
  have K3 := Lib.hid k3
  clear k3 hc hk
  generalize classK 0 = c at *
  generalize classK k' = c' at *
  go_enter Tryz.func108, Tryz.ntmps108
  go_wp2
  go_quiet ((first | (go_at_call 174; exact quiet_l (K1.out _)) | (go_at_call 174; exact quiet_l (K2.out _)) | (go_at_call 173; exact quiet_l (K3.out _))))
  go_upto_region 4 with (go_at_call 175; ((with_reducible refine (K4.out _).mono ?_); rintro e w1 ⟨rfl, rfl⟩))
  have hi : ∀ w, (Instr.index 239 (.agg fnTable) (.int .i64 0)).run Tryz.prog w = .ok (.func (.func 225) #[] #[]) w := fun _ => by kernel_rfl
  go_region_held3 (fun w' => w'.cell? ⟨w.heap.size, 0, none⟩ = some (.int .i64 0) ∧ w'.cell? ⟨w.heap.size, 1, none⟩ = some (.bool b) ∧ w'.cell? ⟨w.heap.size, 2, none⟩ = some (.int .i64 n) ∧ w'.cell? ⟨w.heap.size, 3, none⟩ = some (.float .f64 f) ∧ w'.cell? ⟨w.heap.size, 4, none⟩ = some (.string s) ∧ w'.cell? ⟨w.heap.size + 1, 0, none⟩ = some (.int .i64 k') ∧ w'.cell? ⟨w.heap.size + 1, 1, none⟩ = some (.bool b') ∧ w'.cell? ⟨w.heap.size + 1, 2, none⟩ = some (.int .i64 n') ∧ w'.cell? ⟨w.heap.size + 1, 3, none⟩ = some (.float .f64 f') ∧ w'.cell? ⟨w.heap.size + 1, 4, none⟩ = some (.string s')) (go_keep) (first | (go_at_call 176; ((with_reducible refine (comparisons_any _).mono ?_); rintro e w1 ⟨rfl, rfl⟩)) | (go_at_call 225; ((with_reducible refine (HC.out _).mono ?_); rintro e w1 ⟨rfl, hb⟩; have h1 := fun o => (bcell hb).1 w.heap.size o (by simp; omega); have h2 := fun o => (bcell hb).1 (w.heap.size + 1) o (by simp))))
  go_wp2
  go_ret
  exact ⟨rfl, ((below2 w _ _ _).alloc (by simp; omega) _).trans (hb.mono (by simp; omega))⟩
set_option maxRecDepth 100000 in
set_option maxHeartbeats 1000000 in
theorem Compare_k1 (n k' n' : Int) (b b' : Bool) (f f' : Nat) (s s' : ByteArray) (w : World) (hk : classK 1 = classK k') (r : Int)
    (hc : ∀ w, Calls Tryz.prog 226 #[vagg 1 b n f s, vagg k' b' n' f' s'] w fun e w' => e = .returned (.int .i64 r) ∧ Below w.heap.size w w') :
    Calls Tryz.prog 108 #[vagg 1 b n f s, vagg k' b' n' f' s'] w fun e w' => e = .returned (.int .i64 r) ∧ Below w.heap.size w w' := by
  have K1 := Lib.hid (fun w => class_any 1 w)
  have K2 := Lib.hid (fun w => class_any k' w)
  have k3 := fun w => CompareN_any (classK 1) (classK k') w
  have K4 := Lib.hid (fun w => known_any 1 w (by omega) (by omega))
  have HC := Lib.hid hc
  rw [(cmpI_zero _ _).2 hk] at k3
  have K3 := Lib.hid k3
  clear k3 hc hk
  generalize classK 1 = c at *
  generalize classK k' = c' at *
  go_enter Tryz.func108, Tryz.ntmps108
  go_wp2
  go_quiet ((first | (go_at_call 174; exact quiet_l (K1.out _)) | (go_at_call 174; exact quiet_l (K2.out _)) | (go_at_call 173; exact quiet_l (K3.out _))))
  go_upto_region 4 with (go_at_call 175; ((with_reducible refine (K4.out _).mono ?_); rintro e w1 ⟨rfl, rfl⟩))
  have hi : ∀ w, (Instr.index 239 (.agg fnTable) (.int .i64 1)).run Tryz.prog w = .ok (.func (.func 226) #[] #[]) w := fun _ => by kernel_rfl
  go_region_held3 (fun w' => w'.cell? ⟨w.heap.size, 0, none⟩ = some (.int .i64 1) ∧ w'.cell? ⟨w.heap.size, 1, none⟩ = some (.bool b) ∧ w'.cell? ⟨w.heap.size, 2, none⟩ = some (.int .i64 n) ∧ w'.cell? ⟨w.heap.size, 3, none⟩ = some (.float .f64 f) ∧ w'.cell? ⟨w.heap.size, 4, none⟩ = some (.string s) ∧ w'.cell? ⟨w.heap.size + 1, 0, none⟩ = some (.int .i64 k') ∧ w'.cell? ⟨w.heap.size + 1, 1, none⟩ = some (.bool b') ∧ w'.cell? ⟨w.heap.size + 1, 2, none⟩ = some (.int .i64 n') ∧ w'.cell? ⟨w.heap.size + 1, 3, none⟩ = some (.float .f64 f') ∧ w'.cell? ⟨w.heap.size + 1, 4, none⟩ = some (.string s')) (go_keep) (first | (go_at_call 176; ((with_reducible refine (comparisons_any _).mono ?_); rintro e w1 ⟨rfl, rfl⟩)) | (go_at_call 226; ((with_reducible refine (HC.out _).mono ?_); rintro e w1 ⟨rfl, hb⟩; have h1 := fun o => (bcell hb).1 w.heap.size o (by simp; omega); have h2 := fun o => (bcell hb).1 (w.heap.size + 1) o (by simp))))
  go_wp2
  go_ret
  exact ⟨rfl, ((below2 w _ _ _).alloc (by simp; omega) _).trans (hb.mono (by simp; omega))⟩
set_option maxRecDepth 100000 in
set_option maxHeartbeats 1000000 in
theorem Compare_k2 (n k' n' : Int) (b b' : Bool) (f f' : Nat) (s s' : ByteArray) (w : World) (hk : classK 2 = classK k') (r : Int)
    (hc : ∀ w, Calls Tryz.prog 227 #[vagg 2 b n f s, vagg k' b' n' f' s'] w fun e w' => e = .returned (.int .i64 r) ∧ Below w.heap.size w w') :
    Calls Tryz.prog 108 #[vagg 2 b n f s, vagg k' b' n' f' s'] w fun e w' => e = .returned (.int .i64 r) ∧ Below w.heap.size w w' := by
  have K1 := Lib.hid (fun w => class_any 2 w)
  have K2 := Lib.hid (fun w => class_any k' w)
  have k3 := fun w => CompareN_any (classK 2) (classK k') w
  have K4 := Lib.hid (fun w => known_any 2 w (by omega) (by omega))
  have HC := Lib.hid hc
  rw [(cmpI_zero _ _).2 hk] at k3
  have K3 := Lib.hid k3
  clear k3 hc hk
  generalize classK 2 = c at *
  generalize classK k' = c' at *
  go_enter Tryz.func108, Tryz.ntmps108
  go_wp2
  go_quiet ((first | (go_at_call 174; exact quiet_l (K1.out _)) | (go_at_call 174; exact quiet_l (K2.out _)) | (go_at_call 173; exact quiet_l (K3.out _))))
  go_upto_region 4 with (go_at_call 175; ((with_reducible refine (K4.out _).mono ?_); rintro e w1 ⟨rfl, rfl⟩))
  have hi : ∀ w, (Instr.index 239 (.agg fnTable) (.int .i64 2)).run Tryz.prog w = .ok (.func (.func 227) #[] #[]) w := fun _ => by kernel_rfl
  go_region_held3 (fun w' => w'.cell? ⟨w.heap.size, 0, none⟩ = some (.int .i64 2) ∧ w'.cell? ⟨w.heap.size, 1, none⟩ = some (.bool b) ∧ w'.cell? ⟨w.heap.size, 2, none⟩ = some (.int .i64 n) ∧ w'.cell? ⟨w.heap.size, 3, none⟩ = some (.float .f64 f) ∧ w'.cell? ⟨w.heap.size, 4, none⟩ = some (.string s) ∧ w'.cell? ⟨w.heap.size + 1, 0, none⟩ = some (.int .i64 k') ∧ w'.cell? ⟨w.heap.size + 1, 1, none⟩ = some (.bool b') ∧ w'.cell? ⟨w.heap.size + 1, 2, none⟩ = some (.int .i64 n') ∧ w'.cell? ⟨w.heap.size + 1, 3, none⟩ = some (.float .f64 f') ∧ w'.cell? ⟨w.heap.size + 1, 4, none⟩ = some (.string s')) (go_keep) (first | (go_at_call 176; ((with_reducible refine (comparisons_any _).mono ?_); rintro e w1 ⟨rfl, rfl⟩)) | (go_at_call 227; ((with_reducible refine (HC.out _).mono ?_); rintro e w1 ⟨rfl, hb⟩; have h1 := fun o => (bcell hb).1 w.heap.size o (by simp; omega); have h2 := fun o => (bcell hb).1 (w.heap.size + 1) o (by simp))))
  go_wp2
  go_ret
  exact ⟨rfl, ((below2 w _ _ _).alloc (by simp; omega) _).trans (hb.mono (by simp; omega))⟩
set_option maxRecDepth 100000 in
set_option maxHeartbeats 1000000 in
theorem Compare_k3 (n k' n' : Int) (b b' : Bool) (f f' : Nat) (s s' : ByteArray) (w : World) (hk : classK 3 = classK k') (r : Int)
    (hc : ∀ w, Calls Tryz.prog 228 #[vagg 3 b n f s, vagg k' b' n' f' s'] w fun e w' => e = .returned (.int .i64 r) ∧ Below w.heap.size w w') :
    Calls Tryz.prog 108 #[vagg 3 b n f s, vagg k' b' n' f' s'] w fun e w' => e = .returned (.int .i64 r) ∧ Below w.heap.size w w' := by
  have K1 := Lib.hid (fun w => class_any 3 w)
  have K2 := Lib.hid (fun w => class_any k' w)
  have k3 := fun w => CompareN_any (classK 3) (classK k') w
  have K4 := Lib.hid (fun w => known_any 3 w (by omega) (by omega))
  have HC := Lib.hid hc
  rw [(cmpI_zero _ _).2 hk] at k3
  have K3 := Lib.hid k3
  clear k3 hc hk
  generalize classK 3 = c at *
  generalize classK k' = c' at *
  go_enter Tryz.func108, Tryz.ntmps108
  go_wp2
  go_quiet ((first | (go_at_call 174; exact quiet_l (K1.out _)) | (go_at_call 174; exact quiet_l (K2.out _)) | (go_at_call 173; exact quiet_l (K3.out _))))
  go_upto_region 4 with (go_at_call 175; ((with_reducible refine (K4.out _).mono ?_); rintro e w1 ⟨rfl, rfl⟩))
  have hi : ∀ w, (Instr.index 239 (.agg fnTable) (.int .i64 3)).run Tryz.prog w = .ok (.func (.func 228) #[] #[]) w := fun _ => by kernel_rfl
  go_region_held3 (fun w' => w'.cell? ⟨w.heap.size, 0, none⟩ = some (.int .i64 3) ∧ w'.cell? ⟨w.heap.size, 1, none⟩ = some (.bool b) ∧ w'.cell? ⟨w.heap.size, 2, none⟩ = some (.int .i64 n) ∧ w'.cell? ⟨w.heap.size, 3, none⟩ = some (.float .f64 f) ∧ w'.cell? ⟨w.heap.size, 4, none⟩ = some (.string s) ∧ w'.cell? ⟨w.heap.size + 1, 0, none⟩ = some (.int .i64 k') ∧ w'.cell? ⟨w.heap.size + 1, 1, none⟩ = some (.bool b') ∧ w'.cell? ⟨w.heap.size + 1, 2, none⟩ = some (.int .i64 n') ∧ w'.cell? ⟨w.heap.size + 1, 3, none⟩ = some (.float .f64 f') ∧ w'.cell? ⟨w.heap.size + 1, 4, none⟩ = some (.string s')) (go_keep) (first | (go_at_call 176; ((with_reducible refine (comparisons_any _).mono ?_); rintro e w1 ⟨rfl, rfl⟩)) | (go_at_call 228; ((with_reducible refine (HC.out _).mono ?_); rintro e w1 ⟨rfl, hb⟩; have h1 := fun o => (bcell hb).1 w.heap.size o (by simp; omega); have h2 := fun o => (bcell hb).1 (w.heap.size + 1) o (by simp))))
  go_wp2
  go_ret
  exact ⟨rfl, ((below2 w _ _ _).alloc (by simp; omega) _).trans (hb.mono (by simp; omega))⟩
set_option maxRecDepth 100000 in
set_option maxHeartbeats 1000000 in
theorem Compare_k4 (n k' n' : Int) (b b' : Bool) (f f' : Nat) (s s' : ByteArray) (w : World) (hk : classK 4 = classK k') (r : Int)
    (hc : ∀ w, Calls Tryz.prog 229 #[vagg 4 b n f s, vagg k' b' n' f' s'] w fun e w' => e = .returned (.int .i64 r) ∧ Below w.heap.size w w') :
    Calls Tryz.prog 108 #[vagg 4 b n f s, vagg k' b' n' f' s'] w fun e w' => e = .returned (.int .i64 r) ∧ Below w.heap.size w w' := by
  have K1 := Lib.hid (fun w => class_any 4 w)
  have K2 := Lib.hid (fun w => class_any k' w)
  have k3 := fun w => CompareN_any (classK 4) (classK k') w
  have K4 := Lib.hid (fun w => known_any 4 w (by omega) (by omega))
  have HC := Lib.hid hc
  rw [(cmpI_zero _ _).2 hk] at k3
  have K3 := Lib.hid k3
  clear k3 hc hk
  generalize classK 4 = c at *
  generalize classK k' = c' at *
  go_enter Tryz.func108, Tryz.ntmps108
  go_wp2
  go_quiet ((first | (go_at_call 174; exact quiet_l (K1.out _)) | (go_at_call 174; exact quiet_l (K2.out _)) | (go_at_call 173; exact quiet_l (K3.out _))))
  go_upto_region 4 with (go_at_call 175; ((with_reducible refine (K4.out _).mono ?_); rintro e w1 ⟨rfl, rfl⟩))
  have hi : ∀ w, (Instr.index 239 (.agg fnTable) (.int .i64 4)).run Tryz.prog w = .ok (.func (.func 229) #[] #[]) w := fun _ => by kernel_rfl
  go_region_held3 (fun w' => w'.cell? ⟨w.heap.size, 0, none⟩ = some (.int .i64 4) ∧ w'.cell? ⟨w.heap.size, 1, none⟩ = some (.bool b) ∧ w'.cell? ⟨w.heap.size, 2, none⟩ = some (.int .i64 n) ∧ w'.cell? ⟨w.heap.size, 3, none⟩ = some (.float .f64 f) ∧ w'.cell? ⟨w.heap.size, 4, none⟩ = some (.string s) ∧ w'.cell? ⟨w.heap.size + 1, 0, none⟩ = some (.int .i64 k') ∧ w'.cell? ⟨w.heap.size + 1, 1, none⟩ = some (.bool b') ∧ w'.cell? ⟨w.heap.size + 1, 2, none⟩ = some (.int .i64 n') ∧ w'.cell? ⟨w.heap.size + 1, 3, none⟩ = some (.float .f64 f') ∧ w'.cell? ⟨w.heap.size + 1, 4, none⟩ = some (.string s')) (go_keep) (first | (go_at_call 176; ((with_reducible refine (comparisons_any _).mono ?_); rintro e w1 ⟨rfl, rfl⟩)) | (go_at_call 229; ((with_reducible refine (HC.out _).mono ?_); rintro e w1 ⟨rfl, hb⟩; have h1 := fun o => (bcell hb).1 w.heap.size o (by simp; omega); have h2 := fun o => (bcell hb).1 (w.heap.size + 1) o (by simp))))
  go_wp2
  go_ret
  exact ⟨rfl, ((below2 w _ _ _).alloc (by simp; omega) _).trans (hb.mono (by simp; omega))⟩
set_option maxRecDepth 100000 in
set_option maxHeartbeats 1000000 in
theorem Compare_k5 (n k' n' : Int) (b b' : Bool) (f f' : Nat) (s s' : ByteArray) (w : World) (hk : classK 5 = classK k') (r : Int)
    (hc : ∀ w, Calls Tryz.prog 231 #[vagg 5 b n f s, vagg k' b' n' f' s'] w fun e w' => e = .returned (.int .i64 r) ∧ Below w.heap.size w w') :
    Calls Tryz.prog 108 #[vagg 5 b n f s, vagg k' b' n' f' s'] w fun e w' => e = .returned (.int .i64 r) ∧ Below w.heap.size w w' := by
  have K1 := Lib.hid (fun w => class_any 5 w)
  have K2 := Lib.hid (fun w => class_any k' w)
  have k3 := fun w => CompareN_any (classK 5) (classK k') w
  have K4 := Lib.hid (fun w => known_any 5 w (by omega) (by omega))
  have HC := Lib.hid hc
  rw [(cmpI_zero _ _).2 hk] at k3
  have K3 := Lib.hid k3
  clear k3 hc hk
  generalize classK 5 = c at *
  generalize classK k' = c' at *
  go_enter Tryz.func108, Tryz.ntmps108
  go_wp2
  go_quiet ((first | (go_at_call 174; exact quiet_l (K1.out _)) | (go_at_call 174; exact quiet_l (K2.out _)) | (go_at_call 173; exact quiet_l (K3.out _))))
  go_upto_region 4 with (go_at_call 175; ((with_reducible refine (K4.out _).mono ?_); rintro e w1 ⟨rfl, rfl⟩))
  have hi : ∀ w, (Instr.index 239 (.agg fnTable) (.int .i64 5)).run Tryz.prog w = .ok (.func (.func 231) #[] #[]) w := fun _ => by kernel_rfl
  go_region_held3 (fun w' => w'.cell? ⟨w.heap.size, 0, none⟩ = some (.int .i64 5) ∧ w'.cell? ⟨w.heap.size, 1, none⟩ = some (.bool b) ∧ w'.cell? ⟨w.heap.size, 2, none⟩ = some (.int .i64 n) ∧ w'.cell? ⟨w.heap.size, 3, none⟩ = some (.float .f64 f) ∧ w'.cell? ⟨w.heap.size, 4, none⟩ = some (.string s) ∧ w'.cell? ⟨w.heap.size + 1, 0, none⟩ = some (.int .i64 k') ∧ w'.cell? ⟨w.heap.size + 1, 1, none⟩ = some (.bool b') ∧ w'.cell? ⟨w.heap.size + 1, 2, none⟩ = some (.int .i64 n') ∧ w'.cell? ⟨w.heap.size + 1, 3, none⟩ = some (.float .f64 f') ∧ w'.cell? ⟨w.heap.size + 1, 4, none⟩ = some (.string s')) (go_keep) (first | (go_at_call 176; ((with_reducible refine (comparisons_any _).mono ?_); rintro e w1 ⟨rfl, rfl⟩)) | (go_at_call 231; ((with_reducible refine (HC.out _).mono ?_); rintro e w1 ⟨rfl, hb⟩; have h1 := fun o => (bcell hb).1 w.heap.size o (by simp; omega); have h2 := fun o => (bcell hb).1 (w.heap.size + 1) o (by simp))))
  go_wp2
  go_ret
  exact ⟨rfl, ((below2 w _ _ _).alloc (by simp; omega) _).trans (hb.mono (by simp; omega))⟩
set_option maxRecDepth 100000 in
set_option maxHeartbeats 1000000 in
theorem Compare_k6 (n k' n' : Int) (b b' : Bool) (f f' : Nat) (s s' : ByteArray) (w : World) (hk : classK 6 = classK k') (r : Int)
    (hc : ∀ w, Calls Tryz.prog 231 #[vagg 6 b n f s, vagg k' b' n' f' s'] w fun e w' => e = .returned (.int .i64 r) ∧ Below w.heap.size w w') :
    Calls Tryz.prog 108 #[vagg 6 b n f s, vagg k' b' n' f' s'] w fun e w' => e = .returned (.int .i64 r) ∧ Below w.heap.size w w' := by
  have K1 := Lib.hid (fun w => class_any 6 w)
  have K2 := Lib.hid (fun w => class_any k' w)
  have k3 := fun w => CompareN_any (classK 6) (classK k') w
  have K4 := Lib.hid (fun w => known_any 6 w (by omega) (by omega))
  have HC := Lib.hid hc
  rw [(cmpI_zero _ _).2 hk] at k3
  have K3 := Lib.hid k3
  clear k3 hc hk
  generalize classK 6 = c at *
  generalize classK k' = c' at *
  go_enter Tryz.func108, Tryz.ntmps108
  go_wp2
  go_quiet ((first | (go_at_call 174; exact quiet_l (K1.out _)) | (go_at_call 174; exact quiet_l (K2.out _)) | (go_at_call 173; exact quiet_l (K3.out _))))
  go_upto_region 4 with (go_at_call 175; ((with_reducible refine (K4.out _).mono ?_); rintro e w1 ⟨rfl, rfl⟩))
  have hi : ∀ w, (Instr.index 239 (.agg fnTable) (.int .i64 6)).run Tryz.prog w = .ok (.func (.func 231) #[] #[]) w := fun _ => by kernel_rfl
  go_region_held3 (fun w' => w'.cell? ⟨w.heap.size, 0, none⟩ = some (.int .i64 6) ∧ w'.cell? ⟨w.heap.size, 1, none⟩ = some (.bool b) ∧ w'.cell? ⟨w.heap.size, 2, none⟩ = some (.int .i64 n) ∧ w'.cell? ⟨w.heap.size, 3, none⟩ = some (.float .f64 f) ∧ w'.cell? ⟨w.heap.size, 4, none⟩ = some (.string s) ∧ w'.cell? ⟨w.heap.size + 1, 0, none⟩ = some (.int .i64 k') ∧ w'.cell? ⟨w.heap.size + 1, 1, none⟩ = some (.bool b') ∧ w'.cell? ⟨w.heap.size + 1, 2, none⟩ = some (.int .i64 n') ∧ w'.cell? ⟨w.heap.size + 1, 3, none⟩ = some (.float .f64 f') ∧ w'.cell? ⟨w.heap.size + 1, 4, none⟩ = some (.string s')) (go_keep) (first | (go_at_call 176; ((with_reducible refine (comparisons_any _).mono ?_); rintro e w1 ⟨rfl, rfl⟩)) | (go_at_call 231; ((with_reducible refine (HC.out _).mono ?_); rintro e w1 ⟨rfl, hb⟩; have h1 := fun o => (bcell hb).1 w.heap.size o (by simp; omega); have h2 := fun o => (bcell hb).1 (w.heap.size + 1) o (by simp))))
  go_wp2
  go_ret
  exact ⟨rfl, ((below2 w _ _ _).alloc (by simp; omega) _).trans (hb.mono (by simp; omega))⟩
end Go.Proofs.YtmolpogehgeebaaGreat


namespace Go.Proofs.YtmolpogehgeebaaGreat
open Go.RowKit
set_option maxRecDepth 100000 in
set_option maxHeartbeats 1000000 in
theorem Compare_far (k k' n n' : Int) (b b' : Bool) (f f' : Nat) (s s' : ByteArray) (w : World) (hk : classK k ≠ classK k') :
    Calls Tryz.prog 108 #[vagg k b n f s, vagg k' b' n' f' s'] w fun e w' => e = .returned (.int .i64 (cmpI (classK k) (classK k'))) ∧ Below w.heap.size w w' := by
  have K1 := Lib.hid (fun w => class_any k w)
  have K2 := Lib.hid (fun w => class_any k' w)
  have K3 := Lib.hid (fun w => CompareN_any (classK k) (classK k') w)
  have hz : (cmpI (classK k) (classK k') != 0) = true := by
    simp only [bne_iff_ne, ne_eq]
    exact fun h => hk ((cmpI_zero _ _).1 h)
  clear hk
  generalize classK k = c at *
  generalize classK k' = c' at *
  generalize cmpI c c' = d at *
  go_enter Tryz.func108, Tryz.ntmps108
  go_wp2
  go_quiet ((first | (go_at_call 174; exact quiet_l (K1.out _)) | (go_at_call 174; exact quiet_l (K2.out _)) | (go_at_call 173; exact quiet_l (K3.out _))))
  go_wp2
  go_ret
  exact ⟨rfl, below2 _ _ _ _⟩
theorem cmpK_far {x y : Int × Int × List UInt8} (h : x.1 ≠ y.1) : cmpK x y = cmpI x.1 y.1 := by
  unfold cmpK; rw [if_neg (fun e => h ((cmpI_zero _ _).1 e))]
theorem cmpK_num {x y : Int × Int × List UInt8} (h : x.1 = y.1) (h1 : x.2.2 = []) (h2 : y.2.2 = []) : cmpK x y = cmpI x.2.1 y.2.1 := by
  unfold cmpK; rw [if_pos ((cmpI_zero _ _).2 h), h1, h2]
  split
  · rename_i e; rw [e]; rfl
  · rfl
theorem cmpK_str {x y : Int × Int × List UInt8} (h : x.1 = y.1) (h1 : x.2.1 = y.2.1) : cmpK x y = Lib.compareBytes x.2.2 y.2.2 := by
  unfold cmpK; rw [if_pos ((cmpI_zero _ _).2 h), if_pos ((cmpI_zero _ _).2 h1)]
theorem retI {a b : Int} (h : a = b) : Ending.returned (.int .i64 a) = .returned (.int .i64 b) := by rw [h]
theorem may_kind {k : Int} {b : Bool} {n : Int} {f : Nat} {s : ByteArray} (h : MayV k b n f s) : k = 0 ∨ k = 1 ∨ k = 2 ∨ k = 3 ∨ k = 4 ∨ k = 5 ∨ k = 6 := by
  unfold MayV at h; omega
theorem Compare_any (k n k' n' : Int) (b b' : Bool) (f f' : Nat) (s s' : ByteArray) (w : World) (hx : WideV k n f s) (hy : WideV k' n' f' s') (mx : MayV k b n f s) (my : MayV k' b' n' f' s') :
    Calls Tryz.prog 108 #[vagg k b n f s, vagg k' b' n' f' s'] w fun e w' => e = .returned (.int .i64 (cmpK (keyV k b n f s) (keyV k' b' n' f' s'))) ∧ Below w.heap.size w w' := by
  obtain ⟨_, hn, hf, _⟩ := hx
  obtain ⟨_, hn', hf', _⟩ := hy
  by_cases hc : classK k = classK k'
  · have my' := may_kind my
    rcases may_kind mx with rfl | rfl | rfl | rfl | rfl | rfl | rfl
    · obtain rfl : k' = 0 := by unfold classK at hc; split at hc <;> split at hc <;> omega
      refine (Compare_k0 n 0 n' b b' f f' s s' w hc 0 fun w => nulls_any _ _ _ _ _ _ _ _ _ _ w).mono fun e w' h => ⟨h.1.trans (retI ?_), h.2⟩
      exact (cmpK_num (x := keyV 0 b n f s) (y := keyV 0 b' n' f' s') rfl rfl rfl).symm
    · obtain rfl : k' = 1 := by unfold classK at hc; split at hc <;> split at hc <;> omega
      refine (Compare_k1 n 1 n' b b' f f' s s' w hc _ fun w => bools_any _ _ _ _ _ _ _ _ _ _ w).mono fun e w' h => ⟨h.1.trans (retI ?_), h.2⟩
      exact (cmpK_num (x := keyV 1 b n f s) (y := keyV 1 b' n' f' s') rfl rfl rfl).symm
    · have hk : k' = 2 ∨ k' = 3 := by unfold classK at hc; split at hc <;> split at hc <;> omega
      refine (Compare_k2 n k' n' b b' f f' s s' w hc _ fun w => intAndNumber_any _ _ _ _ _ _ _ _ _ _ w hn hf' hk).mono fun e w' h => ⟨h.1.trans (retI ?_), h.2⟩
      rcases hk with rfl | rfl
      · exact (cmpK_num (x := keyV 2 b n f s) (y := keyV 2 b' n' f' s') rfl rfl rfl).symm
      · exact (cmpK_num (x := keyV 2 b n f s) (y := keyV 3 b' n' f' s') rfl rfl rfl).symm
    · have hk : k' = 2 ∨ k' = 3 := by unfold classK at hc; split at hc <;> split at hc <;> omega
      refine (Compare_k3 n k' n' b b' f f' s s' w hc _ fun w => floatAndNumber_any _ _ _ _ _ _ _ _ _ _ w hn' hf hf' hk).mono fun e w' h => ⟨h.1.trans (retI ?_), h.2⟩
      rcases hk with rfl | rfl
      · exact (cmpK_num (x := keyV 3 b n f s) (y := keyV 2 b' n' f' s') rfl rfl rfl).symm
      · exact (cmpK_num (x := keyV 3 b n f s) (y := keyV 3 b' n' f' s') rfl rfl rfl).symm
    · obtain rfl : k' = 4 := by unfold classK at hc; split at hc <;> split at hc <;> omega
      refine (Compare_k4 n 4 n' b b' f f' s s' w hc _ fun w => strs_any _ _ _ _ _ _ _ _ _ _ w).mono fun e w' h => ⟨h.1.trans (retI ?_), h.2⟩
      exact (cmpK_str (x := keyV 4 b n f s) (y := keyV 4 b' n' f' s') rfl rfl).symm
    · obtain rfl : k' = 5 := by unfold classK at hc; split at hc <;> split at hc <;> omega
      refine (Compare_k5 n 5 n' b b' f f' s s' w hc _ fun w => nums_any _ _ _ _ _ _ _ _ _ _ w).mono fun e w' h => ⟨h.1.trans (retI ?_), h.2⟩
      exact (cmpK_num (x := keyV 5 b n f s) (y := keyV 5 b' n' f' s') rfl rfl rfl).symm
    · obtain rfl : k' = 6 := by unfold classK at hc; split at hc <;> split at hc <;> omega
      refine (Compare_k6 n 6 n' b b' f f' s s' w hc _ fun w => nums_any _ _ _ _ _ _ _ _ _ _ w).mono fun e w' h => ⟨h.1.trans (retI ?_), h.2⟩
      exact (cmpK_num (x := keyV 6 b n f s) (y := keyV 6 b' n' f' s') rfl rfl rfl).symm
  · exact (Compare_far k k' n n' b b' f f' s s' w hc).mono fun e w' h => ⟨h.1.trans (retI (cmpK_far (x := keyV k b n f s) (y := keyV k' b' n' f' s') hc).symm), h.2⟩
set_option maxRecDepth 100000 in
theorem Same_any (k n k' n' : Int) (b b' : Bool) (f f' : Nat) (s s' : ByteArray) (w : World) (hx : WideV k n f s) (hy : WideV k' n' f' s') (mx : MayV k b n f s) (my : MayV k' b' n' f' s') :
    Calls Tryz.prog 31 #[vagg k b n f s, vagg k' b' n' f' s'] w fun e w' => e = .returned (.bool (cmpK (keyV k b n f s) (keyV k' b' n' f' s') == 0)) ∧ Below w.heap.size w w' := by
  have C := Lib.hid (fun w => Compare_any k n k' n' b b' f f' s s' w hx hy mx my)
  generalize cmpK (keyV k b n f s) (keyV k' b' n' f' s') = r at *
  clear hx hy mx my
  go_enter Tryz.func31, Tryz.ntmps31
  go_wp2_with (go_at_call 108; ((with_reducible refine (C.out _).mono ?_); rintro e w1 ⟨rfl, hb⟩))
  go_ret
  exact ⟨rfl, below_two _ _ _ _ hb⟩
end Go.Proofs.YtmolpogehgeebaaGreat


namespace Go.Proofs.YtmolpogehgeebaaGreat
open Go.RowKit
instance decMay (k : Int) (b : Bool) (n : Int) (f : Nat) (s : ByteArray) : Decidable (MayV k b n f s) := by unfold MayV; infer_instance
def mayB (k : Int) (b : Bool) (n : Int) (f : Nat) (s : ByteArray) : Bool := decide (MayV k b n f s)
theorem mayB_eq {k : Int} {b : Bool} {n : Int} {f : Nat} {s : ByteArray} {c : Bool} (h : c = true ↔ MayV k b n f s) : c = mayB k b n f s := by
  unfold mayB
  cases c <;> simp_all
/-- A float is stored as any other cell. -/
theorem store_float (w : World) (a : Addr) (m : Mode) (f : Nat) : (store a (.float .f64 f) m).run Tryz.prog w = stored Tryz.prog w a (.float .f64 f) m := run_store Tryz.prog w a _ m rfl
theorem like_iff {k k' n n' : Int} {b b' : Bool} {f f' : Nat} {s s' : ByteArray} : likeV k b n f s k' b' n' f' s' = true ↔ (k = k' ∧ b = b' ∧ n = n' ∧ f = f' ∧ s = s') := by unfold likeV; simp
theorem no_may {k : Int} {b : Bool} {n : Int} {f : Nat} {s : ByteArray} (h : ¬ MayV k b n f s) : false = mayB k b n f s := mayB_eq (by simp [h])
set_option maxRecDepth 100000 in
set_option maxHeartbeats 1000000 in
theorem May_0 (b : Bool) (n : Int) (f : Nat) (s : ByteArray) (w : World) :
    Calls Tryz.prog 193 #[vagg 0 b n f s] w fun e w' => e = .returned (.bool (mayB 0 b n f s)) ∧ Below w.heap.size w w' := by
  have hsf := store_float
  go_enter Tryz.func193, Tryz.ntmps193
  go_wp2_with (go_at_call 238; ((with_reducible refine (identical_any _ _ _ _ _ _ _ _ _ _ _).mono ?_); rintro e w1 ⟨rfl, hb⟩))
  go_ret
  refine ⟨retB (mayB_eq ?_), below_two _ _ _ _ hb⟩
  show _ ↔ MayV _ _ _ _ _; rw [like_iff]; unfold MayV; simp [show (⟨#[]⟩ : ByteArray) = ByteArray.empty from rfl]
set_option maxRecDepth 100000 in
set_option maxHeartbeats 1000000 in
theorem May_1 (b : Bool) (n : Int) (f : Nat) (s : ByteArray) (w : World) :
    Calls Tryz.prog 193 #[vagg 1 b n f s] w fun e w' => e = .returned (.bool (mayB 1 b n f s)) ∧ Below w.heap.size w w' := by
  have hsf := store_float
  go_enter Tryz.func193, Tryz.ntmps193
  go_wp2_with (go_at_call 238; ((with_reducible refine (identical_any _ _ _ _ _ _ _ _ _ _ _).mono ?_); rintro e w1 ⟨rfl, hb⟩))
  go_ret
  refine ⟨retB (mayB_eq ?_), below_two _ _ _ _ hb⟩
  show _ ↔ MayV _ _ _ _ _; rw [like_iff]; unfold MayV; simp [show (⟨#[]⟩ : ByteArray) = ByteArray.empty from rfl]
set_option maxRecDepth 100000 in
set_option maxHeartbeats 1000000 in
theorem May_2 (b : Bool) (n : Int) (f : Nat) (s : ByteArray) (w : World) :
    Calls Tryz.prog 193 #[vagg 2 b n f s] w fun e w' => e = .returned (.bool (mayB 2 b n f s)) ∧ Below w.heap.size w w' := by
  have hsf := store_float
  go_enter Tryz.func193, Tryz.ntmps193
  go_wp2_with (go_at_call 238; ((with_reducible refine (identical_any _ _ _ _ _ _ _ _ _ _ _).mono ?_); rintro e w1 ⟨rfl, hb⟩))
  go_ret
  refine ⟨retB (mayB_eq ?_), below_two _ _ _ _ hb⟩
  show _ ↔ MayV _ _ _ _ _; rw [like_iff]; unfold MayV; simp [show (⟨#[]⟩ : ByteArray) = ByteArray.empty from rfl]
set_option maxRecDepth 100000 in
set_option maxHeartbeats 1000000 in
theorem May_3 (b : Bool) (n : Int) (f : Nat) (s : ByteArray) (w : World) (hf : f < 18446744073709551616) :
    Calls Tryz.prog 193 #[vagg 3 b n f s] w fun e w' => e = .returned (.bool (mayB 3 b n f s)) ∧ Below w.heap.size w w' := by
  have hsf := store_float
  have C := Lib.hid (fun w => Canonical_any f w hf)
  by_cases h : canonF f = f
  · have HH := Lib.hid h
    rw [show decide (canonF f = f) = true by simp [h]] at C
    clear h
    go_enter Tryz.func193, Tryz.ntmps193
    go_wp2_with (first | (go_at_call 237; ((with_reducible refine (C.out _).mono ?_); rintro e w' ⟨rfl, rfl⟩)) | (go_at_call 238; ((with_reducible refine (identical_any _ _ _ _ _ _ _ _ _ _ _).mono ?_); rintro e w1 ⟨rfl, hb⟩)))
    go_ret
    refine ⟨retB (mayB_eq ?_), below_two _ _ _ _ hb⟩
    show _ ↔ MayV _ _ _ _ _; rw [like_iff]; unfold MayV; simp [HH.out, show (⟨#[]⟩ : ByteArray) = ByteArray.empty from rfl]
  · have HN := Lib.hid (no_may (k := 3) (b := b) (n := n) (f := f) (s := s) (by unfold MayV; simp [h]))
    rw [show decide (canonF f = f) = false by simp [h]] at C
    clear h
    go_enter Tryz.func193, Tryz.ntmps193
    go_wp2_with (go_at_call 237; ((with_reducible refine (C.out _).mono ?_); rintro e w' ⟨rfl, rfl⟩))
    go_ret
    exact ⟨retB HN.out, below2 _ _ _ 0⟩
set_option maxRecDepth 100000 in
set_option maxHeartbeats 1000000 in
theorem May_4 (b : Bool) (n : Int) (f : Nat) (s : ByteArray) (w : World) :
    Calls Tryz.prog 193 #[vagg 4 b n f s] w fun e w' => e = .returned (.bool (mayB 4 b n f s)) ∧ Below w.heap.size w w' := by
  have hsf := store_float
  by_cases h : s.size ≤ 32
  · have HH := Lib.hid h
    have t1 : decide ((s.size : Int) ≤ 32) = true := by simp; omega
    clear h
    go_enter Tryz.func193, Tryz.ntmps193
    go_wp2_with (go_at_call 238; ((with_reducible refine (identical_any _ _ _ _ _ _ _ _ _ _ _).mono ?_); rintro e w1 ⟨rfl, hb⟩))
    go_ret
    refine ⟨retB (mayB_eq ?_), below_two _ _ _ _ hb⟩
    show _ ↔ MayV _ _ _ _ _; rw [like_iff]; unfold MayV; simp [HH.out]
  · have HN := Lib.hid (no_may (k := 4) (b := b) (n := n) (f := f) (s := s) (by unfold MayV; simp; omega))
    have t1 : decide ((s.size : Int) ≤ 32) = false := by simp; omega
    clear h
    go_enter Tryz.func193, Tryz.ntmps193
    go_wp2
    go_ret
    exact ⟨retB HN.out, below2 _ _ _ 0⟩
set_option maxRecDepth 100000 in
set_option maxHeartbeats 1000000 in
theorem May_5 (b : Bool) (n : Int) (f : Nat) (s : ByteArray) (w : World) :
    Calls Tryz.prog 193 #[vagg 5 b n f s] w fun e w' => e = .returned (.bool (mayB 5 b n f s)) ∧ Below w.heap.size w w' := by
  have hsf := store_float
  by_cases h : 1 ≤ n
  · have t1 : decide (1 ≤ n) = true := by simp [h]
    by_cases h2 : n ≤ 1099511627776
    · have HH := Lib.hid (And.intro h h2)
      have t2 : decide (n ≤ 1099511627776) = true := by simp [h2]
      clear h h2
      go_enter Tryz.func193, Tryz.ntmps193
      go_wp2_with (go_at_call 238; ((with_reducible refine (identical_any _ _ _ _ _ _ _ _ _ _ _).mono ?_); rintro e w1 ⟨rfl, hb⟩))
      go_ret
      refine ⟨retB (mayB_eq ?_), below_two _ _ _ _ hb⟩
      show _ ↔ MayV _ _ _ _ _; rw [like_iff]; unfold MayV; simp [HH.out, show (⟨#[]⟩ : ByteArray) = ByteArray.empty from rfl]
    · have HN := Lib.hid (no_may (k := 5) (b := b) (n := n) (f := f) (s := s) (by unfold MayV; simp; omega))
      have t2 : decide (n ≤ 1099511627776) = false := by simp; omega
      clear h h2
      go_enter Tryz.func193, Tryz.ntmps193
      go_wp2
      go_ret
      exact ⟨retB HN.out, below2 _ _ _ 0⟩
  · have HN := Lib.hid (no_may (k := 5) (b := b) (n := n) (f := f) (s := s) (by unfold MayV; simp; omega))
    have t1 : decide (1 ≤ n) = false := by simp; omega
    clear h
    go_enter Tryz.func193, Tryz.ntmps193
    go_wp2
    go_ret
    exact ⟨retB HN.out, below2 _ _ _ 0⟩
set_option maxRecDepth 100000 in
set_option maxHeartbeats 1000000 in
theorem May_6 (b : Bool) (n : Int) (f : Nat) (s : ByteArray) (w : World) :
    Calls Tryz.prog 193 #[vagg 6 b n f s] w fun e w' => e = .returned (.bool (mayB 6 b n f s)) ∧ Below w.heap.size w w' := by
  have hsf := store_float
  by_cases h : 1 ≤ n
  · have t1 : decide (1 ≤ n) = true := by simp [h]
    by_cases h2 : n ≤ 1099511627776
    · have HH := Lib.hid (And.intro h h2)
      have t2 : decide (n ≤ 1099511627776) = true := by simp [h2]
      clear h h2
      go_enter Tryz.func193, Tryz.ntmps193
      go_wp2_with (go_at_call 238; ((with_reducible refine (identical_any _ _ _ _ _ _ _ _ _ _ _).mono ?_); rintro e w1 ⟨rfl, hb⟩))
      go_ret
      refine ⟨retB (mayB_eq ?_), below_two _ _ _ _ hb⟩
      show _ ↔ MayV _ _ _ _ _; rw [like_iff]; unfold MayV; simp [HH.out, show (⟨#[]⟩ : ByteArray) = ByteArray.empty from rfl]
    · have HN := Lib.hid (no_may (k := 6) (b := b) (n := n) (f := f) (s := s) (by unfold MayV; simp; omega))
      have t2 : decide (n ≤ 1099511627776) = false := by simp; omega
      clear h h2
      go_enter Tryz.func193, Tryz.ntmps193
      go_wp2
      go_ret
      exact ⟨retB HN.out, below2 _ _ _ 0⟩
  · have HN := Lib.hid (no_may (k := 6) (b := b) (n := n) (f := f) (s := s) (by unfold MayV; simp; omega))
    have t1 : decide (1 ≤ n) = false := by simp; omega
    clear h
    go_enter Tryz.func193, Tryz.ntmps193
    go_wp2
    go_ret
    exact ⟨retB HN.out, below2 _ _ _ 0⟩
set_option maxRecDepth 100000 in
set_option maxHeartbeats 1000000 in
theorem May_else (k : Int) (b : Bool) (n : Int) (f : Nat) (s : ByteArray) (w : World) (hk : k < 0 ∨ 6 < k) :
    Calls Tryz.prog 193 #[vagg k b n f s] w fun e w' => e = .returned (.bool (mayB k b n f s)) ∧ Below w.heap.size w w' := by
  have hsf := store_float
  have HN := Lib.hid (no_may (k := k) (b := b) (n := n) (f := f) (s := s) (by unfold MayV; omega))
  have t0 : (k == 0) = false := by simp; omega
  have t1 : (k == 1) = false := by simp; omega
  have t2 : (k == 2) = false := by simp; omega
  have t3 : (k == 3) = false := by simp; omega
  have t4 : (k == 4) = false := by simp; omega
  have t5 : (k == 5) = false := by simp; omega
  have t6 : (k == 6) = false := by simp; omega
  clear hk
  go_enter Tryz.func193, Tryz.ntmps193
  go_wp2
  go_ret
  exact ⟨retB HN.out, below2 _ _ _ 0⟩
theorem May_any (k : Int) (b : Bool) (n : Int) (f : Nat) (s : ByteArray) (w : World) (hf : f < 18446744073709551616) :
    Calls Tryz.prog 193 #[vagg k b n f s] w fun e w' => e = .returned (.bool (mayB k b n f s)) ∧ Below w.heap.size w w' := by
  by_cases h : k < 0 ∨ 6 < k
  · exact May_else k b n f s w h
  · have e : k = 0 ∨ k = 1 ∨ k = 2 ∨ k = 3 ∨ k = 4 ∨ k = 5 ∨ k = 6 := by omega
    rcases e with rfl | rfl | rfl | rfl | rfl | rfl | rfl
    · exact May_0 b n f s w
    · exact May_1 b n f s w
    · exact May_2 b n f s w
    · exact May_3 b n f s w hf
    · exact May_4 b n f s w
    · exact May_5 b n f s w
    · exact May_6 b n f s w
end Go.Proofs.YtmolpogehgeebaaGreat


namespace Go.Proofs.YtmolpogehgeebaaGreat
open Go.RowKit
end Go.Proofs.YtmolpogehgeebaaGreat


