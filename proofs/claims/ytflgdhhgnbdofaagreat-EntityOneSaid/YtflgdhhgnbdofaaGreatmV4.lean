/- The order of values: Compare at each Kind; Compare, Same, for every two values that may be. -/
import Derived.Test.YtflgdhhgnbdofaaGreatmG11
namespace Go.Proofs.YtflgdhhgnbdofaaGreat
open Go.RowKit
set_option maxRecDepth 100000 in
set_option maxHeartbeats 1000000 in
theorem Compare_k0 (n k' n' : Int) (b b' : Bool) (f f' : Nat) (s s' : ByteArray) (w : World) (hk : classK 0 = classK k') (r : Int)
    (hc : ∀ w, Calls Tryz.prog 198 #[vagg 0 b n f s, vagg k' b' n' f' s'] w fun e w' => e = .returned (.int .i64 r) ∧ Below w.heap.size w w') :
    Calls Tryz.prog 91 #[vagg 0 b n f s, vagg k' b' n' f' s'] w fun e w' => e = .returned (.int .i64 r) ∧ Below w.heap.size w w' := by
  have K1 := Lib.hid (fun w => class_any 0 w)
  have K2 := Lib.hid (fun w => class_any k' w)
  have k3 := fun w => CompareN_any (classK 0) (classK k') w
  have K4 := Lib.hid (fun w => known_any 0 w (by omega) (by omega))
  have HC := Lib.hid hc
  rw [(cmpI_zero _ _).2 hk] at k3
  have K3 := Lib.hid k3
  clear k3 hc hk
  generalize classK 0 = c at *
  generalize classK k' = c' at *
  go_enter Tryz.func91, Tryz.ntmps91
  go_wp2
  go_quiet ((first | (go_at_call 155; exact quiet_l (K1.out _)) | (go_at_call 155; exact quiet_l (K2.out _)) | (go_at_call 154; exact quiet_l (K3.out _))))
  go_upto_region 4 with (go_at_call 156; ((with_reducible refine (K4.out _).mono ?_); rintro e w1 ⟨rfl, rfl⟩))
  have hi : ∀ w, (Instr.index 187 (.agg fnTable) (.int .i64 0)).run Tryz.prog w = .ok (.func (.func 198) #[] #[]) w := fun _ => by kernel_rfl
  go_region_held3 (fun w' => w'.cell? ⟨w.heap.size, 0, none⟩ = some (.int .i64 0) ∧ w'.cell? ⟨w.heap.size, 1, none⟩ = some (.bool b) ∧ w'.cell? ⟨w.heap.size, 2, none⟩ = some (.int .i64 n) ∧ w'.cell? ⟨w.heap.size, 3, none⟩ = some (.float .f64 f) ∧ w'.cell? ⟨w.heap.size, 4, none⟩ = some (.string s) ∧ w'.cell? ⟨w.heap.size + 1, 0, none⟩ = some (.int .i64 k') ∧ w'.cell? ⟨w.heap.size + 1, 1, none⟩ = some (.bool b') ∧ w'.cell? ⟨w.heap.size + 1, 2, none⟩ = some (.int .i64 n') ∧ w'.cell? ⟨w.heap.size + 1, 3, none⟩ = some (.float .f64 f') ∧ w'.cell? ⟨w.heap.size + 1, 4, none⟩ = some (.string s')) (go_keep) (first | (go_at_call 157; ((with_reducible refine (comparisons_any _).mono ?_); rintro e w1 ⟨rfl, rfl⟩)) | (go_at_call 198; ((with_reducible refine (HC.out _).mono ?_); rintro e w1 ⟨rfl, hb⟩; have h1 := fun o => (bcell hb).1 w.heap.size o (by simp; omega); have h2 := fun o => (bcell hb).1 (w.heap.size + 1) o (by simp))))
  go_wp2
  go_ret
  exact ⟨rfl, ((below2 w _ _ _).alloc (by simp; omega) _).trans (hb.mono (by simp; omega))⟩
set_option maxRecDepth 100000 in
set_option maxHeartbeats 1000000 in
theorem Compare_k1 (n k' n' : Int) (b b' : Bool) (f f' : Nat) (s s' : ByteArray) (w : World) (hk : classK 1 = classK k') (r : Int)
    (hc : ∀ w, Calls Tryz.prog 199 #[vagg 1 b n f s, vagg k' b' n' f' s'] w fun e w' => e = .returned (.int .i64 r) ∧ Below w.heap.size w w') :
    Calls Tryz.prog 91 #[vagg 1 b n f s, vagg k' b' n' f' s'] w fun e w' => e = .returned (.int .i64 r) ∧ Below w.heap.size w w' := by
  have K1 := Lib.hid (fun w => class_any 1 w)
  have K2 := Lib.hid (fun w => class_any k' w)
  have k3 := fun w => CompareN_any (classK 1) (classK k') w
  have K4 := Lib.hid (fun w => known_any 1 w (by omega) (by omega))
  have HC := Lib.hid hc
  rw [(cmpI_zero _ _).2 hk] at k3
  have K3 := Lib.hid k3
  clear k3 hc hk
  generalize classK 1 = c at *
  generalize classK k' = c' at *
  go_enter Tryz.func91, Tryz.ntmps91
  go_wp2
  go_quiet ((first | (go_at_call 155; exact quiet_l (K1.out _)) | (go_at_call 155; exact quiet_l (K2.out _)) | (go_at_call 154; exact quiet_l (K3.out _))))
  go_upto_region 4 with (go_at_call 156; ((with_reducible refine (K4.out _).mono ?_); rintro e w1 ⟨rfl, rfl⟩))
  have hi : ∀ w, (Instr.index 187 (.agg fnTable) (.int .i64 1)).run Tryz.prog w = .ok (.func (.func 199) #[] #[]) w := fun _ => by kernel_rfl
  go_region_held3 (fun w' => w'.cell? ⟨w.heap.size, 0, none⟩ = some (.int .i64 1) ∧ w'.cell? ⟨w.heap.size, 1, none⟩ = some (.bool b) ∧ w'.cell? ⟨w.heap.size, 2, none⟩ = some (.int .i64 n) ∧ w'.cell? ⟨w.heap.size, 3, none⟩ = some (.float .f64 f) ∧ w'.cell? ⟨w.heap.size, 4, none⟩ = some (.string s) ∧ w'.cell? ⟨w.heap.size + 1, 0, none⟩ = some (.int .i64 k') ∧ w'.cell? ⟨w.heap.size + 1, 1, none⟩ = some (.bool b') ∧ w'.cell? ⟨w.heap.size + 1, 2, none⟩ = some (.int .i64 n') ∧ w'.cell? ⟨w.heap.size + 1, 3, none⟩ = some (.float .f64 f') ∧ w'.cell? ⟨w.heap.size + 1, 4, none⟩ = some (.string s')) (go_keep) (first | (go_at_call 157; ((with_reducible refine (comparisons_any _).mono ?_); rintro e w1 ⟨rfl, rfl⟩)) | (go_at_call 199; ((with_reducible refine (HC.out _).mono ?_); rintro e w1 ⟨rfl, hb⟩; have h1 := fun o => (bcell hb).1 w.heap.size o (by simp; omega); have h2 := fun o => (bcell hb).1 (w.heap.size + 1) o (by simp))))
  go_wp2
  go_ret
  exact ⟨rfl, ((below2 w _ _ _).alloc (by simp; omega) _).trans (hb.mono (by simp; omega))⟩
set_option maxRecDepth 100000 in
set_option maxHeartbeats 1000000 in
theorem Compare_k2 (n k' n' : Int) (b b' : Bool) (f f' : Nat) (s s' : ByteArray) (w : World) (hk : classK 2 = classK k') (r : Int)
    (hc : ∀ w, Calls Tryz.prog 200 #[vagg 2 b n f s, vagg k' b' n' f' s'] w fun e w' => e = .returned (.int .i64 r) ∧ Below w.heap.size w w') :
    Calls Tryz.prog 91 #[vagg 2 b n f s, vagg k' b' n' f' s'] w fun e w' => e = .returned (.int .i64 r) ∧ Below w.heap.size w w' := by
  have K1 := Lib.hid (fun w => class_any 2 w)
  have K2 := Lib.hid (fun w => class_any k' w)
  have k3 := fun w => CompareN_any (classK 2) (classK k') w
  have K4 := Lib.hid (fun w => known_any 2 w (by omega) (by omega))
  have HC := Lib.hid hc
  rw [(cmpI_zero _ _).2 hk] at k3
  have K3 := Lib.hid k3
  clear k3 hc hk
  generalize classK 2 = c at *
  generalize classK k' = c' at *
  go_enter Tryz.func91, Tryz.ntmps91
  go_wp2
  go_quiet ((first | (go_at_call 155; exact quiet_l (K1.out _)) | (go_at_call 155; exact quiet_l (K2.out _)) | (go_at_call 154; exact quiet_l (K3.out _))))
  go_upto_region 4 with (go_at_call 156; ((with_reducible refine (K4.out _).mono ?_); rintro e w1 ⟨rfl, rfl⟩))
  have hi : ∀ w, (Instr.index 187 (.agg fnTable) (.int .i64 2)).run Tryz.prog w = .ok (.func (.func 200) #[] #[]) w := fun _ => by kernel_rfl
  go_region_held3 (fun w' => w'.cell? ⟨w.heap.size, 0, none⟩ = some (.int .i64 2) ∧ w'.cell? ⟨w.heap.size, 1, none⟩ = some (.bool b) ∧ w'.cell? ⟨w.heap.size, 2, none⟩ = some (.int .i64 n) ∧ w'.cell? ⟨w.heap.size, 3, none⟩ = some (.float .f64 f) ∧ w'.cell? ⟨w.heap.size, 4, none⟩ = some (.string s) ∧ w'.cell? ⟨w.heap.size + 1, 0, none⟩ = some (.int .i64 k') ∧ w'.cell? ⟨w.heap.size + 1, 1, none⟩ = some (.bool b') ∧ w'.cell? ⟨w.heap.size + 1, 2, none⟩ = some (.int .i64 n') ∧ w'.cell? ⟨w.heap.size + 1, 3, none⟩ = some (.float .f64 f') ∧ w'.cell? ⟨w.heap.size + 1, 4, none⟩ = some (.string s')) (go_keep) (first | (go_at_call 157; ((with_reducible refine (comparisons_any _).mono ?_); rintro e w1 ⟨rfl, rfl⟩)) | (go_at_call 200; ((with_reducible refine (HC.out _).mono ?_); rintro e w1 ⟨rfl, hb⟩; have h1 := fun o => (bcell hb).1 w.heap.size o (by simp; omega); have h2 := fun o => (bcell hb).1 (w.heap.size + 1) o (by simp))))
  go_wp2
  go_ret
  exact ⟨rfl, ((below2 w _ _ _).alloc (by simp; omega) _).trans (hb.mono (by simp; omega))⟩
set_option maxRecDepth 100000 in
set_option maxHeartbeats 1000000 in
theorem Compare_k3 (n k' n' : Int) (b b' : Bool) (f f' : Nat) (s s' : ByteArray) (w : World) (hk : classK 3 = classK k') (r : Int)
    (hc : ∀ w, Calls Tryz.prog 201 #[vagg 3 b n f s, vagg k' b' n' f' s'] w fun e w' => e = .returned (.int .i64 r) ∧ Below w.heap.size w w') :
    Calls Tryz.prog 91 #[vagg 3 b n f s, vagg k' b' n' f' s'] w fun e w' => e = .returned (.int .i64 r) ∧ Below w.heap.size w w' := by
  have K1 := Lib.hid (fun w => class_any 3 w)
  have K2 := Lib.hid (fun w => class_any k' w)
  have k3 := fun w => CompareN_any (classK 3) (classK k') w
  have K4 := Lib.hid (fun w => known_any 3 w (by omega) (by omega))
  have HC := Lib.hid hc
  rw [(cmpI_zero _ _).2 hk] at k3
  have K3 := Lib.hid k3
  clear k3 hc hk
  generalize classK 3 = c at *
  generalize classK k' = c' at *
  go_enter Tryz.func91, Tryz.ntmps91
  go_wp2
  go_quiet ((first | (go_at_call 155; exact quiet_l (K1.out _)) | (go_at_call 155; exact quiet_l (K2.out _)) | (go_at_call 154; exact quiet_l (K3.out _))))
  go_upto_region 4 with (go_at_call 156; ((with_reducible refine (K4.out _).mono ?_); rintro e w1 ⟨rfl, rfl⟩))
  have hi : ∀ w, (Instr.index 187 (.agg fnTable) (.int .i64 3)).run Tryz.prog w = .ok (.func (.func 201) #[] #[]) w := fun _ => by kernel_rfl
  go_region_held3 (fun w' => w'.cell? ⟨w.heap.size, 0, none⟩ = some (.int .i64 3) ∧ w'.cell? ⟨w.heap.size, 1, none⟩ = some (.bool b) ∧ w'.cell? ⟨w.heap.size, 2, none⟩ = some (.int .i64 n) ∧ w'.cell? ⟨w.heap.size, 3, none⟩ = some (.float .f64 f) ∧ w'.cell? ⟨w.heap.size, 4, none⟩ = some (.string s) ∧ w'.cell? ⟨w.heap.size + 1, 0, none⟩ = some (.int .i64 k') ∧ w'.cell? ⟨w.heap.size + 1, 1, none⟩ = some (.bool b') ∧ w'.cell? ⟨w.heap.size + 1, 2, none⟩ = some (.int .i64 n') ∧ w'.cell? ⟨w.heap.size + 1, 3, none⟩ = some (.float .f64 f') ∧ w'.cell? ⟨w.heap.size + 1, 4, none⟩ = some (.string s')) (go_keep) (first | (go_at_call 157; ((with_reducible refine (comparisons_any _).mono ?_); rintro e w1 ⟨rfl, rfl⟩)) | (go_at_call 201; ((with_reducible refine (HC.out _).mono ?_); rintro e w1 ⟨rfl, hb⟩; have h1 := fun o => (bcell hb).1 w.heap.size o (by simp; omega); have h2 := fun o => (bcell hb).1 (w.heap.size + 1) o (by simp))))
  go_wp2
  go_ret
  exact ⟨rfl, ((below2 w _ _ _).alloc (by simp; omega) _).trans (hb.mono (by simp; omega))⟩
set_option maxRecDepth 100000 in
set_option maxHeartbeats 1000000 in
theorem Compare_k4 (n k' n' : Int) (b b' : Bool) (f f' : Nat) (s s' : ByteArray) (w : World) (hk : classK 4 = classK k') (r : Int)
    (hc : ∀ w, Calls Tryz.prog 202 #[vagg 4 b n f s, vagg k' b' n' f' s'] w fun e w' => e = .returned (.int .i64 r) ∧ Below w.heap.size w w') :
    Calls Tryz.prog 91 #[vagg 4 b n f s, vagg k' b' n' f' s'] w fun e w' => e = .returned (.int .i64 r) ∧ Below w.heap.size w w' := by
  have K1 := Lib.hid (fun w => class_any 4 w)
  have K2 := Lib.hid (fun w => class_any k' w)
  have k3 := fun w => CompareN_any (classK 4) (classK k') w
  have K4 := Lib.hid (fun w => known_any 4 w (by omega) (by omega))
  have HC := Lib.hid hc
  rw [(cmpI_zero _ _).2 hk] at k3
  have K3 := Lib.hid k3
  clear k3 hc hk
  generalize classK 4 = c at *
  generalize classK k' = c' at *
  go_enter Tryz.func91, Tryz.ntmps91
  go_wp2
  go_quiet ((first | (go_at_call 155; exact quiet_l (K1.out _)) | (go_at_call 155; exact quiet_l (K2.out _)) | (go_at_call 154; exact quiet_l (K3.out _))))
  go_upto_region 4 with (go_at_call 156; ((with_reducible refine (K4.out _).mono ?_); rintro e w1 ⟨rfl, rfl⟩))
  have hi : ∀ w, (Instr.index 187 (.agg fnTable) (.int .i64 4)).run Tryz.prog w = .ok (.func (.func 202) #[] #[]) w := fun _ => by kernel_rfl
  go_region_held3 (fun w' => w'.cell? ⟨w.heap.size, 0, none⟩ = some (.int .i64 4) ∧ w'.cell? ⟨w.heap.size, 1, none⟩ = some (.bool b) ∧ w'.cell? ⟨w.heap.size, 2, none⟩ = some (.int .i64 n) ∧ w'.cell? ⟨w.heap.size, 3, none⟩ = some (.float .f64 f) ∧ w'.cell? ⟨w.heap.size, 4, none⟩ = some (.string s) ∧ w'.cell? ⟨w.heap.size + 1, 0, none⟩ = some (.int .i64 k') ∧ w'.cell? ⟨w.heap.size + 1, 1, none⟩ = some (.bool b') ∧ w'.cell? ⟨w.heap.size + 1, 2, none⟩ = some (.int .i64 n') ∧ w'.cell? ⟨w.heap.size + 1, 3, none⟩ = some (.float .f64 f') ∧ w'.cell? ⟨w.heap.size + 1, 4, none⟩ = some (.string s')) (go_keep) (first | (go_at_call 157; ((with_reducible refine (comparisons_any _).mono ?_); rintro e w1 ⟨rfl, rfl⟩)) | (go_at_call 202; ((with_reducible refine (HC.out _).mono ?_); rintro e w1 ⟨rfl, hb⟩; have h1 := fun o => (bcell hb).1 w.heap.size o (by simp; omega); have h2 := fun o => (bcell hb).1 (w.heap.size + 1) o (by simp))))
  go_wp2
  go_ret
  exact ⟨rfl, ((below2 w _ _ _).alloc (by simp; omega) _).trans (hb.mono (by simp; omega))⟩
set_option maxRecDepth 100000 in
set_option maxHeartbeats 1000000 in
theorem Compare_k5 (n k' n' : Int) (b b' : Bool) (f f' : Nat) (s s' : ByteArray) (w : World) (hk : classK 5 = classK k') (r : Int)
    (hc : ∀ w, Calls Tryz.prog 204 #[vagg 5 b n f s, vagg k' b' n' f' s'] w fun e w' => e = .returned (.int .i64 r) ∧ Below w.heap.size w w') :
    Calls Tryz.prog 91 #[vagg 5 b n f s, vagg k' b' n' f' s'] w fun e w' => e = .returned (.int .i64 r) ∧ Below w.heap.size w w' := by
  have K1 := Lib.hid (fun w => class_any 5 w)
  have K2 := Lib.hid (fun w => class_any k' w)
  have k3 := fun w => CompareN_any (classK 5) (classK k') w
  have K4 := Lib.hid (fun w => known_any 5 w (by omega) (by omega))
  have HC := Lib.hid hc
  rw [(cmpI_zero _ _).2 hk] at k3
  have K3 := Lib.hid k3
  clear k3 hc hk
  generalize classK 5 = c at *
  generalize classK k' = c' at *
  go_enter Tryz.func91, Tryz.ntmps91
  go_wp2
  go_quiet ((first | (go_at_call 155; exact quiet_l (K1.out _)) | (go_at_call 155; exact quiet_l (K2.out _)) | (go_at_call 154; exact quiet_l (K3.out _))))
  go_upto_region 4 with (go_at_call 156; ((with_reducible refine (K4.out _).mono ?_); rintro e w1 ⟨rfl, rfl⟩))
  have hi : ∀ w, (Instr.index 187 (.agg fnTable) (.int .i64 5)).run Tryz.prog w = .ok (.func (.func 204) #[] #[]) w := fun _ => by kernel_rfl
  go_region_held3 (fun w' => w'.cell? ⟨w.heap.size, 0, none⟩ = some (.int .i64 5) ∧ w'.cell? ⟨w.heap.size, 1, none⟩ = some (.bool b) ∧ w'.cell? ⟨w.heap.size, 2, none⟩ = some (.int .i64 n) ∧ w'.cell? ⟨w.heap.size, 3, none⟩ = some (.float .f64 f) ∧ w'.cell? ⟨w.heap.size, 4, none⟩ = some (.string s) ∧ w'.cell? ⟨w.heap.size + 1, 0, none⟩ = some (.int .i64 k') ∧ w'.cell? ⟨w.heap.size + 1, 1, none⟩ = some (.bool b') ∧ w'.cell? ⟨w.heap.size + 1, 2, none⟩ = some (.int .i64 n') ∧ w'.cell? ⟨w.heap.size + 1, 3, none⟩ = some (.float .f64 f') ∧ w'.cell? ⟨w.heap.size + 1, 4, none⟩ = some (.string s')) (go_keep) (first | (go_at_call 157; ((with_reducible refine (comparisons_any _).mono ?_); rintro e w1 ⟨rfl, rfl⟩)) | (go_at_call 204; ((with_reducible refine (HC.out _).mono ?_); rintro e w1 ⟨rfl, hb⟩; have h1 := fun o => (bcell hb).1 w.heap.size o (by simp; omega); have h2 := fun o => (bcell hb).1 (w.heap.size + 1) o (by simp))))
  go_wp2
  go_ret
  exact ⟨rfl, ((below2 w _ _ _).alloc (by simp; omega) _).trans (hb.mono (by simp; omega))⟩
set_option maxRecDepth 100000 in
set_option maxHeartbeats 1000000 in
theorem Compare_k6 (n k' n' : Int) (b b' : Bool) (f f' : Nat) (s s' : ByteArray) (w : World) (hk : classK 6 = classK k') (r : Int)
    (hc : ∀ w, Calls Tryz.prog 204 #[vagg 6 b n f s, vagg k' b' n' f' s'] w fun e w' => e = .returned (.int .i64 r) ∧ Below w.heap.size w w') :
    Calls Tryz.prog 91 #[vagg 6 b n f s, vagg k' b' n' f' s'] w fun e w' => e = .returned (.int .i64 r) ∧ Below w.heap.size w w' := by
  have K1 := Lib.hid (fun w => class_any 6 w)
  have K2 := Lib.hid (fun w => class_any k' w)
  have k3 := fun w => CompareN_any (classK 6) (classK k') w
  have K4 := Lib.hid (fun w => known_any 6 w (by omega) (by omega))
  have HC := Lib.hid hc
  rw [(cmpI_zero _ _).2 hk] at k3
  have K3 := Lib.hid k3
  clear k3 hc hk
  generalize classK 6 = c at *
  generalize classK k' = c' at *
  go_enter Tryz.func91, Tryz.ntmps91
  go_wp2
  go_quiet ((first | (go_at_call 155; exact quiet_l (K1.out _)) | (go_at_call 155; exact quiet_l (K2.out _)) | (go_at_call 154; exact quiet_l (K3.out _))))
  go_upto_region 4 with (go_at_call 156; ((with_reducible refine (K4.out _).mono ?_); rintro e w1 ⟨rfl, rfl⟩))
  have hi : ∀ w, (Instr.index 187 (.agg fnTable) (.int .i64 6)).run Tryz.prog w = .ok (.func (.func 204) #[] #[]) w := fun _ => by kernel_rfl
  go_region_held3 (fun w' => w'.cell? ⟨w.heap.size, 0, none⟩ = some (.int .i64 6) ∧ w'.cell? ⟨w.heap.size, 1, none⟩ = some (.bool b) ∧ w'.cell? ⟨w.heap.size, 2, none⟩ = some (.int .i64 n) ∧ w'.cell? ⟨w.heap.size, 3, none⟩ = some (.float .f64 f) ∧ w'.cell? ⟨w.heap.size, 4, none⟩ = some (.string s) ∧ w'.cell? ⟨w.heap.size + 1, 0, none⟩ = some (.int .i64 k') ∧ w'.cell? ⟨w.heap.size + 1, 1, none⟩ = some (.bool b') ∧ w'.cell? ⟨w.heap.size + 1, 2, none⟩ = some (.int .i64 n') ∧ w'.cell? ⟨w.heap.size + 1, 3, none⟩ = some (.float .f64 f') ∧ w'.cell? ⟨w.heap.size + 1, 4, none⟩ = some (.string s')) (go_keep) (first | (go_at_call 157; ((with_reducible refine (comparisons_any _).mono ?_); rintro e w1 ⟨rfl, rfl⟩)) | (go_at_call 204; ((with_reducible refine (HC.out _).mono ?_); rintro e w1 ⟨rfl, hb⟩; have h1 := fun o => (bcell hb).1 w.heap.size o (by simp; omega); have h2 := fun o => (bcell hb).1 (w.heap.size + 1) o (by simp))))
  go_wp2
  go_ret
  exact ⟨rfl, ((below2 w _ _ _).alloc (by simp; omega) _).trans (hb.mono (by simp; omega))⟩
end Go.Proofs.YtflgdhhgnbdofaaGreat

