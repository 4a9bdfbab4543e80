/- Compare and Same, for every two values that may be: the order of values. -/
import Derived.Test.YtgmaompjhhomcaaGreatmV4
namespace Go.Proofs.YtgmaompjhhomcaaGreat
open Go.RowKit
set_option maxRecDepth 100000 in
set_option maxHeartbeats 1000000 in
theorem Compare_far (k k' n n' : Int) (b b' : Bool) (f f' : Nat) (s s' : ByteArray) (w : World) (hk : classK k ≠ classK k') :
    Calls Tryz.prog 90 #[vagg k b n f s, vagg k' b' n' f' s'] w fun e w' => e = .returned (.int .i64 (cmpI (classK k) (classK k'))) ∧ Below w.heap.size w w' := by
  have K1 := Lib.hid (fun w => class_any k w)
  have K2 := Lib.hid (fun w => class_any k' w)
  have K3 := Lib.hid (fun w => CompareN_any (classK k) (classK k') w)
  have hz : (cmpI (classK k) (classK k') != 0) = true := by
    simp only [bne_iff_ne, ne_eq]
    exact fun h => hk ((cmpI_zero _ _).1 h)
  clear hk
  generalize classK k = c at *
  generalize classK k' = c' at *
  generalize cmpI c c' = d at *
  go_enter Tryz.func90, Tryz.ntmps90
  go_wp2
  go_quiet ((first | (go_at_call 130; exact quiet_l (K1.out _)) | (go_at_call 130; exact quiet_l (K2.out _)) | (go_at_call 129; exact quiet_l (K3.out _))))
  go_wp2
  go_ret
  exact ⟨rfl, below2 _ _ _ _⟩
theorem cmpK_far {x y : Int × Int × List UInt8} (h : x.1 ≠ y.1) : cmpK x y = cmpI x.1 y.1 := by
  unfold cmpK; rw [if_neg (fun e => h ((cmpI_zero _ _).1 e))]
theorem cmpK_num {x y : Int × Int × List UInt8} (h : x.1 = y.1) (h1 : x.2.2 = []) (h2 : y.2.2 = []) : cmpK x y = cmpI x.2.1 y.2.1 := by
  unfold cmpK; rw [if_pos ((cmpI_zero _ _).2 h), h1, h2]
  split
  · rename_i e; rw [e]; rfl
  · rfl
theorem cmpK_str {x y : Int × Int × List UInt8} (h : x.1 = y.1) (h1 : x.2.1 = y.2.1) : cmpK x y = Lib.compareBytes x.2.2 y.2.2 := by
  unfold cmpK; rw [if_pos ((cmpI_zero _ _).2 h), if_pos ((cmpI_zero _ _).2 h1)]
theorem retI {a b : Int} (h : a = b) : Ending.returned (.int .i64 a) = .returned (.int .i64 b) := by rw [h]
theorem may_kind {k : Int} {b : Bool} {n : Int} {f : Nat} {s : ByteArray} (h : MayV k b n f s) : k = 0 ∨ k = 1 ∨ k = 2 ∨ k = 3 ∨ k = 4 ∨ k = 5 ∨ k = 6 := by
  unfold MayV at h; omega
theorem Compare_any (k n k' n' : Int) (b b' : Bool) (f f' : Nat) (s s' : ByteArray) (w : World) (hx : WideV k n f s) (hy : WideV k' n' f' s') (mx : MayV k b n f s) (my : MayV k' b' n' f' s') :
    Calls Tryz.prog 90 #[vagg k b n f s, vagg k' b' n' f' s'] w fun e w' => e = .returned (.int .i64 (cmpK (keyV k b n f s) (keyV k' b' n' f' s'))) ∧ Below w.heap.size w w' := by
  obtain ⟨_, hn, hf, _⟩ := hx
  obtain ⟨_, hn', hf', _⟩ := hy
  by_cases hc : classK k = classK k'
  · have my' := may_kind my
    rcases may_kind mx with rfl | rfl | rfl | rfl | rfl | rfl | rfl
    · obtain rfl : k' = 0 := by unfold classK at hc; split at hc <;> split at hc <;> omega
      refine (Compare_k0 n 0 n' b b' f f' s s' w hc 0 fun w => nulls_any _ _ _ _ _ _ _ _ _ _ w).mono fun e w' h => ⟨h.1.trans (retI ?_), h.2⟩
      exact (cmpK_num (x := keyV 0 b n f s) (y := keyV 0 b' n' f' s') rfl rfl rfl).symm
    · obtain rfl : k' = 1 := by unfold classK at hc; split at hc <;> split at hc <;> omega
      refine (Compare_k1 n 1 n' b b' f f' s s' w hc _ fun w => bools_any _ _ _ _ _ _ _ _ _ _ w).mono fun e w' h => ⟨h.1.trans (retI ?_), h.2⟩
      exact (cmpK_num (x := keyV 1 b n f s) (y := keyV 1 b' n' f' s') rfl rfl rfl).symm
    · have hk : k' = 2 ∨ k' = 3 := by unfold classK at hc; split at hc <;> split at hc <;> omega
      refine (Compare_k2 n k' n' b b' f f' s s' w hc _ fun w => intAndNumber_any _ _ _ _ _ _ _ _ _ _ w hn hf' hk).mono fun e w' h => ⟨h.1.trans (retI ?_), h.2⟩
      rcases hk with rfl | rfl
      · exact (cmpK_num (x := keyV 2 b n f s) (y := keyV 2 b' n' f' s') rfl rfl rfl).symm
      · exact (cmpK_num (x := keyV 2 b n f s) (y := keyV 3 b' n' f' s') rfl rfl rfl).symm
    · have hk : k' = 2 ∨ k' = 3 := by unfold classK at hc; split at hc <;> split at hc <;> omega
      refine (Compare_k3 n k' n' b b' f f' s s' w hc _ fun w => floatAndNumber_any _ _ _ _ _ _ _ _ _ _ w hn' hf hf' hk).mono fun e w' h => ⟨h.1.trans (retI ?_), h.2⟩
      rcases hk with rfl | rfl
      · exact (cmpK_num (x := keyV 3 b n f s) (y := keyV 2 b' n' f' s') rfl rfl rfl).symm
      · exact (cmpK_num (x := keyV 3 b n f s) (y := keyV 3 b' n' f' s') rfl rfl rfl).symm
    · obtain rfl : k' = 4 := by unfold classK at hc; split at hc <;> split at hc <;> omega
      refine (Compare_k4 n 4 n' b b' f f' s s' w hc _ fun w => strs_any _ _ _ _ _ _ _ _ _ _ w).mono fun e w' h => ⟨h.1.trans (retI ?_), h.2⟩
      exact (cmpK_str (x := keyV 4 b n f s) (y := keyV 4 b' n' f' s') rfl rfl).symm
    · obtain rfl : k' = 5 := by unfold classK at hc; split at hc <;> split at hc <;> omega
      refine (Compare_k5 n 5 n' b b' f f' s s' w hc _ fun w => nums_any _ _ _ _ _ _ _ _ _ _ w).mono fun e w' h => ⟨h.1.trans (retI ?_), h.2⟩
      exact (cmpK_num (x := keyV 5 b n f s) (y := keyV 5 b' n' f' s') rfl rfl rfl).symm
    · obtain rfl : k' = 6 := by unfold classK at hc; split at hc <;> split at hc <;> omega
      refine (Compare_k6 n 6 n' b b' f f' s s' w hc _ fun w => nums_any _ _ _ _ _ _ _ _ _ _ w).mono fun e w' h => ⟨h.1.trans (retI ?_), h.2⟩
      exact (cmpK_num (x := keyV 6 b n f s) (y := keyV 6 b' n' f' s') rfl rfl rfl).symm
  · exact (Compare_far k k' n n' b b' f f' s s' w hc).mono fun e w' h => ⟨h.1.trans (retI (cmpK_far (x := keyV k b n f s) (y := keyV k' b' n' f' s') hc).symm), h.2⟩
set_option maxRecDepth 100000 in
theorem Same_any (k n k' n' : Int) (b b' : Bool) (f f' : Nat) (s s' : ByteArray) (w : World) (hx : WideV k n f s) (hy : WideV k' n' f' s') (mx : MayV k b n f s) (my : MayV k' b' n' f' s') :
    Calls Tryz.prog 35 #[vagg k b n f s, vagg k' b' n' f' s'] w fun e w' => e = .returned (.bool (cmpK (keyV k b n f s) (keyV k' b' n' f' s') == 0)) ∧ Below w.heap.size w w' := by
  have C := Lib.hid (fun w => Compare_any k n k' n' b b' f f' s s' w hx hy mx my)
  generalize cmpK (keyV k b n f s) (keyV k' b' n' f' s') = r at *
  clear hx hy mx my
  go_enter Tryz.func35, Tryz.ntmps35
  go_wp2_with (go_at_call 90; ((with_reducible refine (C.out _).mono ?_); rintro e w1 ⟨rfl, hb⟩))
  go_ret
  exact ⟨rfl, below_two _ _ _ _ hb⟩
end Go.Proofs.YtgmaompjhhomcaaGreat

