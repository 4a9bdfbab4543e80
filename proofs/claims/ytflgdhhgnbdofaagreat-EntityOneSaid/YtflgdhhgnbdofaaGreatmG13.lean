/- Compare and Same, for every two values that may be: the order of values. -/
/- value.May, for every value. -/
/- Equality and less of numbers, in plain numbers; Truth, number, notANumber, sameNumber, for every value. -/
import Derived.Test.YtflgdhhgnbdofaaGreatmV4
namespace Go.Proofs.YtflgdhhgnbdofaaGreat
open Go.RowKit
set_option maxRecDepth 100000 in
set_option maxHeartbeats 1000000 in
theorem Compare_far (k k' n n' : Int) (b b' : Bool) (f f' : Nat) (s s' : ByteArray) (w : World) (hk : classK k ≠ classK k') :
    Calls Tryz.prog 91 #[vagg k b n f s, vagg k' b' n' f' s'] w fun e w' => e = .returned (.int .i64 (cmpI (classK k) (classK k'))) ∧ Below w.heap.size w w' := by
  have K1 := Lib.hid (fun w => class_any k w)
  have K2 := Lib.hid (fun w => class_any k' w)
  have K3 := Lib.hid (fun w => CompareN_any (classK k) (classK k') w)
  have hz : (cmpI (classK k) (classK k') != 0) = true := by
    simp only [bne_iff_ne, ne_eq]
    exact fun h => hk ((cmpI_zero _ _).1 h)
  clear hk
  generalize classK k = c at *
  generalize classK k' = c' at *
  generalize cmpI c c' = d at *
  go_enter Tryz.func91, Tryz.ntmps91
  go_wp2
  go_quiet ((first | (go_at_call 155; exact quiet_l (K1.out _)) | (go_at_call 155; exact quiet_l (K2.out _)) | (go_at_call 154; exact quiet_l (K3.out _))))
  go_wp2
  go_ret
  exact ⟨rfl, below2 _ _ _ _⟩
theorem cmpK_far {x y : Int × Int × List UInt8} (h : x.1 ≠ y.1) : cmpK x y = cmpI x.1 y.1 := by
  unfold cmpK; rw [if_neg (fun e => h ((cmpI_zero _ _).1 e))]
theorem cmpK_num {x y : Int × Int × List UInt8} (h : x.1 = y.1) (h1 : x.2.2 = []) (h2 : y.2.2 = []) : cmpK x y = cmpI x.2.1 y.2.1 := by
  unfold cmpK; rw [if_pos ((cmpI_zero _ _).2 h), h1, h2]
  split
  · rename_i e; rw [e]; rfl
  · rfl
theorem cmpK_str {x y : Int × Int × List UInt8} (h : x.1 = y.1) (h1 : x.2.1 = y.2.1) : cmpK x y = Lib.compareBytes x.2.2 y.2.2 := by
  unfold cmpK; rw [if_pos ((cmpI_zero _ _).2 h), if_pos ((cmpI_zero _ _).2 h1)]
theorem retI {a b : Int} (h : a = b) : Ending.returned (.int .i64 a) = .returned (.int .i64 b) := by rw [h]
theorem may_kind {k : Int} {b : Bool} {n : Int} {f : Nat} {s : ByteArray} (h : MayV k b n f s) : k = 0 ∨ k = 1 ∨ k = 2 ∨ k = 3 ∨ k = 4 ∨ k = 5 ∨ k = 6 := by
  unfold MayV at h; omega
theorem Compare_any (k n k' n' : Int) (b b' : Bool) (f f' : Nat) (s s' : ByteArray) (w : World) (hx : WideV k n f s) (hy : WideV k' n' f' s') (mx : MayV k b n f s) (my : MayV k' b' n' f' s') :
    Calls Tryz.prog 91 #[vagg k b n f s, vagg k' b' n' f' s'] w fun e w' => e = .returned (.int .i64 (cmpK (keyV k b n f s) (keyV k' b' n' f' s'))) ∧ Below w.heap.size w w' := by
  obtain ⟨_, hn, hf, _⟩ := hx
  obtain ⟨_, hn', hf', _⟩ := hy
  by_cases hc : classK k = classK k'
  · have my' := may_kind my
    rcases may_kind mx with rfl | rfl | rfl | rfl | rfl | rfl | rfl
    · obtain rfl : k' = 0 := by unfold classK at hc; split at hc <;> split at hc <;> omega
      refine (Compare_k0 n 0 n' b b' f f' s s' w hc 0 fun w => nulls_any _ _ _ _ _ _ _ _ _ _ w).mono fun e w' h => ⟨h.1.trans (retI ?_), h.2⟩
      exact (cmpK_num (x := keyV 0 b n f s) (y := keyV 0 b' n' f' s') rfl rfl rfl).symm
    · obtain rfl : k' = 1 := by unfold classK at hc; split at hc <;> split at hc <;> omega
      refine (Compare_k1 n 1 n' b b' f f' s s' w hc _ fun w => bools_any _ _ _ _ _ _ _ _ _ _ w).mono fun e w' h => ⟨h.1.trans (retI ?_), h.2⟩
      exact (cmpK_num (x := keyV 1 b n f s) (y := keyV 1 b' n' f' s') rfl rfl rfl).symm
    · have hk : k' = 2 ∨ k' = 3 := by unfold classK at hc; split at hc <;> split at hc <;> omega
      refine (Compare_k2 n k' n' b b' f f' s s' w hc _ fun w => intAndNumber_any _ _ _ _ _ _ _ _ _ _ w hn hf' hk).mono fun e w' h => ⟨h.1.trans (retI ?_), h.2⟩
      rcases hk with rfl | rfl
      · exact (cmpK_num (x := keyV 2 b n f s) (y := keyV 2 b' n' f' s') rfl rfl rfl).symm
      · exact (cmpK_num (x := keyV 2 b n f s) (y := keyV 3 b' n' f' s') rfl rfl rfl).symm
    · have hk : k' = 2 ∨ k' = 3 := by unfold classK at hc; split at hc <;> split at hc <;> omega
      refine (Compare_k3 n k' n' b b' f f' s s' w hc _ fun w => floatAndNumber_any _ _ _ _ _ _ _ _ _ _ w hn' hf hf' hk).mono fun e w' h => ⟨h.1.trans (retI ?_), h.2⟩
      rcases hk with rfl | rfl
      · exact (cmpK_num (x := keyV 3 b n f s) (y := keyV 2 b' n' f' s') rfl rfl rfl).symm
      · exact (cmpK_num (x := keyV 3 b n f s) (y := keyV 3 b' n' f' s') rfl rfl rfl).symm
    · obtain rfl : k' = 4 := by unfold classK at hc; split at hc <;> split at hc <;> omega
      refine (Compare_k4 n 4 n' b b' f f' s s' w hc _ fun w => strs_any _ _ _ _ _ _ _ _ _ _ w).mono fun e w' h => ⟨h.1.trans (retI ?_), h.2⟩
      exact (cmpK_str (x := keyV 4 b n f s) (y := keyV 4 b' n' f' s') rfl rfl).symm
    · obtain rfl : k' = 5 := by unfold classK at hc; split at hc <;> split at hc <;> omega
      refine (Compare_k5 n 5 n' b b' f f' s s' w hc _ fun w => nums_any _ _ _ _ _ _ _ _ _ _ w).mono fun e w' h => ⟨h.1.trans (retI ?_), h.2⟩
      exact (cmpK_num (x := keyV 5 b n f s) (y := keyV 5 b' n' f' s') rfl rfl rfl).symm
    · obtain rfl : k' = 6 := by unfold classK at hc; split at hc <;> split at hc <;> omega
      refine (Compare_k6 n 6 n' b b' f f' s s' w hc _ fun w => nums_any _ _ _ _ _ _ _ _ _ _ w).mono fun e w' h => ⟨h.1.trans (retI ?_), h.2⟩
      exact (cmpK_num (x := keyV 6 b n f s) (y := keyV 6 b' n' f' s') rfl rfl rfl).symm
  · exact (Compare_far k k' n n' b b' f f' s s' w hc).mono fun e w' h => ⟨h.1.trans (retI (cmpK_far (x := keyV k b n f s) (y := keyV k' b' n' f' s') hc).symm), h.2⟩
set_option maxRecDepth 100000 in
theorem Same_any (k n k' n' : Int) (b b' : Bool) (f f' : Nat) (s s' : ByteArray) (w : World) (hx : WideV k n f s) (hy : WideV k' n' f' s') (mx : MayV k b n f s) (my : MayV k' b' n' f' s') :
    Calls Tryz.prog 28 #[vagg k b n f s, vagg k' b' n' f' s'] w fun e w' => e = .returned (.bool (cmpK (keyV k b n f s) (keyV k' b' n' f' s') == 0)) ∧ Below w.heap.size w w' := by
  have C := Lib.hid (fun w => Compare_any k n k' n' b b' f f' s s' w hx hy mx my)
  generalize cmpK (keyV k b n f s) (keyV k' b' n' f' s') = r at *
  clear hx hy mx my
  go_enter Tryz.func28, Tryz.ntmps28
  go_wp2_with (go_at_call 91; ((with_reducible refine (C.out _).mono ?_); rintro e w1 ⟨rfl, hb⟩))
  go_ret
  exact ⟨rfl, below_two _ _ _ _ hb⟩
end Go.Proofs.YtflgdhhgnbdofaaGreat

namespace Go.Proofs.YtflgdhhgnbdofaaGreat
open Go.RowKit
instance decMay (k : Int) (b : Bool) (n : Int) (f : Nat) (s : ByteArray) : Decidable (MayV k b n f s) := by unfold MayV; infer_instance
def mayB (k : Int) (b : Bool) (n : Int) (f : Nat) (s : ByteArray) : Bool := decide (MayV k b n f s)
theorem mayB_eq {k : Int} {b : Bool} {n : Int} {f : Nat} {s : ByteArray} {c : Bool} (h : c = true ↔ MayV k b n f s) : c = mayB k b n f s := by
  unfold mayB
  cases c <;> simp_all
/-- A float is stored as any other cell. -/
theorem store_float (w : World) (a : Addr) (m : Mode) (f : Nat) : (store a (.float .f64 f) m).run Tryz.prog w = stored Tryz.prog w a (.float .f64 f) m := run_store Tryz.prog w a _ m rfl
theorem like_iff {k k' n n' : Int} {b b' : Bool} {f f' : Nat} {s s' : ByteArray} : likeV k b n f s k' b' n' f' s' = true ↔ (k = k' ∧ b = b' ∧ n = n' ∧ f = f' ∧ s = s') := by unfold likeV; simp
theorem no_may {k : Int} {b : Bool} {n : Int} {f : Nat} {s : ByteArray} (h : ¬ MayV k b n f s) : false = mayB k b n f s := mayB_eq (by simp [h])
set_option maxRecDepth 100000 in
set_option maxHeartbeats 1000000 in
theorem May_0 (b : Bool) (n : Int) (f : Nat) (s : ByteArray) (w : World) :
    Calls Tryz.prog 132 #[vagg 0 b n f s] w fun e w' => e = .returned (.bool (mayB 0 b n f s)) ∧ Below w.heap.size w w' := by
  have hsf := store_float
  go_enter Tryz.func132, Tryz.ntmps132
  go_wp2_with (go_at_call 175; ((with_reducible refine (identical_any _ _ _ _ _ _ _ _ _ _ _).mono ?_); rintro e w1 ⟨rfl, hb⟩))
  go_ret
  refine ⟨retB (mayB_eq ?_), below_two _ _ _ _ hb⟩
  show _ ↔ MayV _ _ _ _ _; rw [like_iff]; unfold MayV; simp [show (⟨#[]⟩ : ByteArray) = ByteArray.empty from rfl]
set_option maxRecDepth 100000 in
set_option maxHeartbeats 1000000 in
theorem May_1 (b : Bool) (n : Int) (f : Nat) (s : ByteArray) (w : World) :
    Calls Tryz.prog 132 #[vagg 1 b n f s] w fun e w' => e = .returned (.bool (mayB 1 b n f s)) ∧ Below w.heap.size w w' := by
  have hsf := store_float
  go_enter Tryz.func132, Tryz.ntmps132
  go_wp2_with (go_at_call 175; ((with_reducible refine (identical_any _ _ _ _ _ _ _ _ _ _ _).mono ?_); rintro e w1 ⟨rfl, hb⟩))
  go_ret
  refine ⟨retB (mayB_eq ?_), below_two _ _ _ _ hb⟩
  show _ ↔ MayV _ _ _ _ _; rw [like_iff]; unfold MayV; simp [show (⟨#[]⟩ : ByteArray) = ByteArray.empty from rfl]
set_option maxRecDepth 100000 in
set_option maxHeartbeats 1000000 in
theorem May_2 (b : Bool) (n : Int) (f : Nat) (s : ByteArray) (w : World) :
    Calls Tryz.prog 132 #[vagg 2 b n f s] w fun e w' => e = .returned (.bool (mayB 2 b n f s)) ∧ Below w.heap.size w w' := by
  have hsf := store_float
  go_enter Tryz.func132, Tryz.ntmps132
  go_wp2_with (go_at_call 175; ((with_reducible refine (identical_any _ _ _ _ _ _ _ _ _ _ _).mono ?_); rintro e w1 ⟨rfl, hb⟩))
  go_ret
  refine ⟨retB (mayB_eq ?_), below_two _ _ _ _ hb⟩
  show _ ↔ MayV _ _ _ _ _; rw [like_iff]; unfold MayV; simp [show (⟨#[]⟩ : ByteArray) = ByteArray.empty from rfl]
set_option maxRecDepth 100000 in
set_option maxHeartbeats 1000000 in
theorem May_3 (b : Bool) (n : Int) (f : Nat) (s : ByteArray) (w : World) (hf : f < 18446744073709551616) :
    Calls Tryz.prog 132 #[vagg 3 b n f s] w fun e w' => e = .returned (.bool (mayB 3 b n f s)) ∧ Below w.heap.size w w' := by
  have hsf := store_float
  have C := Lib.hid (fun w => Canonical_any f w hf)
  by_cases h : canonF f = f
  · have HH := Lib.hid h
    rw [show decide (canonF f = f) = true by simp [h]] at C
    clear h
    go_enter Tryz.func132, Tryz.ntmps132
    go_wp2_with (first | (go_at_call 174; ((with_reducible refine (C.out _).mono ?_); rintro e w' ⟨rfl, rfl⟩)) | (go_at_call 175; ((with_reducible refine (identical_any _ _ _ _ _ _ _ _ _ _ _).mono ?_); rintro e w1 ⟨rfl, hb⟩)))
    go_ret
    refine ⟨retB (mayB_eq ?_), below_two _ _ _ _ hb⟩
    show _ ↔ MayV _ _ _ _ _; rw [like_iff]; unfold MayV; simp [HH.out, show (⟨#[]⟩ : ByteArray) = ByteArray.empty from rfl]
  · have HN := Lib.hid (no_may (k := 3) (b := b) (n := n) (f := f) (s := s) (by unfold MayV; simp [h]))
    rw [show decide (canonF f = f) = false by simp [h]] at C
    clear h
    go_enter Tryz.func132, Tryz.ntmps132
    go_wp2_with (go_at_call 174; ((with_reducible refine (C.out _).mono ?_); rintro e w' ⟨rfl, rfl⟩))
    go_ret
    exact ⟨retB HN.out, below2 _ _ _ 0⟩
set_option maxRecDepth 100000 in
set_option maxHeartbeats 1000000 in
theorem May_4 (b : Bool) (n : Int) (f : Nat) (s : ByteArray) (w : World) :
    Calls Tryz.prog 132 #[vagg 4 b n f s] w fun e w' => e = .returned (.bool (mayB 4 b n f s)) ∧ Below w.heap.size w w' := by
  have hsf := store_float
  by_cases h : s.size ≤ 32
  · have HH := Lib.hid h
    have t1 : decide ((s.size : Int) ≤ 32) = true := by simp; omega
    clear h
    go_enter Tryz.func132, Tryz.ntmps132
    go_wp2_with (go_at_call 175; ((with_reducible refine (identical_any _ _ _ _ _ _ _ _ _ _ _).mono ?_); rintro e w1 ⟨rfl, hb⟩))
    go_ret
    refine ⟨retB (mayB_eq ?_), below_two _ _ _ _ hb⟩
    show _ ↔ MayV _ _ _ _ _; rw [like_iff]; unfold MayV; simp [HH.out]
  · have HN := Lib.hid (no_may (k := 4) (b := b) (n := n) (f := f) (s := s) (by unfold MayV; simp; omega))
    have t1 : decide ((s.size : Int) ≤ 32) = false := by simp; omega
    clear h
    go_enter Tryz.func132, Tryz.ntmps132
    go_wp2
    go_ret
    exact ⟨retB HN.out, below2 _ _ _ 0⟩
set_option maxRecDepth 100000 in
set_option maxHeartbeats 1000000 in
theorem May_5 (b : Bool) (n : Int) (f : Nat) (s : ByteArray) (w : World) :
    Calls Tryz.prog 132 #[vagg 5 b n f s] w fun e w' => e = .returned (.bool (mayB 5 b n f s)) ∧ Below w.heap.size w w' := by
  have hsf := store_float
  by_cases h : 1 ≤ n
  · have t1 : decide (1 ≤ n) = true := by simp [h]
    by_cases h2 : n ≤ 1099511627776
    · have HH := Lib.hid (And.intro h h2)
      have t2 : decide (n ≤ 1099511627776) = true := by simp [h2]
      clear h h2
      go_enter Tryz.func132, Tryz.ntmps132
      go_wp2_with (go_at_call 175; ((with_reducible refine (identical_any _ _ _ _ _ _ _ _ _ _ _).mono ?_); rintro e w1 ⟨rfl, hb⟩))
      go_ret
      refine ⟨retB (mayB_eq ?_), below_two _ _ _ _ hb⟩
      show _ ↔ MayV _ _ _ _ _; rw [like_iff]; unfold MayV; simp [HH.out, show (⟨#[]⟩ : ByteArray) = ByteArray.empty from rfl]
    · have HN := Lib.hid (no_may (k := 5) (b := b) (n := n) (f := f) (s := s) (by unfold MayV; simp; omega))
      have t2 : decide (n ≤ 1099511627776) = false := by simp; omega
      clear h h2
      go_enter Tryz.func132, Tryz.ntmps132
      go_wp2
      go_ret
      exact ⟨retB HN.out, below2 _ _ _ 0⟩
  · have HN := Lib.hid (no_may (k := 5) (b := b) (n := n) (f := f) (s := s) (by unfold MayV; simp; omega))
    have t1 : decide (1 ≤ n) = false := by simp; omega
    clear h
    go_enter Tryz.func132, Tryz.ntmps132
    go_wp2
    go_ret
    exact ⟨retB HN.out, below2 _ _ _ 0⟩
set_option maxRecDepth 100000 in
set_option maxHeartbeats 1000000 in
theorem May_6 (b : Bool) (n : Int) (f : Nat) (s : ByteArray) (w : World) :
    Calls Tryz.prog 132 #[vagg 6 b n f s] w fun e w' => e = .returned (.bool (mayB 6 b n f s)) ∧ Below w.heap.size w w' := by
  have hsf := store_float
  by_cases h : 1 ≤ n
  · have t1 : decide (1 ≤ n) = true := by simp [h]
    by_cases h2 : n ≤ 1099511627776
    · have HH := Lib.hid (And.intro h h2)
      have t2 : decide (n ≤ 1099511627776) = true := by simp [h2]
      clear h h2
      go_enter Tryz.func132, Tryz.ntmps132
      go_wp2_with (go_at_call 175; ((with_reducible refine (identical_any _ _ _ _ _ _ _ _ _ _ _).mono ?_); rintro e w1 ⟨rfl, hb⟩))
      go_ret
      refine ⟨retB (mayB_eq ?_), below_two _ _ _ _ hb⟩
      show _ ↔ MayV _ _ _ _ _; rw [like_iff]; unfold MayV; simp [HH.out, show (⟨#[]⟩ : ByteArray) = ByteArray.empty from rfl]
    · have HN := Lib.hid (no_may (k := 6) (b := b) (n := n) (f := f) (s := s) (by unfold MayV; simp; omega))
      have t2 : decide (n ≤ 1099511627776) = false := by simp; omega
      clear h h2
      go_enter Tryz.func132, Tryz.ntmps132
      go_wp2
      go_ret
      exact ⟨retB HN.out, below2 _ _ _ 0⟩
  · have HN := Lib.hid (no_may (k := 6) (b := b) (n := n) (f := f) (s := s) (by unfold MayV; simp; omega))
    have t1 : decide (1 ≤ n) = false := by simp; omega
    clear h
    go_enter Tryz.func132, Tryz.ntmps132
    go_wp2
    go_ret
    exact ⟨retB HN.out, below2 _ _ _ 0⟩
set_option maxRecDepth 100000 in
set_option maxHeartbeats 1000000 in
theorem May_else (k : Int) (b : Bool) (n : Int) (f : Nat) (s : ByteArray) (w : World) (hk : k < 0 ∨ 6 < k) :
    Calls Tryz.prog 132 #[vagg k b n f s] w fun e w' => e = .returned (.bool (mayB k b n f s)) ∧ Below w.heap.size w w' := by
  have hsf := store_float
  have HN := Lib.hid (no_may (k := k) (b := b) (n := n) (f := f) (s := s) (by unfold MayV; omega))
  have t0 : (k == 0) = false := by simp; omega
  have t1 : (k == 1) = false := by simp; omega
  have t2 : (k == 2) = false := by simp; omega
  have t3 : (k == 3) = false := by simp; omega
  have t4 : (k == 4) = false := by simp; omega
  have t5 : (k == 5) = false := by simp; omega
  have t6 : (k == 6) = false := by simp; omega
  clear hk
  go_enter Tryz.func132, Tryz.ntmps132
  go_wp2
  go_ret
  exact ⟨retB HN.out, below2 _ _ _ 0⟩
theorem May_any (k : Int) (b : Bool) (n : Int) (f : Nat) (s : ByteArray) (w : World) (hf : f < 18446744073709551616) :
    Calls Tryz.prog 132 #[vagg k b n f s] w fun e w' => e = .returned (.bool (mayB k b n f s)) ∧ Below w.heap.size w w' := by
  by_cases h : k < 0 ∨ 6 < k
  · exact May_else k b n f s w h
  · have e : k = 0 ∨ k = 1 ∨ k = 2 ∨ k = 3 ∨ k = 4 ∨ k = 5 ∨ k = 6 := by omega
    rcases e with rfl | rfl | rfl | rfl | rfl | rfl | rfl
    · exact May_0 b n f s w
    · exact May_1 b n f s w
    · exact May_2 b n f s w
    · exact May_3 b n f s w hf
    · exact May_4 b n f s w
    · exact May_5 b n f s w
    · exact May_6 b n f s w
end Go.Proofs.YtflgdhhgnbdofaaGreat

namespace Go.Proofs.YtflgdhhgnbdofaaGreat
open Go.RowKit
/-- A number's worth, exactly, in units of the least place. -/
def numVal (k n : Int) (f : Nat) : Int := if k = 2 then n * unitF else valF f
def nanK (k : Int) (f : Nat) : Bool := decide (k = 3) && isNaNF f
def sameB (k n : Int) (f : Nat) (k' n' : Int) (f' : Nat) : Bool := !nanK k f && !nanK k' f' && decide (numVal k n f = numVal k' n' f')
def lessB (k n : Int) (f : Nat) (k' n' : Int) (f' : Nat) : Bool := !nanK k f && !nanK k' f' && decide (numVal k n f < numVal k' n' f')
theorem order_eq (a b : Nat) (ha : a < 18446744073709551616) (hb : b < 18446744073709551616) :
    (FloatKind.f64.format.order a b == some Ordering.eq) = (!isNaNF a && !isNaNF b && decide (valF a = valF b)) := by
  show (Ieee.double.order a b == some Ordering.eq) = _
  cases na : isNaNF a
  · cases nb : isNaNF b
    · rw [Go.Proofs.YtflgdhhgnbdofaaGreat.order_any a b ha hb (num_bound a na) (num_bound b nb)]
      have v1 := valF_lt a b
      have v2 := valF_lt b a
      have e : (compare (keyF a) (keyF b) = Ordering.eq) ↔ keyF a = keyF b := by
        show compareOfLessAndEq _ _ = _ ↔ _
        unfold compareOfLessAndEq
        by_cases p : keyF a < keyF b
        · rw [if_pos p]; simp; omega
        · rw [if_neg p]
          by_cases q : keyF a = keyF b
          · simp [q]
          · simp [q]
      rw [Bool.eq_iff_iff]
      simp only [Bool.not_false, Bool.true_and, decide_eq_true_eq, beq_iff_eq, Option.some.injEq, e]
      omega
    · rw [Go.Proofs.YtflgdhhgnbdofaaGreat.order_nan' a b (by simpa [isNaNF] using nb)]
      rfl
  · rw [Go.Proofs.YtflgdhhgnbdofaaGreat.order_nan a b (by simpa [isNaNF] using na)]
    rfl
theorem cmpZ_eq (x y : Int) : (cmpZ x y == 0) = decide (x = y) := by
  rw [Bool.eq_iff_iff]
  simp only [beq_iff_eq, decide_eq_true_eq]
  unfold cmpZ
  repeat' split
  all_goals omega
theorem mixed_eq (n : Int) (f : Nat) : (mixedF n f == 0) = (!isNaNF f && decide (n * unitF = valF f)) := by
  unfold mixedF
  cases p : isNaNF f
  · rw [if_neg (by simp), cmpZ_eq]; simp
  · rw [if_pos rfl]; rfl
theorem same_ff (n n' : Int) (f f' : Nat) (hf : f < 18446744073709551616) (hf' : f' < 18446744073709551616) : sameB 3 n f 3 n' f' = (FloatKind.f64.format.order f f' == some Ordering.eq) := by
  rw [order_eq f f' hf hf']; simp [sameB, nanK, numVal]
theorem same_fi (n n' : Int) (f f' : Nat) : sameB 3 n f 2 n' f' = (mixedF n' f == 0) := by
  rw [mixed_eq]; simp [sameB, nanK, numVal, eq_comm]
theorem same_if (n n' : Int) (f f' : Nat) : sameB 2 n f 3 n' f' = (mixedF n f' == 0) := by
  rw [mixed_eq]; simp [sameB, nanK, numVal]
theorem same_ii (n n' : Int) (f f' : Nat) : sameB 2 n f 2 n' f' = (n == n') := by
  rw [Bool.eq_iff_iff]
  simp only [sameB, nanK, numVal, if_true, beq_iff_eq, show ((2 : Int) = 3) = False by simp, decide_false, Bool.false_and, Bool.not_false, Bool.true_and, decide_eq_true_eq]
  constructor
  · exact fun h => Int.eq_of_mul_eq_mul_right (by have := unitF_pos; omega) h
  · exact fun h => by rw [h]
/-- A number's place against its worth. -/
theorem key_val (k n k' n' : Int) (f f' : Nat) (hk : k = 2 ∨ k = 3) (hk' : k' = 2 ∨ k' = 3) (a : nanK k f = false) (b : nanK k' f' = false) (h : numVal k n f ≠ numVal k' n' f') :
    cmpI (numKey k n f) (numKey k' n' f') < 0 ↔ numVal k n f < numVal k' n' f' := by
  have lt : cmpI (numKey k n f) (numKey k' n' f') < 0 ↔ numKey k n f < numKey k' n' f' := by
    unfold cmpI; repeat' split
    all_goals omega
  rw [lt]
  have r : ∀ (k n : Int) (f : Nat), (k = 2 ∨ k = 3) → nanK k f = false → 4 * numVal k n f ≤ numKey k n f ∧ numKey k n f ≤ 4 * numVal k n f + 2 := by
    intro k n f hk a
    rcases hk with rfl | rfl
    · rw [numKey_int]; unfold numVal; rw [if_pos rfl]; omega
    · rw [numKey_float n f (by simpa [nanK] using a)]; unfold numVal; rw [if_neg (by omega)]; split <;> omega
  have r1 := r k n f hk a
  have r2 := r k' n' f' hk' b
  omega
theorem less_cmp (k n k' n' : Int) (b b' : Bool) (f f' : Nat) (s s' : ByteArray) (hk : k = 2 ∨ k = 3) (hk' : k' = 2 ∨ k' = 3) :
    lessB k n f k' n' f' = (!nanK k f && !nanK k' f' && !sameB k n f k' n' f' && decide (cmpK (keyV k b n f s) (keyV k' b' n' f' s') < 0)) := by
  cases a : nanK k f
  · cases c : nanK k' f'
    · have e : cmpK (keyV k b n f s) (keyV k' b' n' f' s') = cmpI (numKey k n f) (numKey k' n' f') := by
        rcases hk with rfl | rfl <;> rcases hk' with rfl | rfl
        · exact cmpK_num (x := keyV 2 b n f s) (y := keyV 2 b' n' f' s') rfl rfl rfl
        · exact cmpK_num (x := keyV 2 b n f s) (y := keyV 3 b' n' f' s') rfl rfl rfl
        · exact cmpK_num (x := keyV 3 b n f s) (y := keyV 2 b' n' f' s') rfl rfl rfl
        · exact cmpK_num (x := keyV 3 b n f s) (y := keyV 3 b' n' f' s') rfl rfl rfl
      rw [e]
      by_cases q : numVal k n f = numVal k' n' f'
      · simp [lessB, sameB, a, c, q]
      · have v := key_val k n k' n' f f' hk hk' a c q
        simp [lessB, sameB, a, c, q, v]
    · simp [lessB, c]
  · simp [lessB, a]
end Go.Proofs.YtflgdhhgnbdofaaGreat

