/- value.May, for every value. -/
import Derived.Test.YtaaekjmiapelgaaGreatmV5
namespace Go.Proofs.YtaaekjmiapelgaaGreat
open Go.RowKit
instance decMay (k : Int) (b : Bool) (n : Int) (f : Nat) (s : ByteArray) : Decidable (MayV k b n f s) := by unfold MayV; infer_instance
def mayB (k : Int) (b : Bool) (n : Int) (f : Nat) (s : ByteArray) : Bool := decide (MayV k b n f s)
theorem mayB_eq {k : Int} {b : Bool} {n : Int} {f : Nat} {s : ByteArray} {c : Bool} (h : c = true ↔ MayV k b n f s) : c = mayB k b n f s := by
  unfold mayB
  cases c <;> simp_all
/-- A float is stored as any other cell. -/
theorem store_float (w : World) (a : Addr) (m : Mode) (f : Nat) : (store a (.float .f64 f) m).run Tryz.prog w = stored Tryz.prog w a (.float .f64 f) m := run_store Tryz.prog w a _ m rfl
theorem like_iff {k k' n n' : Int} {b b' : Bool} {f f' : Nat} {s s' : ByteArray} : likeV k b n f s k' b' n' f' s' = true ↔ (k = k' ∧ b = b' ∧ n = n' ∧ f = f' ∧ s = s') := by unfold likeV; simp
theorem no_may {k : Int} {b : Bool} {n : Int} {f : Nat} {s : ByteArray} (h : ¬ MayV k b n f s) : false = mayB k b n f s := mayB_eq (by simp [h])
set_option maxRecDepth 100000 in
set_option maxHeartbeats 1000000 in
theorem May_0 (b : Bool) (n : Int) (f : Nat) (s : ByteArray) (w : World) :
    Calls Tryz.prog 67 #[vagg 0 b n f s] w fun e w' => e = .returned (.bool (mayB 0 b n f s)) ∧ Below w.heap.size w w' := by
  have hsf := store_float
  go_enter Tryz.func67, Tryz.ntmps67
  go_wp2_with (go_at_call 85; ((with_reducible refine (identical_any _ _ _ _ _ _ _ _ _ _ _).mono ?_); rintro e w1 ⟨rfl, hb⟩))
  go_ret
  refine ⟨retB (mayB_eq ?_), below_two _ _ _ _ hb⟩
  show _ ↔ MayV _ _ _ _ _; rw [like_iff]; unfold MayV; simp [show (⟨#[]⟩ : ByteArray) = ByteArray.empty from rfl]
set_option maxRecDepth 100000 in
set_option maxHeartbeats 1000000 in
theorem May_1 (b : Bool) (n : Int) (f : Nat) (s : ByteArray) (w : World) :
    Calls Tryz.prog 67 #[vagg 1 b n f s] w fun e w' => e = .returned (.bool (mayB 1 b n f s)) ∧ Below w.heap.size w w' := by
  have hsf := store_float
  go_enter Tryz.func67, Tryz.ntmps67
  go_wp2_with (go_at_call 85; ((with_reducible refine (identical_any _ _ _ _ _ _ _ _ _ _ _).mono ?_); rintro e w1 ⟨rfl, hb⟩))
  go_ret
  refine ⟨retB (mayB_eq ?_), below_two _ _ _ _ hb⟩
  show _ ↔ MayV _ _ _ _ _; rw [like_iff]; unfold MayV; simp [show (⟨#[]⟩ : ByteArray) = ByteArray.empty from rfl]
set_option maxRecDepth 100000 in
set_option maxHeartbeats 1000000 in
theorem May_2 (b : Bool) (n : Int) (f : Nat) (s : ByteArray) (w : World) :
    Calls Tryz.prog 67 #[vagg 2 b n f s] w fun e w' => e = .returned (.bool (mayB 2 b n f s)) ∧ Below w.heap.size w w' := by
  have hsf := store_float
  go_enter Tryz.func67, Tryz.ntmps67
  go_wp2_with (go_at_call 85; ((with_reducible refine (identical_any _ _ _ _ _ _ _ _ _ _ _).mono ?_); rintro e w1 ⟨rfl, hb⟩))
  go_ret
  refine ⟨retB (mayB_eq ?_), below_two _ _ _ _ hb⟩
  show _ ↔ MayV _ _ _ _ _; rw [like_iff]; unfold MayV; simp [show (⟨#[]⟩ : ByteArray) = ByteArray.empty from rfl]
set_option maxRecDepth 100000 in
set_option maxHeartbeats 1000000 in
theorem May_3 (b : Bool) (n : Int) (f : Nat) (s : ByteArray) (w : World) (hf : f < 18446744073709551616) :
    Calls Tryz.prog 67 #[vagg 3 b n f s] w fun e w' => e = .returned (.bool (mayB 3 b n f s)) ∧ Below w.heap.size w w' := by
  have hsf := store_float
  have C := Lib.hid (fun w => Canonical_any f w hf)
  by_cases h : canonF f = f
  · have HH := Lib.hid h
    rw [show decide (canonF f = f) = true by simp [h]] at C
    clear h
    go_enter Tryz.func67, Tryz.ntmps67
    go_wp2_with (first | (go_at_call 84; ((with_reducible refine (C.out _).mono ?_); rintro e w' ⟨rfl, rfl⟩)) | (go_at_call 85; ((with_reducible refine (identical_any _ _ _ _ _ _ _ _ _ _ _).mono ?_); rintro e w1 ⟨rfl, hb⟩)))
    go_ret
    refine ⟨retB (mayB_eq ?_), below_two _ _ _ _ hb⟩
    show _ ↔ MayV _ _ _ _ _; rw [like_iff]; unfold MayV; simp [HH.out, show (⟨#[]⟩ : ByteArray) = ByteArray.empty from rfl]
  · have HN := Lib.hid (no_may (k := 3) (b := b) (n := n) (f := f) (s := s) (by unfold MayV; simp [h]))
    rw [show decide (canonF f = f) = false by simp [h]] at C
    clear h
    go_enter Tryz.func67, Tryz.ntmps67
    go_wp2_with (go_at_call 84; ((with_reducible refine (C.out _).mono ?_); rintro e w' ⟨rfl, rfl⟩))
    go_ret
    exact ⟨retB HN.out, below2 _ _ _ 0⟩
set_option maxRecDepth 100000 in
set_option maxHeartbeats 1000000 in
theorem May_4 (b : Bool) (n : Int) (f : Nat) (s : ByteArray) (w : World) :
    Calls Tryz.prog 67 #[vagg 4 b n f s] w fun e w' => e = .returned (.bool (mayB 4 b n f s)) ∧ Below w.heap.size w w' := by
  have hsf := store_float
  by_cases h : s.size ≤ 32
  · have HH := Lib.hid h
    have t1 : decide ((s.size : Int) ≤ 32) = true := by simp; omega
    clear h
    go_enter Tryz.func67, Tryz.ntmps67
    go_wp2_with (go_at_call 85; ((with_reducible refine (identical_any _ _ _ _ _ _ _ _ _ _ _).mono ?_); rintro e w1 ⟨rfl, hb⟩))
    go_ret
    refine ⟨retB (mayB_eq ?_), below_two _ _ _ _ hb⟩
    show _ ↔ MayV _ _ _ _ _; rw [like_iff]; unfold MayV; simp [HH.out]
  · have HN := Lib.hid (no_may (k := 4) (b := b) (n := n) (f := f) (s := s) (by unfold MayV; simp; omega))
    have t1 : decide ((s.size : Int) ≤ 32) = false := by simp; omega
    clear h
    go_enter Tryz.func67, Tryz.ntmps67
    go_wp2
    go_ret
    exact ⟨retB HN.out, below2 _ _ _ 0⟩
set_option maxRecDepth 100000 in
set_option maxHeartbeats 1000000 in
theorem May_5 (b : Bool) (n : Int) (f : Nat) (s : ByteArray) (w : World) :
    Calls Tryz.prog 67 #[vagg 5 b n f s] w fun e w' => e = .returned (.bool (mayB 5 b n f s)) ∧ Below w.heap.size w w' := by
  have hsf := store_float
  by_cases h : 1 ≤ n
  · have t1 : decide (1 ≤ n) = true := by simp [h]
    by_cases h2 : n ≤ 1099511627776
    · have HH := Lib.hid (And.intro h h2)
      have t2 : decide (n ≤ 1099511627776) = true := by simp [h2]
      clear h h2
      go_enter Tryz.func67, Tryz.ntmps67
      go_wp2_with (go_at_call 85; ((with_reducible refine (identical_any _ _ _ _ _ _ _ _ _ _ _).mono ?_); rintro e w1 ⟨rfl, hb⟩))
      go_ret
      refine ⟨retB (mayB_eq ?_), below_two _ _ _ _ hb⟩
      show _ ↔ MayV _ _ _ _ _; rw [like_iff]; unfold MayV; simp [HH.out, show (⟨#[]⟩ : ByteArray) = ByteArray.empty from rfl]
    · have HN := Lib.hid (no_may (k := 5) (b := b) (n := n) (f := f) (s := s) (by unfold MayV; simp; omega))
      have t2 : decide (n ≤ 1099511627776) = false := by simp; omega
      clear h h2
      go_enter Tryz.func67, Tryz.ntmps67
      go_wp2
      go_ret
      exact ⟨retB HN.out, below2 _ _ _ 0⟩
  · have HN := Lib.hid (no_may (k := 5) (b := b) (n := n) (f := f) (s := s) (by unfold MayV; simp; omega))
    have t1 : decide (1 ≤ n) = false := by simp; omega
    clear h
    go_enter Tryz.func67, Tryz.ntmps67
    go_wp2
    go_ret
    exact ⟨retB HN.out, below2 _ _ _ 0⟩
set_option maxRecDepth 100000 in
set_option maxHeartbeats 1000000 in
theorem May_6 (b : Bool) (n : Int) (f : Nat) (s : ByteArray) (w : World) :
    Calls Tryz.prog 67 #[vagg 6 b n f s] w fun e w' => e = .returned (.bool (mayB 6 b n f s)) ∧ Below w.heap.size w w' := by
  have hsf := store_float
  by_cases h : 1 ≤ n
  · have t1 : decide (1 ≤ n) = true := by simp [h]
    by_cases h2 : n ≤ 1099511627776
    · have HH := Lib.hid (And.intro h h2)
      have t2 : decide (n ≤ 1099511627776) = true := by simp [h2]
      clear h h2
      go_enter Tryz.func67, Tryz.ntmps67
      go_wp2_with (go_at_call 85; ((with_reducible refine (identical_any _ _ _ _ _ _ _ _ _ _ _).mono ?_); rintro e w1 ⟨rfl, hb⟩))
      go_ret
      refine ⟨retB (mayB_eq ?_), below_two _ _ _ _ hb⟩
      show _ ↔ MayV _ _ _ _ _; rw [like_iff]; unfold MayV; simp [HH.out, show (⟨#[]⟩ : ByteArray) = ByteArray.empty from rfl]
    · have HN := Lib.hid (no_may (k := 6) (b := b) (n := n) (f := f) (s := s) (by unfold MayV; simp; omega))
      have t2 : decide (n ≤ 1099511627776) = false := by simp; omega
      clear h h2
      go_enter Tryz.func67, Tryz.ntmps67
      go_wp2
      go_ret
      exact ⟨retB HN.out, below2 _ _ _ 0⟩
  · have HN := Lib.hid (no_may (k := 6) (b := b) (n := n) (f := f) (s := s) (by unfold MayV; simp; omega))
    have t1 : decide (1 ≤ n) = false := by simp; omega
    clear h
    go_enter Tryz.func67, Tryz.ntmps67
    go_wp2
    go_ret
    exact ⟨retB HN.out, below2 _ _ _ 0⟩
set_option maxRecDepth 100000 in
set_option maxHeartbeats 1000000 in
theorem May_else (k : Int) (b : Bool) (n : Int) (f : Nat) (s : ByteArray) (w : World) (hk : k < 0 ∨ 6 < k) :
    Calls Tryz.prog 67 #[vagg k b n f s] w fun e w' => e = .returned (.bool (mayB k b n f s)) ∧ Below w.heap.size w w' := by
  have hsf := store_float
  have HN := Lib.hid (no_may (k := k) (b := b) (n := n) (f := f) (s := s) (by unfold MayV; omega))
  have t0 : (k == 0) = false := by simp; omega
  have t1 : (k == 1) = false := by simp; omega
  have t2 : (k == 2) = false := by simp; omega
  have t3 : (k == 3) = false := by simp; omega
  have t4 : (k == 4) = false := by simp; omega
  have t5 : (k == 5) = false := by simp; omega
  have t6 : (k == 6) = false := by simp; omega
  clear hk
  go_enter Tryz.func67, Tryz.ntmps67
  go_wp2
  go_ret
  exact ⟨retB HN.out, below2 _ _ _ 0⟩
theorem May_any (k : Int) (b : Bool) (n : Int) (f : Nat) (s : ByteArray) (w : World) (hf : f < 18446744073709551616) :
    Calls Tryz.prog 67 #[vagg k b n f s] w fun e w' => e = .returned (.bool (mayB k b n f s)) ∧ Below w.heap.size w w' := by
  by_cases h : k < 0 ∨ 6 < k
  · exact May_else k b n f s w h
  · have e : k = 0 ∨ k = 1 ∨ k = 2 ∨ k = 3 ∨ k = 4 ∨ k = 5 ∨ k = 6 := by omega
    rcases e with rfl | rfl | rfl | rfl | rfl | rfl | rfl
    · exact May_0 b n f s w
    · exact May_1 b n f s w
    · exact May_2 b n f s w
    · exact May_3 b n f s w hf
    · exact May_4 b n f s w
    · exact May_5 b n f s w
    · exact May_6 b n f s w
end Go.Proofs.YtaaekjmiapelgaaGreat

