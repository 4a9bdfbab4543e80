/- The tests of the relations; what a test makes; Relation. -/
import Derived.Test.YtbdlmidkkdmkpaaP4
import Derived.Laws.EntriesVeiled
namespace Go.Proofs.Ytbdlmidkkdmkpaa
open Go.RowKit
/-- The tests of the first seven relations. -/
def tst7 (r : Nat) (a b c d : Int) : Bool := match r with
  | 1 => decide (b < c)
  | 2 => b == c
  | 3 => decide (a < c) && decide (c < b) && decide (b < d)
  | 4 => (a == c) && decide (b < d)
  | 5 => decide (c < a) && decide (b < d)
  | 6 => decide (c < a) && (b == d)
  | _ => (a == c) && (b == d)
def tst (r : Nat) (a b c d : Int) : Bool := if r ≤ 7 then tst7 r a b c d else tst7 (14 - r) c d a b
theorem t1_any (a b c d : Int) (w : World) : Calls Try.prog 42 #[.agg #[.int .u64 a, .int .u64 b], .agg #[.int .u64 c, .int .u64 d]] w fun e w' => e = .returned (.bool (tst7 1 a b c d)) ∧ Below w.heap.size w w' := by
  unfold tst7
  go_enter Try.func42, Try.ntmps42
  go_wp2
  go_ret
  exact ⟨rfl, ((Below.refl _ _).alloc (Nat.le_refl _) _).alloc (by simp) _⟩
theorem t2_any (a b c d : Int) (w : World) : Calls Try.prog 43 #[.agg #[.int .u64 a, .int .u64 b], .agg #[.int .u64 c, .int .u64 d]] w fun e w' => e = .returned (.bool (tst7 2 a b c d)) ∧ Below w.heap.size w w' := by
  unfold tst7
  go_enter Try.func43, Try.ntmps43
  go_wp2
  go_ret
  exact ⟨rfl, ((Below.refl _ _).alloc (Nat.le_refl _) _).alloc (by simp) _⟩
theorem t3_any (a b c d : Int) (w : World) : Calls Try.prog 44 #[.agg #[.int .u64 a, .int .u64 b], .agg #[.int .u64 c, .int .u64 d]] w fun e w' => e = .returned (.bool (tst7 3 a b c d)) ∧ Below w.heap.size w w' := by
  unfold tst7
  by_cases h2 : a < c
  · rw [decide_eq_true h2, Bool.true_and]
    by_cases h1 : c < b
    · rw [decide_eq_true h1, Bool.true_and]
      go_enter Try.func44, Try.ntmps44
      go_wp2
      go_ret
      exact ⟨rfl, ((Below.refl _ _).alloc (Nat.le_refl _) _).alloc (by simp) _⟩
    · rw [decide_eq_false h1, Bool.false_and]
      have h' : decide (c < b) = false := decide_eq_false h1
      go_enter Try.func44, Try.ntmps44
      go_wp2
      go_ret
      exact ⟨rfl, ((Below.refl _ _).alloc (Nat.le_refl _) _).alloc (by simp) _⟩
  · rw [decide_eq_false h2, Bool.false_and, Bool.false_and]
    have h' : decide (a < c) = false := decide_eq_false h2
    go_enter Try.func44, Try.ntmps44
    go_wp2
    go_ret
    exact ⟨rfl, ((Below.refl _ _).alloc (Nat.le_refl _) _).alloc (by simp) _⟩
theorem t4_any (a b c d : Int) (w : World) : Calls Try.prog 45 #[.agg #[.int .u64 a, .int .u64 b], .agg #[.int .u64 c, .int .u64 d]] w fun e w' => e = .returned (.bool (tst7 4 a b c d)) ∧ Below w.heap.size w w' := by
  unfold tst7
  by_cases h1 : (a == c) = true
  · rw [h1, Bool.true_and]
    go_enter Try.func45, Try.ntmps45
    go_wp2
    go_ret
    exact ⟨rfl, ((Below.refl _ _).alloc (Nat.le_refl _) _).alloc (by simp) _⟩
  · rw [Bool.not_eq_true] at h1
    rw [h1, Bool.false_and]
    go_enter Try.func45, Try.ntmps45
    go_wp2
    go_ret
    exact ⟨rfl, ((Below.refl _ _).alloc (Nat.le_refl _) _).alloc (by simp) _⟩
theorem t5_any (a b c d : Int) (w : World) : Calls Try.prog 46 #[.agg #[.int .u64 a, .int .u64 b], .agg #[.int .u64 c, .int .u64 d]] w fun e w' => e = .returned (.bool (tst7 5 a b c d)) ∧ Below w.heap.size w w' := by
  unfold tst7
  by_cases h1 : c < a
  · rw [decide_eq_true h1, Bool.true_and]
    go_enter Try.func46, Try.ntmps46
    go_wp2
    go_ret
    exact ⟨rfl, ((Below.refl _ _).alloc (Nat.le_refl _) _).alloc (by simp) _⟩
  · rw [decide_eq_false h1, Bool.false_and]
    have h' : decide (c < a) = false := decide_eq_false h1
    go_enter Try.func46, Try.ntmps46
    go_wp2
    go_ret
    exact ⟨rfl, ((Below.refl _ _).alloc (Nat.le_refl _) _).alloc (by simp) _⟩
theorem t6_any (a b c d : Int) (w : World) : Calls Try.prog 47 #[.agg #[.int .u64 a, .int .u64 b], .agg #[.int .u64 c, .int .u64 d]] w fun e w' => e = .returned (.bool (tst7 6 a b c d)) ∧ Below w.heap.size w w' := by
  unfold tst7
  by_cases h1 : c < a
  · rw [decide_eq_true h1, Bool.true_and]
    go_enter Try.func47, Try.ntmps47
    go_wp2
    go_ret
    exact ⟨rfl, ((Below.refl _ _).alloc (Nat.le_refl _) _).alloc (by simp) _⟩
  · rw [decide_eq_false h1, Bool.false_and]
    have h' : decide (c < a) = false := decide_eq_false h1
    go_enter Try.func47, Try.ntmps47
    go_wp2
    go_ret
    exact ⟨rfl, ((Below.refl _ _).alloc (Nat.le_refl _) _).alloc (by simp) _⟩
theorem t7_any (a b c d : Int) (w : World) : Calls Try.prog 48 #[.agg #[.int .u64 a, .int .u64 b], .agg #[.int .u64 c, .int .u64 d]] w fun e w' => e = .returned (.bool (tst7 7 a b c d)) ∧ Below w.heap.size w w' := by
  unfold tst7
  go_enter Try.func48, Try.ntmps48
  go_wp2
  all_goals
    go_ret
    refine ⟨?_, ((Below.refl _ _).alloc (Nat.le_refl _) _).alloc (by simp) _⟩
    simp [*]
/-- What a value that is a function must do to be the test of a relation. -/
def FnAt (w : World) (v : Value) (r : Nat) : Prop := ∃ F caps, v = .func (.func F) #[] caps ∧ (∀ args w, (callFunc F args).run Try.prog w = .ok (.enter F args) w) ∧ ∀ W, Below w.heap.size w W → ∀ a b c d : Int,
  Calls Try.prog F (#[.agg #[.int .u64 a, .int .u64 b], .agg #[.int .u64 c, .int .u64 d]] ++ caps) W fun e W' => e = .returned (.bool (tst r a b c d)) ∧ Below W.heap.size W W'
theorem FnAt.below {w w' : World} {v : Value} {r : Nat} (h : FnAt w v r) (hb : Below w.heap.size w w') : FnAt w' v r := by
  obtain ⟨F, caps, e, h1, h2⟩ := h
  exact ⟨F, caps, e, h1, fun W hW a b c d => h2 W (hb.trans (hW.mono hb.size)) a b c d⟩
set_option maxRecDepth 100000 in
theorem t8_any (F : FuncId) (r : Nat) (g : Nat) (a b c d : Int) (w : World) (hF : ∀ args w, (callFunc F args).run Try.prog w = .ok (.enter F args) w)
    (hC : ∀ (a b c d : Int) (w : World), Calls Try.prog F #[.agg #[.int .u64 a, .int .u64 b], .agg #[.int .u64 c, .int .u64 d]] w fun e w' => e = .returned (.bool (tst7 r a b c d)) ∧ Below w.heap.size w w')
    (hg : w.cell? ⟨g, 0, none⟩ = some (.func (.func F) #[] #[])) (hlt : g < w.heap.size) :
    Calls Try.prog 49 #[.agg #[.int .u64 a, .int .u64 b], .agg #[.int .u64 c, .int .u64 d], .pointer (some ⟨g, 0, none⟩)] w fun e w' => e = .returned (.bool (tst7 r c d a b)) ∧ Below w.heap.size w w' := by
  have HC := Lib.hid hC
  have h1 := hg
  clear hC hg
  go_enter Try.func49, Try.ntmps49
  go_wp2_with fail
  refine (HC.out _ _ _ _ _).mono ?_
  rintro e w1 ⟨rfl, hb1⟩
  go_wp2
  go_ret
  exact ⟨rfl, (((Below.refl _ _).alloc (Nat.le_refl _) _).alloc (by simp) _).trans (hb1.mono (by simp <;> omega))⟩
set_option maxRecDepth 100000 in
set_option maxHeartbeats 1000000 in
theorem test_1 (w : World) : Calls Try.prog 34 #[.int .i64 1] w fun e w' => ∃ v, e = .returned v ∧ FnAt w' v 1 ∧ Below w.heap.size w w' := by
  go_enter Try.func34, Try.ntmps34
  go_wp2
  go_ret
  exact ⟨_, rfl, ⟨42, #[], rfl, fun _ _ => by kernel_rfl, fun W _ a b c d => t1_any a b c d W⟩, (Below.refl _ _).alloc (Nat.le_refl _) _⟩
set_option maxRecDepth 100000 in
set_option maxHeartbeats 1000000 in
theorem test_2 (w : World) : Calls Try.prog 34 #[.int .i64 2] w fun e w' => ∃ v, e = .returned v ∧ FnAt w' v 2 ∧ Below w.heap.size w w' := by
  go_enter Try.func34, Try.ntmps34
  go_wp2
  go_ret
  exact ⟨_, rfl, ⟨43, #[], rfl, fun _ _ => by kernel_rfl, fun W _ a b c d => t2_any a b c d W⟩, (Below.refl _ _).alloc (Nat.le_refl _) _⟩
set_option maxRecDepth 100000 in
set_option maxHeartbeats 1000000 in
theorem test_3 (w : World) : Calls Try.prog 34 #[.int .i64 3] w fun e w' => ∃ v, e = .returned v ∧ FnAt w' v 3 ∧ Below w.heap.size w w' := by
  go_enter Try.func34, Try.ntmps34
  go_wp2
  go_ret
  exact ⟨_, rfl, ⟨44, #[], rfl, fun _ _ => by kernel_rfl, fun W _ a b c d => t3_any a b c d W⟩, (Below.refl _ _).alloc (Nat.le_refl _) _⟩
set_option maxRecDepth 100000 in
set_option maxHeartbeats 1000000 in
theorem test_4 (w : World) : Calls Try.prog 34 #[.int .i64 4] w fun e w' => ∃ v, e = .returned v ∧ FnAt w' v 4 ∧ Below w.heap.size w w' := by
  go_enter Try.func34, Try.ntmps34
  go_wp2
  go_ret
  exact ⟨_, rfl, ⟨45, #[], rfl, fun _ _ => by kernel_rfl, fun W _ a b c d => t4_any a b c d W⟩, (Below.refl _ _).alloc (Nat.le_refl _) _⟩
set_option maxRecDepth 100000 in
set_option maxHeartbeats 1000000 in
theorem test_5 (w : World) : Calls Try.prog 34 #[.int .i64 5] w fun e w' => ∃ v, e = .returned v ∧ FnAt w' v 5 ∧ Below w.heap.size w w' := by
  go_enter Try.func34, Try.ntmps34
  go_wp2
  go_ret
  exact ⟨_, rfl, ⟨46, #[], rfl, fun _ _ => by kernel_rfl, fun W _ a b c d => t5_any a b c d W⟩, (Below.refl _ _).alloc (Nat.le_refl _) _⟩
set_option maxRecDepth 100000 in
set_option maxHeartbeats 1000000 in
theorem test_6 (w : World) : Calls Try.prog 34 #[.int .i64 6] w fun e w' => ∃ v, e = .returned v ∧ FnAt w' v 6 ∧ Below w.heap.size w w' := by
  go_enter Try.func34, Try.ntmps34
  go_wp2
  go_ret
  exact ⟨_, rfl, ⟨47, #[], rfl, fun _ _ => by kernel_rfl, fun W _ a b c d => t6_any a b c d W⟩, (Below.refl _ _).alloc (Nat.le_refl _) _⟩
set_option maxRecDepth 100000 in
set_option maxHeartbeats 1000000 in
theorem test_7 (w : World) : Calls Try.prog 34 #[.int .i64 7] w fun e w' => ∃ v, e = .returned v ∧ FnAt w' v 7 ∧ Below w.heap.size w w' := by
  go_enter Try.func34, Try.ntmps34
  go_wp2
  go_ret
  exact ⟨_, rfl, ⟨48, #[], rfl, fun _ _ => by kernel_rfl, fun W _ a b c d => t7_any a b c d W⟩, (Below.refl _ _).alloc (Nat.le_refl _) _⟩
set_option maxRecDepth 100000 in
set_option maxHeartbeats 1000000 in
theorem test_8 (w : World) : Calls Try.prog 34 #[.int .i64 8] w fun e w' => ∃ v, e = .returned v ∧ FnAt w' v 8 ∧ Below w.heap.size w w' := by
  have hmf : ∀ (fn : Fn) (first cap : Array Value) (w : World), (Instr.makeFunc fn first cap).run Try.prog w = .ok (.func fn first cap) w := fun _ _ _ _ => rfl
  go_enter Try.func34, Try.ntmps34
  go_wp2
  go_ret
  refine ⟨_, rfl, ⟨49, #[.pointer (some ⟨w.heap.size + 1, 0, none⟩)], rfl, fun _ _ => by kernel_rfl, fun W hW a b c d => t8_any 47 6 (w.heap.size + 1) a b c d W (fun _ _ => by kernel_rfl) t6_any ?_ ?_⟩, ((Below.refl _ _).alloc (Nat.le_refl _) _).alloc (by simp) _⟩
  · rw [hW.cell (p := ⟨w.heap.size + 1, 0, none⟩) (by simp)]
    go_simp
  · have := hW.size
    simp at this
    omega
set_option maxRecDepth 100000 in
set_option maxHeartbeats 1000000 in
theorem test_9 (w : World) : Calls Try.prog 34 #[.int .i64 9] w fun e w' => ∃ v, e = .returned v ∧ FnAt w' v 9 ∧ Below w.heap.size w w' := by
  have hmf : ∀ (fn : Fn) (first cap : Array Value) (w : World), (Instr.makeFunc fn first cap).run Try.prog w = .ok (.func fn first cap) w := fun _ _ _ _ => rfl
  go_enter Try.func34, Try.ntmps34
  go_wp2
  go_ret
  refine ⟨_, rfl, ⟨49, #[.pointer (some ⟨w.heap.size + 1, 0, none⟩)], rfl, fun _ _ => by kernel_rfl, fun W hW a b c d => t8_any 46 5 (w.heap.size + 1) a b c d W (fun _ _ => by kernel_rfl) t5_any ?_ ?_⟩, ((Below.refl _ _).alloc (Nat.le_refl _) _).alloc (by simp) _⟩
  · rw [hW.cell (p := ⟨w.heap.size + 1, 0, none⟩) (by simp)]
    go_simp
  · have := hW.size
    simp at this
    omega
set_option maxRecDepth 100000 in
set_option maxHeartbeats 1000000 in
theorem test_10 (w : World) : Calls Try.prog 34 #[.int .i64 10] w fun e w' => ∃ v, e = .returned v ∧ FnAt w' v 10 ∧ Below w.heap.size w w' := by
  have hmf : ∀ (fn : Fn) (first cap : Array Value) (w : World), (Instr.makeFunc fn first cap).run Try.prog w = .ok (.func fn first cap) w := fun _ _ _ _ => rfl
  go_enter Try.func34, Try.ntmps34
  go_wp2
  go_ret
  refine ⟨_, rfl, ⟨49, #[.pointer (some ⟨w.heap.size + 1, 0, none⟩)], rfl, fun _ _ => by kernel_rfl, fun W hW a b c d => t8_any 45 4 (w.heap.size + 1) a b c d W (fun _ _ => by kernel_rfl) t4_any ?_ ?_⟩, ((Below.refl _ _).alloc (Nat.le_refl _) _).alloc (by simp) _⟩
  · rw [hW.cell (p := ⟨w.heap.size + 1, 0, none⟩) (by simp)]
    go_simp
  · have := hW.size
    simp at this
    omega
set_option maxRecDepth 100000 in
set_option maxHeartbeats 1000000 in
theorem test_11 (w : World) : Calls Try.prog 34 #[.int .i64 11] w fun e w' => ∃ v, e = .returned v ∧ FnAt w' v 11 ∧ Below w.heap.size w w' := by
  have hmf : ∀ (fn : Fn) (first cap : Array Value) (w : World), (Instr.makeFunc fn first cap).run Try.prog w = .ok (.func fn first cap) w := fun _ _ _ _ => rfl
  go_enter Try.func34, Try.ntmps34
  go_wp2
  go_ret
  refine ⟨_, rfl, ⟨49, #[.pointer (some ⟨w.heap.size + 1, 0, none⟩)], rfl, fun _ _ => by kernel_rfl, fun W hW a b c d => t8_any 44 3 (w.heap.size + 1) a b c d W (fun _ _ => by kernel_rfl) t3_any ?_ ?_⟩, ((Below.refl _ _).alloc (Nat.le_refl _) _).alloc (by simp) _⟩
  · rw [hW.cell (p := ⟨w.heap.size + 1, 0, none⟩) (by simp)]
    go_simp
  · have := hW.size
    simp at this
    omega
set_option maxRecDepth 100000 in
set_option maxHeartbeats 1000000 in
theorem test_12 (w : World) : Calls Try.prog 34 #[.int .i64 12] w fun e w' => ∃ v, e = .returned v ∧ FnAt w' v 12 ∧ Below w.heap.size w w' := by
  have hmf : ∀ (fn : Fn) (first cap : Array Value) (w : World), (Instr.makeFunc fn first cap).run Try.prog w = .ok (.func fn first cap) w := fun _ _ _ _ => rfl
  go_enter Try.func34, Try.ntmps34
  go_wp2
  go_ret
  refine ⟨_, rfl, ⟨49, #[.pointer (some ⟨w.heap.size + 1, 0, none⟩)], rfl, fun _ _ => by kernel_rfl, fun W hW a b c d => t8_any 43 2 (w.heap.size + 1) a b c d W (fun _ _ => by kernel_rfl) t2_any ?_ ?_⟩, ((Below.refl _ _).alloc (Nat.le_refl _) _).alloc (by simp) _⟩
  · rw [hW.cell (p := ⟨w.heap.size + 1, 0, none⟩) (by simp)]
    go_simp
  · have := hW.size
    simp at this
    omega
set_option maxRecDepth 100000 in
set_option maxHeartbeats 1000000 in
theorem test_13 (w : World) : Calls Try.prog 34 #[.int .i64 13] w fun e w' => ∃ v, e = .returned v ∧ FnAt w' v 13 ∧ Below w.heap.size w w' := by
  have hmf : ∀ (fn : Fn) (first cap : Array Value) (w : World), (Instr.makeFunc fn first cap).run Try.prog w = .ok (.func fn first cap) w := fun _ _ _ _ => rfl
  go_enter Try.func34, Try.ntmps34
  go_wp2
  go_ret
  refine ⟨_, rfl, ⟨49, #[.pointer (some ⟨w.heap.size + 1, 0, none⟩)], rfl, fun _ _ => by kernel_rfl, fun W hW a b c d => t8_any 42 1 (w.heap.size + 1) a b c d W (fun _ _ => by kernel_rfl) t1_any ?_ ?_⟩, ((Below.refl _ _).alloc (Nat.le_refl _) _).alloc (by simp) _⟩
  · rw [hW.cell (p := ⟨w.heap.size + 1, 0, none⟩) (by simp)]
    go_simp
  · have := hW.size
    simp at this
    omega
theorem test_any (r : Nat) (h1 : 1 ≤ r) (h2 : r ≤ 13) (w : World) : Calls Try.prog 34 #[.int .i64 (r : Int)] w fun e w' => ∃ v, e = .returned v ∧ FnAt w' v r ∧ Below w.heap.size w w' :=
  match r, h1, h2 with
  | 1, _, _ => test_1 w
  | 2, _, _ => test_2 w
  | 3, _, _ => test_3 w
  | 4, _, _ => test_4 w
  | 5, _, _ => test_5 w
  | 6, _, _ => test_6 w
  | 7, _, _ => test_7 w
  | 8, _, _ => test_8 w
  | 9, _, _ => test_9 w
  | 10, _, _ => test_10 w
  | 11, _, _ => test_11 w
  | 12, _, _ => test_12 w
  | 13, _, _ => test_13 w
end Go.Proofs.Ytbdlmidkkdmkpaa
