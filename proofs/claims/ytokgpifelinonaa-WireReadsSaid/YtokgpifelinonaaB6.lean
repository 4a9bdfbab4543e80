/- Digits read back: spans, takeDigits, takeSized. -/
import Derived.Test.YtokgpifelinonaaB5
namespace Go.Proofs.Ytokgpifelinonaa
open Go.RowKit
/-- Whether two spans meet. -/
def meetsB (a b : Nat × Nat) : Bool := decide (a.1 ≤ b.2) && decide (b.1 ≤ a.2)
set_option maxRecDepth 100000 in
set_option maxHeartbeats 1000000 in
theorem meets_any (a b c d : Nat) (w : World) :
    Calls Try.prog 65 #[.agg #[.int .u64 a, .int .u64 b], .agg #[.int .u64 c, .int .u64 d]] w fun e w' => e = .returned (.bool (meetsB (a, b) (c, d))) ∧ Below w.heap.size w w' := by
  by_cases h1 : a ≤ d
  · have t1 : decide (a ≤ d) = true := by simp [h1]
    by_cases h2 : c ≤ b
    · have t2 : decide (c ≤ b) = true := by simp [h2]
      have HE := Lib.hid (show meetsB (a, b) (c, d) = true by simp [meetsB, h1, h2])
      clear h1 h2
      go_enter Try.func65, Try.ntmps65
      go_wp2
      go_ret
      refine ⟨by rw [HE.out]; rfl, ?_⟩
      exact ((Below.refl _ _).alloc (Nat.le_refl _) _).alloc (by simp) _
    · have t2 : decide (c ≤ b) = false := by simp [h2]
      have HE := Lib.hid (show meetsB (a, b) (c, d) = false by simp [meetsB, h1, h2])
      clear h1 h2
      go_enter Try.func65, Try.ntmps65
      go_wp2
      go_ret
      refine ⟨by rw [HE.out]; rfl, ?_⟩
      exact ((Below.refl _ _).alloc (Nat.le_refl _) _).alloc (by simp) _
  · have t1 : decide (a ≤ d) = false := by simp [h1]
    have HE := Lib.hid (show meetsB (a, b) (c, d) = false by simp [meetsB, h1])
    clear h1
    go_enter Try.func65, Try.ntmps65
    go_wp2
    go_ret
    refine ⟨by rw [HE.out]; rfl, ?_⟩
    exact ((Below.refl _ _).alloc (Nat.le_refl _) _).alloc (by simp) _
/-- The value of begins.meets. -/
abbrev meetsV (low high : Nat) : Value := .func (Fn.func 65) #[.agg #[.int .u64 low, .int .u64 high]] #[]
set_option maxRecDepth 100000 in
set_option maxHeartbeats 1000000 in
theorem IndexFunc_one_false (h a b low high : Nat) (w : World) (h0 : w.cell? ⟨h, 0, none⟩ = some (.int .u64 a)) (h1 : w.cell? ⟨h, 1, none⟩ = some (.int .u64 b)) (hm : meetsB (low, high) (a, b) = false) :
    Calls Try.prog 68 #[.slice (some ⟨h, 0, none⟩) 1 1, meetsV low high] w fun e w' => e = .returned (.int .i64 (-1)) ∧ Below w.heap.size w w' := by
  have C := Lib.hid (fun w => meets_any low high a b w)
  rw [hm] at C
  clear hm
  go_enter Try.func68, Try.ntmps68
  go_wp2
  refine wp_loop_rounds 2 ?_
  rw [rounds_succ]
  go_wp2_with (go_at_call 65; ((with_reducible refine (C.out _).mono ?_); rintro e w1 ⟨rfl, hb1⟩; have B1 := Lib.hid hb1; clear hb1))
  rw [rounds_succ]
  go_wp2
  go_ret
  exact ⟨rfl, B1.out⟩
set_option maxRecDepth 100000 in
set_option maxHeartbeats 1000000 in
theorem IndexFunc_one_true (h a b low high : Nat) (w : World) (h0 : w.cell? ⟨h, 0, none⟩ = some (.int .u64 a)) (h1 : w.cell? ⟨h, 1, none⟩ = some (.int .u64 b)) (hm : meetsB (low, high) (a, b) = true) :
    Calls Try.prog 68 #[.slice (some ⟨h, 0, none⟩) 1 1, meetsV low high] w fun e w' => e = .returned (.int .i64 (0)) ∧ Below w.heap.size w w' := by
  have C := Lib.hid (fun w => meets_any low high a b w)
  rw [hm] at C
  clear hm
  go_enter Try.func68, Try.ntmps68
  go_wp2
  refine wp_loop_rounds 2 ?_
  rw [rounds_succ]
  go_wp2_with (go_at_call 65; ((with_reducible refine (C.out _).mono ?_); rintro e w1 ⟨rfl, hb1⟩; have B1 := Lib.hid hb1; clear hb1))
  go_ret
  exact ⟨rfl, B1.out⟩
set_option maxRecDepth 100000 in
set_option maxHeartbeats 1000000 in
theorem IndexFunc_two_true (h a b low high : Nat) (w : World) (h0 : w.cell? ⟨h, 0, none⟩ = some (.int .u64 a)) (h1 : w.cell? ⟨h, 1, none⟩ = some (.int .u64 b))
    (hm : meetsB (low, high) (a, b) = true) :
    Calls Try.prog 68 #[.slice (some ⟨h, 0, none⟩) 2 2, meetsV low high] w fun e w' => e = .returned (.int .i64 (0)) ∧ Below w.heap.size w w' := by
  have C := Lib.hid (fun w => meets_any low high a b w)
  rw [hm] at C
  clear hm
  go_enter Try.func68, Try.ntmps68
  go_wp2
  refine wp_loop_rounds 3 ?_
  rw [rounds_succ]
  go_wp2_with (go_at_call 65; ((with_reducible refine (C.out _).mono ?_); rintro e w1 ⟨rfl, hb1⟩; have B1 := Lib.hid hb1; clear hb1))
  go_ret
  exact ⟨rfl, B1.out⟩
set_option maxRecDepth 100000 in
set_option maxHeartbeats 1000000 in
theorem IndexFunc_two_false_true (h a b c d low high : Nat) (w : World) (hh : h < w.heap.size) (h0 : w.cell? ⟨h, 0, none⟩ = some (.int .u64 a)) (h1 : w.cell? ⟨h, 1, none⟩ = some (.int .u64 b)) (h2 : w.cell? ⟨h, 2, none⟩ = some (.int .u64 c)) (h3 : w.cell? ⟨h, 3, none⟩ = some (.int .u64 d))
    (hm : meetsB (low, high) (a, b) = false) (hn : meetsB (low, high) (c, d) = true) :
    Calls Try.prog 68 #[.slice (some ⟨h, 0, none⟩) 2 2, meetsV low high] w fun e w' => e = .returned (.int .i64 (1)) ∧ Below w.heap.size w w' := by
  have C := Lib.hid (fun w => meets_any low high a b w)
  rw [hm] at C
  clear hm
  have D := Lib.hid (fun w => meets_any low high c d w)
  rw [hn] at D
  clear hn
  have H2 := Lib.hid h2
  have H3 := Lib.hid h3
  go_enter Try.func68, Try.ntmps68
  go_wp2
  refine wp_loop_rounds 3 ?_
  rw [rounds_succ]
  go_wp2_with (go_at_call 65; ((with_reducible refine (C.out _).mono ?_); rintro e w1 ⟨rfl, hb1⟩; have B1 := Lib.hid hb1; clear hb1))
  have g2 : w1.cell? ⟨h, 2, none⟩ = some (.int .u64 c) := (B1.out.cell (p := ⟨h, 2, none⟩) hh).trans H2.out
  have g3 : w1.cell? ⟨h, 3, none⟩ = some (.int .u64 d) := (B1.out.cell (p := ⟨h, 3, none⟩) hh).trans H3.out
  rw [rounds_succ]
  go_wp2_with (go_at_call 65; ((with_reducible refine (D.out _).mono ?_); rintro e w2 ⟨rfl, hb2⟩; have B2 := Lib.hid hb2; clear hb2))
  go_ret
  exact ⟨rfl, B1.out.trans (B2.out.mono B1.out.size)⟩
set_option maxRecDepth 100000 in
set_option maxHeartbeats 1000000 in
theorem IndexFunc_two_false_false (h a b c d low high : Nat) (w : World) (hh : h < w.heap.size) (h0 : w.cell? ⟨h, 0, none⟩ = some (.int .u64 a)) (h1 : w.cell? ⟨h, 1, none⟩ = some (.int .u64 b)) (h2 : w.cell? ⟨h, 2, none⟩ = some (.int .u64 c)) (h3 : w.cell? ⟨h, 3, none⟩ = some (.int .u64 d))
    (hm : meetsB (low, high) (a, b) = false) (hn : meetsB (low, high) (c, d) = false) :
    Calls Try.prog 68 #[.slice (some ⟨h, 0, none⟩) 2 2, meetsV low high] w fun e w' => e = .returned (.int .i64 (-1)) ∧ Below w.heap.size w w' := by
  have C := Lib.hid (fun w => meets_any low high a b w)
  rw [hm] at C
  clear hm
  have D := Lib.hid (fun w => meets_any low high c d w)
  rw [hn] at D
  clear hn
  have H2 := Lib.hid h2
  have H3 := Lib.hid h3
  go_enter Try.func68, Try.ntmps68
  go_wp2
  refine wp_loop_rounds 3 ?_
  rw [rounds_succ]
  go_wp2_with (go_at_call 65; ((with_reducible refine (C.out _).mono ?_); rintro e w1 ⟨rfl, hb1⟩; have B1 := Lib.hid hb1; clear hb1))
  have g2 : w1.cell? ⟨h, 2, none⟩ = some (.int .u64 c) := (B1.out.cell (p := ⟨h, 2, none⟩) hh).trans H2.out
  have g3 : w1.cell? ⟨h, 3, none⟩ = some (.int .u64 d) := (B1.out.cell (p := ⟨h, 3, none⟩) hh).trans H3.out
  rw [rounds_succ]
  go_wp2_with (go_at_call 65; ((with_reducible refine (D.out _).mono ?_); rintro e w2 ⟨rfl, hb2⟩; have B2 := Lib.hid hb2; clear hb2))
  rw [rounds_succ]
  go_wp2
  go_ret
  exact ⟨rfl, B1.out.trans (B2.out.mono B1.out.size)⟩
set_option maxRecDepth 100000 in
set_option maxHeartbeats 1000000 in
theorem Contains_of (sp : Value) (i : Int) (low high : Nat) (w : World) (hi : decide (0 ≤ i) = true)
    (C : Calls Try.prog 68 #[sp, meetsV low high] w fun e w' => e = .returned (.int .i64 i) ∧ Below w.heap.size w w') :
    Calls Try.prog 64 #[sp, meetsV low high] w fun e w' => e = .returned (.bool true) ∧ Below w.heap.size w w' := by
  have H := Lib.hid C
  clear C
  go_enter Try.func64, Try.ntmps64
  go_wp2_with (go_at_call 68; ((with_reducible refine (H.out).mono ?_); rintro e w1 ⟨rfl, hb1⟩))
  go_ret
  exact ⟨rfl, hb1⟩
set_option maxRecDepth 100000 in
set_option maxHeartbeats 1000000 in
theorem Contains_no (sp : Value) (i : Int) (low high : Nat) (w : World) (hi : decide (0 ≤ i) = false)
    (C : Calls Try.prog 68 #[sp, meetsV low high] w fun e w' => e = .returned (.int .i64 i) ∧ Below w.heap.size w w') :
    Calls Try.prog 64 #[sp, meetsV low high] w fun e w' => e = .returned (.bool false) ∧ Below w.heap.size w w' := by
  have H := Lib.hid C
  clear C
  go_enter Try.func64, Try.ntmps64
  go_wp2_with (go_at_call 68; ((with_reducible refine (H.out).mono ?_); rintro e w1 ⟨rfl, hb1⟩))
  go_ret
  exact ⟨rfl, hb1⟩
theorem Contains_one (h a b low high : Nat) (w : World) (h0 : w.cell? ⟨h, 0, none⟩ = some (.int .u64 a)) (h1 : w.cell? ⟨h, 1, none⟩ = some (.int .u64 b)) :
    Calls Try.prog 64 #[.slice (some ⟨h, 0, none⟩) 1 1, meetsV low high] w fun e w' => e = .returned (.bool (meetsB (low, high) (a, b))) ∧ Below w.heap.size w w' := by
  cases hm : meetsB (low, high) (a, b)
  · exact Contains_no _ _ _ _ _ (by decide) (IndexFunc_one_false h a b low high w h0 h1 hm)
  · exact Contains_of _ _ _ _ _ (by decide) (IndexFunc_one_true h a b low high w h0 h1 hm)
theorem Contains_two (h a b c d low high : Nat) (w : World) (hh : h < w.heap.size) (h0 : w.cell? ⟨h, 0, none⟩ = some (.int .u64 a)) (h1 : w.cell? ⟨h, 1, none⟩ = some (.int .u64 b)) (h2 : w.cell? ⟨h, 2, none⟩ = some (.int .u64 c)) (h3 : w.cell? ⟨h, 3, none⟩ = some (.int .u64 d)) :
    Calls Try.prog 64 #[.slice (some ⟨h, 0, none⟩) 2 2, meetsV low high] w fun e w' => e = .returned (.bool (meetsB (low, high) (a, b) || meetsB (low, high) (c, d))) ∧ Below w.heap.size w w' := by
  cases hm : meetsB (low, high) (a, b)
  · cases hn : meetsB (low, high) (c, d)
    · exact Contains_no _ _ _ _ _ (by decide) (IndexFunc_two_false_false h a b c d low high w hh h0 h1 h2 h3 hm hn)
    · exact Contains_of _ _ _ _ _ (by decide) (IndexFunc_two_false_true h a b c d low high w hh h0 h1 h2 h3 hm hn)
  · exact Contains_of _ _ _ _ _ (by decide) (IndexFunc_two_true h a b low high w h0 h1 hm)
end Go.Proofs.Ytokgpifelinonaa
