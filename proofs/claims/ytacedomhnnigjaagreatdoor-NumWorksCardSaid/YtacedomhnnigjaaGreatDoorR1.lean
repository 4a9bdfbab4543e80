/- The document's own answers for whole numbers (almanacref01), and num.Neg: what each returns. -/
import Derived.Test.YtacedomhnnigjaaGreatDoorC3
namespace Go.Proofs.YtacedomhnnigjaaGreatDoor
open Go.RowKit
/-- An operation tells the number z: itself and OK, or nothing and ErrOverflow. -/
theorem told_ok {z : Int} (h : fits z) : Told z z 0 := .inl ⟨(fitB_iff _).2 h, rfl, rfl⟩
theorem told_over {z : Int} (h : ¬ fits z) : Told z 0 36 := .inr ⟨by rw [Bool.eq_false_iff]; exact fun k => h ((fitB_iff _).1 k), rfl, rfl⟩
theorem told_one {z s e s' e' : Int} (h : Told z s e) (h' : Told z s' e') : s = s' ∧ e = e' := by
  rcases h with ⟨h1, h2, h3⟩ | ⟨h1, h2, h3⟩ <;> rcases h' with ⟨k1, k2, k3⟩ | ⟨k1, k2, k3⟩
  · exact ⟨by omega, by omega⟩
  · rw [h1] at k1; cases k1
  · rw [h1] at k1; cases k1
  · exact ⟨by omega, by omega⟩

set_option maxHeartbeats 1000000 in
theorem RAdd_ok (a b : Int) (w : World) (ha : fits a) (hb : fits b) (h : fits (a + b)) :
    Calls Tryz.prog 22 #[.int .i64 a, .int .i64 b] w fun e w' => e = .returned (.tuple #[.int .i64 (a + b), .int .i64 0]) ∧ w = w' := by
  obtain ⟨ha1, ha2⟩ := ha
  obtain ⟨hb1, hb2⟩ := hb
  obtain ⟨h1, h2⟩ := h
  rcases Int.lt_trichotomy b 0 with p | p | p
  · have t1 : decide (0 < b) = false := by simp; omega
    have t2 : decide (b < 0) = true := by simp; omega
    have t3 : decide (a < -9223372036854775808 - b) = false := by simp; omega
    go_enter Tryz.func22, Tryz.ntmps22
    go_wp2
    go_ret2
    exact ⟨rfl, rfl⟩
  · subst p
    go_enter Tryz.func22, Tryz.ntmps22
    go_wp2
    go_ret2
    exact ⟨tup2 (by omega) rfl, rfl⟩
  · have t1 : decide (0 < b) = true := by simp; omega
    have t2 : decide (b < 0) = false := by simp; omega
    have t3 : decide (9223372036854775807 - b < a) = false := by simp; omega
    go_enter Tryz.func22, Tryz.ntmps22
    go_wp2
    go_ret2
    exact ⟨rfl, rfl⟩
set_option maxHeartbeats 1000000 in
theorem RAdd_over (a b : Int) (w : World) (ha : fits a) (hb : fits b) (h : ¬ fits (a + b)) :
    Calls Tryz.prog 22 #[.int .i64 a, .int .i64 b] w fun e w' => e = .returned (.tuple #[.int .i64 0, .int .i64 36]) ∧ w = w' := by
  obtain ⟨ha1, ha2⟩ := ha
  obtain ⟨hb1, hb2⟩ := hb
  unfold fits at h
  rcases Int.lt_trichotomy b 0 with p | p | p
  · have t1 : decide (0 < b) = false := by simp; omega
    have t2 : decide (b < 0) = true := by simp; omega
    have t3 : decide (a < -9223372036854775808 - b) = true := by simp; omega
    clear h
    go_enter Tryz.func22, Tryz.ntmps22
    go_wp2
    go_ret2
    exact ⟨rfl, rfl⟩
  · omega
  · have t1 : decide (0 < b) = true := by simp; omega
    have t2 : decide (b < 0) = false := by simp; omega
    have t3 : decide (9223372036854775807 - b < a) = true := by simp; omega
    clear h
    go_enter Tryz.func22, Tryz.ntmps22
    go_wp2
    go_ret2
    exact ⟨rfl, rfl⟩
set_option maxHeartbeats 1000000 in
theorem RSub_ok (a b : Int) (w : World) (ha : fits a) (hb : fits b) (h : fits (a - b)) :
    Calls Tryz.prog 24 #[.int .i64 a, .int .i64 b] w fun e w' => e = .returned (.tuple #[.int .i64 (a - b), .int .i64 0]) ∧ w = w' := by
  obtain ⟨ha1, ha2⟩ := ha
  obtain ⟨hb1, hb2⟩ := hb
  obtain ⟨h1, h2⟩ := h
  rcases Int.lt_trichotomy b 0 with p | p | p
  · have t1 : decide (0 < b) = false := by simp; omega
    have t2 : decide (b < 0) = true := by simp; omega
    have t3 : decide (9223372036854775807 + b < a) = false := by simp; omega
    go_enter Tryz.func24, Tryz.ntmps24
    go_wp2
    go_ret2
    exact ⟨rfl, rfl⟩
  · subst p
    go_enter Tryz.func24, Tryz.ntmps24
    go_wp2
    go_ret2
    exact ⟨tup2 (by omega) rfl, rfl⟩
  · have t1 : decide (0 < b) = true := by simp; omega
    have t2 : decide (b < 0) = false := by simp; omega
    have t3 : decide (a < -9223372036854775808 + b) = false := by simp; omega
    go_enter Tryz.func24, Tryz.ntmps24
    go_wp2
    go_ret2
    exact ⟨rfl, rfl⟩
set_option maxHeartbeats 1000000 in
theorem RSub_over (a b : Int) (w : World) (ha : fits a) (hb : fits b) (h : ¬ fits (a - b)) :
    Calls Tryz.prog 24 #[.int .i64 a, .int .i64 b] w fun e w' => e = .returned (.tuple #[.int .i64 0, .int .i64 36]) ∧ w = w' := by
  obtain ⟨ha1, ha2⟩ := ha
  obtain ⟨hb1, hb2⟩ := hb
  unfold fits at h
  rcases Int.lt_trichotomy b 0 with p | p | p
  · have t1 : decide (0 < b) = false := by simp; omega
    have t2 : decide (b < 0) = true := by simp; omega
    have t3 : decide (9223372036854775807 + b < a) = true := by simp; omega
    clear h
    go_enter Tryz.func24, Tryz.ntmps24
    go_wp2
    go_ret2
    exact ⟨rfl, rfl⟩
  · omega
  · have t1 : decide (0 < b) = true := by simp; omega
    have t2 : decide (b < 0) = false := by simp; omega
    have t3 : decide (a < -9223372036854775808 + b) = true := by simp; omega
    clear h
    go_enter Tryz.func24, Tryz.ntmps24
    go_wp2
    go_ret2
    exact ⟨rfl, rfl⟩
end Go.Proofs.YtacedomhnnigjaaGreatDoor
