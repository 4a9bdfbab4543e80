/- The document's own products, quotients, rests; num.Neg. -/
import Derived.Test.YtacedomhnnigjaaGreatDoorR1
namespace Go.Proofs.YtacedomhnnigjaaGreatDoor
open Go.RowKit
theorem hs2t (a b s : Int) (hs : (a.natAbs : Int) / b.natAbs = s) (hb2 : b ≠ -1) : a = -9223372036854775808 → b < 0 → s ≤ 9223372036854775807 := by
    intro h1 h2
    have h3 : 2 ≤ (b.natAbs : Int) := by omega
    have h4 : (a.natAbs : Int) = 9223372036854775808 := by omega
    rw [h4] at hs
    rw [← hs]
    have h5 : (9223372036854775808 : Int) / b.natAbs < 9223372036854775808 := Int.ediv_lt_of_lt_mul (by omega) (by omega)
    omega
set_option maxHeartbeats 1000000 in
theorem RDiv_zero (a : Int) (w : World) :
    Calls Tryz.prog 28 #[.int .i64 a, .int .i64 0] w fun e w' => e = .returned (.tuple #[.int .i64 0, .int .i64 1]) ∧ w = w' := by
  go_enter Tryz.func28, Tryz.ntmps28
  go_wp2
  go_ret2
  exact ⟨rfl, rfl⟩
set_option maxHeartbeats 1000000 in
theorem RMod_zero (a : Int) (w : World) :
    Calls Tryz.prog 30 #[.int .i64 a, .int .i64 0] w fun e w' => e = .returned (.tuple #[.int .i64 0, .int .i64 1]) ∧ w = w' := by
  go_enter Tryz.func30, Tryz.ntmps30
  go_wp2
  go_ret2
  exact ⟨rfl, rfl⟩
set_option maxHeartbeats 1000000 in
theorem RDiv_over (w : World) :
    Calls Tryz.prog 28 #[.int .i64 (-9223372036854775808), .int .i64 (-1)] w fun e w' => e = .returned (.tuple #[.int .i64 0, .int .i64 36]) ∧ w = w' := by
  go_enter Tryz.func28, Tryz.ntmps28
  go_wp2
  go_ret2
  exact ⟨rfl, rfl⟩
theorem tdiv_small (a b : Int) (ha : fits a) (h0 : b ≠ 0) (h : ¬ (a = -9223372036854775808 ∧ b = -1)) : fits (a.tdiv b) := by
  obtain ⟨h1, h2, h3, h4, h5⟩ := rest_facts a b ha h0
  have hq := tdiv_of a b _ rfl
  have hs0 : 0 ≤ (a.natAbs : Int) / b.natAbs := Int.ediv_nonneg (by omega) (by omega)
  have hsa : (a.natAbs : Int) / b.natAbs ≤ a.natAbs := Int.ediv_le_self _ (by omega)
  obtain ⟨ha1, ha2⟩ := ha
  have hs2 := hs2t a b _ rfl
  unfold fits
  by_cases p : a = -9223372036854775808
  · by_cases q : b < 0
    · have hb1 : b ≠ -1 := fun e => h ⟨p, e⟩
      have := hs2 hb1 p q
      rw [hq, decide_eq_true (by omega : a < 0), decide_eq_true q, if_neg (by decide)]
      omega
    · rw [hq]; split
      · omega
      · rename_i hh
        rw [decide_eq_true (by omega : a < 0), decide_eq_false q] at hh
        exact absurd rfl hh
  · rw [hq]; split <;> omega
set_option maxHeartbeats 1000000 in
theorem RDiv_ok (a b : Int) (w : World) (ha : fits a) (_hb : fits b) (h0 : b ≠ 0) (h : ¬ (a = -9223372036854775808 ∧ b = -1)) :
    Calls Tryz.prog 28 #[.int .i64 a, .int .i64 b] w fun e w' => e = .returned (.tuple #[.int .i64 (a.tdiv b), .int .i64 0]) ∧ w = w' := by
  obtain ⟨hq1, hq2⟩ := tdiv_small a b ha h0 h
  have hw : wrap64 (a.tdiv b) = a.tdiv b := by simp only [wrap64]; omega
  have hz : (b == 0) = false := by simp [h0]
  by_cases p : a = -9223372036854775808
  · have ha' : (a == -9223372036854775808) = true := by simp [p]
    have hb' : (b == -1) = false := by simp; exact fun e => h ⟨p, e⟩
    clear h p
    go_enter Tryz.func28, Tryz.ntmps28
    go_wp2

    go_ret2
    exact ⟨rfl, rfl⟩
  · have ha' : (a == -9223372036854775808) = false := by simp [p]
    clear h p
    go_enter Tryz.func28, Tryz.ntmps28
    go_wp2

    go_ret2
    exact ⟨rfl, rfl⟩
set_option maxHeartbeats 1000000 in
theorem RMod_ok (a b : Int) (w : World) (ha : fits a) (_hb : fits b) (h0 : b ≠ 0) :
    Calls Tryz.prog 30 #[.int .i64 a, .int .i64 b] w fun e w' => e = .returned (.tuple #[.int .i64 (a.tmod b), .int .i64 0]) ∧ w = w' := by
  have hz : (b == 0) = false := by simp [h0]
  by_cases p : b = -1
  · subst p
    have e : a.tmod (-1) = 0 := by have := rest_facts a (-1) ha (by omega); omega
    rw [e]
    go_enter Tryz.func30, Tryz.ntmps30
    go_wp2
    go_ret2
    exact ⟨rfl, rfl⟩
  · obtain ⟨hq1, hq2⟩ := tdiv_small a b ha h0 (fun k => p k.2)
    have hw : wrap64 (a.tdiv b) = a.tdiv b := by simp only [wrap64]; omega
    obtain ⟨h1, h2, h3, h4, h5⟩ := rest_facts a b ha h0
    obtain ⟨ha1, ha2⟩ := ha
    have hb1 : (b == -1) = false := by simp [p]
    have HF : Hid (wrap64 (a - wrap64 (a.tdiv b * b)) = a.tmod b) := by
      show wrap64 (a - wrap64 (a.tdiv b * b)) = a.tmod b
      have e : a.tdiv b * b = a - a.tmod b := by omega
      rw [e]
      simp only [wrap64]
      omega
    have HG : Hid (a - wrap64 (a.tdiv b * b) = a.tmod b) := by
      show a - wrap64 (a.tdiv b * b) = a.tmod b
      have e : a.tdiv b * b = a - a.tmod b := by omega
      rw [e]
      simp only [wrap64]
      omega
    clear h1 h2 h3 h4 h5 p
    go_enter Tryz.func30, Tryz.ntmps30
    go_wp2
    go_ret2
    exact ⟨tup2 (by first | exact HF.out | exact HG.out) rfl, rfl⟩
theorem wrap_quot (a b : Int) (_ha : fits a) (hb : fits b) (hb0 : b ≠ 0) (h : ¬ fits (a * b)) : (wrap64 (a * b)).tdiv b ≠ a := by
  intro e
  have hf : fits (wrap64 (a * b)) := by unfold fits wrap64; omega
  obtain ⟨h1, h2, h3, h4, h5⟩ := rest_facts (wrap64 (a * b)) b hf hb0
  rw [e] at h1
  obtain ⟨hb1, hb2⟩ := hb
  unfold fits at h
  generalize a * b = z at *
  unfold wrap64 at h1 h4
  omega
set_option maxHeartbeats 1000000 in
theorem RMul_zero (a b : Int) (w : World) (h : a = 0 ∨ b = 0) :
    Calls Tryz.prog 26 #[.int .i64 a, .int .i64 b] w fun e w' => e = .returned (.tuple #[.int .i64 0, .int .i64 0]) ∧ w = w' := by
  by_cases p : a = 0
  · subst p
    go_enter Tryz.func26, Tryz.ntmps26
    go_wp2
    go_ret2
    exact ⟨rfl, rfl⟩
  · obtain rfl : b = 0 := by omega
    have ha : (a == 0) = false := by simp [p]
    clear h p
    go_enter Tryz.func26, Tryz.ntmps26
    go_wp2
    go_ret2
    exact ⟨rfl, rfl⟩
set_option maxHeartbeats 1000000 in
theorem RMul_min1 (w : World) :
    Calls Tryz.prog 26 #[.int .i64 (-9223372036854775808), .int .i64 (-1)] w fun e w' => e = .returned (.tuple #[.int .i64 0, .int .i64 36]) ∧ w = w' := by
  go_enter Tryz.func26, Tryz.ntmps26
  go_wp2
  go_ret2
  exact ⟨rfl, rfl⟩
set_option maxHeartbeats 1000000 in
theorem RMul_min2 (w : World) :
    Calls Tryz.prog 26 #[.int .i64 (-1), .int .i64 (-9223372036854775808)] w fun e w' => e = .returned (.tuple #[.int .i64 0, .int .i64 36]) ∧ w = w' := by
  go_enter Tryz.func26, Tryz.ntmps26
  go_wp2
  go_ret2
  exact ⟨rfl, rfl⟩
/-- Neither is 0, and it is not the least number by -1. -/
theorem RMul_rest (a b c : Int) (hc : wrap64 (a * b) = c) (q : Int) (hq : wrap64 (c.tdiv b) = q) (ha0 : a ≠ 0) (hb0 : b ≠ 0) (hm1 : ¬ (a = -9223372036854775808 ∧ b = -1)) (hm2 : ¬ (b = -9223372036854775808 ∧ a = -1)) (w : World) :
    Calls Tryz.prog 26 #[.int .i64 a, .int .i64 b] w fun e w' => e = .returned (.tuple #[.int .i64 (if q = a then c else 0), .int .i64 (if q = a then 0 else 36)]) ∧ w = w' := by
  have h1 : (a == 0) = false := by simp [ha0]
  have h2 : (b == 0) = false := by simp [hb0]
  have hE : ∀ r : Value, True := fun _ => trivial
  clear hE
  by_cases e : q = a
  · have hqa : (q == a) = true := by simp [e]
    have hqn : (q != a) = false := by simp [e]
    rw [if_pos e, if_pos e]
    clear e
    by_cases p : a = -9223372036854775808 <;> by_cases p' : b = -9223372036854775808
    all_goals
      first
        | (have k1 : (a == -9223372036854775808) = true := by simp [p])
        | (have k1 : (a == -9223372036854775808) = false := by simp [p])
      first
        | (have k2 : (b == -9223372036854775808) = true := by simp [p'])
        | (have k2 : (b == -9223372036854775808) = false := by simp [p'])
      first
        | (have k3 : (b == -1) = false := by simp; intro k; exact hm1 ⟨p, k⟩)
        | (have k3 : True := trivial)
      first
        | (have k4 : (a == -1) = false := by simp; intro k; exact hm2 ⟨p', k⟩)
        | (have k4 : True := trivial)
      clear hm1 hm2 p p' ha0
      go_enter Tryz.func26, Tryz.ntmps26
      go_wp2
      go_ret2
      exact ⟨tup2 hc rfl, rfl⟩
  · have hqn : (q != a) = true := by simp [e]
    rw [if_neg e, if_neg e]
    clear e
    by_cases p : a = -9223372036854775808 <;> by_cases p' : b = -9223372036854775808
    all_goals
      first
        | (have k1 : (a == -9223372036854775808) = true := by simp [p])
        | (have k1 : (a == -9223372036854775808) = false := by simp [p])
      first
        | (have k2 : (b == -9223372036854775808) = true := by simp [p'])
        | (have k2 : (b == -9223372036854775808) = false := by simp [p'])
      first
        | (have k3 : (b == -1) = false := by simp; intro k; exact hm1 ⟨p, k⟩)
        | (have k3 : True := trivial)
      first
        | (have k4 : (a == -1) = false := by simp; intro k; exact hm2 ⟨p', k⟩)
        | (have k4 : True := trivial)
      clear hm1 hm2 p p' ha0
      go_enter Tryz.func26, Tryz.ntmps26
      go_wp2
      go_ret2
      exact ⟨rfl, rfl⟩

theorem RMul_told (a b : Int) (ha : fits a) (hb : fits b) : ∃ s e : Int, Told (a * b) s e ∧ ∀ w, Calls Tryz.prog 26 #[.int .i64 a, .int .i64 b] w fun x w' => x = .returned (.tuple #[.int .i64 s, .int .i64 e]) ∧ w = w' := by
  by_cases h0 : a = 0 ∨ b = 0
  · have e : a * b = 0 := by rcases h0 with rfl | rfl <;> simp
    rw [e]
    exact ⟨0, 0, told_ok (by unfold fits; omega), fun w => RMul_zero a b w h0⟩
  have ha0 : a ≠ 0 := fun k => h0 (.inl k)
  have hb0 : b ≠ 0 := fun k => h0 (.inr k)
  by_cases h1 : a = -9223372036854775808 ∧ b = -1
  · obtain ⟨rfl, rfl⟩ := h1
    exact ⟨0, 36, told_over (by unfold fits; omega), RMul_min1⟩
  by_cases h2 : b = -9223372036854775808 ∧ a = -1
  · obtain ⟨rfl, rfl⟩ := h2
    exact ⟨0, 36, told_over (by unfold fits; omega), RMul_min2⟩
  by_cases h : fits (a * b)
  · have hw : wrap64 (a * b) = a * b := by unfold fits at h; simp only [wrap64]; omega
    have hd : (a * b).tdiv b = a := Int.mul_tdiv_cancel _ hb0
    have hw2 : wrap64 a = a := by unfold fits at ha; simp only [wrap64]; omega
    refine ⟨_, _, told_ok h, fun w => ?_⟩
    have k := RMul_rest a b (a * b) hw a (by rw [hd, hw2]) ha0 hb0 h1 h2 w
    rwa [if_pos rfl, if_pos rfl] at k
  · have hn := wrap_quot a b ha hb hb0 h
    have hq : fits ((wrap64 (a * b)).tdiv b) ∨ (wrap64 (a * b) = -9223372036854775808 ∧ b = -1) := by
      by_cases p : wrap64 (a * b) = -9223372036854775808 ∧ b = -1
      · exact .inr p
      · exact .inl (tdiv_small _ b (by unfold fits wrap64; omega) hb0 p)
    refine ⟨0, 36, told_over h, fun w => ?_⟩
    have k := RMul_rest a b _ rfl _ rfl ha0 hb0 h1 h2 w
    have hne : wrap64 ((wrap64 (a * b)).tdiv b) ≠ a := by
      rcases hq with hq | ⟨p, rfl⟩
      · rw [show wrap64 ((wrap64 (a * b)).tdiv b) = (wrap64 (a * b)).tdiv b by unfold fits at hq; generalize (wrap64 (a * b)).tdiv b = x at *; simp only [wrap64]; omega]
        exact hn
      · exfalso
        apply h
        unfold fits at *
        unfold wrap64 at p
        omega
    rwa [if_neg hne, if_neg hne] at k
end Go.Proofs.YtacedomhnnigjaaGreatDoor
