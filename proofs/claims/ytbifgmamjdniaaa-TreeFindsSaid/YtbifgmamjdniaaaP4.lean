/- Comparing periods; a period out of two numbers; relations' numbers and converses. -/
import Derived.Test.YtbifgmamjdniaaaP3
namespace Go.Proofs.Ytbifgmamjdniaaa
open Go.RowKit
def cmpI (a b : Int) : Int := if a < b then -1 else if b < a then 1 else 0
set_option maxHeartbeats 1000000 in
theorem cmpU_any (a b : Int) (w : World) :
    Calls Try.prog 46 #[.int .u64 a, .int .u64 b] w fun e w' => e = .returned (.int .i64 (cmpI a b)) ∧ w = w' := by
  have hnn : ∀ z : Int, (z != z) = false := fun z => by simp
  rcases Int.lt_trichotomy (a : Int) (b : Int) with h | h | h
  · have t1 : decide (a < b) = true := by simp; omega
    have HE := Lib.hid (show cmpI a b = -1 from if_pos h)
    clear h
    go_enter Try.func46, Try.ntmps46
    go_wp2
    go_ret
    exact ⟨by rw [HE.out]; rfl, rfl⟩
  · have t1 : decide (a < b) = false := by simp; omega
    have t2 : decide (b < a) = false := by simp; omega
    have HE := Lib.hid (show cmpI a b = 0 from (if_neg (by omega)).trans (if_neg (by omega)))
    clear h
    go_enter Try.func46, Try.ntmps46
    go_wp2
    go_ret
    exact ⟨by rw [HE.out]; rfl, rfl⟩
  · have t1 : decide (a < b) = false := by simp; omega
    have t2 : decide (b < a) = true := by simp; omega
    have HE := Lib.hid (show cmpI a b = 1 from (if_neg (by omega)).trans (if_pos h))
    clear h
    go_enter Try.func46, Try.ntmps46
    go_wp2
    go_ret
    exact ⟨by rw [HE.out]; rfl, rfl⟩
/-- The first that is not nought. -/
def orI (x y : Int) : Int := if x = 0 then y else x
set_option maxRecDepth 100000 in
set_option maxHeartbeats 1000000 in
theorem Or_two (x y : Int) (g : Nat) (w : World) (h0 : w.cell? ⟨g, 0, none⟩ = some (.int .i64 x)) (h1 : w.cell? ⟨g, 1, none⟩ = some (.int .i64 y)) :
    Calls Try.prog 45 #[.slice (some ⟨g, 0, none⟩) 2 2] w fun e w' => e = .returned (.int .i64 (orI x y)) ∧ w = w' := by
  by_cases hx : x = 0
  · subst hx
    rw [show orI 0 y = y from if_pos rfl]
    by_cases hy : y = 0
    · subst hy
      go_enter Try.func45, Try.ntmps45
      go_wp2
      go_rounds 3
      go_ret
      exact ⟨rfl, rfl⟩
    · have hy' : (y != 0) = true := by simpa using hy
      clear hy
      go_enter Try.func45, Try.ntmps45
      go_wp2
      go_rounds 2
      go_ret
      exact ⟨rfl, rfl⟩
  · rw [show orI x y = x from if_neg hx]
    have hx' : (x != 0) = true := by simpa using hx
    clear hx
    go_enter Try.func45, Try.ntmps45
    go_wp2
    go_rounds 1
    go_ret
    exact ⟨rfl, rfl⟩
/-- Compare. -/
def cmpP (a b c d : Int) : Int := orI (cmpI a c) (cmpI b d)
set_option maxRecDepth 100000 in
set_option maxHeartbeats 1000000 in
theorem Compare_any (a b c d : Int) (w : World) :
    Calls Try.prog 26 #[.agg #[.int .u64 a, .int .u64 b], .agg #[.int .u64 c, .int .u64 d]] w fun e w' => e = .returned (.int .i64 (cmpP a b c d)) ∧ Below w.heap.size w w' := by
  have h1 := cmpU_any a c
  have h2 := cmpU_any b d
  unfold cmpP
  generalize cmpI a c = x at *
  generalize cmpI b d = y at *
  have H1 := Lib.hid h1
  have H2 := Lib.hid h2
  clear h1 h2
  have H3 := Lib.hid (Or_two x y)
  generalize orI x y = z at *
  obtain ⟨W, hW⟩ : ∃ W, (w.alloc (.cells #[.int .u64 a, .int .u64 b] 32)).alloc (.cells #[.int .u64 c, .int .u64 d] 32) = W := ⟨_, rfl⟩
  have b0 : Box W w.heap.size a b := by rw [← hW]; exact Box.alloc (box_at _ a b _ _ rfl) _
  have b1 : Box W (w.heap.size + 1) c d := by rw [← hW]; exact box_at _ c d _ _ (by simp)
  have K0 := Lib.hid (fun w' (hb : Below W.heap.size W w') => (⟨hb, (b0.below hb).c0, (b0.below hb).c1, (b1.below hb).c0, (b1.below hb).c1⟩ : Below W.heap.size W w' ∧ w'.cell? ⟨w.heap.size, 0, none⟩ = some (.int .u64 a) ∧ w'.cell? ⟨w.heap.size, 1, none⟩ = some (.int .u64 b) ∧ w'.cell? ⟨w.heap.size + 1, 0, none⟩ = some (.int .u64 c) ∧ w'.cell? ⟨w.heap.size + 1, 1, none⟩ = some (.int .u64 d)))
  have HB := Lib.hid (show Below w.heap.size w W by rw [← hW]; exact ((Below.refl _ _).alloc (Nat.le_refl _) _).alloc (by simp) _)
  clear b0 b1
  go_enter Try.func26, Try.ntmps26
  go_upto_region 1 with fail
  try rw [hW]
  clear hW
  go_region_held3 (fun w' => Below W.heap.size W w' ∧ w'.cell? ⟨w.heap.size, 0, none⟩ = some (.int .u64 a) ∧ w'.cell? ⟨w.heap.size, 1, none⟩ = some (.int .u64 b) ∧ w'.cell? ⟨w.heap.size + 1, 0, none⟩ = some (.int .u64 c) ∧ w'.cell? ⟨w.heap.size + 1, 1, none⟩ = some (.int .u64 d)) (first | exact K0.out _ (Below.refl _ _).drew | exact K0.out _ ((Below.refl _ _).alloc (Nat.le_refl _) _).drew | fail) (first
    | (go_at_call 46; (first
      | ((with_reducible refine (H1.out _).mono ?_); rintro e w1 ⟨rfl, rfl⟩)
      | ((with_reducible refine (H2.out _).mono ?_); rintro e w1 ⟨rfl, rfl⟩)
      | fail))
    | (go_at_call 45; ((with_reducible refine (H3.out _ _ ?_ ?_).mono ?_); go_simp; go_simp; rintro e w1 ⟨rfl, rfl⟩))
    | fail)
  all_goals (go_wp2; go_ret; exact ⟨rfl, HB.out.trans (((Below.refl _ _).alloc (Nat.le_refl _) _).drew.mono HB.out.size)⟩)
set_option maxRecDepth 100000 in
set_option maxHeartbeats 1000000 in
theorem refCompare_any (a b c d : Int) (w : World) :
    Calls Try.prog 49 #[.agg #[.int .u64 a, .int .u64 b], .agg #[.int .u64 c, .int .u64 d]] w fun e w' => e = .returned (.int .i64 (cmpP a b c d)) ∧ Below w.heap.size w w' := by
  rcases Int.lt_trichotomy a c with h | h | h
  · have hv : cmpP a b c d = -1 := by simp [cmpP, orI, cmpI, h]
    rw [hv]
    clear hv
    have t1 : decide (a < c) = true := by simpa using h
    clear h
    go_enter Try.func49, Try.ntmps49
    go_wp2
    go_ret
    exact ⟨rfl, ((Below.refl _ _).alloc (Nat.le_refl _) _).alloc (by simp) _⟩
  · subst h
    have t1 : decide (a < a) = false := by simp
    have t2 : (a == a) = true := by simp
    rcases Int.lt_trichotomy b d with h | h | h
    · have hv : cmpP a b a d = -1 := by simp [cmpP, orI, cmpI, h]
      rw [hv]
      clear hv
      have t3 : decide (b < d) = true := by simpa using h
      clear h
      go_enter Try.func49, Try.ntmps49
      go_wp2
      go_ret
      exact ⟨rfl, ((Below.refl _ _).alloc (Nat.le_refl _) _).alloc (by simp) _⟩
    · subst h
      have hv : cmpP a b a b = 0 := by simp [cmpP, orI, cmpI]
      rw [hv]
      clear hv
      have t3 : decide (b < b) = false := by simp
      have t4 : (b == b) = true := by simp
      go_enter Try.func49, Try.ntmps49
      go_wp2
      go_ret
      exact ⟨rfl, ((Below.refl _ _).alloc (Nat.le_refl _) _).alloc (by simp) _⟩
    · have hv : cmpP a b a d = 1 := by
        have h2 : ¬ b < d := by omega
        simp [cmpP, orI, cmpI, h, h2]
      rw [hv]
      clear hv
      have t3 : decide (b < d) = false := by simp; omega
      have t4 : (b == d) = false := by simp; omega
      clear h
      go_enter Try.func49, Try.ntmps49
      go_wp2
      go_ret
      exact ⟨rfl, ((Below.refl _ _).alloc (Nat.le_refl _) _).alloc (by simp) _⟩
  · have hv : cmpP a b c d = 1 := by
      have h2 : ¬ a < c := by omega
      simp [cmpP, orI, cmpI, h, h2]
    rw [hv]
    clear hv
    have t1 : decide (a < c) = false := by simp; omega
    have t2 : (a == c) = false := by simp; omega
    clear h
    go_enter Try.func49, Try.ntmps49
    go_wp2
    go_ret
    exact ⟨rfl, ((Below.refl _ _).alloc (Nat.le_refl _) _).alloc (by simp) _⟩
/-- Is this the number of a relation? -/
def knownB (r : Int) : Bool := decide (1 ≤ r) && decide (r ≤ 13)
end Go.Proofs.Ytbifgmamjdniaaa
