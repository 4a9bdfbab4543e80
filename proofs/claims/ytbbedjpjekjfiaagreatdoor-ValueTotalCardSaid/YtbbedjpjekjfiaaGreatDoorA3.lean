/- num's integer functions: what each returns, for all integers. -/
import Derived.Test.YtbbedjpjekjfiaaGreatDoorA0
import Derived.Laws.MathBits
namespace Go.Proofs.YtbbedjpjekjfiaaGreatDoor
open Go.RowKit

theorem tup2 {a b c d : Int} {k l : IntKind} (h1 : a = c) (h2 : b = d) : Ending.returned (.tuple #[.int k a, .int l b]) = .returned (.tuple #[.int k c, .int l d]) := by rw [h1, h2]
theorem ret1 {k : IntKind} {a b : Int} (h : a = b) : Ending.returned (.int k a) = .returned (.int k b) := by rw [h]

set_option maxHeartbeats 400000 in
theorem size_neg (n : Int) (w : World) (h0 : -9223372036854775808 ≤ n) (h1 : n < 0) :
    Calls Tryz.prog 72 #[.int .i64 n] w fun e w' => e = .returned (.int .u64 (-n)) ∧ w = w' := by
  go_enter Tryz.func72, Tryz.ntmps72
  go_wp2
  go_ret
  exact ⟨ret1 (by rw [IntKind.wrap_u64, IntKind.wrap_u64]; omega), rfl⟩

set_option maxHeartbeats 400000 in
theorem size_pos (n : Int) (w : World) (h0 : 0 ≤ n) (h1 : n ≤ 9223372036854775807) :
    Calls Tryz.prog 72 #[.int .i64 n] w fun e w' => e = .returned (.int .u64 n) ∧ w = w' := by
  go_enter Tryz.func72, Tryz.ntmps72
  go_wp2
  go_ret
  exact ⟨rfl, rfl⟩

/-- The size of a number, as it is told. -/
theorem size_any (n : Int) (w : World) (h0 : -9223372036854775808 ≤ n) (h1 : n ≤ 9223372036854775807) :
    Calls Tryz.prog 72 #[.int .i64 n] w fun e w' => e = .returned (.int .u64 n.natAbs) ∧ w = w' := by
  by_cases h : n < 0
  · refine (size_neg n w h0 h).mono ?_
    rintro e w' ⟨rfl, rfl⟩
    exact ⟨ret1 (by omega), rfl⟩
  · refine (size_pos n w (by omega) h1).mono ?_
    rintro e w' ⟨rfl, rfl⟩
    exact ⟨ret1 (by omega), rfl⟩

set_option maxHeartbeats 400000 in
theorem sign_over (s m : Int) (p q : Addr) (w : World) (hp : w.cell? p = some (.int .u64 m)) (hs : m < s) :
    Calls Tryz.prog 97 #[.int .u64 s, .pointer (some p), .pointer (some q)] w fun e w' => e = .returned (.tuple #[.int .i64 0, .int .i64 36]) ∧ w = w' := by
  go_enter Tryz.func97, Tryz.ntmps97
  go_wp2
  go_ret2
  exact ⟨rfl, rfl⟩
set_option maxHeartbeats 400000 in
theorem sign_neg (s m : Int) (p q : Addr) (w : World) (hp : w.cell? p = some (.int .u64 m)) (hq : w.cell? q = some (.bool true)) (h0 : 0 ≤ s) (hs : s ≤ m) (hm : m ≤ 9223372036854775808) :
    Calls Tryz.prog 97 #[.int .u64 s, .pointer (some p), .pointer (some q)] w fun e w' => e = .returned (.tuple #[.int .i64 (-s), .int .i64 0]) ∧ w = w' := by
  go_enter Tryz.func97, Tryz.ntmps97
  go_wp2
  go_ret2
  exact ⟨tup2 (by simp only [wrap64, IntKind.wrap_u64]; omega) rfl, rfl⟩
set_option maxHeartbeats 400000 in
theorem sign_pos (s m : Int) (p q : Addr) (w : World) (hp : w.cell? p = some (.int .u64 m)) (hq : w.cell? q = some (.bool false)) (h0 : 0 ≤ s) (hs : s ≤ m) (hm : m ≤ 9223372036854775807) :
    Calls Tryz.prog 97 #[.int .u64 s, .pointer (some p), .pointer (some q)] w fun e w' => e = .returned (.tuple #[.int .i64 s, .int .i64 0]) ∧ w = w' := by
  go_enter Tryz.func97, Tryz.ntmps97
  go_wp2
  go_ret2
  exact ⟨rfl, rfl⟩

/-- How a sum, difference, product, quotient is told: the number and OK, or nothing and ErrOverflow. -/
def fits (z : Int) : Prop := -9223372036854775808 ≤ z ∧ z ≤ 9223372036854775807

set_option maxHeartbeats 1000000 in
theorem Add_ok (a b : Int) (w : World) (ha : fits a) (hb : fits b) (h : fits (a + b)) :
    Calls Tryz.prog 28 #[.int .i64 a, .int .i64 b] w fun e w' => e = .returned (.tuple #[.int .i64 (a + b), .int .i64 0]) ∧ w = w' := by
  obtain ⟨ha1, ha2⟩ := ha
  obtain ⟨hb1, hb2⟩ := hb
  obtain ⟨h1, h2⟩ := h
  by_cases hp : 0 < b
  · have t : decide (a < a + b) = true := by simp; omega
    have t' : decide (0 < b) = true := by simp; omega
    go_enter Tryz.func28, Tryz.ntmps28
    go_wp2

    go_ret2
    exact ⟨rfl, rfl⟩
  · have t : ¬ a < a + b := by omega
    go_enter Tryz.func28, Tryz.ntmps28
    go_wp2

    go_ret2
    exact ⟨rfl, rfl⟩
set_option maxHeartbeats 1000000 in
theorem Add_over (a b : Int) (w : World) (ha : fits a) (hb : fits b) (h : ¬ fits (a + b)) :
    Calls Tryz.prog 28 #[.int .i64 a, .int .i64 b] w fun e w' => e = .returned (.tuple #[.int .i64 0, .int .i64 36]) ∧ w = w' := by
  unfold fits at *
  obtain ⟨ha1, ha2⟩ := ha
  obtain ⟨hb1, hb2⟩ := hb
  by_cases hp : 0 < b
  · have t : ¬ a < wrap64 (a + b) := by simp only [wrap64]; omega
    clear h
    go_enter Tryz.func28, Tryz.ntmps28
    go_wp2


    go_ret2
    exact ⟨rfl, rfl⟩
  · have t : a < wrap64 (a + b) := by simp only [wrap64]; omega
    clear h
    go_enter Tryz.func28, Tryz.ntmps28
    go_wp2


    go_ret2
    exact ⟨rfl, rfl⟩

set_option maxHeartbeats 1000000 in
theorem Mul64_any (x y : Int) (w : World) (hx0 : 0 ≤ x) (hx : x < 18446744073709551616) (hy0 : 0 ≤ y) (hy : y < 18446744073709551616) :
    Calls Tryz.prog 73 #[.int .u64 x, .int .u64 y] w fun e w' => e = .returned (.tuple #[.int .u64 (x * y / 18446744073709551616), .int .u64 (x * y % 18446744073709551616)]) ∧ w = w' := by
  have hm := mul64_arith x y hx0 hx hy0 hy
  have HM := Lib.hid hm
  clear hm
  have hw64 := IntKind.wrap_u64
  have hl := and_low32
  go_enter Tryz.func73, Tryz.ntmps73
  go_wp2
  go_ret2
  refine ⟨tup2 ?_ ?_, rfl⟩
  · rw [← HM.out]
    simp
    rw [hl _ (by omega) (by omega)]
    simp
  · rfl


/-- Two sizes' product, in two words: what the walk needs of it. -/
theorem two_words (a b z : Int) (hz : z = a * b) (h : z.natAbs < 18446744073709551616) : (a.natAbs : Int) * b.natAbs / 18446744073709551616 = 0 ∧ (a.natAbs : Int) * b.natAbs % 18446744073709551616 = z.natAbs := by
  have e : (a.natAbs : Int) * b.natAbs = z.natAbs := by rw [hz, Int.natAbs_mul]; simp
  rw [e]; omega

theorem negw (s : Int) (h0 : 0 ≤ s) (h1 : s ≤ 9223372036854775808) : wrap64 (IntKind.u64.wrap (-s)) = -s := by
  simp only [wrap64, IntKind.wrap_u64]; omega

set_option maxHeartbeats 2000000 in
theorem Mul_ok (a b : Int) (w : World) (ha : fits a) (hb : fits b) (h : fits (a * b)) :
    Calls Tryz.prog 33 #[.int .i64 a, .int .i64 b] w fun e w' => e = .returned (.tuple #[.int .i64 (a * b), .int .i64 0]) ∧ Below w.heap.size w w' := by
  obtain ⟨ha1, ha2⟩ := ha
  obtain ⟨hb1, hb2⟩ := hb
  have hsn : (a < 0 → b < 0 → 0 ≤ a * b) ∧ (a < 0 → 0 ≤ b → a * b ≤ 0) ∧ (0 ≤ a → b < 0 → a * b ≤ 0) ∧ (0 ≤ a → 0 ≤ b → 0 ≤ a * b) :=
    ⟨fun p q => Int.le_of_lt (Int.mul_pos_of_neg_of_neg p q), fun p q => Int.mul_nonpos_of_nonpos_of_nonneg (by omega) q, fun p q => Int.mul_nonpos_of_nonneg_of_nonpos p (by omega), fun p q => Int.mul_nonneg p q⟩
  generalize hz : a * b = z at *
  obtain ⟨h1, h2⟩ := h
  obtain ⟨hh, hl⟩ := two_words a b z hz.symm (by omega)
  clear hz
  obtain ⟨s, hs⟩ : ∃ s : Int, s = z.natAbs := ⟨_, rfl⟩
  rw [← hs] at hl
  have hs0 : 0 ≤ s := by omega
  have hs1 : s ≤ 9223372036854775808 := by omega
  by_cases p : a < 0 <;> by_cases q : b < 0
  · have hn : s ≤ 9223372036854775807 := by have := hsn.1 p q; omega
    have HF : Hid (s = z) := by have := hsn.1 p q; show s = z; omega
    clear hsn hs
    have pb : decide (a < 0) = true := by simp; omega
    have qb : decide (b < 0) = true := by simp; omega
    clear p q
    go_enter Tryz.func33, Tryz.ntmps33
    go_wp2_with (first | (go_at_call 72; refine (size_any _ _ (by omega) (by omega)).mono ?_; rintro e w' ⟨rfl, rfl⟩) | (go_at_call 73; refine (Mul64_any _ _ _ (by omega) (by omega) (by omega) (by omega)).mono ?_; rintro e w' ⟨rfl, rfl⟩) | go_in)
    go_ret2
    exact ⟨tup2 HF.out rfl, by go_grown⟩
  · have HF : Hid (wrap64 (IntKind.u64.wrap (-s)) = z) := by have := hsn.2.1 p (by omega); show wrap64 (IntKind.u64.wrap (-s)) = z; rw [negw s hs0 hs1]; omega
    clear hsn hs
    have pb : decide (a < 0) = true := by simp; omega
    have qb : decide (b < 0) = false := by simp; omega
    clear p q
    go_enter Tryz.func33, Tryz.ntmps33
    go_wp2_with (first | (go_at_call 72; refine (size_any _ _ (by omega) (by omega)).mono ?_; rintro e w' ⟨rfl, rfl⟩) | (go_at_call 73; refine (Mul64_any _ _ _ (by omega) (by omega) (by omega) (by omega)).mono ?_; rintro e w' ⟨rfl, rfl⟩) | go_in)
    go_ret2
    exact ⟨tup2 HF.out rfl, by go_grown⟩
  · have HF : Hid (wrap64 (IntKind.u64.wrap (-s)) = z) := by have := hsn.2.2.1 (by omega) q; show wrap64 (IntKind.u64.wrap (-s)) = z; rw [negw s hs0 hs1]; omega
    clear hsn hs
    have pb : decide (a < 0) = false := by simp; omega
    have qb : decide (b < 0) = true := by simp; omega
    clear p q
    go_enter Tryz.func33, Tryz.ntmps33
    go_wp2_with (first | (go_at_call 72; refine (size_any _ _ (by omega) (by omega)).mono ?_; rintro e w' ⟨rfl, rfl⟩) | (go_at_call 73; refine (Mul64_any _ _ _ (by omega) (by omega) (by omega) (by omega)).mono ?_; rintro e w' ⟨rfl, rfl⟩) | go_in)
    go_ret2
    exact ⟨tup2 HF.out rfl, by go_grown⟩
  · have hn : s ≤ 9223372036854775807 := by have := hsn.2.2.2 (by omega) (by omega); omega
    have HF : Hid (s = z) := by have := hsn.2.2.2 (by omega) (by omega); show s = z; omega
    clear hsn hs
    have pb : decide (a < 0) = false := by simp; omega
    have qb : decide (b < 0) = false := by simp; omega
    clear p q
    go_enter Tryz.func33, Tryz.ntmps33
    go_wp2_with (first | (go_at_call 72; refine (size_any _ _ (by omega) (by omega)).mono ?_; rintro e w' ⟨rfl, rfl⟩) | (go_at_call 73; refine (Mul64_any _ _ _ (by omega) (by omega) (by omega) (by omega)).mono ?_; rintro e w' ⟨rfl, rfl⟩) | go_in)
    go_ret2
    exact ⟨tup2 HF.out rfl, by go_grown⟩

set_option maxHeartbeats 2000000 in
theorem Mul_over (a b : Int) (w : World) (ha : fits a) (hb : fits b) (h : ¬ fits (a * b)) :
    Calls Tryz.prog 33 #[.int .i64 a, .int .i64 b] w fun e w' => e = .returned (.tuple #[.int .i64 0, .int .i64 36]) ∧ Below w.heap.size w w' := by
  obtain ⟨ha1, ha2⟩ := ha
  obtain ⟨hb1, hb2⟩ := hb
  have hsn : (a < 0 → b < 0 → 0 ≤ a * b) ∧ (a < 0 → 0 ≤ b → a * b ≤ 0) ∧ (0 ≤ a → b < 0 → a * b ≤ 0) ∧ (0 ≤ a → 0 ≤ b → 0 ≤ a * b) :=
    ⟨fun p q => Int.le_of_lt (Int.mul_pos_of_neg_of_neg p q), fun p q => Int.mul_nonpos_of_nonpos_of_nonneg (by omega) q, fun p q => Int.mul_nonpos_of_nonneg_of_nonpos p (by omega), fun p q => Int.mul_nonneg p q⟩
  by_cases hbig : (a * b).natAbs < 18446744073709551616
  · generalize hz : a * b = z at *
    unfold fits at h
    obtain ⟨hh, hl⟩ := two_words a b z hz.symm hbig
    clear hz hbig
    obtain ⟨s, hs⟩ : ∃ s : Int, s = z.natAbs := ⟨_, rfl⟩
    rw [← hs] at hl
    by_cases p : a < 0 <;> by_cases q : b < 0
    · have hn : 9223372036854775807 < s := by have := hsn.1 p q; omega
      have pb : decide (a < 0) = true := by simp; omega
      have qb : decide (b < 0) = true := by simp; omega
      clear p q hsn hs h
      go_enter Tryz.func33, Tryz.ntmps33
      go_wp2_with (first | (go_at_call 72; refine (size_any _ _ (by omega) (by omega)).mono ?_; rintro e w' ⟨rfl, rfl⟩) | (go_at_call 73; refine (Mul64_any _ _ _ (by omega) (by omega) (by omega) (by omega)).mono ?_; rintro e w' ⟨rfl, rfl⟩) | go_in)
      go_ret2
      exact ⟨rfl, by go_grown⟩
    · have hn : 9223372036854775808 < s := by have := hsn.2.1 p (by omega); omega
      have pb : decide (a < 0) = true := by simp; omega
      have qb : decide (b < 0) = false := by simp; omega
      clear p q hsn hs h
      go_enter Tryz.func33, Tryz.ntmps33
      go_wp2_with (first | (go_at_call 72; refine (size_any _ _ (by omega) (by omega)).mono ?_; rintro e w' ⟨rfl, rfl⟩) | (go_at_call 73; refine (Mul64_any _ _ _ (by omega) (by omega) (by omega) (by omega)).mono ?_; rintro e w' ⟨rfl, rfl⟩) | go_in)
      go_ret2
      exact ⟨rfl, by go_grown⟩
    · have hn : 9223372036854775808 < s := by have := hsn.2.2.1 (by omega) q; omega
      have pb : decide (a < 0) = false := by simp; omega
      have qb : decide (b < 0) = true := by simp; omega
      clear p q hsn hs h
      go_enter Tryz.func33, Tryz.ntmps33
      go_wp2_with (first | (go_at_call 72; refine (size_any _ _ (by omega) (by omega)).mono ?_; rintro e w' ⟨rfl, rfl⟩) | (go_at_call 73; refine (Mul64_any _ _ _ (by omega) (by omega) (by omega) (by omega)).mono ?_; rintro e w' ⟨rfl, rfl⟩) | go_in)
      go_ret2
      exact ⟨rfl, by go_grown⟩
    · have hn : 9223372036854775807 < s := by have := hsn.2.2.2 (by omega) (by omega); omega
      have pb : decide (a < 0) = false := by simp; omega
      have qb : decide (b < 0) = false := by simp; omega
      clear p q hsn hs h
      go_enter Tryz.func33, Tryz.ntmps33
      go_wp2_with (first | (go_at_call 72; refine (size_any _ _ (by omega) (by omega)).mono ?_; rintro e w' ⟨rfl, rfl⟩) | (go_at_call 73; refine (Mul64_any _ _ _ (by omega) (by omega) (by omega) (by omega)).mono ?_; rintro e w' ⟨rfl, rfl⟩) | go_in)
      go_ret2
      exact ⟨rfl, by go_grown⟩
  · have hne : ((a.natAbs : Int) * b.natAbs / 18446744073709551616 == 0) = false := by
      have e : (a.natAbs : Int) * b.natAbs = (a * b).natAbs := by rw [Int.natAbs_mul]; simp
      rw [e, beq_eq_false_iff_ne]; omega
    clear hsn h hbig
    go_enter Tryz.func33, Tryz.ntmps33
    go_wp2_with (first | (go_at_call 72; refine (size_any _ _ (by omega) (by omega)).mono ?_; rintro e w' ⟨rfl, rfl⟩) | (go_at_call 73; refine (Mul64_any _ _ _ (by omega) (by omega) (by omega) (by omega)).mono ?_; rintro e w' ⟨rfl, rfl⟩) | go_in)
    go_ret2
    exact ⟨rfl, by go_grown⟩

/-- Go's quotient and rest out of the sizes'. -/
theorem tdiv_of (a b s : Int) (hs : (a.natAbs : Int) / b.natAbs = s) : a.tdiv b = if (decide (a < 0) != decide (b < 0)) = true then -s else s := by
  subst hs
  by_cases p : a < 0 <;> by_cases q : b < 0
  · obtain ⟨x, rfl⟩ : ∃ x, a = -x := ⟨-a, by omega⟩
    obtain ⟨y, rfl⟩ : ∃ y, b = -y := ⟨-b, by omega⟩
    have e1 : ((-x).natAbs : Int) = x := by omega
    have e2 : ((-y).natAbs : Int) = y := by omega
    rw [e1, e2, Int.neg_tdiv, Int.tdiv_neg, Int.tdiv_eq_ediv_of_nonneg (by omega)]
    rw [if_neg (by rw [decide_eq_true p, decide_eq_true q]; decide)]
    omega
  · obtain ⟨x, rfl⟩ : ∃ x, a = -x := ⟨-a, by omega⟩
    have e1 : ((-x).natAbs : Int) = x := by omega
    have e2 : (b.natAbs : Int) = b := by omega
    rw [e1, e2, Int.neg_tdiv, Int.tdiv_eq_ediv_of_nonneg (by omega)]
    rw [if_pos (by rw [decide_eq_true p, decide_eq_false q]; decide)]
  · obtain ⟨y, rfl⟩ : ∃ y, b = -y := ⟨-b, by omega⟩
    have e1 : (a.natAbs : Int) = a := by omega
    have e2 : ((-y).natAbs : Int) = y := by omega
    rw [e1, e2, Int.tdiv_neg, Int.tdiv_eq_ediv_of_nonneg (by omega)]
    rw [if_pos (by rw [decide_eq_false p, decide_eq_true q]; decide)]
  · have e1 : (a.natAbs : Int) = a := by omega
    have e2 : (b.natAbs : Int) = b := by omega
    rw [e1, e2, Int.tdiv_eq_ediv_of_nonneg (by omega)]
    rw [if_neg (by simp [p, q])]
theorem tmod_of (a b s : Int) (hs : (a.natAbs : Int) % b.natAbs = s) : a.tmod b = if a < 0 then -s else s := by
  have hb : (b.natAbs : Int) = b ∨ (b.natAbs : Int) = -b := by omega
  have e3 : ∀ x : Int, x.tmod b = x.tmod b.natAbs := fun x => by
    rcases hb with h | h
    · rw [h]
    · rw [h, Int.tmod_neg]
  rw [e3]
  by_cases p : a < 0
  · obtain ⟨x, rfl⟩ : ∃ x, a = -x := ⟨-a, by omega⟩
    have e1 : ((-x).natAbs : Int) = x := by omega
    rw [e1] at hs
    rw [Int.neg_tmod, Int.tmod_eq_emod_of_nonneg (by omega), hs, if_pos p]
  · have e1 : (a.natAbs : Int) = a := by omega
    rw [e1] at hs
    rw [Int.tmod_eq_emod_of_nonneg (by omega), hs, if_neg p]

set_option maxHeartbeats 1000000 in
theorem Div_zero (a : Int) (w : World) :
    Calls Tryz.prog 31 #[.int .i64 a, .int .i64 0] w fun e w' => e = .returned (.tuple #[.int .i64 0, .int .i64 1]) ∧ w = w' := by
  go_enter Tryz.func31, Tryz.ntmps31
  go_wp2
  go_ret2
  exact ⟨rfl, rfl⟩
set_option maxHeartbeats 1000000 in
theorem Mod_zero (a : Int) (w : World) :
    Calls Tryz.prog 32 #[.int .i64 a, .int .i64 0] w fun e w' => e = .returned (.tuple #[.int .i64 0, .int .i64 1]) ∧ w = w' := by
  go_enter Tryz.func32, Tryz.ntmps32
  go_wp2
  go_ret2
  exact ⟨rfl, rfl⟩
set_option maxHeartbeats 2000000 in
theorem Div_ok (a b : Int) (w : World) (ha : fits a) (hb : fits b) (h0 : b ≠ 0) (h : ¬ (a = -9223372036854775808 ∧ b = -1)) :
    Calls Tryz.prog 31 #[.int .i64 a, .int .i64 b] w fun e w' => e = .returned (.tuple #[.int .i64 (a.tdiv b), .int .i64 0]) ∧ Below w.heap.size w w' := by
  obtain ⟨ha1, ha2⟩ := ha
  obtain ⟨hb1, hb2⟩ := hb
  have hz : (b == 0) = false := by simp [h0]
  have hy1 : 1 ≤ (b.natAbs : Int) := by omega
  obtain ⟨s, hs⟩ : ∃ s : Int, (a.natAbs : Int) / b.natAbs = s := ⟨_, rfl⟩
  have hq := tdiv_of a b s hs
  have hs0 : 0 ≤ s := by rw [← hs]; exact Int.ediv_nonneg (by omega) (by omega)
  have hsa : s ≤ a.natAbs := by rw [← hs]; exact Int.ediv_le_self _ (by omega)
  have hs2 : a = -9223372036854775808 → b < 0 → s ≤ 9223372036854775807 := by
    intro h1 h2
    have h3 : 2 ≤ (b.natAbs : Int) := by omega
    have h4 : (a.natAbs : Int) = 9223372036854775808 := by omega
    rw [h4] at hs
    rw [← hs]
    have h5 : (9223372036854775808 : Int) / b.natAbs < 9223372036854775808 := Int.ediv_lt_of_lt_mul (by omega) (by omega)
    omega
  clear h0
  by_cases p : a < 0 <;> by_cases q : b < 0
  · have hn : s ≤ 9223372036854775807 := by omega
    have pb : decide (a < 0) = true := by simp; omega
    have qb : decide (b < 0) = true := by simp; omega
    have HF : Hid (s = a.tdiv b) := by rw [hq, pb, qb]; rfl
    clear p q hq hsa hs2 h
    go_enter Tryz.func31, Tryz.ntmps31
    go_wp2_with (first | (go_at_call 72; refine (size_any _ _ (by omega) (by omega)).mono ?_; rintro e w' ⟨rfl, rfl⟩) | go_in)
    go_ret2
    exact ⟨tup2 HF.out rfl, by go_grown⟩
  · have hn : s ≤ 9223372036854775808 := by omega
    have pb : decide (a < 0) = true := by simp; omega
    have qb : decide (b < 0) = false := by simp; omega
    have HF : Hid (wrap64 (IntKind.u64.wrap (-s)) = a.tdiv b) := by rw [hq, pb, qb]; exact negw s hs0 hn
    clear p q hq hsa hs2 h
    go_enter Tryz.func31, Tryz.ntmps31
    go_wp2_with (first | (go_at_call 72; refine (size_any _ _ (by omega) (by omega)).mono ?_; rintro e w' ⟨rfl, rfl⟩) | go_in)
    go_ret2
    exact ⟨tup2 HF.out rfl, by go_grown⟩
  · have hn : s ≤ 9223372036854775808 := by omega
    have pb : decide (a < 0) = false := by simp; omega
    have qb : decide (b < 0) = true := by simp; omega
    have HF : Hid (wrap64 (IntKind.u64.wrap (-s)) = a.tdiv b) := by rw [hq, pb, qb]; exact negw s hs0 hn
    clear p q hq hsa hs2 h
    go_enter Tryz.func31, Tryz.ntmps31
    go_wp2_with (first | (go_at_call 72; refine (size_any _ _ (by omega) (by omega)).mono ?_; rintro e w' ⟨rfl, rfl⟩) | go_in)
    go_ret2
    exact ⟨tup2 HF.out rfl, by go_grown⟩
  · have hn : s ≤ 9223372036854775807 := by omega
    have pb : decide (a < 0) = false := by simp; omega
    have qb : decide (b < 0) = false := by simp; omega
    have HF : Hid (s = a.tdiv b) := by rw [hq, pb, qb]; rfl
    clear p q hq hsa hs2 h
    go_enter Tryz.func31, Tryz.ntmps31
    go_wp2_with (first | (go_at_call 72; refine (size_any _ _ (by omega) (by omega)).mono ?_; rintro e w' ⟨rfl, rfl⟩) | go_in)
    go_ret2
    exact ⟨tup2 HF.out rfl, by go_grown⟩

set_option maxHeartbeats 2000000 in
theorem Div_over (w : World) :
    Calls Tryz.prog 31 #[.int .i64 (-9223372036854775808), .int .i64 (-1)] w fun e w' => e = .returned (.tuple #[.int .i64 0, .int .i64 36]) ∧ Below w.heap.size w w' := by
  have hw64 := IntKind.wrap_u64
  go_enter Tryz.func31, Tryz.ntmps31
  go_wp2_with (first | (go_at_call 72; refine (size_any _ _ (by omega) (by omega)).mono ?_; rintro e w' ⟨rfl, rfl⟩) | go_in)
  go_ret2
  exact ⟨rfl, by go_grown⟩
set_option maxHeartbeats 2000000 in
theorem Mod_ok (a b : Int) (w : World) (ha : fits a) (hb : fits b) (h0 : b ≠ 0) :
    Calls Tryz.prog 32 #[.int .i64 a, .int .i64 b] w fun e w' => e = .returned (.tuple #[.int .i64 (a.tmod b), .int .i64 0]) ∧ Below w.heap.size w w' := by
  obtain ⟨ha1, ha2⟩ := ha
  obtain ⟨hb1, hb2⟩ := hb
  have hz : (b == 0) = false := by simp [h0]
  have hy1 : 1 ≤ (b.natAbs : Int) := by omega
  obtain ⟨s, hs⟩ : ∃ s : Int, (a.natAbs : Int) % b.natAbs = s := ⟨_, rfl⟩
  have hq := tmod_of a b s hs
  have hs0 : 0 ≤ s := by rw [← hs]; exact Int.emod_nonneg _ (by omega)
  have hsa : s ≤ a.natAbs := by rw [← hs]; exact_mod_cast Nat.mod_le a.natAbs b.natAbs
  have hsb : s < b.natAbs := by rw [← hs]; exact Int.emod_lt_of_pos _ (by omega)
  clear h0
  by_cases p : a < 0
  · have hn : s ≤ 9223372036854775808 := by omega
    have pb : decide (a < 0) = true := by simp; omega
    have HF : Hid (wrap64 (IntKind.u64.wrap (-s)) = a.tmod b) := by rw [hq, if_pos p]; exact negw s hs0 hn
    clear p hq hsa hsb
    go_enter Tryz.func32, Tryz.ntmps32
    go_wp2_with (first | (go_at_call 72; refine (size_any _ _ (by omega) (by omega)).mono ?_; rintro e w' ⟨rfl, rfl⟩) | go_in)
    go_ret2
    exact ⟨tup2 HF.out rfl, by go_grown⟩
  · have hn : s ≤ 9223372036854775807 := by omega
    have pb : decide (a < 0) = false := by simp; omega
    have HF : Hid (s = a.tmod b) := by rw [hq, if_neg p]; rfl
    clear p hq hsa hsb
    go_enter Tryz.func32, Tryz.ntmps32
    go_wp2_with (first | (go_at_call 72; refine (size_any _ _ (by omega) (by omega)).mono ?_; rintro e w' ⟨rfl, rfl⟩) | go_in)
    go_ret2
    exact ⟨tup2 HF.out rfl, by go_grown⟩
end Go.Proofs.YtbbedjpjekjfiaaGreatDoor
