/- num's integer functions: what each returns, for all integers. -/
import Derived.Test.YtbpakmiopmgmbaaGreatDoorA0
import Derived.Laws.MathBits
namespace Go.Proofs.YtbpakmiopmgmbaaGreatDoor
open Go.RowKit

theorem tup2 {a b c d : Int} {k l : IntKind} (h1 : a = c) (h2 : b = d) : Ending.returned (.tuple #[.int k a, .int l b]) = .returned (.tuple #[.int k c, .int l d]) := by rw [h1, h2]
theorem ret1 {k : IntKind} {a b : Int} (h : a = b) : Ending.returned (.int k a) = .returned (.int k b) := by rw [h]

set_option maxHeartbeats 400000 in
theorem sign_over (s m : Int) (p q : Addr) (w : World) (hp : w.cell? p = some (.int .u64 m)) (hs : m < s) :
    Calls Tryz.prog 127 #[.int .u64 s, .pointer (some p), .pointer (some q)] w fun e w' => e = .returned (.tuple #[.int .i64 0, .int .i64 36]) ∧ w = w' := by
  go_enter Tryz.func127, Tryz.ntmps127
  go_wp2
  go_ret2
  exact ⟨rfl, rfl⟩
set_option maxHeartbeats 400000 in
theorem sign_neg (s m : Int) (p q : Addr) (w : World) (hp : w.cell? p = some (.int .u64 m)) (hq : w.cell? q = some (.bool true)) (h0 : 0 ≤ s) (hs : s ≤ m) (hm : m ≤ 9223372036854775808) :
    Calls Tryz.prog 127 #[.int .u64 s, .pointer (some p), .pointer (some q)] w fun e w' => e = .returned (.tuple #[.int .i64 (-s), .int .i64 0]) ∧ w = w' := by
  go_enter Tryz.func127, Tryz.ntmps127
  go_wp2
  go_ret2
  exact ⟨tup2 (by simp only [wrap64, IntKind.wrap_u64]; omega) rfl, rfl⟩
set_option maxHeartbeats 400000 in
theorem sign_pos (s m : Int) (p q : Addr) (w : World) (hp : w.cell? p = some (.int .u64 m)) (hq : w.cell? q = some (.bool false)) (h0 : 0 ≤ s) (hs : s ≤ m) (hm : m ≤ 9223372036854775807) :
    Calls Tryz.prog 127 #[.int .u64 s, .pointer (some p), .pointer (some q)] w fun e w' => e = .returned (.tuple #[.int .i64 s, .int .i64 0]) ∧ w = w' := by
  go_enter Tryz.func127, Tryz.ntmps127
  go_wp2
  go_ret2
  exact ⟨rfl, rfl⟩

/-- How a sum, difference, product, quotient is told: the number and OK, or nothing and ErrOverflow. -/
def fits (z : Int) : Prop := -9223372036854775808 ≤ z ∧ z ≤ 9223372036854775807

set_option maxHeartbeats 1000000 in
theorem Mul64_any (x y : Int) (w : World) (hx0 : 0 ≤ x) (hx : x < 18446744073709551616) (hy0 : 0 ≤ y) (hy : y < 18446744073709551616) :
    Calls Tryz.prog 168 #[.int .u64 x, .int .u64 y] w fun e w' => e = .returned (.tuple #[.int .u64 (x * y / 18446744073709551616), .int .u64 (x * y % 18446744073709551616)]) ∧ w = w' := by
  have hm := mul64_arith x y hx0 hx hy0 hy
  have HM := Lib.hid hm
  clear hm
  have hw64 := IntKind.wrap_u64
  have hl := and_low32
  go_enter Tryz.func168, Tryz.ntmps168
  go_wp2
  go_ret2
  refine ⟨tup2 ?_ ?_, rfl⟩
  · rw [← HM.out]
    simp
    rw [hl _ (by omega) (by omega)]
    simp
  · rfl


/-- Two sizes' product, in two words: what the walk needs of it. -/
theorem two_words (a b z : Int) (hz : z = a * b) (h : z.natAbs < 18446744073709551616) : (a.natAbs : Int) * b.natAbs / 18446744073709551616 = 0 ∧ (a.natAbs : Int) * b.natAbs % 18446744073709551616 = z.natAbs := by
  have e : (a.natAbs : Int) * b.natAbs = z.natAbs := by rw [hz, Int.natAbs_mul]; simp
  rw [e]; omega

theorem negw (s : Int) (h0 : 0 ≤ s) (h1 : s ≤ 9223372036854775808) : wrap64 (IntKind.u64.wrap (-s)) = -s := by
  simp only [wrap64, IntKind.wrap_u64]; omega

/-- Go's quotient and rest out of the sizes'. -/
theorem tdiv_of (a b s : Int) (hs : (a.natAbs : Int) / b.natAbs = s) : a.tdiv b = if (decide (a < 0) != decide (b < 0)) = true then -s else s := by
  subst hs
  by_cases p : a < 0 <;> by_cases q : b < 0
  · obtain ⟨x, rfl⟩ : ∃ x, a = -x := ⟨-a, by omega⟩
    obtain ⟨y, rfl⟩ : ∃ y, b = -y := ⟨-b, by omega⟩
    have e1 : ((-x).natAbs : Int) = x := by omega
    have e2 : ((-y).natAbs : Int) = y := by omega
    rw [e1, e2, Int.neg_tdiv, Int.tdiv_neg, Int.tdiv_eq_ediv_of_nonneg (by omega)]
    rw [if_neg (by rw [decide_eq_true p, decide_eq_true q]; decide)]
    omega
  · obtain ⟨x, rfl⟩ : ∃ x, a = -x := ⟨-a, by omega⟩
    have e1 : ((-x).natAbs : Int) = x := by omega
    have e2 : (b.natAbs : Int) = b := by omega
    rw [e1, e2, Int.neg_tdiv, Int.tdiv_eq_ediv_of_nonneg (by omega)]
    rw [if_pos (by rw [decide_eq_true p, decide_eq_false q]; decide)]
  · obtain ⟨y, rfl⟩ : ∃ y, b = -y := ⟨-b, by omega⟩
    have e1 : (a.natAbs : Int) = a := by omega
    have e2 : ((-y).natAbs : Int) = y := by omega
    rw [e1, e2, Int.tdiv_neg, Int.tdiv_eq_ediv_of_nonneg (by omega)]
    rw [if_pos (by rw [decide_eq_false p, decide_eq_true q]; decide)]
  · have e1 : (a.natAbs : Int) = a := by omega
    have e2 : (b.natAbs : Int) = b := by omega
    rw [e1, e2, Int.tdiv_eq_ediv_of_nonneg (by omega)]
    rw [if_neg (by simp [p, q])]
theorem tmod_of (a b s : Int) (hs : (a.natAbs : Int) % b.natAbs = s) : a.tmod b = if a < 0 then -s else s := by
  have hb : (b.natAbs : Int) = b ∨ (b.natAbs : Int) = -b := by omega
  have e3 : ∀ x : Int, x.tmod b = x.tmod b.natAbs := fun x => by
    rcases hb with h | h
    · rw [h]
    · rw [h, Int.tmod_neg]
  rw [e3]
  by_cases p : a < 0
  · obtain ⟨x, rfl⟩ : ∃ x, a = -x := ⟨-a, by omega⟩
    have e1 : ((-x).natAbs : Int) = x := by omega
    rw [e1] at hs
    rw [Int.neg_tmod, Int.tmod_eq_emod_of_nonneg (by omega), hs, if_pos p]
  · have e1 : (a.natAbs : Int) = a := by omega
    rw [e1] at hs
    rw [Int.tmod_eq_emod_of_nonneg (by omega), hs, if_neg p]

end Go.Proofs.YtbpakmiopmgmbaaGreatDoor
