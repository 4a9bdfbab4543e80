/- Whole numbers in two words of 64 bits, as the statement NumExact reckons with them. -/
import Derived.Test.YtacedomhnnigjaaGreatDoorA5
namespace Go.Proofs.YtacedomhnnigjaaGreatDoor
open Go.RowKit

/-- The low word, the high word, of a whole number's two's complement. -/
def W0 (z : Int) : Int := z % 18446744073709551616
def W1 (z : Int) : Int := z / 18446744073709551616 % 18446744073709551616
theorem W0_range (z : Int) : 0 ≤ W0 z ∧ W0 z < 18446744073709551616 := by unfold W0; omega
theorem W1_range (z : Int) : 0 ≤ W1 z ∧ W1 z < 18446744073709551616 := by unfold W1; omega
def fitB (z : Int) : Bool := decide (-9223372036854775808 ≤ z ∧ z ≤ 9223372036854775807)

theorem call_Add64 (x y c : Int) (hx : 0 ≤ x) (hy : 0 ≤ y) (hc : c = 0 ∨ c = 1) (w : World) : (callFunc 43 #[.int .u64 x, .int .u64 y, .int .u64 c]).run Tryz.prog w = .ok (.value (.tuple #[.int .u64 ((x + y + c) % 18446744073709551616), .int .u64 ((x + y + c) / 18446744073709551616)])) w := by
  have h : (callFunc 43 #[.int .u64 x, .int .u64 y, .int .u64 c]).run Tryz.prog w = .ok (.value (.tuple #[.int .u64 (Int.ofNat ((x.toNat + y.toNat + c.toNat) % 18446744073709551616)), .int .u64 (Int.ofNat ((x.toNat + y.toNat + c.toNat) / 18446744073709551616))])) w := by
    rcases hc with rfl | rfl
    · kernel_rfl
    · kernel_rfl
  rw [h]
  have e1 : Int.ofNat ((x.toNat + y.toNat + c.toNat) % 18446744073709551616) = (x + y + c) % 18446744073709551616 := by simp only [Int.ofNat_eq_natCast]; omega
  have e2 : Int.ofNat ((x.toNat + y.toNat + c.toNat) / 18446744073709551616) = (x + y + c) / 18446744073709551616 := by simp only [Int.ofNat_eq_natCast]; omega
  rw [e1, e2]
theorem words_sum (x y : Int) : (W0 x + W0 y + 0) % 18446744073709551616 = W0 (x + y) ∧ (W1 x + W1 y + (W0 x + W0 y + 0) / 18446744073709551616) % 18446744073709551616 = W1 (x + y) := by
  unfold W0 W1; omega
theorem words_one (x : Int) : (W0 x + 1 + 0) % 18446744073709551616 = W0 (x + 1) ∧ (W1 x + 0 + (W0 x + 1 + 0) / 18446744073709551616) % 18446744073709551616 = W1 (x + 1) := by
  unfold W0 W1; omega
theorem tupW {a b c d : Int} {k l : IntKind} (h1 : a = c) (h2 : b = d) : Ending.returned (.tuple #[.int k a, .int l b]) = .returned (.tuple #[.int k c, .int l d]) := by rw [h1, h2]

set_option maxRecDepth 100000 in
set_option maxHeartbeats 1000000 in
theorem plus_words (p q r s : Int) (w : World) (hp : 0 ≤ p) (hq : 0 ≤ q) (hr : 0 ≤ r) (hs : 0 ≤ s) (hq' : q < 18446744073709551616) (hs' : s < 18446744073709551616) :
    Calls Tryz.prog 42 #[.int .u64 p, .int .u64 q, .int .u64 r, .int .u64 s] w fun e w' => e = .returned (.tuple #[.int .u64 ((p + r + (q + s + 0) / 18446744073709551616) % 18446744073709551616), .int .u64 ((q + s + 0) % 18446744073709551616)]) ∧ w = w' := by
  have h1 := call_Add64 q s 0 hq hs (.inl rfl)
  have h2 := call_Add64 p r ((q + s + 0) / 18446744073709551616) hp hr (by omega)
  generalize (q + s + 0) / 18446744073709551616 = c at *
  generalize (q + s + 0) % 18446744073709551616 = l at *
  generalize (p + r + c) % 18446744073709551616 = h at *
  generalize (p + r + c) / 18446744073709551616 = x at *
  clear hp hq hr hs hq' hs'
  go_enter Tryz.func42, Tryz.ntmps42
  go_wp2
  go_ret2
  exact ⟨rfl, rfl⟩
theorem plus_any (x y : Int) (w : World) :
    Calls Tryz.prog 42 #[.int .u64 (W1 x), .int .u64 (W0 x), .int .u64 (W1 y), .int .u64 (W0 y)] w fun e w' => e = .returned (.tuple #[.int .u64 (W1 (x + y)), .int .u64 (W0 (x + y))]) ∧ w = w' := by
  have h := plus_words (W1 x) (W0 x) (W1 y) (W0 y) w (W1_range x).1 (W0_range x).1 (W1_range y).1 (W0_range y).1 (W0_range x).2 (W0_range y).2
  rwa [(words_sum x y).1, (words_sum x y).2] at h
theorem plus_one (x : Int) (w : World) :
    Calls Tryz.prog 42 #[.int .u64 (W1 x), .int .u64 (W0 x), .int .u64 0, .int .u64 1] w fun e w' => e = .returned (.tuple #[.int .u64 (W1 (x + 1)), .int .u64 (W0 (x + 1))]) ∧ w = w' := by
  have h := plus_words (W1 x) (W0 x) 0 1 w (W1_range x).1 (W0_range x).1 (by omega) (by omega) (W0_range x).2 (by omega)
  rwa [(words_one x).1, (words_one x).2] at h
set_option maxRecDepth 100000 in
set_option maxHeartbeats 1000000 in
theorem wide_any (n : Int) (w : World) (h0 : -9223372036854775808 ≤ n) (h1 : n ≤ 9223372036854775807) :
    Calls Tryz.prog 41 #[.int .i64 n] w fun e w' => e = .returned (.tuple #[.int .u64 (W1 n), .int .u64 (W0 n)]) ∧ w = w' := by
  go_enter Tryz.func41, Tryz.ntmps41
  go_wp2
  go_ret2
  exact ⟨tupW (by rw [IntKind.wrap_u64]; unfold W1; omega) (by rw [IntKind.wrap_u64]; rfl), rfl⟩
theorem retB {a b : Bool} (h : a = b) : Ending.returned (.bool a) = .returned (.bool b) := by rw [h]
theorem fit_words (z : Int) (h0 : -170141183460469231731687303715884105728 ≤ z) (h1 : z < 170141183460469231731687303715884105728) : (W1 z == IntKind.u64.wrap (wrap64 (W0 z) / 9223372036854775808)) = fitB z := by
  rw [IntKind.wrap_u64]
  unfold wrap64 W0 W1 fitB
  rw [Bool.eq_iff_iff, beq_iff_eq, decide_eq_true_iff]
  have hz : z = z / 18446744073709551616 * 18446744073709551616 + z % 18446744073709551616 := by omega
  have hr0 : 0 ≤ z % 18446744073709551616 := by omega
  have hr1 : z % 18446744073709551616 < 18446744073709551616 := by omega
  generalize z / 18446744073709551616 = q at *
  generalize z % 18446744073709551616 = r at *
  by_cases hr : r < 9223372036854775808
  · have e : ((r + 9223372036854775808) % 18446744073709551616 - 9223372036854775808) / 9223372036854775808 = 0 := by omega
    rw [e]; omega
  · have e : ((r + 9223372036854775808) % 18446744073709551616 - 9223372036854775808) / 9223372036854775808 = -1 := by omega
    rw [e]; omega
set_option maxRecDepth 100000 in
set_option maxHeartbeats 1000000 in
theorem fits_any (z : Int) (w : World) (h0 : -170141183460469231731687303715884105728 ≤ z) (h1 : z < 170141183460469231731687303715884105728) :
    Calls Tryz.prog 44 #[.int .u64 (W1 z), .int .u64 (W0 z)] w fun e w' => e = .returned (.bool (fitB z)) ∧ w = w' := by
  obtain ⟨a1, a2⟩ := W0_range z
  obtain ⟨b1, b2⟩ := W1_range z
  go_enter Tryz.func44, Tryz.ntmps44
  go_wp2
  go_ret
  exact ⟨retB (fit_words z h0 h1), rfl⟩
end Go.Proofs.YtacedomhnnigjaaGreatDoor
