/- Whole numbers in two words of 64 bits, as the statement NumExact reckons with them. -/
import Derived.Test.YtbpakmiopmgmbaaGreatDoorA5
namespace Go.Proofs.YtbpakmiopmgmbaaGreatDoor
open Go.RowKit

/-- The low word, the high word, of a whole number's two's complement. -/
def W0 (z : Int) : Int := z % 18446744073709551616
def W1 (z : Int) : Int := z / 18446744073709551616 % 18446744073709551616
theorem W0_range (z : Int) : 0 ≤ W0 z ∧ W0 z < 18446744073709551616 := by unfold W0; omega
theorem W1_range (z : Int) : 0 ≤ W1 z ∧ W1 z < 18446744073709551616 := by unfold W1; omega
def fitB (z : Int) : Bool := decide (-9223372036854775808 ≤ z ∧ z ≤ 9223372036854775807)

theorem words_sum (x y : Int) : (W0 x + W0 y + 0) % 18446744073709551616 = W0 (x + y) ∧ (W1 x + W1 y + (W0 x + W0 y + 0) / 18446744073709551616) % 18446744073709551616 = W1 (x + y) := by
  unfold W0 W1; omega
theorem words_one (x : Int) : (W0 x + 1 + 0) % 18446744073709551616 = W0 (x + 1) ∧ (W1 x + 0 + (W0 x + 1 + 0) / 18446744073709551616) % 18446744073709551616 = W1 (x + 1) := by
  unfold W0 W1; omega
theorem tupW {a b c d : Int} {k l : IntKind} (h1 : a = c) (h2 : b = d) : Ending.returned (.tuple #[.int k a, .int l b]) = .returned (.tuple #[.int k c, .int l d]) := by rw [h1, h2]

theorem retB {a b : Bool} (h : a = b) : Ending.returned (.bool a) = .returned (.bool b) := by rw [h]
theorem fit_words (z : Int) (h0 : -170141183460469231731687303715884105728 ≤ z) (h1 : z < 170141183460469231731687303715884105728) : (W1 z == IntKind.u64.wrap (wrap64 (W0 z) / 9223372036854775808)) = fitB z := by
  rw [IntKind.wrap_u64]
  unfold wrap64 W0 W1 fitB
  rw [Bool.eq_iff_iff, beq_iff_eq, decide_eq_true_iff]
  have hz : z = z / 18446744073709551616 * 18446744073709551616 + z % 18446744073709551616 := by omega
  have hr0 : 0 ≤ z % 18446744073709551616 := by omega
  have hr1 : z % 18446744073709551616 < 18446744073709551616 := by omega
  generalize z / 18446744073709551616 = q at *
  generalize z % 18446744073709551616 = r at *
  by_cases hr : r < 9223372036854775808
  · have e : ((r + 9223372036854775808) % 18446744073709551616 - 9223372036854775808) / 9223372036854775808 = 0 := by omega
    rw [e]; omega
  · have e : ((r + 9223372036854775808) % 18446744073709551616 - 9223372036854775808) / 9223372036854775808 = -1 := by omega
    rw [e]; omega
end Go.Proofs.YtbpakmiopmgmbaaGreatDoor
