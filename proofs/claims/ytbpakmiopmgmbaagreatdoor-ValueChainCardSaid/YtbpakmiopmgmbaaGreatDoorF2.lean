/- The functions of num and of the document's own answers that ask a float's bits alone: Canon, Canonical, Floats, for every float. -/
import Derived.Test.YtbpakmiopmgmbaaGreatDoorA4
import Derived.Test.YtbpakmiopmgmbaaGreatDoorF1
namespace Go.Proofs.YtbpakmiopmgmbaaGreatDoor
open Go.RowKit
/-- Whether a word of 64 bits is a NaN. -/
def isNaNF (b : Nat) : Bool := decide (9218868437227405312 < b % 9223372036854775808)
/-- The canonical float of a float. -/
def canonF (b : Nat) : Nat := if isNaNF b = true then 9221120237041090561 else b
set_option maxRecDepth 100000 in
theorem Canon_any (b : Nat) (w : World) (hb : b < 18446744073709551616) :
    Calls Tryz.prog 34 #[.float .f64 b] w fun e w' => e = .returned (.float .f64 (canonF b)) ∧ w = w' := by
  have hff := call_Float64frombits
  have h0 := self_any b hb
  obtain ⟨c, hc⟩ : ∃ c, c = canonF b := ⟨_, rfl⟩
  rw [← hc]
  unfold canonF isNaNF at hc
  by_cases p : 9218868437227405312 < b % 9223372036854775808
  · have h : (FloatKind.f64.format.order b b != some Ordering.eq) = true := by rw [h0]; simp [p]
    rw [if_pos (by simp [p])] at hc
    subst hc
    clear h0
    go_enter Tryz.func34, Tryz.ntmps34
    go_wp2
    go_ret
    exact ⟨rfl, rfl⟩
  · have h : (FloatKind.f64.format.order b b != some Ordering.eq) = false := by rw [h0]; simp [p]
    rw [if_neg (by simp [p])] at hc
    subst hc
    clear h0
    go_enter Tryz.func34, Tryz.ntmps34
    go_wp2
    go_ret
    exact ⟨rfl, rfl⟩
set_option maxRecDepth 100000 in
theorem Canonical_any (b : Nat) (w : World) (hb : b < 18446744073709551616) :
    Calls Tryz.prog 14 #[.float .f64 b] w fun e w' => e = .returned (.bool (decide (canonF b = b))) ∧ w = w' := by
  have hfb := call_Float64bits
  have h0 := self_any b hb
  obtain ⟨c, hc⟩ : ∃ c, c = decide (canonF b = b) := ⟨_, rfl⟩
  rw [← hc]
  unfold canonF isNaNF at hc
  by_cases p : 9218868437227405312 < b % 9223372036854775808
  · have h : (FloatKind.f64.format.order b b != some Ordering.eq) = true := by rw [h0]; simp [p]
    rw [if_pos (by simp [p])] at hc
    clear h0
    go_enter Tryz.func14, Tryz.ntmps14
    go_wp2
    go_ret
    subst hc
    refine ⟨?_, rfl⟩
    show Ending.returned (Value.bool ((b : Int) == 9221120237041090561)) = _
    congr 2
    rw [Bool.eq_iff_iff]
    simp only [beq_iff_eq, decide_eq_true_eq]
    omega
  · have h : (FloatKind.f64.format.order b b != some Ordering.eq) = false := by rw [h0]; simp [p]
    rw [if_neg (by simp [p])] at hc
    have hc' : c = true := by rw [hc]; simp
    subst hc'
    clear h0 hc
    go_enter Tryz.func14, Tryz.ntmps14
    go_wp2
    go_ret
    exact ⟨rfl, rfl⟩
end Go.Proofs.YtbpakmiopmgmbaaGreatDoor
