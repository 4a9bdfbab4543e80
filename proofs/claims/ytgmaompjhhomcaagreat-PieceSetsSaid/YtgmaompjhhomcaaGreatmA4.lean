/- The closed calls of the statements' own test of being awake: floats. -/
import Derived.Test.YtgmaompjhhomcaaGreatmG10
namespace Go.Proofs.YtgmaompjhhomcaaGreat
open Go.RowKit
theorem call_Float64bits (b : Nat) (w : World) : (callFunc 72 #[.float .f64 b]).run Tryz.prog w = .ok (.value (.int .u64 b)) w := by kernel_rfl
theorem call_Float64frombits (n : Int) (w : World) : (callFunc 122 #[.int .u64 n]).run Tryz.prog w = .ok (.value (.float .f64 n.toNat)) w := by kernel_rfl
set_option maxRecDepth 100000 in
set_option maxHeartbeats 1000000 in
theorem Mixed_c1 (w : World) :
    Calls Tryz.prog 217 #[.int .i64 9007199254740993, .float .f64 4845873199050653696] w fun e w' => e = .returned (.int .i64 1) ∧ w = w' := by
  have hfb := call_Float64bits
  have hff := call_Float64frombits
  have hc : ∀ w, (convert 26 2 (.float .f64 4845873199050653696)).run Tryz.prog w = .ok (.int .i64 9007199254740992) w := fun _ => by kernel_rfl
  go_enter Tryz.func217, Tryz.ntmps217
  go_wp2
  go_ret
  exact ⟨by kernel_rfl, rfl⟩
set_option maxRecDepth 100000 in
set_option maxHeartbeats 1000000 in
theorem Mixed_c2 (w : World) :
    Calls Tryz.prog 217 #[.int .i64 5, .float .f64 9221120237041090561] w fun e w' => e = .returned (.int .i64 (-1)) ∧ w = w' := by
  have hfb := call_Float64bits
  have hff := call_Float64frombits
  go_enter Tryz.func217, Tryz.ntmps217
  go_wp2
  go_ret
  exact ⟨by kernel_rfl, rfl⟩
set_option maxRecDepth 100000 in
set_option maxHeartbeats 1000000 in
theorem Copysign_c (w : World) :
    Calls Tryz.prog 236 #[.float .f64 0, .float .f64 13830554455654793216] w fun e w' => e = .returned (.float .f64 9223372036854775808) ∧ w = w' := by
  have hfb := call_Float64bits
  have hff := call_Float64frombits
  go_enter Tryz.func236, Tryz.ntmps236
  go_wp2
  go_ret
  exact ⟨by kernel_rfl, rfl⟩
theorem and_top (b : Nat) (h : b < 18446744073709551616) : b &&& 9223372036854775808 = if b < 9223372036854775808 then 0 else 9223372036854775808 := by
  have e : (9223372036854775808 : Nat) = 2 ^ 63 := by decide
  rw [e]
  apply Nat.eq_of_testBit_eq
  intro i
  rw [Nat.testBit_and, Nat.testBit_two_pow]
  by_cases hi : 63 = i
  · subst hi
    by_cases p : b < 2 ^ 63
    · rw [if_pos p, Nat.testBit_eq_decide_div_mod_eq, Nat.div_eq_of_lt p]; simp
    · have q : b / 2 ^ 63 = 1 := by omega
      rw [if_neg p, Nat.testBit_eq_decide_div_mod_eq, q, Nat.testBit_two_pow]; simp
  · by_cases p : b < 2 ^ 63
    · rw [if_pos p]; simp [hi]
    · rw [if_neg p, Nat.testBit_two_pow]; simp [hi]
theorem or_top (b : Nat) (h : b < 9223372036854775808) : b ||| 9223372036854775808 = b + 9223372036854775808 := by
  have e : (9223372036854775808 : Nat) = 2 ^ 63 := by decide
  have := Nat.two_pow_add_eq_or_of_lt (i := 63) (b := b) (by omega) 1
  rw [e, Nat.or_comm, Nat.add_comm]
  simpa using this.symm
theorem xor_all (b : Nat) (h : b < 18446744073709551616) : bits .xor .u64 IntKind.u64.max (b : Int) = 18446744073709551615 - b := by
  show IntKind.u64.wrap ((BitVec.ofInt 64 18446744073709551615 ^^^ BitVec.ofInt 64 b).toNat : Nat) = _
  have e : BitVec.ofInt 64 18446744073709551615 = BitVec.allOnes 64 := by decide
  have hb : (BitVec.ofInt 64 (b : Int)).toNat = b := by rw [BitVec.toNat_ofInt]; omega
  rw [e, BitVec.allOnes_xor, BitVec.toNat_not, hb, IntKind.wrap_u64]
  omega
set_option maxRecDepth 100000 in
set_option maxHeartbeats 1000000 in
theorem rank_nan (b : Nat) (w : World) (h : (FloatKind.f64.format.order b b != some Ordering.eq) = true) :
    Calls Tryz.prog 218 #[.float .f64 b] w fun e w' => e = .returned (.int .u64 18446744073709551615) ∧ w = w' := by
  have hfb := call_Float64bits
  go_enter Tryz.func218, Tryz.ntmps218
  go_wp2
  go_ret
  exact ⟨rfl, rfl⟩
set_option maxRecDepth 100000 in
set_option maxHeartbeats 1000000 in
theorem rank_neg (b : Nat) (w : World) (h : (FloatKind.f64.format.order b b != some Ordering.eq) = false) (h0 : 9223372036854775808 ≤ b) (h1 : b < 18446744073709551616) :
    Calls Tryz.prog 218 #[.float .f64 b] w fun e w' => e = .returned (.int .u64 (18446744073709551615 - b)) ∧ w = w' := by
  have hfb := call_Float64bits
  have ha : bits .and .u64 (b : Int) 9223372036854775808 = 9223372036854775808 := by
    rw [u64_and _ _ (by omega) (by omega) (by omega) (by omega)]
    simp only [Int.toNat_natCast, show (9223372036854775808 : Int).toNat = 9223372036854775808 from rfl]
    rw [and_top b (by omega)]
    rw [if_neg (by omega)]; rfl
  go_enter Tryz.func218, Tryz.ntmps218
  go_wp2
  go_ret
  exact ⟨ret1 (xor_all b h1), rfl⟩
set_option maxRecDepth 100000 in
set_option maxHeartbeats 1000000 in
theorem rank_pos (b : Nat) (w : World) (h : (FloatKind.f64.format.order b b != some Ordering.eq) = false) (h0 : b < 9223372036854775808) :
    Calls Tryz.prog 218 #[.float .f64 b] w fun e w' => e = .returned (.int .u64 (b + 9223372036854775808)) ∧ w = w' := by
  have hfb := call_Float64bits
  have ha : bits .and .u64 (b : Int) 9223372036854775808 = 0 := by
    rw [u64_and _ _ (by omega) (by omega) (by omega) (by omega)]
    simp only [Int.toNat_natCast, show (9223372036854775808 : Int).toNat = 9223372036854775808 from rfl]
    rw [and_top b (by omega), if_pos h0]; rfl
  go_enter Tryz.func218, Tryz.ntmps218
  go_wp2
  go_ret
  refine ⟨ret1 ?_, rfl⟩
  rw [u64_or _ _ (by omega) (by omega) (by omega) (by omega)]
  simp only [Int.toNat_natCast, show (9223372036854775808 : Int).toNat = 9223372036854775808 from rfl]
  rw [or_top b h0]
  simp

/-- A float's place in the order, out of its bits. -/
def rankOf (b : Nat) : Int := if (FloatKind.f64.format.order b b != some Ordering.eq) = true then 18446744073709551615 else if b < 9223372036854775808 then b + 9223372036854775808 else 18446744073709551615 - b
theorem rank_any (b : Nat) (w : World) (hb : b < 18446744073709551616) :
    Calls Tryz.prog 218 #[.float .f64 b] w fun e w' => e = .returned (.int .u64 (rankOf b)) ∧ w = w' := by
  unfold rankOf
  by_cases h : (FloatKind.f64.format.order b b != some Ordering.eq) = true
  · rw [if_pos h]; exact rank_nan b w h
  · rw [if_neg h]
    by_cases h0 : b < 9223372036854775808
    · rw [if_pos h0]; exact rank_pos b w (by simpa using h) h0
    · rw [if_neg h0]; exact rank_neg b w (by simpa using h) (by omega) hb
theorem rankOf_range (b : Nat) (hb : b < 18446744073709551616) : 0 ≤ rankOf b ∧ rankOf b < 18446744073709551616 := by
  unfold rankOf; split
  · omega
  · split <;> omega
def cmpI (a b : Int) : Int := if a < b then -1 else if b < a then 1 else 0
set_option maxRecDepth 100000 in
set_option maxHeartbeats 1000000 in
theorem Floats_any (a b : Nat) (w : World) (ha : a < 18446744073709551616) (hb : b < 18446744073709551616) :
    Calls Tryz.prog 195 #[.float .f64 a, .float .f64 b] w fun e w' => e = .returned (.int .i64 (cmpI (rankOf a) (rankOf b))) ∧ w = w' := by
  have h1 := rankOf_range a ha
  have h2 := rankOf_range b hb
  have h3 := rank_any a w ha
  have h4 := rank_any b w hb
  generalize rankOf a = x at *
  generalize rankOf b = y at *
  have H3 := Lib.hid h3
  have H4 := Lib.hid h4
  clear h3 h4
  obtain ⟨c, hc⟩ : ∃ c, c = cmpI x y := ⟨_, rfl⟩
  rw [← hc]
  unfold cmpI at hc
  by_cases p : x < y
  · have pb : decide (x < y) = true := by simp [p]
    rw [if_pos p] at hc
    subst hc
    go_enter Tryz.func195, Tryz.ntmps195
    go_wp2_with fail
    refine (H3.out).mono ?_
    rintro e w' ⟨rfl, rfl⟩
    go_wp2_with fail
    refine (H4.out).mono ?_
    rintro e w' ⟨rfl, rfl⟩
    go_wp2
    go_ret
    exact ⟨rfl, rfl⟩
  · have pb : decide (x < y) = false := by simp [p]
    rw [if_neg p] at hc
    by_cases q : y < x
    · have qb : decide (y < x) = true := by simp [q]
      rw [if_pos q] at hc
      subst hc
      clear p
      go_enter Tryz.func195, Tryz.ntmps195
      go_wp2_with fail
      refine (H3.out).mono ?_
      rintro e w' ⟨rfl, rfl⟩
      go_wp2_with fail
      refine (H4.out).mono ?_
      rintro e w' ⟨rfl, rfl⟩
      go_wp2
      go_ret
      exact ⟨rfl, rfl⟩
    · have qb : decide (y < x) = false := by simp [q]
      rw [if_neg q] at hc
      subst hc
      clear p q
      go_enter Tryz.func195, Tryz.ntmps195
      go_wp2_with fail
      refine (H3.out).mono ?_
      rintro e w' ⟨rfl, rfl⟩
      go_wp2_with fail
      refine (H4.out).mono ?_
      rintro e w' ⟨rfl, rfl⟩
      go_wp2
      go_ret
      exact ⟨rfl, rfl⟩
theorem Floats_c1 (w : World) :
    Calls Tryz.prog 195 #[.float .f64 9223372036854775808, .float .f64 0] w fun e w' => e = .returned (.int .i64 (-1)) ∧ w = w' := by
  have h := Floats_any 9223372036854775808 0 w (by omega) (by omega)
  rwa [show cmpI (rankOf 9223372036854775808) (rankOf 0) = -1 by decide +kernel] at h
theorem Floats_c2 (w : World) :
    Calls Tryz.prog 195 #[.float .f64 9221120237041090561, .float .f64 9218868437227405312] w fun e w' => e = .returned (.int .i64 1) ∧ w = w' := by
  have h := Floats_any 9221120237041090561 9218868437227405312 w (by omega) (by omega)
  rwa [show cmpI (rankOf 9221120237041090561) (rankOf 9218868437227405312) = 1 by decide +kernel] at h
end Go.Proofs.YtgmaompjhhomcaaGreat

