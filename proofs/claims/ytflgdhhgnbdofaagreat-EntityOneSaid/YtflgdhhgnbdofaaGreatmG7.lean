/- Small facts, and the closed values that the walks of the text of 1.0 and the float of 1e5 pass. -/
/- num's integer functions: what each returns, for all integers. -/
/- The closed calls of the statements' own test of being awake: floats. -/
/- The order of double floats, worked out of their bits: two floats that are not NaN stand to each other as their bits, read as a sign and a number, do; and a float is a NaN just when it does not equal itself. For every two words of 64 bits. -/
import Derived.Test.YtflgdhhgnbdofaaGreatProg
import Derived.WalkKit
import Derived.WalkSpells
import Derived.WalkLawsBesides
import Derived.Handy
import Derived.Lib.Hide
import Derived.Lib.ConvBytes
import Derived.Deep.RegionWith
import Derived.Deep.DeepFit
import Derived.Deep.DeepMust
import Derived.Laws.BitsAllLaws
import Derived.Laws.Bits64
import Derived.Laws.MathBits
namespace Go.Proofs.YtflgdhhgnbdofaaGreat
open Go.RowKit

theorem results_tmp7 {fn : Func} {t0 t1 t2 t3 t4 t5 t6 : Tmp} (h : fn.results = #[.tmp t0, .tmp t1, .tmp t2, .tmp t3, .tmp t4, .tmp t5, .tmp t6]) (tmps : Array Value) (P : Program) (w : World) :
    (results fn tmps).run P w = .ok (.tuple #[tmps.getD t0 undef, tmps.getD t1 undef, tmps.getD t2 undef, tmps.getD t3 undef, tmps.getD t4 undef, tmps.getD t5 undef, tmps.getD t6 undef]) w := by
  simp [results, h]

abbrev s15 : ByteArray := ⟨#[48, 49, 101, 53]⟩
theorem i64_and (a b : Int) (h1 : 0 ≤ a) (h2 : a < 9223372036854775808) (h3 : 0 ≤ b) (h4 : b < 9223372036854775808) : bits .and .i64 a b = ((a.toNat &&& b.toNat : Nat) : Int) := by
  obtain ⟨x, rfl⟩ := Int.eq_ofNat_of_zero_le h1
  obtain ⟨y, rfl⟩ := Int.eq_ofNat_of_zero_le h3
  show IntKind.i64.wrap ((BitVec.ofInt 64 x &&& BitVec.ofInt 64 y).toNat : Nat) = _
  have hx : (BitVec.ofInt 64 (x : Int)).toNat = x := by rw [BitVec.toNat_ofInt]; omega
  have hy : (BitVec.ofInt 64 (y : Int)).toNat = y := by rw [BitVec.toNat_ofInt]; omega
  rw [BitVec.toNat_and, hx, hy, IntKind.wrap_i64]
  have := Nat.and_le_left (n := x) (m := y)
  simp only [Int.toNat_natCast]
  omega
theorem closedKit : (∀ n : Int, IntKind.u64.wrap n = n % 18446744073709551616) ∧
    (∀ a b : Int, 0 ≤ a → a < 18446744073709551616 → 0 ≤ b → b < 18446744073709551616 → bits .and .u64 a b = ((a.toNat &&& b.toNat : Nat) : Int)) ∧
    (∀ a b : Int, 0 ≤ a → a < 18446744073709551616 → 0 ≤ b → b < 18446744073709551616 → bits .or .u64 a b = ((a.toNat ||| b.toNat : Nat) : Int)) ∧
    (∀ a b : Int, 0 ≤ a → a < 9223372036854775808 → 0 ≤ b → b < 9223372036854775808 → bits .and .i64 a b = ((a.toNat &&& b.toNat : Nat) : Int)) :=
  ⟨IntKind.wrap_u64, u64_and, u64_or, i64_and⟩
theorem cell_alloc3 (w : World) (b i : Nat) (h : b < w.heap.size) (o1 o2 o3 : Obj) : (((w.alloc o1).alloc o2).alloc o3).drew.drew.cell? ⟨b, i, none⟩ = w.cell? ⟨b, i, none⟩ := by
  show (((w.alloc o1).alloc o2).alloc o3).cell? ⟨b, i, none⟩ = _
  rw [World.cell?_alloc_lt _ _ _ (by simp; omega), World.cell?_alloc_lt _ _ _ (by simp; omega), World.cell?_alloc_lt _ _ _ (by simp; omega)]
theorem cell_alloc2 (w : World) (b i : Nat) (h : b < w.heap.size) (o1 o2 : Obj) : ((w.alloc o1).alloc o2).drew.cell? ⟨b, i, none⟩ = w.cell? ⟨b, i, none⟩ := by
  show ((w.alloc o1).alloc o2).cell? ⟨b, i, none⟩ = _
  rw [World.cell?_alloc_lt _ _ _ (by simp; omega), World.cell?_alloc_lt _ _ _ (by simp; omega)]
theorem bcell {W w1 : World} (hb : Below W.heap.size W w1) : (∀ b o, b < W.heap.size → w1.cell? ⟨b, o, none⟩ = W.cell? ⟨b, o, none⟩) ∧ (∀ b o, b < W.heap.size → w1.frozen? ⟨b, o, none⟩ = W.frozen? ⟨b, o, none⟩) :=
  ⟨fun b o h => hb.cell (p := ⟨b, o, none⟩) h, fun b o h => hb.frozen (p := ⟨b, o, none⟩) h⟩
abbrev z24 : Array Value := #[.int .u8 0, .int .u8 0, .int .u8 0, .int .u8 0, .int .u8 0, .int .u8 0, .int .u8 0, .int .u8 0, .int .u8 0, .int .u8 0, .int .u8 0, .int .u8 0, .int .u8 0, .int .u8 0, .int .u8 0, .int .u8 0, .int .u8 0, .int .u8 0, .int .u8 0, .int .u8 0, .int .u8 0, .int .u8 0, .int .u8 0, .int .u8 0]
abbrev z32 : Array Value := #[.int .u8 0, .int .u8 0, .int .u8 0, .int .u8 0, .int .u8 0, .int .u8 0, .int .u8 0, .int .u8 0, .int .u8 0, .int .u8 0, .int .u8 0, .int .u8 0, .int .u8 0, .int .u8 0, .int .u8 0, .int .u8 0, .int .u8 0, .int .u8 0, .int .u8 0, .int .u8 0, .int .u8 0, .int .u8 0, .int .u8 0, .int .u8 0, .int .u8 0, .int .u8 0, .int .u8 0, .int .u8 0, .int .u8 0, .int .u8 0, .int .u8 0, .int .u8 0]
abbrev d32 : Array Value := #[.int .u8 49, .int .u8 48, .int .u8 48, .int .u8 48, .int .u8 48, .int .u8 48, .int .u8 48, .int .u8 48, .int .u8 48, .int .u8 48, .int .u8 48, .int .u8 48, .int .u8 48, .int .u8 48, .int .u8 48, .int .u8 48, .int .u8 0, .int .u8 0, .int .u8 0, .int .u8 0, .int .u8 0, .int .u8 0, .int .u8 0, .int .u8 0, .int .u8 0, .int .u8 0, .int .u8 0, .int .u8 0, .int .u8 0, .int .u8 0, .int .u8 0, .int .u8 0]
end Go.Proofs.YtflgdhhgnbdofaaGreat

namespace Go.Proofs.YtflgdhhgnbdofaaGreat
open Go.RowKit

theorem tup2 {a b c d : Int} {k l : IntKind} (h1 : a = c) (h2 : b = d) : Ending.returned (.tuple #[.int k a, .int l b]) = .returned (.tuple #[.int k c, .int l d]) := by rw [h1, h2]
theorem ret1 {k : IntKind} {a b : Int} (h : a = b) : Ending.returned (.int k a) = .returned (.int k b) := by rw [h]

/-- How a sum, difference, product, quotient is told: the number and OK, or nothing and ErrOverflow. -/
def fits (z : Int) : Prop := -9223372036854775808 ≤ z ∧ z ≤ 9223372036854775807

/-- Two sizes' product, in two words: what the walk needs of it. -/
theorem two_words (a b z : Int) (hz : z = a * b) (h : z.natAbs < 18446744073709551616) : (a.natAbs : Int) * b.natAbs / 18446744073709551616 = 0 ∧ (a.natAbs : Int) * b.natAbs % 18446744073709551616 = z.natAbs := by
  have e : (a.natAbs : Int) * b.natAbs = z.natAbs := by rw [hz, Int.natAbs_mul]; simp
  rw [e]; omega

theorem negw (s : Int) (h0 : 0 ≤ s) (h1 : s ≤ 9223372036854775808) : wrap64 (IntKind.u64.wrap (-s)) = -s := by
  simp only [wrap64, IntKind.wrap_u64]; omega

/-- Go's quotient and rest out of the sizes'. -/
theorem tdiv_of (a b s : Int) (hs : (a.natAbs : Int) / b.natAbs = s) : a.tdiv b = if (decide (a < 0) != decide (b < 0)) = true then -s else s := by
  subst hs
  by_cases p : a < 0 <;> by_cases q : b < 0
  · obtain ⟨x, rfl⟩ : ∃ x, a = -x := ⟨-a, by omega⟩
    obtain ⟨y, rfl⟩ : ∃ y, b = -y := ⟨-b, by omega⟩
    have e1 : ((-x).natAbs : Int) = x := by omega
    have e2 : ((-y).natAbs : Int) = y := by omega
    rw [e1, e2, Int.neg_tdiv, Int.tdiv_neg, Int.tdiv_eq_ediv_of_nonneg (by omega)]
    rw [if_neg (by rw [decide_eq_true p, decide_eq_true q]; decide)]
    omega
  · obtain ⟨x, rfl⟩ : ∃ x, a = -x := ⟨-a, by omega⟩
    have e1 : ((-x).natAbs : Int) = x := by omega
    have e2 : (b.natAbs : Int) = b := by omega
    rw [e1, e2, Int.neg_tdiv, Int.tdiv_eq_ediv_of_nonneg (by omega)]
    rw [if_pos (by rw [decide_eq_true p, decide_eq_false q]; decide)]
  · obtain ⟨y, rfl⟩ : ∃ y, b = -y := ⟨-b, by omega⟩
    have e1 : (a.natAbs : Int) = a := by omega
    have e2 : ((-y).natAbs : Int) = y := by omega
    rw [e1, e2, Int.tdiv_neg, Int.tdiv_eq_ediv_of_nonneg (by omega)]
    rw [if_pos (by rw [decide_eq_false p, decide_eq_true q]; decide)]
  · have e1 : (a.natAbs : Int) = a := by omega
    have e2 : (b.natAbs : Int) = b := by omega
    rw [e1, e2, Int.tdiv_eq_ediv_of_nonneg (by omega)]
    rw [if_neg (by simp [p, q])]
theorem tmod_of (a b s : Int) (hs : (a.natAbs : Int) % b.natAbs = s) : a.tmod b = if a < 0 then -s else s := by
  have hb : (b.natAbs : Int) = b ∨ (b.natAbs : Int) = -b := by omega
  have e3 : ∀ x : Int, x.tmod b = x.tmod b.natAbs := fun x => by
    rcases hb with h | h
    · rw [h]
    · rw [h, Int.tmod_neg]
  rw [e3]
  by_cases p : a < 0
  · obtain ⟨x, rfl⟩ : ∃ x, a = -x := ⟨-a, by omega⟩
    have e1 : ((-x).natAbs : Int) = x := by omega
    rw [e1] at hs
    rw [Int.neg_tmod, Int.tmod_eq_emod_of_nonneg (by omega), hs, if_pos p]
  · have e1 : (a.natAbs : Int) = a := by omega
    rw [e1] at hs
    rw [Int.tmod_eq_emod_of_nonneg (by omega), hs, if_neg p]

end Go.Proofs.YtflgdhhgnbdofaaGreat

namespace Go.Proofs.YtflgdhhgnbdofaaGreat
open Go.RowKit
theorem call_Float64bits (b : Nat) (w : World) : (callFunc 121 #[.float .f64 b]).run Tryz.prog w = .ok (.value (.int .u64 b)) w := by kernel_rfl
theorem call_Float64frombits (n : Int) (w : World) : (callFunc 173 #[.int .u64 n]).run Tryz.prog w = .ok (.value (.float .f64 n.toNat)) w := by kernel_rfl
set_option maxRecDepth 100000 in
set_option maxHeartbeats 1000000 in
theorem Mixed_c1 (w : World) :
    Calls Tryz.prog 234 #[.int .i64 9007199254740993, .float .f64 4845873199050653696] w fun e w' => e = .returned (.int .i64 1) ∧ w = w' := by
  have hfb := call_Float64bits
  have hff := call_Float64frombits
  have hc : ∀ w, (convert 29 2 (.float .f64 4845873199050653696)).run Tryz.prog w = .ok (.int .i64 9007199254740992) w := fun _ => by kernel_rfl
  go_enter Tryz.func234, Tryz.ntmps234
  go_wp2
  go_ret
  exact ⟨by kernel_rfl, rfl⟩
set_option maxRecDepth 100000 in
set_option maxHeartbeats 1000000 in
theorem Mixed_c2 (w : World) :
    Calls Tryz.prog 234 #[.int .i64 5, .float .f64 9221120237041090561] w fun e w' => e = .returned (.int .i64 (-1)) ∧ w = w' := by
  have hfb := call_Float64bits
  have hff := call_Float64frombits
  go_enter Tryz.func234, Tryz.ntmps234
  go_wp2
  go_ret
  exact ⟨by kernel_rfl, rfl⟩
set_option maxRecDepth 100000 in
set_option maxHeartbeats 1000000 in
theorem Copysign_c (w : World) :
    Calls Tryz.prog 262 #[.float .f64 0, .float .f64 13830554455654793216] w fun e w' => e = .returned (.float .f64 9223372036854775808) ∧ w = w' := by
  have hfb := call_Float64bits
  have hff := call_Float64frombits
  go_enter Tryz.func262, Tryz.ntmps262
  go_wp2
  go_ret
  exact ⟨by kernel_rfl, rfl⟩
theorem and_top (b : Nat) (h : b < 18446744073709551616) : b &&& 9223372036854775808 = if b < 9223372036854775808 then 0 else 9223372036854775808 := by
  have e : (9223372036854775808 : Nat) = 2 ^ 63 := by decide
  rw [e]
  apply Nat.eq_of_testBit_eq
  intro i
  rw [Nat.testBit_and, Nat.testBit_two_pow]
  by_cases hi : 63 = i
  · subst hi
    by_cases p : b < 2 ^ 63
    · rw [if_pos p, Nat.testBit_eq_decide_div_mod_eq, Nat.div_eq_of_lt p]; simp
    · have q : b / 2 ^ 63 = 1 := by omega
      rw [if_neg p, Nat.testBit_eq_decide_div_mod_eq, q, Nat.testBit_two_pow]; simp
  · by_cases p : b < 2 ^ 63
    · rw [if_pos p]; simp [hi]
    · rw [if_neg p, Nat.testBit_two_pow]; simp [hi]
theorem or_top (b : Nat) (h : b < 9223372036854775808) : b ||| 9223372036854775808 = b + 9223372036854775808 := by
  have e : (9223372036854775808 : Nat) = 2 ^ 63 := by decide
  have := Nat.two_pow_add_eq_or_of_lt (i := 63) (b := b) (by omega) 1
  rw [e, Nat.or_comm, Nat.add_comm]
  simpa using this.symm
theorem xor_all (b : Nat) (h : b < 18446744073709551616) : bits .xor .u64 IntKind.u64.max (b : Int) = 18446744073709551615 - b := by
  show IntKind.u64.wrap ((BitVec.ofInt 64 18446744073709551615 ^^^ BitVec.ofInt 64 b).toNat : Nat) = _
  have e : BitVec.ofInt 64 18446744073709551615 = BitVec.allOnes 64 := by decide
  have hb : (BitVec.ofInt 64 (b : Int)).toNat = b := by rw [BitVec.toNat_ofInt]; omega
  rw [e, BitVec.allOnes_xor, BitVec.toNat_not, hb, IntKind.wrap_u64]
  omega
set_option maxRecDepth 100000 in
set_option maxHeartbeats 1000000 in
theorem rank_nan (b : Nat) (w : World) (h : (FloatKind.f64.format.order b b != some Ordering.eq) = true) :
    Calls Tryz.prog 235 #[.float .f64 b] w fun e w' => e = .returned (.int .u64 18446744073709551615) ∧ w = w' := by
  have hfb := call_Float64bits
  go_enter Tryz.func235, Tryz.ntmps235
  go_wp2
  go_ret
  exact ⟨rfl, rfl⟩
set_option maxRecDepth 100000 in
set_option maxHeartbeats 1000000 in
theorem rank_neg (b : Nat) (w : World) (h : (FloatKind.f64.format.order b b != some Ordering.eq) = false) (h0 : 9223372036854775808 ≤ b) (h1 : b < 18446744073709551616) :
    Calls Tryz.prog 235 #[.float .f64 b] w fun e w' => e = .returned (.int .u64 (18446744073709551615 - b)) ∧ w = w' := by
  have hfb := call_Float64bits
  have ha : bits .and .u64 (b : Int) 9223372036854775808 = 9223372036854775808 := by
    rw [u64_and _ _ (by omega) (by omega) (by omega) (by omega)]
    simp only [Int.toNat_natCast, show (9223372036854775808 : Int).toNat = 9223372036854775808 from rfl]
    rw [and_top b (by omega)]
    rw [if_neg (by omega)]; rfl
  go_enter Tryz.func235, Tryz.ntmps235
  go_wp2
  go_ret
  exact ⟨ret1 (xor_all b h1), rfl⟩
set_option maxRecDepth 100000 in
set_option maxHeartbeats 1000000 in
theorem rank_pos (b : Nat) (w : World) (h : (FloatKind.f64.format.order b b != some Ordering.eq) = false) (h0 : b < 9223372036854775808) :
    Calls Tryz.prog 235 #[.float .f64 b] w fun e w' => e = .returned (.int .u64 (b + 9223372036854775808)) ∧ w = w' := by
  have hfb := call_Float64bits
  have ha : bits .and .u64 (b : Int) 9223372036854775808 = 0 := by
    rw [u64_and _ _ (by omega) (by omega) (by omega) (by omega)]
    simp only [Int.toNat_natCast, show (9223372036854775808 : Int).toNat = 9223372036854775808 from rfl]
    rw [and_top b (by omega), if_pos h0]; rfl
  go_enter Tryz.func235, Tryz.ntmps235
  go_wp2
  go_ret
  refine ⟨ret1 ?_, rfl⟩
  rw [u64_or _ _ (by omega) (by omega) (by omega) (by omega)]
  simp only [Int.toNat_natCast, show (9223372036854775808 : Int).toNat = 9223372036854775808 from rfl]
  rw [or_top b h0]
  simp

/-- A float's place in the order, out of its bits. -/
def rankOf (b : Nat) : Int := if (FloatKind.f64.format.order b b != some Ordering.eq) = true then 18446744073709551615 else if b < 9223372036854775808 then b + 9223372036854775808 else 18446744073709551615 - b
theorem rank_any (b : Nat) (w : World) (hb : b < 18446744073709551616) :
    Calls Tryz.prog 235 #[.float .f64 b] w fun e w' => e = .returned (.int .u64 (rankOf b)) ∧ w = w' := by
  unfold rankOf
  by_cases h : (FloatKind.f64.format.order b b != some Ordering.eq) = true
  · rw [if_pos h]; exact rank_nan b w h
  · rw [if_neg h]
    by_cases h0 : b < 9223372036854775808
    · rw [if_pos h0]; exact rank_pos b w (by simpa using h) h0
    · rw [if_neg h0]; exact rank_neg b w (by simpa using h) (by omega) hb
theorem rankOf_range (b : Nat) (hb : b < 18446744073709551616) : 0 ≤ rankOf b ∧ rankOf b < 18446744073709551616 := by
  unfold rankOf; split
  · omega
  · split <;> omega
def cmpI (a b : Int) : Int := if a < b then -1 else if b < a then 1 else 0
set_option maxRecDepth 100000 in
set_option maxHeartbeats 1000000 in
theorem Floats_any (a b : Nat) (w : World) (ha : a < 18446744073709551616) (hb : b < 18446744073709551616) :
    Calls Tryz.prog 225 #[.float .f64 a, .float .f64 b] w fun e w' => e = .returned (.int .i64 (cmpI (rankOf a) (rankOf b))) ∧ w = w' := by
  have h1 := rankOf_range a ha
  have h2 := rankOf_range b hb
  have h3 := rank_any a w ha
  have h4 := rank_any b w hb
  generalize rankOf a = x at *
  generalize rankOf b = y at *
  have H3 := Lib.hid h3
  have H4 := Lib.hid h4
  clear h3 h4
  obtain ⟨c, hc⟩ : ∃ c, c = cmpI x y := ⟨_, rfl⟩
  rw [← hc]
  unfold cmpI at hc
  by_cases p : x < y
  · have pb : decide (x < y) = true := by simp [p]
    rw [if_pos p] at hc
    subst hc
    go_enter Tryz.func225, Tryz.ntmps225
    go_wp2_with fail
    refine (H3.out).mono ?_
    rintro e w' ⟨rfl, rfl⟩
    go_wp2_with fail
    refine (H4.out).mono ?_
    rintro e w' ⟨rfl, rfl⟩
    go_wp2
    go_ret
    exact ⟨rfl, rfl⟩
  · have pb : decide (x < y) = false := by simp [p]
    rw [if_neg p] at hc
    by_cases q : y < x
    · have qb : decide (y < x) = true := by simp [q]
      rw [if_pos q] at hc
      subst hc
      clear p
      go_enter Tryz.func225, Tryz.ntmps225
      go_wp2_with fail
      refine (H3.out).mono ?_
      rintro e w' ⟨rfl, rfl⟩
      go_wp2_with fail
      refine (H4.out).mono ?_
      rintro e w' ⟨rfl, rfl⟩
      go_wp2
      go_ret
      exact ⟨rfl, rfl⟩
    · have qb : decide (y < x) = false := by simp [q]
      rw [if_neg q] at hc
      subst hc
      clear p q
      go_enter Tryz.func225, Tryz.ntmps225
      go_wp2_with fail
      refine (H3.out).mono ?_
      rintro e w' ⟨rfl, rfl⟩
      go_wp2_with fail
      refine (H4.out).mono ?_
      rintro e w' ⟨rfl, rfl⟩
      go_wp2
      go_ret
      exact ⟨rfl, rfl⟩
theorem Floats_c1 (w : World) :
    Calls Tryz.prog 225 #[.float .f64 9223372036854775808, .float .f64 0] w fun e w' => e = .returned (.int .i64 (-1)) ∧ w = w' := by
  have h := Floats_any 9223372036854775808 0 w (by omega) (by omega)
  rwa [show cmpI (rankOf 9223372036854775808) (rankOf 0) = -1 by decide +kernel] at h
theorem Floats_c2 (w : World) :
    Calls Tryz.prog 225 #[.float .f64 9221120237041090561, .float .f64 9218868437227405312] w fun e w' => e = .returned (.int .i64 1) ∧ w = w' := by
  have h := Floats_any 9221120237041090561 9218868437227405312 w (by omega) (by omega)
  rwa [show cmpI (rankOf 9221120237041090561) (rankOf 9218868437227405312) = 1 by decide +kernel] at h
end Go.Proofs.YtflgdhhgnbdofaaGreat

namespace Go.Proofs.YtflgdhhgnbdofaaGreat
open Ieee

/-- What a rung stands for, in units of the least place. -/
def valR (r : Nat) : Nat := if r < 4503599627370496 then r else (4503599627370496 + r % 4503599627370496) * 2 ^ (r / 4503599627370496 - 1)
theorem valR_mono {r s : Nat} (h : r < s) : valR r < valR s := by
  unfold valR
  by_cases p : s < 4503599627370496
  · rw [if_pos p, if_pos (by omega)]; exact h
  · rw [if_neg p]
    by_cases q : r < 4503599627370496
    · rw [if_pos q]
      have t : 1 ≤ 2 ^ (s / 4503599627370496 - 1) := Nat.one_le_two_pow
      have u := Nat.mul_le_mul_left (4503599627370496 + s % 4503599627370496) t
      omega
    · rw [if_neg q]
      rcases Nat.lt_or_ge (r / 4503599627370496) (s / 4503599627370496) with g | g
      · have e : 2 ^ (r / 4503599627370496 - 1) * 2 ≤ 2 ^ (s / 4503599627370496 - 1) := by
          rw [← Nat.pow_succ]; exact Nat.pow_le_pow_right (by omega) (by omega)
        have hx : 0 < 2 ^ (r / 4503599627370496 - 1) := Nat.two_pow_pos _
        generalize 2 ^ (r / 4503599627370496 - 1) = x at *
        generalize 2 ^ (s / 4503599627370496 - 1) = y at *
        have h1 : (4503599627370496 + r % 4503599627370496) * x < (2 * 4503599627370496) * x := Nat.mul_lt_mul_of_pos_right (by omega) hx
        have h2 : 4503599627370496 * y ≤ (4503599627370496 + s % 4503599627370496) * y := Nat.mul_le_mul_right _ (by omega)
        omega
      · have e : r / 4503599627370496 = s / 4503599627370496 := by omega
        rw [e]
        exact Nat.mul_lt_mul_of_pos_right (by omega) (Nat.two_pow_pos _)
theorem valR_lt (r s : Nat) : valR r < valR s ↔ r < s := by
  constructor
  · intro h
    rcases Nat.lt_or_ge r s with g | g
    · exact g
    · rcases Nat.eq_or_lt_of_le g with e | e
      · subst e; omega
      · have := valR_mono e; omega
  · exact valR_mono
theorem valR_pos (r : Nat) (h : 0 < r) : 0 < valR r := by
  have := valR_mono h
  omega

/-- A float's sign and rung as one number. -/
def keyF (b : Nat) : Int := if b < 9223372036854775808 then b else 9223372036854775808 - (b : Int)
/-- The same in units of the least place. -/
def valF (b : Nat) : Int := if b < 9223372036854775808 then valR b else -(valR (b - 9223372036854775808) : Int)

theorem valF_lt (a b : Nat) : valF a < valF b ↔ keyF a < keyF b := by
  unfold valF keyF
  have m := valR_lt
  have z : valR 0 = 0 := by decide
  have p : ∀ r, valR r = 0 ↔ r = 0 := fun r => by
    constructor
    · intro h
      rcases Nat.eq_zero_or_pos r with e | e
      · exact e
      · have := valR_pos r e; omega
    · rintro rfl; exact z
  by_cases ha : a < 9223372036854775808 <;> by_cases hb : b < 9223372036854775808
  · rw [if_pos ha, if_pos hb, if_pos ha, if_pos hb]; have := m a b; omega
  · rw [if_pos ha, if_neg hb, if_pos ha, if_neg hb]; omega
  · rw [if_neg ha, if_pos hb, if_neg ha, if_pos hb]
    have h1 := p (a - 9223372036854775808); have h2 := p b
    omega
  · rw [if_neg ha, if_neg hb, if_neg ha, if_neg hb]
    have h1 := m (b - 9223372036854775808) (a - 9223372036854775808)
    omega

theorem compare_cong (x y x' y' : Int) (h : x < y ↔ x' < y') (g : y < x ↔ y' < x') : compare x y = compare x' y' := by
  show compareOfLessAndEq x y = compareOfLessAndEq x' y'
  unfold compareOfLessAndEq
  by_cases p : x < y
  · rw [if_pos p, if_pos (h.1 p)]
  · rw [if_neg p, if_neg (fun t => p (h.2 t))]
    by_cases q : x = y
    · rw [if_pos q, if_pos (by omega)]
    · rw [if_neg q, if_neg (by omega)]

theorem signed_eq (s : Bool) (m k : Nat) : signed s m k = (if s then -1 else 1) * (m * 2 ^ k : Nat) := by
  unfold signed
  rw [Nat.shiftLeft_eq]
  cases s <;> simp

/-- The three ways a word of 64 bits is read. -/
theorem read_number (b : Nat) (hb : b < 18446744073709551616) (h : b % 9223372036854775808 < 9218868437227405312) :
    ∃ m e : Nat, double.read b = .number (decide (9223372036854775808 ≤ b)) m (double.leastPlace + e) ∧ m * 2 ^ e = valR (b % 9223372036854775808) ∧ m < 9007199254740992 := by
  have hs : double.signWeight = 9223372036854775808 := by decide
  have hB : double.binade = 4503599627370496 := by decide
  have hI : double.infRung = 9218868437227405312 := by decide
  have hn : (b / 9223372036854775808 % 2 == 1) = decide (9223372036854775808 ≤ b) := by
    by_cases p : 9223372036854775808 ≤ b
    · have : b / 9223372036854775808 = 1 := by omega
      simp [p, this]
    · have : b / 9223372036854775808 = 0 := by omega
      simp [p, this]
  unfold Format.read valR
  simp only [hs, hB, hI, hn]
  by_cases p : b % 9223372036854775808 < 4503599627370496
  · rw [if_pos p, if_pos p]
    exact ⟨b % 9223372036854775808, 0, by simp, by simp, by omega⟩
  · rw [if_neg p, if_neg p, if_pos h]
    exact ⟨_, _, rfl, rfl, by omega⟩
theorem read_inf (b : Nat) (hb : b < 18446744073709551616) (h : b % 9223372036854775808 = 9218868437227405312) :
    double.read b = .infinity (decide (9223372036854775808 ≤ b)) := by
  have hs : double.signWeight = 9223372036854775808 := by decide
  have hB : double.binade = 4503599627370496 := by decide
  have hI : double.infRung = 9218868437227405312 := by decide
  have hn : (b / 9223372036854775808 % 2 == 1) = decide (9223372036854775808 ≤ b) := by
    by_cases p : 9223372036854775808 ≤ b
    · have : b / 9223372036854775808 = 1 := by omega
      simp [p, this]
    · have : b / 9223372036854775808 = 0 := by omega
      simp [p, this]
  unfold Format.read
  simp only [hs, hB, hI, hn, h]
  simp
theorem read_nan (b : Nat) (h : 9218868437227405312 < b % 9223372036854775808) :
    ∃ s t, double.read b = .nan s t := by
  have hs : double.signWeight = 9223372036854775808 := by decide
  have hB : double.binade = 4503599627370496 := by decide
  have hI : double.infRung = 9218868437227405312 := by decide
  unfold Format.read
  simp only [hs, hB, hI]
  rw [if_neg (by omega), if_neg (by omega), if_neg (by omega)]
  exact ⟨_, _, rfl⟩

theorem valF_eq (b : Nat) (hb : b < 18446744073709551616) : valF b = (if decide (9223372036854775808 ≤ b) = true then -1 else 1) * (valR (b % 9223372036854775808) : Int) := by
  unfold valF
  by_cases p : b < 9223372036854775808
  · have e : b % 9223372036854775808 = b := by omega
    rw [if_pos p, if_neg (by simp; omega), e]; omega
  · have e : b % 9223372036854775808 = b - 9223372036854775808 := by omega
    rw [if_neg p, if_pos (by simp; omega), e]; omega

/-- One number against another. -/
theorem order_numbers (a b : Nat) (ha : a < 18446744073709551616) (hb : b < 18446744073709551616)
    (ra : a % 9223372036854775808 < 9218868437227405312) (rb : b % 9223372036854775808 < 9218868437227405312) :
    double.order a b = some (compare (keyF a) (keyF b)) := by
  obtain ⟨m, i, h1, h2, _⟩ := read_number a ha ra
  obtain ⟨n, j, h3, h4, _⟩ := read_number b hb rb
  unfold Format.order
  rw [h1, h3]
  unfold Datum.order
  simp only [Option.some.injEq]
  rw [signed_eq, signed_eq]
  have k1 : (double.leastPlace + (i : Int) - min (double.leastPlace + (i : Int)) (double.leastPlace + (j : Int))).toNat = i - min i j := by omega
  have k2 : (double.leastPlace + (j : Int) - min (double.leastPlace + (i : Int)) (double.leastPlace + (j : Int))).toNat = j - min i j := by omega
  rw [k1, k2]
  have p1 : m * 2 ^ (i - min i j) * 2 ^ min i j = valR (a % 9223372036854775808) := by
    rw [Nat.mul_assoc, ← Nat.pow_add, Nat.sub_add_cancel (Nat.min_le_left _ _), h2]
  have p2 : n * 2 ^ (j - min i j) * 2 ^ min i j = valR (b % 9223372036854775808) := by
    rw [Nat.mul_assoc, ← Nat.pow_add, Nat.sub_add_cancel (Nat.min_le_right _ _), h4]
  have hx : (0 : Int) < (2 ^ min i j : Nat) := by exact_mod_cast Nat.two_pow_pos _
  have w1 := valF_eq a ha
  have w2 := valF_eq b hb
  rw [← p1] at w1
  rw [← p2] at w2
  generalize m * 2 ^ (i - min i j) = M at *
  generalize n * 2 ^ (j - min i j) = N at *
  generalize (2 ^ min i j : Nat) = x at *
  generalize (if decide (9223372036854775808 ≤ a) = true then (-1 : Int) else 1) = s at *
  generalize (if decide (9223372036854775808 ≤ b) = true then (-1 : Int) else 1) = t at *
  have v1 : valF a = s * (M : Int) * (x : Int) := by rw [w1, Int.natCast_mul, Int.mul_assoc]
  have v2 : valF b = t * (N : Int) * (x : Int) := by rw [w2, Int.natCast_mul, Int.mul_assoc]
  have q1 := valF_lt a b
  have q2 := valF_lt b a
  rw [v1, v2] at q1 q2
  apply compare_cong
  · rw [← q1]; exact (Int.mul_lt_mul_right hx).symm
  · rw [← q2]; exact (Int.mul_lt_mul_right hx).symm

/-- Two floats that are no NaN stand to each other as their signs and rungs do. -/
theorem order_any (a b : Nat) (ha : a < 18446744073709551616) (hb : b < 18446744073709551616)
    (ra : a % 9223372036854775808 ≤ 9218868437227405312) (rb : b % 9223372036854775808 ≤ 9218868437227405312) :
    double.order a b = some (compare (keyF a) (keyF b)) := by
  rcases Nat.lt_or_eq_of_le ra with ca | ca <;> rcases Nat.lt_or_eq_of_le rb with cb | cb
  · exact order_numbers a b ha hb ca cb
  · obtain ⟨m, i, h1, h2, _⟩ := read_number a ha ca
    have h3 := read_inf b hb cb
    unfold Format.order
    rw [h1, h3]
    unfold Datum.order
    simp only [Option.some.injEq]
    show _ = compareOfLessAndEq _ _
    unfold compareOfLessAndEq keyF
    by_cases p : 9223372036854775808 ≤ b
    · rw [if_pos (by simp [p]), if_neg, if_neg] <;> (repeat' split) <;> omega
    · rw [if_neg (by simp; omega), if_pos]; (repeat' split) <;> omega
  · obtain ⟨m, i, h1, h2, _⟩ := read_number b hb cb
    have h3 := read_inf a ha ca
    unfold Format.order
    rw [h1, h3]
    unfold Datum.order
    simp only [Option.some.injEq]
    show _ = compareOfLessAndEq _ _
    unfold compareOfLessAndEq keyF
    by_cases p : 9223372036854775808 ≤ a
    · rw [if_pos (by simp [p]), if_pos]; (repeat' split) <;> omega
    · rw [if_neg (by simp; omega), if_neg, if_neg] <;> (repeat' split) <;> omega
  · have h1 := read_inf a ha ca
    have h3 := read_inf b hb cb
    unfold Format.order
    rw [h1, h3]
    unfold Datum.order keyF
    have ea : a = 9218868437227405312 ∨ a = 18442240474082181120 := by omega
    have eb : b = 9218868437227405312 ∨ b = 18442240474082181120 := by omega
    rcases ea with rfl | rfl <;> rcases eb with rfl | rfl <;> decide

/-- A NaN stands to nothing. -/
theorem order_nan (a b : Nat) (ra : 9218868437227405312 < a % 9223372036854775808) : double.order a b = none := by
  obtain ⟨s, t, h⟩ := read_nan a ra
  unfold Format.order
  rw [h]
  cases double.read b <;> rfl
theorem order_nan' (a b : Nat) (ra : 9218868437227405312 < b % 9223372036854775808) : double.order a b = none := by
  obtain ⟨s, t, h⟩ := read_nan b ra
  unfold Format.order
  rw [h]
  cases double.read a <;> rfl
/-- A float that equals itself is no NaN. -/
theorem self_any (b : Nat) (hb : b < 18446744073709551616) : (FloatKind.f64.format.order b b != some Ordering.eq) = decide (9218868437227405312 < b % 9223372036854775808) := by
  show (double.order b b != some Ordering.eq) = _
  by_cases p : 9218868437227405312 < b % 9223372036854775808
  · rw [order_nan b b p]; simp [p]
  · rw [order_any b b hb hb (by omega) (by omega)]
    have e : compare (keyF b) (keyF b) = Ordering.eq := by
      show compareOfLessAndEq _ _ = _
      unfold compareOfLessAndEq
      rw [if_neg (by omega), if_pos rfl]
    rw [e]; simp [p]
end Go.Proofs.YtflgdhhgnbdofaaGreat

