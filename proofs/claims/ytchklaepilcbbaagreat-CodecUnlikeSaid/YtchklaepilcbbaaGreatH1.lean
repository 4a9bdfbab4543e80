/- Small facts, and the closed values that the walks of the text of 1.0 and the float of 1e5 pass. -/
import Derived.Test.YtchklaepilcbbaaGreatProg
import Derived.WalkKit
import Derived.WalkSpells
import Derived.WalkLawsBesides
import Derived.Handy
import Derived.Lib.Hide
import Derived.Lib.ConvBytes
import Derived.Deep.RegionWith
import Derived.Deep.DeepFit
import Derived.Deep.DeepMust
import Derived.Laws.BitsAllLaws
import Derived.Laws.Bits64
import Derived.Laws.MathBits
import Derived.Deep.DeepCutAuto
import Derived.Deep.QuietTactic
import Derived.BigQuiet
import Derived.Deep.RegionHeld3
import Derived.Lib.Bytealg
import Derived.Test.YtchklaepilcbbaaGreatRows
import Derived.Lib.SmallJoins
import Derived.Laws.Cover2
import Derived.ProofKit
import Derived.Carry
import Derived.ChangeSlices
import Derived.Deep.Slices
namespace Go.Proofs.YtchklaepilcbbaaGreat
open Go.RowKit

theorem results_tmp7 {fn : Func} {t0 t1 t2 t3 t4 t5 t6 : Tmp} (h : fn.results = #[.tmp t0, .tmp t1, .tmp t2, .tmp t3, .tmp t4, .tmp t5, .tmp t6]) (tmps : Array Value) (P : Program) (w : World) :
    (results fn tmps).run P w = .ok (.tuple #[tmps.getD t0 undef, tmps.getD t1 undef, tmps.getD t2 undef, tmps.getD t3 undef, tmps.getD t4 undef, tmps.getD t5 undef, tmps.getD t6 undef]) w := by
  simp [results, h]

abbrev s15 : ByteArray := ⟨#[48, 49, 101, 53]⟩
theorem i64_and (a b : Int) (h1 : 0 ≤ a) (h2 : a < 9223372036854775808) (h3 : 0 ≤ b) (h4 : b < 9223372036854775808) : bits .and .i64 a b = ((a.toNat &&& b.toNat : Nat) : Int) := by
  obtain ⟨x, rfl⟩ := Int.eq_ofNat_of_zero_le h1
  obtain ⟨y, rfl⟩ := Int.eq_ofNat_of_zero_le h3
  show IntKind.i64.wrap ((BitVec.ofInt 64 x &&& BitVec.ofInt 64 y).toNat : Nat) = _
  have hx : (BitVec.ofInt 64 (x : Int)).toNat = x := by rw [BitVec.toNat_ofInt]; omega
  have hy : (BitVec.ofInt 64 (y : Int)).toNat = y := by rw [BitVec.toNat_ofInt]; omega
  rw [BitVec.toNat_and, hx, hy, IntKind.wrap_i64]
  have := Nat.and_le_left (n := x) (m := y)
  simp only [Int.toNat_natCast]
  omega
theorem closedKit : (∀ n : Int, IntKind.u64.wrap n = n % 18446744073709551616) ∧
    (∀ a b : Int, 0 ≤ a → a < 18446744073709551616 → 0 ≤ b → b < 18446744073709551616 → bits .and .u64 a b = ((a.toNat &&& b.toNat : Nat) : Int)) ∧
    (∀ a b : Int, 0 ≤ a → a < 18446744073709551616 → 0 ≤ b → b < 18446744073709551616 → bits .or .u64 a b = ((a.toNat ||| b.toNat : Nat) : Int)) ∧
    (∀ a b : Int, 0 ≤ a → a < 9223372036854775808 → 0 ≤ b → b < 9223372036854775808 → bits .and .i64 a b = ((a.toNat &&& b.toNat : Nat) : Int)) :=
  ⟨IntKind.wrap_u64, u64_and, u64_or, i64_and⟩
theorem cell_alloc3 (w : World) (b i : Nat) (h : b < w.heap.size) (o1 o2 o3 : Obj) : (((w.alloc o1).alloc o2).alloc o3).drew.drew.cell? ⟨b, i, none⟩ = w.cell? ⟨b, i, none⟩ := by
  show (((w.alloc o1).alloc o2).alloc o3).cell? ⟨b, i, none⟩ = _
  rw [World.cell?_alloc_lt _ _ _ (by simp; omega), World.cell?_alloc_lt _ _ _ (by simp; omega), World.cell?_alloc_lt _ _ _ (by simp; omega)]
theorem cell_alloc2 (w : World) (b i : Nat) (h : b < w.heap.size) (o1 o2 : Obj) : ((w.alloc o1).alloc o2).drew.cell? ⟨b, i, none⟩ = w.cell? ⟨b, i, none⟩ := by
  show ((w.alloc o1).alloc o2).cell? ⟨b, i, none⟩ = _
  rw [World.cell?_alloc_lt _ _ _ (by simp; omega), World.cell?_alloc_lt _ _ _ (by simp; omega)]
theorem bcell {W w1 : World} (hb : Below W.heap.size W w1) : (∀ b o, b < W.heap.size → w1.cell? ⟨b, o, none⟩ = W.cell? ⟨b, o, none⟩) ∧ (∀ b o, b < W.heap.size → w1.frozen? ⟨b, o, none⟩ = W.frozen? ⟨b, o, none⟩) :=
  ⟨fun b o h => hb.cell (p := ⟨b, o, none⟩) h, fun b o h => hb.frozen (p := ⟨b, o, none⟩) h⟩
abbrev z24 : Array Value := #[.int .u8 0, .int .u8 0, .int .u8 0, .int .u8 0, .int .u8 0, .int .u8 0, .int .u8 0, .int .u8 0, .int .u8 0, .int .u8 0, .int .u8 0, .int .u8 0, .int .u8 0, .int .u8 0, .int .u8 0, .int .u8 0, .int .u8 0, .int .u8 0, .int .u8 0, .int .u8 0, .int .u8 0, .int .u8 0, .int .u8 0, .int .u8 0]
abbrev z32 : Array Value := #[.int .u8 0, .int .u8 0, .int .u8 0, .int .u8 0, .int .u8 0, .int .u8 0, .int .u8 0, .int .u8 0, .int .u8 0, .int .u8 0, .int .u8 0, .int .u8 0, .int .u8 0, .int .u8 0, .int .u8 0, .int .u8 0, .int .u8 0, .int .u8 0, .int .u8 0, .int .u8 0, .int .u8 0, .int .u8 0, .int .u8 0, .int .u8 0, .int .u8 0, .int .u8 0, .int .u8 0, .int .u8 0, .int .u8 0, .int .u8 0, .int .u8 0, .int .u8 0]
abbrev d32 : Array Value := #[.int .u8 49, .int .u8 48, .int .u8 48, .int .u8 48, .int .u8 48, .int .u8 48, .int .u8 48, .int .u8 48, .int .u8 48, .int .u8 48, .int .u8 48, .int .u8 48, .int .u8 48, .int .u8 48, .int .u8 48, .int .u8 48, .int .u8 0, .int .u8 0, .int .u8 0, .int .u8 0, .int .u8 0, .int .u8 0, .int .u8 0, .int .u8 0, .int .u8 0, .int .u8 0, .int .u8 0, .int .u8 0, .int .u8 0, .int .u8 0, .int .u8 0, .int .u8 0]
end Go.Proofs.YtchklaepilcbbaaGreat

namespace Go.Proofs.YtchklaepilcbbaaGreat
open Go.RowKit

theorem tup2 {a b c d : Int} {k l : IntKind} (h1 : a = c) (h2 : b = d) : Ending.returned (.tuple #[.int k a, .int l b]) = .returned (.tuple #[.int k c, .int l d]) := by rw [h1, h2]
theorem ret1 {k : IntKind} {a b : Int} (h : a = b) : Ending.returned (.int k a) = .returned (.int k b) := by rw [h]

/-- How a sum, difference, product, quotient is told: the number and OK, or nothing and ErrOverflow. -/
def fits (z : Int) : Prop := -9223372036854775808 ≤ z ∧ z ≤ 9223372036854775807

/-- Two sizes' product, in two words: what the walk needs of it. -/
theorem two_words (a b z : Int) (hz : z = a * b) (h : z.natAbs < 18446744073709551616) : (a.natAbs : Int) * b.natAbs / 18446744073709551616 = 0 ∧ (a.natAbs : Int) * b.natAbs % 18446744073709551616 = z.natAbs := by
  have e : (a.natAbs : Int) * b.natAbs = z.natAbs := by rw [hz, Int.natAbs_mul]; simp
  rw [e]; omega

theorem negw (s : Int) (h0 : 0 ≤ s) (h1 : s ≤ 9223372036854775808) : wrap64 (IntKind.u64.wrap (-s)) = -s := by
  simp only [wrap64, IntKind.wrap_u64]; omega

/-- Go's quotient and rest out of the sizes'. -/
theorem tdiv_of (a b s : Int) (hs : (a.natAbs : Int) / b.natAbs = s) : a.tdiv b = if (decide (a < 0) != decide (b < 0)) = true then -s else s := by
  subst hs
  by_cases p : a < 0 <;> by_cases q : b < 0
  · obtain ⟨x, rfl⟩ : ∃ x, a = -x := ⟨-a, by omega⟩
    obtain ⟨y, rfl⟩ : ∃ y, b = -y := ⟨-b, by omega⟩
    have e1 : ((-x).natAbs : Int) = x := by omega
    have e2 : ((-y).natAbs : Int) = y := by omega
    rw [e1, e2, Int.neg_tdiv, Int.tdiv_neg, Int.tdiv_eq_ediv_of_nonneg (by omega)]
    rw [if_neg (by rw [decide_eq_true p, decide_eq_true q]; decide)]
    omega
  · obtain ⟨x, rfl⟩ : ∃ x, a = -x := ⟨-a, by omega⟩
    have e1 : ((-x).natAbs : Int) = x := by omega
    have e2 : (b.natAbs : Int) = b := by omega
    rw [e1, e2, Int.neg_tdiv, Int.tdiv_eq_ediv_of_nonneg (by omega)]
    rw [if_pos (by rw [decide_eq_true p, decide_eq_false q]; decide)]
  · obtain ⟨y, rfl⟩ : ∃ y, b = -y := ⟨-b, by omega⟩
    have e1 : (a.natAbs : Int) = a := by omega
    have e2 : ((-y).natAbs : Int) = y := by omega
    rw [e1, e2, Int.tdiv_neg, Int.tdiv_eq_ediv_of_nonneg (by omega)]
    rw [if_pos (by rw [decide_eq_false p, decide_eq_true q]; decide)]
  · have e1 : (a.natAbs : Int) = a := by omega
    have e2 : (b.natAbs : Int) = b := by omega
    rw [e1, e2, Int.tdiv_eq_ediv_of_nonneg (by omega)]
    rw [if_neg (by simp [p, q])]
theorem tmod_of (a b s : Int) (hs : (a.natAbs : Int) % b.natAbs = s) : a.tmod b = if a < 0 then -s else s := by
  have hb : (b.natAbs : Int) = b ∨ (b.natAbs : Int) = -b := by omega
  have e3 : ∀ x : Int, x.tmod b = x.tmod b.natAbs := fun x => by
    rcases hb with h | h
    · rw [h]
    · rw [h, Int.tmod_neg]
  rw [e3]
  by_cases p : a < 0
  · obtain ⟨x, rfl⟩ : ∃ x, a = -x := ⟨-a, by omega⟩
    have e1 : ((-x).natAbs : Int) = x := by omega
    rw [e1] at hs
    rw [Int.neg_tmod, Int.tmod_eq_emod_of_nonneg (by omega), hs, if_pos p]
  · have e1 : (a.natAbs : Int) = a := by omega
    rw [e1] at hs
    rw [Int.tmod_eq_emod_of_nonneg (by omega), hs, if_neg p]

end Go.Proofs.YtchklaepilcbbaaGreat

namespace Go.Proofs.YtchklaepilcbbaaGreat
open Go.RowKit
theorem call_Float64bits (b : Nat) (w : World) : (callFunc 50 #[.float .f64 b]).run Tryz.prog w = .ok (.value (.int .u64 b)) w := by kernel_rfl
theorem call_Float64frombits (n : Int) (w : World) : (callFunc 120 #[.int .u64 n]).run Tryz.prog w = .ok (.value (.float .f64 n.toNat)) w := by kernel_rfl
set_option maxRecDepth 100000 in
set_option maxHeartbeats 1000000 in
theorem Mixed_c1 (w : World) :
    Calls Tryz.prog 196 #[.int .i64 9007199254740993, .float .f64 4845873199050653696] w fun e w' => e = .returned (.int .i64 1) ∧ w = w' := by
  have hfb := call_Float64bits
  have hff := call_Float64frombits
  have hc : ∀ w, (convert 22 2 (.float .f64 4845873199050653696)).run Tryz.prog w = .ok (.int .i64 9007199254740992) w := fun _ => by kernel_rfl
  go_enter Tryz.func196, Tryz.ntmps196
  go_wp2
  go_ret
  exact ⟨by kernel_rfl, rfl⟩
set_option maxRecDepth 100000 in
set_option maxHeartbeats 1000000 in
theorem Mixed_c2 (w : World) :
    Calls Tryz.prog 196 #[.int .i64 5, .float .f64 9221120237041090561] w fun e w' => e = .returned (.int .i64 (-1)) ∧ w = w' := by
  have hfb := call_Float64bits
  have hff := call_Float64frombits
  go_enter Tryz.func196, Tryz.ntmps196
  go_wp2
  go_ret
  exact ⟨by kernel_rfl, rfl⟩
set_option maxRecDepth 100000 in
set_option maxHeartbeats 1000000 in
theorem NaN_c (w : World) :
    Calls Tryz.prog 178 #[] w fun e w' => e = .returned (.float .f64 9221120237041090561) ∧ w = w' := by
  have hfb := call_Float64bits
  have hff := call_Float64frombits
  go_enter Tryz.func178, Tryz.ntmps178
  go_wp2
  go_ret
  exact ⟨by kernel_rfl, rfl⟩
set_option maxRecDepth 100000 in
set_option maxHeartbeats 1000000 in
theorem Copysign_c (w : World) :
    Calls Tryz.prog 213 #[.float .f64 0, .float .f64 13830554455654793216] w fun e w' => e = .returned (.float .f64 9223372036854775808) ∧ w = w' := by
  have hfb := call_Float64bits
  have hff := call_Float64frombits
  go_enter Tryz.func213, Tryz.ntmps213
  go_wp2
  go_ret
  exact ⟨by kernel_rfl, rfl⟩
set_option maxRecDepth 100000 in
set_option maxHeartbeats 1000000 in
theorem Inf_c (w : World) :
    Calls Tryz.prog 180 #[.int .i64 1] w fun e w' => e = .returned (.float .f64 9218868437227405312) ∧ w = w' := by
  have hfb := call_Float64bits
  have hff := call_Float64frombits
  go_enter Tryz.func180, Tryz.ntmps180
  go_wp2
  go_ret
  exact ⟨by kernel_rfl, rfl⟩
theorem and_top (b : Nat) (h : b < 18446744073709551616) : b &&& 9223372036854775808 = if b < 9223372036854775808 then 0 else 9223372036854775808 := by
  have e : (9223372036854775808 : Nat) = 2 ^ 63 := by decide
  rw [e]
  apply Nat.eq_of_testBit_eq
  intro i
  rw [Nat.testBit_and, Nat.testBit_two_pow]
  by_cases hi : 63 = i
  · subst hi
    by_cases p : b < 2 ^ 63
    · rw [if_pos p, Nat.testBit_eq_decide_div_mod_eq, Nat.div_eq_of_lt p]; simp
    · have q : b / 2 ^ 63 = 1 := by omega
      rw [if_neg p, Nat.testBit_eq_decide_div_mod_eq, q, Nat.testBit_two_pow]; simp
  · by_cases p : b < 2 ^ 63
    · rw [if_pos p]; simp [hi]
    · rw [if_neg p, Nat.testBit_two_pow]; simp [hi]
theorem or_top (b : Nat) (h : b < 9223372036854775808) : b ||| 9223372036854775808 = b + 9223372036854775808 := by
  have e : (9223372036854775808 : Nat) = 2 ^ 63 := by decide
  have := Nat.two_pow_add_eq_or_of_lt (i := 63) (b := b) (by omega) 1
  rw [e, Nat.or_comm, Nat.add_comm]
  simpa using this.symm
theorem xor_all (b : Nat) (h : b < 18446744073709551616) : bits .xor .u64 IntKind.u64.max (b : Int) = 18446744073709551615 - b := by
  show IntKind.u64.wrap ((BitVec.ofInt 64 18446744073709551615 ^^^ BitVec.ofInt 64 b).toNat : Nat) = _
  have e : BitVec.ofInt 64 18446744073709551615 = BitVec.allOnes 64 := by decide
  have hb : (BitVec.ofInt 64 (b : Int)).toNat = b := by rw [BitVec.toNat_ofInt]; omega
  rw [e, BitVec.allOnes_xor, BitVec.toNat_not, hb, IntKind.wrap_u64]
  omega
set_option maxRecDepth 100000 in
set_option maxHeartbeats 1000000 in
theorem rank_nan (b : Nat) (w : World) (h : (FloatKind.f64.format.order b b != some Ordering.eq) = true) :
    Calls Tryz.prog 198 #[.float .f64 b] w fun e w' => e = .returned (.int .u64 18446744073709551615) ∧ w = w' := by
  have hfb := call_Float64bits
  go_enter Tryz.func198, Tryz.ntmps198
  go_wp2
  go_ret
  exact ⟨rfl, rfl⟩
set_option maxRecDepth 100000 in
set_option maxHeartbeats 1000000 in
theorem rank_neg (b : Nat) (w : World) (h : (FloatKind.f64.format.order b b != some Ordering.eq) = false) (h0 : 9223372036854775808 ≤ b) (h1 : b < 18446744073709551616) :
    Calls Tryz.prog 198 #[.float .f64 b] w fun e w' => e = .returned (.int .u64 (18446744073709551615 - b)) ∧ w = w' := by
  have hfb := call_Float64bits
  have ha : bits .and .u64 (b : Int) 9223372036854775808 = 9223372036854775808 := by
    rw [u64_and _ _ (by omega) (by omega) (by omega) (by omega)]
    simp only [Int.toNat_natCast, show (9223372036854775808 : Int).toNat = 9223372036854775808 from rfl]
    rw [and_top b (by omega)]
    rw [if_neg (by omega)]; rfl
  go_enter Tryz.func198, Tryz.ntmps198
  go_wp2
  go_ret
  exact ⟨ret1 (xor_all b h1), rfl⟩
set_option maxRecDepth 100000 in
set_option maxHeartbeats 1000000 in
theorem rank_pos (b : Nat) (w : World) (h : (FloatKind.f64.format.order b b != some Ordering.eq) = false) (h0 : b < 9223372036854775808) :
    Calls Tryz.prog 198 #[.float .f64 b] w fun e w' => e = .returned (.int .u64 (b + 9223372036854775808)) ∧ w = w' := by
  have hfb := call_Float64bits
  have ha : bits .and .u64 (b : Int) 9223372036854775808 = 0 := by
    rw [u64_and _ _ (by omega) (by omega) (by omega) (by omega)]
    simp only [Int.toNat_natCast, show (9223372036854775808 : Int).toNat = 9223372036854775808 from rfl]
    rw [and_top b (by omega), if_pos h0]; rfl
  go_enter Tryz.func198, Tryz.ntmps198
  go_wp2
  go_ret
  refine ⟨ret1 ?_, rfl⟩
  rw [u64_or _ _ (by omega) (by omega) (by omega) (by omega)]
  simp only [Int.toNat_natCast, show (9223372036854775808 : Int).toNat = 9223372036854775808 from rfl]
  rw [or_top b h0]
  simp

/-- A float's place in the order, out of its bits. -/
def rankOf (b : Nat) : Int := if (FloatKind.f64.format.order b b != some Ordering.eq) = true then 18446744073709551615 else if b < 9223372036854775808 then b + 9223372036854775808 else 18446744073709551615 - b
theorem rank_any (b : Nat) (w : World) (hb : b < 18446744073709551616) :
    Calls Tryz.prog 198 #[.float .f64 b] w fun e w' => e = .returned (.int .u64 (rankOf b)) ∧ w = w' := by
  unfold rankOf
  by_cases h : (FloatKind.f64.format.order b b != some Ordering.eq) = true
  · rw [if_pos h]; exact rank_nan b w h
  · rw [if_neg h]
    by_cases h0 : b < 9223372036854775808
    · rw [if_pos h0]; exact rank_pos b w (by simpa using h) h0
    · rw [if_neg h0]; exact rank_neg b w (by simpa using h) (by omega) hb
theorem rankOf_range (b : Nat) (hb : b < 18446744073709551616) : 0 ≤ rankOf b ∧ rankOf b < 18446744073709551616 := by
  unfold rankOf; split
  · omega
  · split <;> omega
def cmpI (a b : Int) : Int := if a < b then -1 else if b < a then 1 else 0
set_option maxRecDepth 100000 in
set_option maxHeartbeats 1000000 in
theorem Floats_any (a b : Nat) (w : World) (ha : a < 18446744073709551616) (hb : b < 18446744073709551616) :
    Calls Tryz.prog 184 #[.float .f64 a, .float .f64 b] w fun e w' => e = .returned (.int .i64 (cmpI (rankOf a) (rankOf b))) ∧ w = w' := by
  have h1 := rankOf_range a ha
  have h2 := rankOf_range b hb
  have h3 := rank_any a w ha
  have h4 := rank_any b w hb
  generalize rankOf a = x at *
  generalize rankOf b = y at *
  have H3 := Lib.hid h3
  have H4 := Lib.hid h4
  clear h3 h4
  obtain ⟨c, hc⟩ : ∃ c, c = cmpI x y := ⟨_, rfl⟩
  rw [← hc]
  unfold cmpI at hc
  by_cases p : x < y
  · have pb : decide (x < y) = true := by simp [p]
    rw [if_pos p] at hc
    subst hc
    go_enter Tryz.func184, Tryz.ntmps184
    go_wp2_with fail
    refine (H3.out).mono ?_
    rintro e w' ⟨rfl, rfl⟩
    go_wp2_with fail
    refine (H4.out).mono ?_
    rintro e w' ⟨rfl, rfl⟩
    go_wp2
    go_ret
    exact ⟨rfl, rfl⟩
  · have pb : decide (x < y) = false := by simp [p]
    rw [if_neg p] at hc
    by_cases q : y < x
    · have qb : decide (y < x) = true := by simp [q]
      rw [if_pos q] at hc
      subst hc
      clear p
      go_enter Tryz.func184, Tryz.ntmps184
      go_wp2_with fail
      refine (H3.out).mono ?_
      rintro e w' ⟨rfl, rfl⟩
      go_wp2_with fail
      refine (H4.out).mono ?_
      rintro e w' ⟨rfl, rfl⟩
      go_wp2
      go_ret
      exact ⟨rfl, rfl⟩
    · have qb : decide (y < x) = false := by simp [q]
      rw [if_neg q] at hc
      subst hc
      clear p q
      go_enter Tryz.func184, Tryz.ntmps184
      go_wp2_with fail
      refine (H3.out).mono ?_
      rintro e w' ⟨rfl, rfl⟩
      go_wp2_with fail
      refine (H4.out).mono ?_
      rintro e w' ⟨rfl, rfl⟩
      go_wp2
      go_ret
      exact ⟨rfl, rfl⟩
theorem Floats_c1 (w : World) :
    Calls Tryz.prog 184 #[.float .f64 9223372036854775808, .float .f64 0] w fun e w' => e = .returned (.int .i64 (-1)) ∧ w = w' := by
  have h := Floats_any 9223372036854775808 0 w (by omega) (by omega)
  rwa [show cmpI (rankOf 9223372036854775808) (rankOf 0) = -1 by decide +kernel] at h
theorem Floats_c2 (w : World) :
    Calls Tryz.prog 184 #[.float .f64 9221120237041090561, .float .f64 9218868437227405312] w fun e w' => e = .returned (.int .i64 1) ∧ w = w' := by
  have h := Floats_any 9221120237041090561 9218868437227405312 w (by omega) (by omega)
  rwa [show cmpI (rankOf 9221120237041090561) (rankOf 9218868437227405312) = 1 by decide +kernel] at h
end Go.Proofs.YtchklaepilcbbaaGreat

namespace Go.Proofs.YtchklaepilcbbaaGreat
open Ieee

/-- What a rung stands for, in units of the least place. -/
def valR (r : Nat) : Nat := if r < 4503599627370496 then r else (4503599627370496 + r % 4503599627370496) * 2 ^ (r / 4503599627370496 - 1)
theorem valR_mono {r s : Nat} (h : r < s) : valR r < valR s := by
  unfold valR
  by_cases p : s < 4503599627370496
  · rw [if_pos p, if_pos (by omega)]; exact h
  · rw [if_neg p]
    by_cases q : r < 4503599627370496
    · rw [if_pos q]
      have t : 1 ≤ 2 ^ (s / 4503599627370496 - 1) := Nat.one_le_two_pow
      have u := Nat.mul_le_mul_left (4503599627370496 + s % 4503599627370496) t
      omega
    · rw [if_neg q]
      rcases Nat.lt_or_ge (r / 4503599627370496) (s / 4503599627370496) with g | g
      · have e : 2 ^ (r / 4503599627370496 - 1) * 2 ≤ 2 ^ (s / 4503599627370496 - 1) := by
          rw [← Nat.pow_succ]; exact Nat.pow_le_pow_right (by omega) (by omega)
        have hx : 0 < 2 ^ (r / 4503599627370496 - 1) := Nat.two_pow_pos _
        generalize 2 ^ (r / 4503599627370496 - 1) = x at *
        generalize 2 ^ (s / 4503599627370496 - 1) = y at *
        have h1 : (4503599627370496 + r % 4503599627370496) * x < (2 * 4503599627370496) * x := Nat.mul_lt_mul_of_pos_right (by omega) hx
        have h2 : 4503599627370496 * y ≤ (4503599627370496 + s % 4503599627370496) * y := Nat.mul_le_mul_right _ (by omega)
        omega
      · have e : r / 4503599627370496 = s / 4503599627370496 := by omega
        rw [e]
        exact Nat.mul_lt_mul_of_pos_right (by omega) (Nat.two_pow_pos _)
theorem valR_lt (r s : Nat) : valR r < valR s ↔ r < s := by
  constructor
  · intro h
    rcases Nat.lt_or_ge r s with g | g
    · exact g
    · rcases Nat.eq_or_lt_of_le g with e | e
      · subst e; omega
      · have := valR_mono e; omega
  · exact valR_mono
theorem valR_pos (r : Nat) (h : 0 < r) : 0 < valR r := by
  have := valR_mono h
  omega

/-- A float's sign and rung as one number. -/
def keyF (b : Nat) : Int := if b < 9223372036854775808 then b else 9223372036854775808 - (b : Int)
/-- The same in units of the least place. -/
def valF (b : Nat) : Int := if b < 9223372036854775808 then valR b else -(valR (b - 9223372036854775808) : Int)

theorem valF_lt (a b : Nat) : valF a < valF b ↔ keyF a < keyF b := by
  unfold valF keyF
  have m := valR_lt
  have z : valR 0 = 0 := by decide
  have p : ∀ r, valR r = 0 ↔ r = 0 := fun r => by
    constructor
    · intro h
      rcases Nat.eq_zero_or_pos r with e | e
      · exact e
      · have := valR_pos r e; omega
    · rintro rfl; exact z
  by_cases ha : a < 9223372036854775808 <;> by_cases hb : b < 9223372036854775808
  · rw [if_pos ha, if_pos hb, if_pos ha, if_pos hb]; have := m a b; omega
  · rw [if_pos ha, if_neg hb, if_pos ha, if_neg hb]; omega
  · rw [if_neg ha, if_pos hb, if_neg ha, if_pos hb]
    have h1 := p (a - 9223372036854775808); have h2 := p b
    omega
  · rw [if_neg ha, if_neg hb, if_neg ha, if_neg hb]
    have h1 := m (b - 9223372036854775808) (a - 9223372036854775808)
    omega

theorem compare_cong (x y x' y' : Int) (h : x < y ↔ x' < y') (g : y < x ↔ y' < x') : compare x y = compare x' y' := by
  show compareOfLessAndEq x y = compareOfLessAndEq x' y'
  unfold compareOfLessAndEq
  by_cases p : x < y
  · rw [if_pos p, if_pos (h.1 p)]
  · rw [if_neg p, if_neg (fun t => p (h.2 t))]
    by_cases q : x = y
    · rw [if_pos q, if_pos (by omega)]
    · rw [if_neg q, if_neg (by omega)]

theorem signed_eq (s : Bool) (m k : Nat) : signed s m k = (if s then -1 else 1) * (m * 2 ^ k : Nat) := by
  unfold signed
  rw [Nat.shiftLeft_eq]
  cases s <;> simp

/-- The three ways a word of 64 bits is read. -/
theorem read_number (b : Nat) (hb : b < 18446744073709551616) (h : b % 9223372036854775808 < 9218868437227405312) :
    ∃ m e : Nat, double.read b = .number (decide (9223372036854775808 ≤ b)) m (double.leastPlace + e) ∧ m * 2 ^ e = valR (b % 9223372036854775808) ∧ m < 9007199254740992 := by
  have hs : double.signWeight = 9223372036854775808 := by decide
  have hB : double.binade = 4503599627370496 := by decide
  have hI : double.infRung = 9218868437227405312 := by decide
  have hn : (b / 9223372036854775808 % 2 == 1) = decide (9223372036854775808 ≤ b) := by
    by_cases p : 9223372036854775808 ≤ b
    · have : b / 9223372036854775808 = 1 := by omega
      simp [p, this]
    · have : b / 9223372036854775808 = 0 := by omega
      simp [p, this]
  unfold Format.read valR
  simp only [hs, hB, hI, hn]
  by_cases p : b % 9223372036854775808 < 4503599627370496
  · rw [if_pos p, if_pos p]
    exact ⟨b % 9223372036854775808, 0, by simp, by simp, by omega⟩
  · rw [if_neg p, if_neg p, if_pos h]
    exact ⟨_, _, rfl, rfl, by omega⟩
theorem read_inf (b : Nat) (hb : b < 18446744073709551616) (h : b % 9223372036854775808 = 9218868437227405312) :
    double.read b = .infinity (decide (9223372036854775808 ≤ b)) := by
  have hs : double.signWeight = 9223372036854775808 := by decide
  have hB : double.binade = 4503599627370496 := by decide
  have hI : double.infRung = 9218868437227405312 := by decide
  have hn : (b / 9223372036854775808 % 2 == 1) = decide (9223372036854775808 ≤ b) := by
    by_cases p : 9223372036854775808 ≤ b
    · have : b / 9223372036854775808 = 1 := by omega
      simp [p, this]
    · have : b / 9223372036854775808 = 0 := by omega
      simp [p, this]
  unfold Format.read
  simp only [hs, hB, hI, hn, h]
  simp
theorem read_nan (b : Nat) (h : 9218868437227405312 < b % 9223372036854775808) :
    ∃ s t, double.read b = .nan s t := by
  have hs : double.signWeight = 9223372036854775808 := by decide
  have hB : double.binade = 4503599627370496 := by decide
  have hI : double.infRung = 9218868437227405312 := by decide
  unfold Format.read
  simp only [hs, hB, hI]
  rw [if_neg (by omega), if_neg (by omega), if_neg (by omega)]
  exact ⟨_, _, rfl⟩

theorem valF_eq (b : Nat) (hb : b < 18446744073709551616) : valF b = (if decide (9223372036854775808 ≤ b) = true then -1 else 1) * (valR (b % 9223372036854775808) : Int) := by
  unfold valF
  by_cases p : b < 9223372036854775808
  · have e : b % 9223372036854775808 = b := by omega
    rw [if_pos p, if_neg (by simp; omega), e]; omega
  · have e : b % 9223372036854775808 = b - 9223372036854775808 := by omega
    rw [if_neg p, if_pos (by simp; omega), e]; omega

/-- One number against another. -/
theorem order_numbers (a b : Nat) (ha : a < 18446744073709551616) (hb : b < 18446744073709551616)
    (ra : a % 9223372036854775808 < 9218868437227405312) (rb : b % 9223372036854775808 < 9218868437227405312) :
    double.order a b = some (compare (keyF a) (keyF b)) := by
  obtain ⟨m, i, h1, h2, _⟩ := read_number a ha ra
  obtain ⟨n, j, h3, h4, _⟩ := read_number b hb rb
  unfold Format.order
  rw [h1, h3]
  unfold Datum.order
  simp only [Option.some.injEq]
  rw [signed_eq, signed_eq]
  have k1 : (double.leastPlace + (i : Int) - min (double.leastPlace + (i : Int)) (double.leastPlace + (j : Int))).toNat = i - min i j := by omega
  have k2 : (double.leastPlace + (j : Int) - min (double.leastPlace + (i : Int)) (double.leastPlace + (j : Int))).toNat = j - min i j := by omega
  rw [k1, k2]
  have p1 : m * 2 ^ (i - min i j) * 2 ^ min i j = valR (a % 9223372036854775808) := by
    rw [Nat.mul_assoc, ← Nat.pow_add, Nat.sub_add_cancel (Nat.min_le_left _ _), h2]
  have p2 : n * 2 ^ (j - min i j) * 2 ^ min i j = valR (b % 9223372036854775808) := by
    rw [Nat.mul_assoc, ← Nat.pow_add, Nat.sub_add_cancel (Nat.min_le_right _ _), h4]
  have hx : (0 : Int) < (2 ^ min i j : Nat) := by exact_mod_cast Nat.two_pow_pos _
  have w1 := valF_eq a ha
  have w2 := valF_eq b hb
  rw [← p1] at w1
  rw [← p2] at w2
  generalize m * 2 ^ (i - min i j) = M at *
  generalize n * 2 ^ (j - min i j) = N at *
  generalize (2 ^ min i j : Nat) = x at *
  generalize (if decide (9223372036854775808 ≤ a) = true then (-1 : Int) else 1) = s at *
  generalize (if decide (9223372036854775808 ≤ b) = true then (-1 : Int) else 1) = t at *
  have v1 : valF a = s * (M : Int) * (x : Int) := by rw [w1, Int.natCast_mul, Int.mul_assoc]
  have v2 : valF b = t * (N : Int) * (x : Int) := by rw [w2, Int.natCast_mul, Int.mul_assoc]
  have q1 := valF_lt a b
  have q2 := valF_lt b a
  rw [v1, v2] at q1 q2
  apply compare_cong
  · rw [← q1]; exact (Int.mul_lt_mul_right hx).symm
  · rw [← q2]; exact (Int.mul_lt_mul_right hx).symm

/-- Two floats that are no NaN stand to each other as their signs and rungs do. -/
theorem order_any (a b : Nat) (ha : a < 18446744073709551616) (hb : b < 18446744073709551616)
    (ra : a % 9223372036854775808 ≤ 9218868437227405312) (rb : b % 9223372036854775808 ≤ 9218868437227405312) :
    double.order a b = some (compare (keyF a) (keyF b)) := by
  rcases Nat.lt_or_eq_of_le ra with ca | ca <;> rcases Nat.lt_or_eq_of_le rb with cb | cb
  · exact order_numbers a b ha hb ca cb
  · obtain ⟨m, i, h1, h2, _⟩ := read_number a ha ca
    have h3 := read_inf b hb cb
    unfold Format.order
    rw [h1, h3]
    unfold Datum.order
    simp only [Option.some.injEq]
    show _ = compareOfLessAndEq _ _
    unfold compareOfLessAndEq keyF
    by_cases p : 9223372036854775808 ≤ b
    · rw [if_pos (by simp [p]), if_neg, if_neg] <;> (repeat' split) <;> omega
    · rw [if_neg (by simp; omega), if_pos]; (repeat' split) <;> omega
  · obtain ⟨m, i, h1, h2, _⟩ := read_number b hb cb
    have h3 := read_inf a ha ca
    unfold Format.order
    rw [h1, h3]
    unfold Datum.order
    simp only [Option.some.injEq]
    show _ = compareOfLessAndEq _ _
    unfold compareOfLessAndEq keyF
    by_cases p : 9223372036854775808 ≤ a
    · rw [if_pos (by simp [p]), if_pos]; (repeat' split) <;> omega
    · rw [if_neg (by simp; omega), if_neg, if_neg] <;> (repeat' split) <;> omega
  · have h1 := read_inf a ha ca
    have h3 := read_inf b hb cb
    unfold Format.order
    rw [h1, h3]
    unfold Datum.order keyF
    have ea : a = 9218868437227405312 ∨ a = 18442240474082181120 := by omega
    have eb : b = 9218868437227405312 ∨ b = 18442240474082181120 := by omega
    rcases ea with rfl | rfl <;> rcases eb with rfl | rfl <;> decide

/-- A NaN stands to nothing. -/
theorem order_nan (a b : Nat) (ra : 9218868437227405312 < a % 9223372036854775808) : double.order a b = none := by
  obtain ⟨s, t, h⟩ := read_nan a ra
  unfold Format.order
  rw [h]
  cases double.read b <;> rfl
theorem order_nan' (a b : Nat) (ra : 9218868437227405312 < b % 9223372036854775808) : double.order a b = none := by
  obtain ⟨s, t, h⟩ := read_nan b ra
  unfold Format.order
  rw [h]
  cases double.read a <;> rfl
/-- A float that equals itself is no NaN. -/
theorem self_any (b : Nat) (hb : b < 18446744073709551616) : (FloatKind.f64.format.order b b != some Ordering.eq) = decide (9218868437227405312 < b % 9223372036854775808) := by
  show (double.order b b != some Ordering.eq) = _
  by_cases p : 9218868437227405312 < b % 9223372036854775808
  · rw [order_nan b b p]; simp [p]
  · rw [order_any b b hb hb (by omega) (by omega)]
    have e : compare (keyF b) (keyF b) = Ordering.eq := by
      show compareOfLessAndEq _ _ = _
      unfold compareOfLessAndEq
      rw [if_neg (by omega), if_pos rfl]
    rw [e]; simp [p]
end Go.Proofs.YtchklaepilcbbaaGreat

namespace Go.Proofs.YtchklaepilcbbaaGreat
open Go.RowKit
/-- Whether a word of 64 bits is a NaN. -/
def isNaNF (b : Nat) : Bool := decide (9218868437227405312 < b % 9223372036854775808)
/-- The canonical float of a float. -/
def canonF (b : Nat) : Nat := if isNaNF b = true then 9221120237041090561 else b
set_option maxRecDepth 100000 in
theorem Canon_any (b : Nat) (w : World) (hb : b < 18446744073709551616) :
    Calls Tryz.prog 80 #[.float .f64 b] w fun e w' => e = .returned (.float .f64 (canonF b)) ∧ w = w' := by
  have hff := call_Float64frombits
  have h0 := self_any b hb
  obtain ⟨c, hc⟩ : ∃ c, c = canonF b := ⟨_, rfl⟩
  rw [← hc]
  unfold canonF isNaNF at hc
  by_cases p : 9218868437227405312 < b % 9223372036854775808
  · have h : (FloatKind.f64.format.order b b != some Ordering.eq) = true := by rw [h0]; simp [p]
    rw [if_pos (by simp [p])] at hc
    subst hc
    clear h0
    go_enter Tryz.func80, Tryz.ntmps80
    go_wp2
    go_ret
    exact ⟨rfl, rfl⟩
  · have h : (FloatKind.f64.format.order b b != some Ordering.eq) = false := by rw [h0]; simp [p]
    rw [if_neg (by simp [p])] at hc
    subst hc
    clear h0
    go_enter Tryz.func80, Tryz.ntmps80
    go_wp2
    go_ret
    exact ⟨rfl, rfl⟩
set_option maxRecDepth 100000 in
theorem refCanon_any (b : Nat) (w : World) (hb : b < 18446744073709551616) :
    Calls Tryz.prog 87 #[.float .f64 b] w fun e w' => e = .returned (.float .f64 (canonF b)) ∧ w = w' := by
  have hff := call_Float64frombits
  have h0 := self_any b hb
  obtain ⟨c, hc⟩ : ∃ c, c = canonF b := ⟨_, rfl⟩
  rw [← hc]
  unfold canonF isNaNF at hc
  by_cases p : 9218868437227405312 < b % 9223372036854775808
  · have h : (FloatKind.f64.format.order b b != some Ordering.eq) = true := by rw [h0]; simp [p]
    rw [if_pos (by simp [p])] at hc
    subst hc
    clear h0
    go_enter Tryz.func87, Tryz.ntmps87
    go_wp2
    go_ret
    exact ⟨rfl, rfl⟩
  · have h : (FloatKind.f64.format.order b b != some Ordering.eq) = false := by rw [h0]; simp [p]
    rw [if_neg (by simp [p])] at hc
    subst hc
    clear h0
    go_enter Tryz.func87, Tryz.ntmps87
    go_wp2
    go_ret
    exact ⟨rfl, rfl⟩
set_option maxRecDepth 100000 in
theorem Canonical_any (b : Nat) (w : World) (hb : b < 18446744073709551616) :
    Calls Tryz.prog 61 #[.float .f64 b] w fun e w' => e = .returned (.bool (decide (canonF b = b))) ∧ w = w' := by
  have hfb := call_Float64bits
  have h0 := self_any b hb
  obtain ⟨c, hc⟩ : ∃ c, c = decide (canonF b = b) := ⟨_, rfl⟩
  rw [← hc]
  unfold canonF isNaNF at hc
  by_cases p : 9218868437227405312 < b % 9223372036854775808
  · have h : (FloatKind.f64.format.order b b != some Ordering.eq) = true := by rw [h0]; simp [p]
    rw [if_pos (by simp [p])] at hc
    clear h0
    go_enter Tryz.func61, Tryz.ntmps61
    go_wp2
    go_ret
    subst hc
    refine ⟨?_, rfl⟩
    show Ending.returned (Value.bool ((b : Int) == 9221120237041090561)) = _
    congr 2
    rw [Bool.eq_iff_iff]
    simp only [beq_iff_eq, decide_eq_true_eq]
    omega
  · have h : (FloatKind.f64.format.order b b != some Ordering.eq) = false := by rw [h0]; simp [p]
    rw [if_neg (by simp [p])] at hc
    have hc' : c = true := by rw [hc]; simp
    subst hc'
    clear h0 hc
    go_enter Tryz.func61, Tryz.ntmps61
    go_wp2
    go_ret
    exact ⟨rfl, rfl⟩
end Go.Proofs.YtchklaepilcbbaaGreat

namespace Go.Proofs.YtchklaepilcbbaaGreat
open Go.RowKit
theorem quiet_l {P : Program} {f : FuncId} {args : Array Value} {w : World} {n : Nat} {v : Value}
    (h : Calls P f args (w.drewN n) fun e w' => e = .returned v ∧ w.drewN n = w') : Calls P f args (w.drewN n) fun e w' => e = .returned v ∧ ∃ m, w' = w.drewN m :=
  h.mono fun _ _ h => ⟨h.1, n, h.2.symm⟩
theorem quiet_l2 {P : Program} {f : FuncId} {args : Array Value} {w : World} {a n : Nat} {v : Value}
    (h : Calls P f args (w.drewN (a + n)) fun e w' => e = .returned v ∧ w.drewN (a + n) = w') : Calls P f args (w.drewN (a + n)) fun e w' => e = .returned v ∧ ∃ m, w' = (w.drewN a).drewN m :=
  h.mono fun _ _ h => ⟨h.1, n, by rw [← h.2, World.drewN_drewN]⟩
end Go.Proofs.YtchklaepilcbbaaGreat

namespace Go.Proofs.YtchklaepilcbbaaGreat
open Ieee

/-- The word of a whole number, worked out. -/
theorem nearest_whole (neg : Bool) (mag : Nat) (h0 : 0 < mag) (h1 : mag ≤ 9223372036854775808) (hd : mag % 2 ^ (mag.log2 - 52) = 0) :
    ∃ r, double.nearest neg mag 0 = double.word neg r ∧ r < 9218868437227405312 ∧ valR r = mag * 2 ^ 1074 := by
  have hB : double.binade = 4503599627370496 := by decide
  have hI : double.infRung = 9218868437227405312 := by decide
  have hL : double.leastPlace = -1074 := by decide
  have hF : double.fractionBits = 52 := rfl
  have l0 : 2 ^ mag.log2 ≤ mag := Nat.log2_self_le (by omega)
  have l1 : mag < 2 ^ (mag.log2 + 1) := Nat.lt_log2_self
  have l2 : mag.log2 ≤ 63 := by
    have : 2 ^ mag.log2 ≤ 2 ^ 63 := by omega
    exact (Nat.pow_le_pow_iff_right (by omega)).1 this
  have fact : ∀ kept : Nat, (4503599627370496 ≤ kept) → kept < 9007199254740992 → (kept * 2 ^ (mag.log2 + 1022) = mag * 2 ^ 1074) →
      ∃ r, double.word neg (min ((mag.log2 + 1022) * 4503599627370496 + kept) 9218868437227405312) = double.word neg r ∧ r < 9218868437227405312 ∧ valR r = mag * 2 ^ 1074 := by
    intro kept k0 k1 k2
    refine ⟨(mag.log2 + 1022) * 4503599627370496 + kept, ?_, by omega, ?_⟩
    · rw [Nat.min_eq_left (by omega)]
    · unfold valR
      rw [if_neg (by omega), ← k2]
      have e1 : ((mag.log2 + 1022) * 4503599627370496 + kept) % 4503599627370496 = kept - 4503599627370496 := by omega
      have e2 : ((mag.log2 + 1022) * 4503599627370496 + kept) / 4503599627370496 - 1 = mag.log2 + 1022 := by omega
      rw [e1, e2]
      rw [show 4503599627370496 + (kept - 4503599627370496) = kept by omega]
  unfold Format.nearest
  rw [if_neg (by omega)]
  simp only [hB, hI, hL, hF]
  have m1 : max (0 + (mag.log2 : Int) - (52 : Nat)) (-1074) = (mag.log2 : Int) - 52 := by omega
  rw [m1]
  have m2 : (((mag.log2 : Int) - 52) - -1074).toNat = mag.log2 + 1022 := by omega
  rw [m2]
  by_cases p : mag.log2 ≤ 52
  · have e1 : (0 - ((mag.log2 : Int) - 52)).toNat = 52 - mag.log2 := by omega
    have e2 : ((mag.log2 : Int) - 52 - 0).toNat = 0 := by omega
    rw [e1, e2]
    have ck : Toward.even.cut neg (mag <<< (52 - mag.log2)) 0 = mag * 2 ^ (52 - mag.log2) := by
      unfold Toward.cut
      simp [Nat.shiftLeft_eq, Nat.mod_one]
    rw [ck]
    have x : 2 ^ mag.log2 * 2 ^ (52 - mag.log2) = 4503599627370496 := by
      rw [← Nat.pow_add, show mag.log2 + (52 - mag.log2) = 52 by omega]
    refine fact _ ?_ ?_ ?_
    · rw [← x]; exact Nat.mul_le_mul_right _ l0
    · have : mag * 2 ^ (52 - mag.log2) < 2 ^ (mag.log2 + 1) * 2 ^ (52 - mag.log2) := Nat.mul_lt_mul_of_pos_right l1 (Nat.two_pow_pos _)
      rw [Nat.pow_succ, Nat.mul_assoc, Nat.mul_comm 2, ← Nat.mul_assoc, x] at this
      omega
    · rw [Nat.mul_assoc, ← Nat.pow_add, show 52 - mag.log2 + (mag.log2 + 1022) = 1074 by omega]
  · have e1 : (0 - ((mag.log2 : Int) - 52)).toNat = 0 := by omega
    have e2 : ((mag.log2 : Int) - 52 - 0).toNat = mag.log2 - 52 := by omega
    rw [e1, e2]
    have ck : Toward.even.cut neg (mag <<< 0) (mag.log2 - 52) = mag / 2 ^ (mag.log2 - 52) := by
      unfold Toward.cut
      have g : 1 <<< min (mag.log2 - 52) ((mag <<< 0).log2 + 2) = 2 ^ (mag.log2 - 52) := by
        rw [Nat.shiftLeft_zero, Nat.min_eq_left (by omega), Nat.shiftLeft_eq, Nat.one_mul]
      rw [g]
      have z : 2 ^ (mag.log2 - 52) ≠ 0 := by have := Nat.two_pow_pos (mag.log2 - 52); omega
      simp [hd]
    rw [ck]
    have y : mag / 2 ^ (mag.log2 - 52) * 2 ^ (mag.log2 - 52) = mag := Nat.div_mul_cancel (Nat.dvd_of_mod_eq_zero hd)
    have x : 2 ^ (mag.log2 - 52) * 4503599627370496 = 2 ^ mag.log2 := by
      rw [show (4503599627370496 : Nat) = 2 ^ 52 from rfl, ← Nat.pow_add, show mag.log2 - 52 + 52 = mag.log2 by omega]
    have zp : 0 < 2 ^ (mag.log2 - 52) := Nat.two_pow_pos _
    have hsucc : 2 ^ (mag.log2 + 1) = 2 ^ (mag.log2 - 52) * 9007199254740992 := by rw [Nat.pow_succ, ← x]; omega
    refine fact _ ?_ ?_ ?_
    · rw [Nat.le_div_iff_mul_le zp, Nat.mul_comm, x]; exact l0
    · rw [Nat.div_lt_iff_lt_mul zp, Nat.mul_comm, ← hsucc]; exact l1
    · rw [show mag.log2 + 1022 = (mag.log2 - 52) + 1074 by omega, Nat.pow_add, ← Nat.mul_assoc, y]
end Go.Proofs.YtchklaepilcbbaaGreat

namespace Go.Proofs.YtchklaepilcbbaaGreat
open Ieee
/-- One, in units of the least place. -/
def unitF : Int := ((2 ^ 1074 : Nat) : Int)
theorem unitF_pos : 0 < unitF := by unfold unitF; exact Int.natCast_pos.2 (Nat.two_pow_pos 1074)

/-- A word of a sign and a finite rung, as a value. -/
theorem valF_word (neg : Bool) (r : Nat) (h : r < 9218868437227405312) : valF (double.word neg r) = (if neg then -1 else 1) * (valR r : Int) := by
  have hs : double.signWeight = 9223372036854775808 := by decide
  unfold Format.word valF
  rw [hs]
  cases neg
  · simp only [Bool.false_eq_true, if_false]; rw [if_pos (by omega)]; omega
  · simp only [if_true]; rw [if_neg (by omega), show 9223372036854775808 + r - 9223372036854775808 = r by omega]; omega

/-- The float of a whole number whose digits fit. -/
theorem valF_nearest (neg : Bool) (mag : Nat) (h1 : mag ≤ 9223372036854775808) (hd : mag % 2 ^ (mag.log2 - 52) = 0) :
    valF (double.nearest neg mag 0) = (if neg then -1 else 1) * (mag : Int) * unitF ∧ double.nearest neg mag 0 < 18446744073709551616 ∧ double.nearest neg mag 0 % 9223372036854775808 < 9218868437227405312 := by
  have hs : double.signWeight = 9223372036854775808 := by decide
  rcases Nat.eq_zero_or_pos mag with e | e
  · subst e
    unfold Format.nearest
    rw [if_pos rfl, valF_word neg 0 (by omega)]
    have z : valR 0 = 0 := by decide
    rw [z]
    unfold Format.word
    rw [hs]
    refine ⟨by simp, ?_, ?_⟩ <;> cases neg <;> decide
  · obtain ⟨r, a1, a2, a3⟩ := nearest_whole neg mag e h1 hd
    rw [a1, valF_word neg r a2, a3]
    refine ⟨?_, ?_, ?_⟩
    · unfold unitF
      rw [Int.natCast_mul, Int.mul_assoc]
    · unfold Format.word; rw [hs]; split <;> omega
    · unfold Format.word; rw [hs]; split <;> omega

theorem pow_split (a b : Nat) (h : b ≤ a) : 2 ^ a = 2 ^ (a - b) * 2 ^ b := by rw [← Nat.pow_add, Nat.sub_add_cancel h]
theorem cut_gap (n drop : Nat) : n / (1 <<< min drop (n.log2 + 2)) = n / 2 ^ drop ∧ n % (1 <<< min drop (n.log2 + 2)) = n % 2 ^ drop := by
  rw [Nat.shiftLeft_eq, Nat.one_mul]
  rcases Nat.le_total drop (n.log2 + 2) with h | h
  · rw [Nat.min_eq_left h]; exact ⟨rfl, rfl⟩
  · rw [Nat.min_eq_right h]
    have l1 : n < 2 ^ (n.log2 + 1) := Nat.lt_log2_self
    have l2 : n < 2 ^ (n.log2 + 2) := Nat.lt_of_lt_of_le l1 (Nat.pow_le_pow_right (by omega) (by omega))
    have l3 : n < 2 ^ drop := Nat.lt_of_lt_of_le l2 (Nat.pow_le_pow_right (by omega) h)
    rw [Nat.div_eq_of_lt l2, Nat.div_eq_of_lt l3, Nat.mod_eq_of_lt l2, Nat.mod_eq_of_lt l3]; exact ⟨rfl, rfl⟩
/-- The whole part and the rest, of a number's digits at its place. -/
theorem parts_at (m e : Nat) : m <<< (-1074 + (e : Int)).toNat / 2 ^ (-(-1074 + (e : Int))).toNat = m * 2 ^ e / 2 ^ 1074 ∧
    (m <<< (-1074 + (e : Int)).toNat % 2 ^ (-(-1074 + (e : Int))).toNat = 0 ↔ m * 2 ^ e % 2 ^ 1074 = 0) := by
  rw [Nat.shiftLeft_eq]
  rcases Nat.le_total 1074 e with h | h
  · have e1 : (-1074 + (e : Int)).toNat = e - 1074 := by omega
    have e2 : (-(-1074 + (e : Int))).toNat = 0 := by omega
    have e3 : 2 ^ e = 2 ^ (e - 1074) * 2 ^ 1074 := pow_split e 1074 h
    rw [e1, e2, e3, ← Nat.mul_assoc, Nat.mul_div_cancel _ (Nat.two_pow_pos 1074), Nat.pow_zero, Nat.div_one, Nat.mod_one, Nat.mul_mod_left]
    exact ⟨rfl, Iff.rfl⟩
  · have e1 : (-1074 + (e : Int)).toNat = 0 := by omega
    have e2 : (-(-1074 + (e : Int))).toNat = 1074 - e := by omega
    have e3 : 2 ^ 1074 = 2 ^ (1074 - e) * 2 ^ e := pow_split 1074 e h
    rw [e1, e2, e3, Nat.mul_div_mul_right _ _ (Nat.two_pow_pos e), Nat.mul_mod_mul_right, Nat.pow_zero, Nat.mul_one]
    refine ⟨rfl, ?_⟩
    have := Nat.two_pow_pos e
    constructor
    · intro h; rw [h, Nat.zero_mul]
    · intro h; rcases Nat.mul_eq_zero.1 h with g | g
      · exact g
      · omega
/-- A whole part's digits fit. -/
theorem fits_down (m e M : Nat) (hm : m < 9007199254740992) (hM : M = m * 2 ^ e / 2 ^ 1074 ∨ M = m * 2 ^ e / 2 ^ 1074 + 1 ∧ m * 2 ^ e % 2 ^ 1074 ≠ 0) :
    M % 2 ^ (M.log2 - 52) = 0 := by
  have mono : ∀ k, M < 2 ^ (k + 53) → M.log2 - 52 ≤ k := by
    intro k hk
    rcases Nat.eq_zero_or_pos M with z | z
    · subst z; simp
    · have := (Nat.log2_lt (by omega)).2 hk; omega
  rcases Nat.le_total 1074 e with h | h
  · have e3 : 2 ^ e = 2 ^ (e - 1074) * 2 ^ 1074 := pow_split e 1074 h
    rw [e3, ← Nat.mul_assoc, Nat.mul_div_cancel _ (Nat.two_pow_pos 1074), Nat.mul_mod_left] at hM
    have hM' : M = m * 2 ^ (e - 1074) := by
      rcases hM with h | ⟨_, h⟩
      · exact h
      · exact absurd rfl h
    have b : M < 2 ^ (e - 1074 + 53) := by
      rw [hM', Nat.pow_add, Nat.mul_comm]; exact Nat.mul_lt_mul_of_pos_left hm (Nat.two_pow_pos _)
    have c := mono _ b
    have d : 2 ^ (M.log2 - 52) ∣ M := by
      rw [hM'] at c ⊢
      exact Nat.dvd_trans (Nat.pow_dvd_pow 2 c) (Nat.dvd_mul_left _ _)
    exact Nat.mod_eq_zero_of_dvd d
  · have e3 : 2 ^ 1074 = 2 ^ (1074 - e) * 2 ^ e := pow_split 1074 e h
    rw [e3, Nat.mul_div_mul_right _ _ (Nat.two_pow_pos e), Nat.mul_mod_mul_right] at hM
    have b : M < 2 ^ (0 + 53) := by
      rcases Nat.eq_zero_or_pos (1074 - e) with z | z
      · rw [z, Nat.pow_zero, Nat.div_one, Nat.mod_one] at hM
        rcases hM with h | ⟨_, h⟩ <;> omega
      · have t : 2 ≤ 2 ^ (1074 - e) := by
          have := Nat.pow_le_pow_right (n := 2) (by omega) z
          omega
        have u : m / 2 ^ (1074 - e) ≤ m / 2 := Nat.div_le_div_left t (by omega)
        omega
    have c := mono 0 b
    have d : M.log2 - 52 = 0 := by omega
    rw [d, Nat.pow_zero, Nat.mod_one]
end Go.Proofs.YtchklaepilcbbaaGreat

namespace Go.Proofs.YtchklaepilcbbaaGreat
open Ieee
/-- The sign, 1 or -1, and the whole part of the value without its sign. -/
def sgnF (b : Nat) : Int := if decide (9223372036854775808 ≤ b) = true then -1 else 1
def wholeF (b : Nat) : Nat := valR (b % 9223372036854775808) / 2 ^ 1074
def restF (b : Nat) : Nat := valR (b % 9223372036854775808) % 2 ^ 1074
/-- Cut towards zero; cut down. -/
def truncF (b : Nat) : Int := sgnF b * (wholeF b : Int)
def downN (b : Nat) : Nat := if (decide (9223372036854775808 ≤ b) && restF b != 0) = true then wholeF b + 1 else wholeF b
def floorF (b : Nat) : Int := sgnF b * (downN b : Int)

theorem signed_sgn (b M : Nat) : signed (decide (9223372036854775808 ≤ b)) M 0 = sgnF b * (M : Int) := by
  rw [signed_eq]; unfold sgnF; rw [Nat.pow_zero, Nat.mul_one]

theorem integral_zero (b : Nat) (hb : b < 18446744073709551616) (h : b % 9223372036854775808 < 9218868437227405312) :
    (double.read b).integral .zero = .number (decide (9223372036854775808 ≤ b)) (wholeF b) 0 ∧ wholeF b % 2 ^ ((wholeF b).log2 - 52) = 0 := by
  obtain ⟨m, e, h1, h2, h3⟩ := read_number b hb h
  have hL : double.leastPlace = -1074 := by decide
  rw [hL] at h1
  have p := parts_at m e
  have g := cut_gap (m <<< (-1074 + (e : Int)).toNat) (-(-1074 + (e : Int))).toNat
  constructor
  · rw [h1]
    unfold Datum.integral
    have c : Toward.zero.cut (decide (9223372036854775808 ≤ b)) (m <<< (-1074 + (e : Int)).toNat) (-(-1074 + (e : Int))).toNat = wholeF b := by
      unfold Toward.cut wholeF
      simp only [g.1]
      rw [p.1, h2]; exact Nat.add_zero _
    simp only [c]
  · refine fits_down m e _ h3 (.inl ?_)
    unfold wholeF; rw [h2]
theorem integral_down (b : Nat) (hb : b < 18446744073709551616) (h : b % 9223372036854775808 < 9218868437227405312) :
    (double.read b).integral .down = .number (decide (9223372036854775808 ≤ b)) (downN b) 0 ∧ downN b % 2 ^ ((downN b).log2 - 52) = 0 := by
  obtain ⟨m, e, h1, h2, h3⟩ := read_number b hb h
  have hL : double.leastPlace = -1074 := by decide
  rw [hL] at h1
  have p := parts_at m e
  have g := cut_gap (m <<< (-1074 + (e : Int)).toNat) (-(-1074 + (e : Int))).toNat
  constructor
  · rw [h1]
    unfold Datum.integral
    have c : Toward.down.cut (decide (9223372036854775808 ≤ b)) (m <<< (-1074 + (e : Int)).toNat) (-(-1074 + (e : Int))).toNat = downN b := by
      unfold Toward.cut downN wholeF restF
      simp only [g.1, g.2]
      rw [p.1, h2]
      have q := p.2
      rw [h2] at q
      have e0 : (m <<< (-1074 + (e : Int)).toNat % 2 ^ (-(-1074 + (e : Int))).toNat != 0) = (valR (b % 9223372036854775808) % 2 ^ 1074 != 0) := by
        rw [Bool.eq_iff_iff]
        simp only [bne_iff_ne, ne_eq, q]
      rw [e0]
      generalize (decide (9223372036854775808 ≤ b) && valR (b % 9223372036854775808) % 2 ^ 1074 != 0) = t
      generalize valR (b % 9223372036854775808) / 2 ^ 1074 = A
      cases t <;> simp
    simp only [c]
  · refine fits_down m e _ h3 ?_
    unfold downN wholeF restF; rw [h2]
    split
    · next t =>
      right
      simp only [Bool.and_eq_true, bne_iff_ne] at t
      exact ⟨rfl, t.2⟩
    · left; rfl

theorem toInt_zero (b : Nat) (hb : b < 18446744073709551616) (h : b % 9223372036854775808 < 9218868437227405312) :
    (double.read b).toInt .zero = some (truncF b) := by
  unfold Datum.toInt
  rw [(integral_zero b hb h).1]
  simp only [signed_sgn]
  rfl

theorem mul_next (n q U : Int) (hU : 0 < U) (h : n < q) : n * U + U ≤ q * U := by
  have := Int.mul_le_mul_of_nonneg_right (show n + 1 ≤ q by omega) (show 0 ≤ U by omega)
  rw [Int.add_mul, Int.one_mul] at this
  exact this
def cmpZ (a b : Int) : Int := if a < b then -1 else if b < a then 1 else 0
theorem cmp_floor (n q U V : Int) (hU : 0 < U) (h : q * U ≤ V) (h' : V < q * U + U) :
    cmpZ (n * U) V = if n > q then 1 else if n < q then -1 else if q * U < V then -1 else 0 := by
  unfold cmpZ
  rcases Int.lt_trichotomy n q with g | g | g
  · have := mul_next n q U hU g
    rw [if_pos (by omega), if_neg (by omega), if_pos g]
  · subst g
    rw [if_neg (show ¬ n > n by omega), if_neg (show ¬ n < n by omega), if_neg (show ¬ V < n * U by omega)]
  · have := mul_next q n U hU g
    rw [if_neg (by omega), if_pos (by omega), if_pos g]
theorem cmp_ceil (n q U V : Int) (hU : 0 < U) (h : V ≤ q * U) (h' : q * U < V + U) :
    cmpZ (n * U) V = if n = q then cmpZ (q * U) V else cmpZ n q := by
  unfold cmpZ
  rcases Int.lt_trichotomy n q with g | g | g
  · have := mul_next n q U hU g
    rw [if_pos (by omega), if_neg (by omega), if_pos g]
  · subst g
    rw [if_pos rfl]
  · have := mul_next q n U hU g
    rw [if_neg (by omega), if_pos (by omega), if_neg (by omega), if_neg (by omega), if_pos g]
theorem cmp_floor' (n q U V : Int) (hU : 0 < U) (h : q * U ≤ V) (h' : V < q * U + U) :
    cmpZ (n * U) V = if n = q then cmpZ (q * U) V else cmpZ n q := by
  rw [cmp_floor n q U V hU h h']
  unfold cmpZ
  rcases Int.lt_trichotomy n q with g | g | g
  · rw [if_neg (by omega), if_pos g, if_neg (by omega), if_pos g]
  · subst g
    rw [if_neg (by omega), if_neg (by omega), if_pos rfl, if_neg (show ¬ V < n * U by omega)]
  · rw [if_pos g, if_neg (by omega), if_neg (by omega), if_pos g]

theorem valF_parts (b : Nat) (hb : b < 18446744073709551616) : valF b = sgnF b * ((wholeF b : Int) * unitF + (restF b : Int)) ∧ (restF b : Int) < unitF := by
  have u := valF_eq b hb
  have d := Nat.div_add_mod (valR (b % 9223372036854775808)) (2 ^ 1074)
  have r := Nat.mod_lt (valR (b % 9223372036854775808)) (Nat.two_pow_pos 1074)
  unfold sgnF wholeF restF unitF
  rw [u]
  generalize (2 ^ 1074 : Nat) = U at *
  generalize valR (b % 9223372036854775808) = v at *
  refine ⟨?_, by omega⟩
  congr 1
  rw [← Int.natCast_mul, Nat.mul_comm (v / U) U]
  omega
/-- A whole number against a float, by way of the part towards zero. -/
theorem mixed_trunc (n : Int) (b : Nat) (hb : b < 18446744073709551616) :
    cmpZ (n * unitF) (valF b) = if n = truncF b then cmpZ (truncF b * unitF) (valF b) else cmpZ n (truncF b) := by
  obtain ⟨h1, h2⟩ := valF_parts b hb
  have h0 := unitF_pos
  unfold truncF
  unfold sgnF at *
  by_cases p : 9223372036854775808 ≤ b
  · have pd : decide (9223372036854775808 ≤ b) = true := by simp [p]
    rw [pd] at h1 ⊢
    simp only [if_true] at h1 ⊢
    generalize unitF = U at *
    generalize wholeF b = w at *
    generalize restF b = r at *
    generalize valF b = V at *
    refine cmp_ceil n _ U V h0 ?_ ?_ <;> (rw [Int.neg_one_mul, Int.neg_mul]; generalize (w : Int) * U = x at *; omega)
  · have pd : decide (9223372036854775808 ≤ b) = false := by simp [p]
    rw [pd] at h1 ⊢
    simp only [Bool.false_eq_true, if_false] at h1 ⊢
    generalize unitF = U at *
    generalize wholeF b = w at *
    generalize restF b = r at *
    generalize valF b = V at *
    refine cmp_floor' n _ U V h0 ?_ ?_ <;> (rw [Int.one_mul]; generalize (w : Int) * U = x at *; omega)
/-- And by way of the part below. -/
theorem mixed_floor (n : Int) (b : Nat) (hb : b < 18446744073709551616) :
    cmpZ (n * unitF) (valF b) = if n > floorF b then 1 else if n < floorF b then -1 else if floorF b * unitF < valF b then -1 else 0 := by
  obtain ⟨h1, h2⟩ := valF_parts b hb
  have h0 := unitF_pos
  unfold floorF downN
  unfold sgnF at *
  by_cases p : 9223372036854775808 ≤ b
  · have pd : decide (9223372036854775808 ≤ b) = true := by simp [p]
    rw [pd] at h1 ⊢
    simp only [Bool.true_and, if_true] at h1 ⊢
    generalize unitF = U at *
    generalize wholeF b = w at *
    generalize restF b = r at *
    generalize valF b = V at *
    by_cases q : r = 0
    · subst q
      have e : (if (0 != 0) = true then w + 1 else w) = w := by simp
      rw [e]
      refine cmp_floor n _ U V h0 ?_ ?_ <;> (rw [Int.neg_one_mul, Int.neg_mul]; generalize (w : Int) * U = x at *; omega)
    · have e : (if (r != 0) = true then w + 1 else w) = w + 1 := by simp [q]
      rw [e]
      refine cmp_floor n _ U V h0 ?_ ?_ <;> (rw [Int.neg_one_mul, Int.neg_mul, Int.natCast_add, Int.add_mul]; generalize (w : Int) * U = x at *; omega)
  · have pd : decide (9223372036854775808 ≤ b) = false := by simp [p]
    rw [pd] at h1 ⊢
    simp only [Bool.false_and, Bool.false_eq_true, if_false] at h1 ⊢
    generalize unitF = U at *
    generalize wholeF b = w at *
    generalize restF b = r at *
    generalize valF b = V at *
    refine cmp_floor n _ U V h0 ?_ ?_ <;> (rw [Int.one_mul]; generalize (w : Int) * U = x at *; omega)
end Go.Proofs.YtchklaepilcbbaaGreat

namespace Go.Proofs.YtchklaepilcbbaaGreat
open Go.RowKit
theorem order_lt (a b : Nat) (ha : a < 18446744073709551616) (hb : b < 18446744073709551616) (na : isNaNF a = false) (nb : isNaNF b = false) :
    (FloatKind.f64.format.order a b == some Ordering.lt) = decide (valF a < valF b) ∧ (FloatKind.f64.format.order a b == some Ordering.gt) = decide (valF b < valF a) ∧
    (FloatKind.f64.format.order a b == some Ordering.eq) = (!decide (valF a < valF b) && !decide (valF b < valF a)) := by
  unfold isNaNF at na nb
  simp only [decide_eq_false_iff_not] at na nb
  have e : FloatKind.f64.format.order a b = some (compare (keyF a) (keyF b)) := order_any a b ha hb (by omega) (by omega)
  rw [e]
  have q1 := valF_lt a b
  have q2 := valF_lt b a
  generalize keyF a = x at *
  generalize keyF b = y at *
  have g : compare x y = compareOfLessAndEq x y := rfl
  rw [g]
  unfold compareOfLessAndEq
  rcases Int.lt_trichotomy x y with t | t | t
  · have u1 := q1.2 t
    have u2 : ¬ valF b < valF a := fun v => by have := q2.1 v; omega
    rw [if_pos t]; simp [u1, u2]
  · have u1 : ¬ valF a < valF b := fun v => by have := q1.1 v; omega
    have u2 : ¬ valF b < valF a := fun v => by have := q2.1 v; omega
    rw [if_neg (by omega), if_pos t]; simp [u1, u2]
  · have u1 : ¬ valF a < valF b := fun v => by have := q1.1 v; omega
    have u2 := q2.2 t
    rw [if_neg (by omega), if_neg (by omega)]; simp [u1, u2]
theorem self_nan (b : Nat) (hb : b < 18446744073709551616) : (FloatKind.f64.format.order b b != some Ordering.eq) = isNaNF b := self_any b hb
theorem valF_edge : valF 4890909195324358656 = 9223372036854775808 * unitF := by
  have h := (valF_nearest false 9223372036854775808 (by omega) (by decide)).1
  rw [show Ieee.double.nearest false 9223372036854775808 0 = 4890909195324358656 by decide +kernel] at h
  rw [h]; simp
theorem valF_edge' : valF 14114281232179134464 = -9223372036854775808 * unitF := by
  have h := (valF_nearest true 9223372036854775808 (by omega) (by decide)).1
  rw [show Ieee.double.nearest true 9223372036854775808 0 = 14114281232179134464 by decide +kernel] at h
  rw [h]; simp

theorem conv_toInt (b : Nat) (w : World) (hb : b < 18446744073709551616) (h : b % 9223372036854775808 < 9218868437227405312)
    (h1 : -9223372036854775808 ≤ truncF b) (h2 : truncF b ≤ 9223372036854775807) :
    (convert 22 2 (.float .f64 b)).run Tryz.prog w = .ok (.int .i64 (truncF b)) w := by
  have e : (convert 22 2 (.float .f64 b)).run Tryz.prog w = (Conv.floatToInt .f64 b .i64).run Tryz.prog w := by kernel_rfl
  rw [e]
  unfold Conv.floatToInt
  rw [show FloatKind.f64.decode b = Ieee.double.read b from rfl, toInt_zero b hb h]
  have k1 : IntKind.i64.min = -9223372036854775808 := by decide
  have k2 : IntKind.i64.max = 9223372036854775807 := by decide
  simp only [k1, k2]
  rw [if_pos ⟨h1, h2⟩]
  rfl
theorem conv_toFloat (n : Int) (w : World) :
    (convert 2 22 (.int .i64 n)).run Tryz.prog w = .ok (.float .f64 (Ieee.double.nearest (decide (n < 0)) n.natAbs 0)) w := by kernel_rfl
set_option maxRecDepth 100000 in
theorem CompareI (x y : Int) (w : World) :
    Calls Tryz.prog 186 #[.int .i64 x, .int .i64 y] w fun e w' => e = .returned (.int .i64 (cmpZ x y)) ∧ w = w' := by
  obtain ⟨c, hc⟩ : ∃ c, c = cmpZ x y := ⟨_, rfl⟩
  rw [← hc]
  unfold cmpZ at hc
  by_cases p : x < y
  · have pb : decide (x < y) = true := by simp [p]
    rw [if_pos p] at hc
    subst hc
    go_enter Tryz.func186, Tryz.ntmps186
    go_wp2
    go_ret
    exact ⟨rfl, rfl⟩
  · have pb : decide (x < y) = false := by simp [p]
    rw [if_neg p] at hc
    by_cases q : y < x
    · have qb : decide (y < x) = true := by simp [q]
      rw [if_pos q] at hc
      subst hc
      clear p
      go_enter Tryz.func186, Tryz.ntmps186
      go_wp2
      go_ret
      exact ⟨rfl, rfl⟩
    · have qb : decide (y < x) = false := by simp [q]
      rw [if_neg q] at hc
      subst hc
      clear p q
      go_enter Tryz.func186, Tryz.ntmps186
      go_wp2
      go_ret
      exact ⟨rfl, rfl⟩
set_option maxRecDepth 100000 in
theorem CompareF (a b : Nat) (w : World) (ha : a < 18446744073709551616) (hb : b < 18446744073709551616) (na : isNaNF a = false) (nb : isNaNF b = false) :
    Calls Tryz.prog 206 #[.float .f64 a, .float .f64 b] w fun e w' => e = .returned (.int .i64 (cmpZ (valF a) (valF b))) ∧ w = w' := by
  have ha1 := self_nan a ha
  have hb1 := self_nan b hb
  rw [na] at ha1
  rw [nb] at hb1
  obtain ⟨o1, o2, _⟩ := order_lt a b ha hb na nb
  obtain ⟨c, hc⟩ : ∃ c, c = cmpZ (valF a) (valF b) := ⟨_, rfl⟩
  rw [← hc]
  unfold cmpZ at hc
  generalize valF a = x at *
  generalize valF b = y at *
  by_cases p : x < y
  · rw [if_pos p] at hc
    rw [show decide (x < y) = true by simp [p]] at o1
    subst hc
    clear o2 p
    go_enter Tryz.func206, Tryz.ntmps206
    go_wp2
    go_ret
    exact ⟨rfl, rfl⟩
  · rw [if_neg p] at hc
    rw [show decide (x < y) = false by simp [p]] at o1
    by_cases q : y < x
    · rw [if_pos q] at hc
      rw [show decide (y < x) = true by simp [q]] at o2
      subst hc
      clear p q
      go_enter Tryz.func206, Tryz.ntmps206
      go_wp2
      go_ret
      exact ⟨rfl, rfl⟩
    · rw [if_neg q] at hc
      rw [show decide (y < x) = false by simp [q]] at o2
      subst hc
      clear p q
      go_enter Tryz.func206, Tryz.ntmps206
      go_wp2
      go_ret
      exact ⟨rfl, rfl⟩

/-- What Mixed answers: by the exact values; a NaN is above all whole numbers. -/
def mixedF (n : Int) (b : Nat) : Int := if isNaNF b = true then -1 else cmpZ (n * unitF) (valF b)
/-- Between the edges: finite, and its whole part is a whole number of 64 bits. -/
theorem between (b : Nat) (hb : b < 18446744073709551616) (h1 : ¬ 9223372036854775808 * unitF ≤ valF b) (h2 : ¬ valF b < -9223372036854775808 * unitF) :
    b % 9223372036854775808 < 9218868437227405312 ∧ -9223372036854775808 ≤ truncF b ∧ truncF b ≤ 9223372036854775807 ∧ wholeF b ≤ 9223372036854775808 := by
  have u := unitF_pos
  have fin : b % 9223372036854775808 < 9218868437227405312 := by
    have q1 := valF_lt b 4890909195324358656
    have q2 := valF_lt b 14114281232179134464
    rw [valF_edge] at q1
    rw [valF_edge'] at q2
    have k1 := q1.1 (by omega)
    have k2 : ¬ keyF b < keyF 14114281232179134464 := fun v => h2 (q2.2 v)
    unfold keyF at k1 k2
    simp only [show (4890909195324358656 : Nat) < 9223372036854775808 by omega, show ¬ (14114281232179134464 : Nat) < 9223372036854775808 by omega, if_true, if_false] at k1 k2
    by_cases p : b < 9223372036854775808
    · rw [if_pos p] at k1 k2; omega
    · rw [if_neg p] at k1 k2; omega
  refine ⟨fin, ?_⟩
  obtain ⟨v1, v2⟩ := valF_parts b hb
  unfold truncF
  unfold sgnF at *
  by_cases p : 9223372036854775808 ≤ b
  · rw [if_pos (by simp [p])] at *
    have l : (wholeF b : Int) * unitF ≤ 9223372036854775808 * unitF := by
      generalize (wholeF b : Int) * unitF = x at *
      omega
    have m := Int.le_of_mul_le_mul_right l u
    omega
  · rw [if_neg (by simp [p])] at *
    have l : (wholeF b : Int) * unitF < 9223372036854775808 * unitF := by
      generalize (wholeF b : Int) * unitF = x at *
      omega
    have m := Int.lt_of_mul_lt_mul_right l (by omega)
    omega
/-- The whole part as a float again. -/
theorem trunc_float (b : Nat) (hb : b < 18446744073709551616) (fin : b % 9223372036854775808 < 9218868437227405312) (hw : wholeF b ≤ 9223372036854775808) :
    valF (Ieee.double.nearest (decide (truncF b < 0)) (truncF b).natAbs 0) = truncF b * unitF ∧ Ieee.double.nearest (decide (truncF b < 0)) (truncF b).natAbs 0 < 18446744073709551616 ∧
    isNaNF (Ieee.double.nearest (decide (truncF b < 0)) (truncF b).natAbs 0) = false := by
  have e : (truncF b).natAbs = wholeF b := by unfold truncF sgnF; split <;> omega
  obtain ⟨a1, a2, a3⟩ := valF_nearest (decide (truncF b < 0)) (truncF b).natAbs (by rw [e]; exact hw) (by rw [e]; exact (integral_zero b hb fin).2)
  refine ⟨?_, a2, ?_⟩
  · rw [a1]
    congr 1
    by_cases p : truncF b < 0
    · rw [if_pos (by simp [p])]; omega
    · rw [if_neg (by simp [p])]; omega
  · unfold isNaNF
    simp only [decide_eq_false_iff_not]
    omega
theorem mixed_top (n : Int) (b : Nat) (hn : fits n) (h : 9223372036854775808 * unitF ≤ valF b) : cmpZ (n * unitF) (valF b) = -1 := by
  unfold fits at hn
  have := mul_next n 9223372036854775808 unitF unitF_pos (by omega)
  have u := unitF_pos
  unfold cmpZ
  rw [if_pos (by omega)]
theorem mixed_low (n : Int) (b : Nat) (hn : fits n) (h : valF b < -9223372036854775808 * unitF) : cmpZ (n * unitF) (valF b) = 1 := by
  unfold fits at hn
  have : -9223372036854775808 * unitF ≤ n * unitF := Int.mul_le_mul_of_nonneg_right (by omega) (by have := unitF_pos; omega)
  unfold cmpZ
  rw [if_neg (by omega), if_pos (by omega)]
theorem edge_facts (b : Nat) (hb : b < 18446744073709551616) (nb : isNaNF b = false) :
    (FloatKind.f64.format.order b 4890909195324358656 == some Ordering.gt) = decide (9223372036854775808 * unitF < valF b) ∧
    (FloatKind.f64.format.order b 4890909195324358656 == some Ordering.eq) = (!decide (valF b < 9223372036854775808 * unitF) && !decide (9223372036854775808 * unitF < valF b)) ∧
    (FloatKind.f64.format.order b 14114281232179134464 == some Ordering.lt) = decide (valF b < -9223372036854775808 * unitF) := by
  obtain ⟨_, a2, a3⟩ := order_lt b 4890909195324358656 hb (by omega) nb (by decide)
  obtain ⟨b1, _, _⟩ := order_lt b 14114281232179134464 hb (by omega) nb (by decide)
  rw [valF_edge] at a2 a3
  rw [valF_edge'] at b1
  exact ⟨a2, a3, b1⟩
set_option maxRecDepth 100000 in
theorem IsNaN_any (b : Nat) (w : World) (hb : b < 18446744073709551616) :
    Calls Tryz.prog 115 #[.float .f64 b] w fun e w' => e = .returned (.bool (isNaNF b)) ∧ w = w' := by
  have h := self_nan b hb
  cases nb : isNaNF b <;> rw [nb] at h
  · go_enter Tryz.func115, Tryz.ntmps115
    go_wp2
    go_ret
    exact ⟨rfl, rfl⟩
  · go_enter Tryz.func115, Tryz.ntmps115
    go_wp2
    go_ret
    exact ⟨rfl, rfl⟩
set_option maxRecDepth 100000 in
theorem Mixed_any (n : Int) (b : Nat) (w : World) (hn : fits n) (hb : b < 18446744073709551616) :
    Calls Tryz.prog 196 #[.int .i64 n, .float .f64 b] w fun e w' => e = .returned (.int .i64 (mixedF n b)) ∧ w = w' := by
  have h0 := self_nan b hb
  cases nb : isNaNF b
  · rw [nb] at h0
    obtain ⟨g1, g2, g3⟩ := edge_facts b hb nb
    have goal : mixedF n b = cmpZ (n * unitF) (valF b) := by unfold mixedF; rw [if_neg (by simp [nb])]
    rw [goal]
    by_cases p : 9223372036854775808 * unitF ≤ valF b
    · rw [mixed_top n b hn p]
      have pp : (FloatKind.f64.format.order b 4890909195324358656 == some Ordering.gt || FloatKind.f64.format.order b 4890909195324358656 == some Ordering.eq) = true := by
        rw [g1, g2]
        generalize valF b = V at *
        generalize unitF = U at *
        by_cases q : 9223372036854775808 * U < V
        · simp [q]
        · have : ¬ V < 9223372036854775808 * U := by omega
          simp [q, this]
      clear g1 g2 g3 p goal
      go_enter Tryz.func196, Tryz.ntmps196
      go_wp2
      go_ret
      exact ⟨rfl, rfl⟩
    · have g1' : (FloatKind.f64.format.order b 4890909195324358656 == some Ordering.gt) = false := by rw [g1]; simp; omega
      have g2' : (FloatKind.f64.format.order b 4890909195324358656 == some Ordering.eq) = false := by rw [g2]; simp; omega
      by_cases p2 : valF b < -9223372036854775808 * unitF
      · rw [mixed_low n b hn p2]
        have g3' : (FloatKind.f64.format.order b 14114281232179134464 == some Ordering.lt) = true := by rw [g3]; simpa using p2
        clear g1 g2 g3 p p2 goal
        go_enter Tryz.func196, Tryz.ntmps196
        go_wp2
        go_ret
        exact ⟨rfl, rfl⟩
      · have g3' : (FloatKind.f64.format.order b 14114281232179134464 == some Ordering.lt) = false := by rw [g3]; simpa using p2
        have HN := Lib.hid (fun w => IsNaN_any b w hb)
        rw [nb] at HN
        obtain ⟨fin, t1, t2, t3⟩ := between b hb p p2
        obtain ⟨f1, f2, f3⟩ := trunc_float b hb fin t3
        have C1 := fun w => conv_toInt b w hb fin t1 t2
        have C2 := fun w => conv_toFloat (truncF b) w
        have C3 := fun w => CompareF _ b w f2 hb f3 nb
        rw [f1] at C3
        have C4 := fun w => CompareI n (truncF b) w
        rw [mixed_trunc n b hb]
        clear g1 g2 g3 p p2 goal t1 t2 t3 fin f1 f2 f3
        generalize Ieee.double.nearest (decide (truncF b < 0)) (truncF b).natAbs 0 = d at *
        generalize cmpZ (truncF b * unitF) (valF b) = c at *
        generalize truncF b = t at *
        by_cases q : n = t
        · have qb : (n != t) = false := by simp [q]
          rw [if_pos q]
          clear C4 q
          have H3 := Lib.hid C3
          clear C3
          go_enter Tryz.func196, Tryz.ntmps196
          go_wp2_with (first | (go_at_call 115; ((with_reducible refine (HN.out _).mono ?_); rintro e w' ⟨rfl, rfl⟩)) | (go_at_call 206; ((with_reducible refine (H3.out _).mono ?_); rintro e w' ⟨rfl, rfl⟩)))
          go_ret
          exact ⟨rfl, rfl⟩
        · have qb : (n != t) = true := by simp [q]
          rw [if_neg q]
          clear C3
          have H4 := Lib.hid C4
          clear C4 q
          go_enter Tryz.func196, Tryz.ntmps196
          go_wp2_with (first | (go_at_call 115; ((with_reducible refine (HN.out _).mono ?_); rintro e w' ⟨rfl, rfl⟩)) | (go_at_call 186; ((with_reducible refine (H4.out _).mono ?_); rintro e w' ⟨rfl, rfl⟩)))
          go_ret
          exact ⟨rfl, rfl⟩
  · rw [nb] at h0
    have goal : mixedF n b = -1 := by unfold mixedF; rw [if_pos nb]
    rw [goal]
    go_enter Tryz.func196, Tryz.ntmps196
    go_wp2
    go_ret
    exact ⟨rfl, rfl⟩
end Go.Proofs.YtchklaepilcbbaaGreat

namespace Go.Proofs.YtchklaepilcbbaaGreat
open Go.RowKit
theorem rank_nan_eq (b : Nat) (hb : b < 18446744073709551616) (n : isNaNF b = true) : rankOf b = 18446744073709551615 := by
  unfold rankOf; rw [self_nan b hb, if_pos n]
theorem rank_num_eq (b : Nat) (hb : b < 18446744073709551616) (n : isNaNF b = false) : rankOf b = if b < 9223372036854775808 then (b : Int) + 9223372036854775808 else 18446744073709551615 - b := by
  unfold rankOf; rw [self_nan b hb, if_neg (by simp [n])]
theorem num_bound (b : Nat) (n : isNaNF b = false) : b % 9223372036854775808 ≤ 9218868437227405312 := by
  unfold isNaNF at n; simp only [decide_eq_false_iff_not] at n; omega
end Go.Proofs.YtchklaepilcbbaaGreat

namespace Go.Proofs.YtchklaepilcbbaaGreat
open Go.RowKit
theorem canonF_lt (b : Nat) (hb : b < 18446744073709551616) : canonF b < 18446744073709551616 := by
  unfold canonF; split <;> omega
theorem canonF_nan (b : Nat) : isNaNF (canonF b) = true → canonF b = 9221120237041090561 := by
  unfold canonF
  by_cases p : isNaNF b = true
  · rw [if_pos p]; intro _; rfl
  · rw [if_neg p]; intro h; exact absurd h p
theorem cmpI_flip (x y : Int) : cmpI x y = -cmpI y x := by
  unfold cmpI; repeat' split
  all_goals omega
theorem cmpI_le (x y : Int) : cmpI x y ≤ 0 ↔ x ≤ y := by
  unfold cmpI; repeat' split
  all_goals omega
theorem cmpI_zero (x y : Int) : cmpI x y = 0 ↔ x = y := by
  unfold cmpI; repeat' split
  all_goals omega
theorem rank_below (b : Nat) (hb : b < 18446744073709551616) (n : isNaNF b = false) : rankOf b < 18446744073709551615 := by
  have k := num_bound b n
  rw [rank_num_eq b hb n]
  split <;> omega
theorem rank_inj (a b : Nat) (ha : a < 18446744073709551616) (hb : b < 18446744073709551616) : rankOf (canonF a) = rankOf (canonF b) ↔ canonF a = canonF b := by
  constructor
  · have la := canonF_lt a ha
    have lb := canonF_lt b hb
    have na := canonF_nan a
    have nb := canonF_nan b
    generalize canonF a = x at *
    generalize canonF b = y at *
    intro h
    cases p : isNaNF x <;> cases q : isNaNF y
    · rw [rank_num_eq x la p, rank_num_eq y lb q] at h
      split at h <;> split at h <;> omega
    · have := rank_below x la p
      rw [rank_nan_eq y lb q] at h; omega
    · have := rank_below y lb q
      rw [rank_nan_eq x la p] at h; omega
    · rw [na p, nb q]
  · intro h; rw [h]
theorem cmpZ_mono (x y z : Int) (h : x ≤ y) : cmpZ x z ≤ cmpZ y z := by
  unfold cmpZ; repeat' split
  all_goals omega
theorem cmpZ_anti (x y z : Int) (h : x ≤ y) : cmpZ z y ≤ cmpZ z x := by
  unfold cmpZ; repeat' split
  all_goals omega
theorem cmpZ_least (x y : Int) : -1 ≤ cmpZ x y := by
  unfold cmpZ; repeat' split
  all_goals omega
theorem mixed_mono (n m : Int) (b : Nat) (h : m ≤ n) : mixedF m b ≤ mixedF n b := by
  unfold mixedF
  split
  · omega
  · exact cmpZ_mono _ _ _ (Int.mul_le_mul_of_nonneg_right h (by have := unitF_pos; omega))
theorem mixed_anti (n : Int) (a b : Nat) (ha : a < 18446744073709551616) (hb : b < 18446744073709551616) (h : rankOf a ≤ rankOf b) : mixedF n b ≤ mixedF n a := by
  unfold mixedF
  cases p : isNaNF a <;> cases q : isNaNF b
  · rw [if_neg (by simp), if_neg (by simp)]
    refine cmpZ_anti _ _ _ ?_
    rw [rank_num_eq a ha p, rank_num_eq b hb q] at h
    have v := (valF_lt b a)
    have k : ¬ keyF b < keyF a := by
      unfold keyF
      split at h <;> split at h <;> simp only [*, if_true, if_false] <;> omega
    omega
  · rw [if_pos rfl, if_neg (by simp)]
    exact cmpZ_least _ _
  · have := rank_below b hb q
    rw [rank_nan_eq a ha p] at h; omega
  · rw [if_pos rfl, if_pos rfl]; exact Int.le_refl _
/-- The float of a whole number that is a multiple of 2048. -/
theorem whole_float (k : Int) (h1 : -9223372036854775808 ≤ k) (h2 : k ≤ 9223372036854775807) (hd : k % 2048 = 0) :
    valF (Ieee.double.nearest (decide (k < 0)) k.natAbs 0) = k * unitF ∧ Ieee.double.nearest (decide (k < 0)) k.natAbs 0 < 18446744073709551616 ∧
    isNaNF (Ieee.double.nearest (decide (k < 0)) k.natAbs 0) = false := by
  have d : k.natAbs % 2 ^ (k.natAbs.log2 - 52) = 0 := by
    have e : k.natAbs.log2 - 52 ≤ 11 := by
      rcases Nat.eq_zero_or_pos k.natAbs with z | z
      · rw [z]; decide
      · have := (Nat.log2_lt (n := k.natAbs) (k := 64) (by omega)).2 (by omega)
        omega
    have s : 2 ^ (k.natAbs.log2 - 52) ∣ 2 ^ 11 := Nat.pow_dvd_pow 2 e
    have t : 2 ^ 11 ∣ k.natAbs := by
      have : k.natAbs % 2048 = 0 := by omega
      exact Nat.dvd_of_mod_eq_zero this
    exact Nat.mod_eq_zero_of_dvd (Nat.dvd_trans s t)
  obtain ⟨a1, a2, a3⟩ := valF_nearest (decide (k < 0)) k.natAbs (by omega) d
  refine ⟨?_, a2, ?_⟩
  · rw [a1]
    congr 1
    by_cases p : k < 0
    · rw [if_pos (by simp [p])]; omega
    · rw [if_neg (by simp [p])]; omega
  · unfold isNaNF
    simp only [decide_eq_false_iff_not]
    omega
theorem cmpZ_scale (x y : Int) : cmpZ (x * unitF) (y * unitF) = cmpZ x y := by
  have u := unitF_pos
  have h1 : x * unitF < y * unitF ↔ x < y := Int.mul_lt_mul_right u
  have h2 : y * unitF < x * unitF ↔ y < x := Int.mul_lt_mul_right u
  unfold cmpZ
  simp only [h1, h2]
/-- A whole number against the float of a multiple of 2048. -/
theorem mixed_whole (n k : Int) (h1 : -9223372036854775808 ≤ k) (h2 : k ≤ 9223372036854775807) (hd : k % 2048 = 0) :
    mixedF n (Ieee.double.nearest (decide (k < 0)) k.natAbs 0) = cmpZ n k := by
  obtain ⟨a1, _, a3⟩ := whole_float k h1 h2 hd
  unfold mixedF
  rw [if_neg (by simp [a3]), a1, cmpZ_scale]
end Go.Proofs.YtchklaepilcbbaaGreat

namespace Go.Proofs.YtchklaepilcbbaaGreat
open Go.RowKit

/-- A comparison that is a total order in which only one and the same stand together. -/
structure Good {α : Type} (c : α → α → Int) : Prop where
  flip : ∀ x y, c x y = -c y x
  least : ∀ x y, -1 ≤ c x y
  zero : ∀ x y, c x y = 0 ↔ x = y
  trans : ∀ x y z, c x y ≤ 0 → c y z ≤ 0 → c x z ≤ 0
theorem Good.most {α : Type} {c : α → α → Int} (h : Good c) (x y : α) : c x y ≤ 1 := by
  have := h.flip x y
  have := h.least y x
  omega
theorem Good.self {α : Type} {c : α → α → Int} (h : Good c) (x : α) : c x x = 0 := (h.zero x x).2 rfl
/-- Of three: what is behind neither of two is not behind; and with itself only where both are. -/
theorem Good.three {α : Type} {c : α → α → Int} (h : Good c) (x y z : α) (p : c x y ≤ 0) (q : c y z ≤ 0) : c x z ≤ 0 ∧ (c x z = 0 → c x y = 0 ∧ c y z = 0) := by
  refine ⟨h.trans x y z p q, fun r => ?_⟩
  have e := (h.zero x z).1 r
  subst e
  have := h.flip x y
  omega
theorem good_int : Good cmpI where
  flip := cmpI_flip
  least x y := by unfold cmpI; repeat' split
                  all_goals omega
  zero := cmpI_zero
  trans x y z p q := by
    rw [cmpI_le] at *
    omega
theorem good_lex {α β : Type} {c : α → α → Int} {d : β → β → Int} (hc : Good c) (hd : Good d) :
    Good (fun (x y : α × β) => if c x.1 y.1 = 0 then d x.2 y.2 else c x.1 y.1) where
  flip x y := by
    have f := hc.flip x.1 y.1
    have g := hd.flip x.2 y.2
    by_cases e : c x.1 y.1 = 0
    · simp only [e, show c y.1 x.1 = 0 by omega, if_true]; exact g
    · simp only [if_neg e, if_neg (show ¬ c y.1 x.1 = 0 by omega)]; exact f
  least x y := by
    split
    · exact hd.least _ _
    · exact hc.least _ _
  zero x y := by
    have f := hc.zero x.1 y.1
    have g := hd.zero x.2 y.2
    constructor
    · intro h
      split at h
      · rename_i e
        exact Prod.ext (f.1 e) (g.1 h)
      · contradiction
    · rintro rfl
      rw [if_pos (hc.self _)]; exact hd.self _
  trans x y z p q := by
    have t := hc.three x.1 y.1 z.1
    have s := hd.trans x.2 y.2 z.2
    have e1 := hc.zero x.1 y.1
    have e2 := hc.zero y.1 z.1
    by_cases a : c x.1 y.1 = 0
    · rw [if_pos a] at p
      rw [e1.1 a]
      by_cases b : c y.1 z.1 = 0
      · rw [if_pos b] at q ⊢
        exact s p q
      · rw [if_neg b] at q ⊢
        exact q
    · rw [if_neg a] at p
      by_cases b : c y.1 z.1 = 0
      · rw [← e2.1 b, if_neg a]; exact p
      · rw [if_neg b] at q
        obtain ⟨t1, t2⟩ := t p q
        rw [if_neg (fun r => a (t2 r).1)]
        exact t1

theorem good_bytes : Good Lib.compareBytes where
  flip := by
    intro x
    induction x with
    | nil => intro y; cases y <;> simp [Lib.compareBytes]
    | cons a x ih =>
      intro y
      cases y with
      | nil => simp [Lib.compareBytes]
      | cons b y =>
        unfold Lib.compareBytes
        have := ih y
        have h1 : a < b → ¬ b < a := fun h => by rw [UInt8.lt_iff_toNat_lt] at *; omega
        by_cases p : a < b
        · rw [if_pos p, if_neg (h1 p), if_pos p]
        · rw [if_neg p]
          by_cases q : b < a
          · rw [if_pos q, if_pos q]; rfl
          · rw [if_neg q, if_neg q, if_neg p]; exact this
  least := by
    intro x
    induction x with
    | nil => intro y; cases y <;> simp [Lib.compareBytes]
    | cons a x ih =>
      intro y
      cases y with
      | nil => simp [Lib.compareBytes]
      | cons b y =>
        unfold Lib.compareBytes
        have := ih y
        repeat' split
        all_goals omega
  zero := by
    intro x
    induction x with
    | nil => intro y; cases y <;> simp [Lib.compareBytes]
    | cons a x ih =>
      intro y
      cases y with
      | nil => simp [Lib.compareBytes]
      | cons b y =>
        unfold Lib.compareBytes
        have t := ih y
        have e : ¬ a < b → ¬ b < a → a = b := fun h g => by
          rw [UInt8.lt_iff_toNat_lt] at *
          exact UInt8.toNat_inj.1 (by omega)
        have f : a = b → ¬ a < b ∧ ¬ b < a := fun h => by
          subst h; rw [UInt8.lt_iff_toNat_lt]; omega
        constructor
        · intro h
          split at h
          · omega
          · split at h
            · omega
            · rw [e ‹_› ‹_›, t.1 h]
        · intro h
          obtain ⟨h1, h2⟩ := List.cons.inj h
          rw [if_neg (f h1).1, if_neg (f h1).2]
          exact t.2 h2
  trans := by
    intro x
    induction x with
    | nil => intro y z; cases z <;> simp [Lib.compareBytes]
    | cons a x ih =>
      intro y z
      cases y with
      | nil => simp [Lib.compareBytes]
      | cons b y =>
        cases z with
        | nil => simp [Lib.compareBytes]
        | cons c z =>
          unfold Lib.compareBytes
          have t := ih y z
          simp only [UInt8.lt_iff_toNat_lt]
          intro p q
          repeat' split at p
          all_goals (repeat' split at q)
          all_goals (repeat' split)
          all_goals first | omega | exact t p q

/-- A value's class: Ints and Floats are one. -/
def classK (k : Int) : Int := if k = 3 then 2 else k
/-- A number's place, exactly: in quarters of the least place, an Int ahead of the Floats that are worth the same, -0 ahead of 0, a NaN behind all. -/
def numKey (k n : Int) (f : Nat) : Int :=
  if k = 2 then 4 * (n * unitF) else if isNaNF f = true then 4 * valF 9218868437227405312 + 3 else 4 * valF f + if f < 9223372036854775808 then 2 else 1
/-- A value's number within its class. -/
def ikey (k : Int) (b : Bool) (n : Int) (f : Nat) : Int :=
  if k = 1 then (if b = true then 1 else 0) else if k = 2 ∨ k = 3 then numKey k n f else if k = 5 ∨ k = 6 then n else 0
/-- A value's bytes. -/
def skey (k : Int) (s : ByteArray) : List UInt8 := if k = 4 then s.data.toList else []
/-- The order of values. -/
def cmpK (x y : Int × Int × List UInt8) : Int :=
  if cmpI x.1 y.1 = 0 then (if cmpI x.2.1 y.2.1 = 0 then Lib.compareBytes x.2.2 y.2.2 else cmpI x.2.1 y.2.1) else cmpI x.1 y.1
theorem good_cmpK : Good cmpK := good_lex good_int (good_lex good_int good_bytes)
def keyV (k : Int) (b : Bool) (n : Int) (f : Nat) (s : ByteArray) : Int × Int × List UInt8 := (classK k, ikey k b n f, skey k s)

/-- Which values may be. -/
def MayV (k : Int) (b : Bool) (n : Int) (f : Nat) (s : ByteArray) : Prop :=
  (k = 0 ∧ b = false ∧ n = 0 ∧ f = 0 ∧ s = ByteArray.empty) ∨ (k = 1 ∧ n = 0 ∧ f = 0 ∧ s = ByteArray.empty) ∨ (k = 2 ∧ b = false ∧ f = 0 ∧ s = ByteArray.empty) ∨
  (k = 3 ∧ b = false ∧ n = 0 ∧ s = ByteArray.empty ∧ canonF f = f) ∨ (k = 4 ∧ b = false ∧ n = 0 ∧ f = 0 ∧ s.size ≤ 32) ∨
  ((k = 5 ∨ k = 6) ∧ b = false ∧ f = 0 ∧ s = ByteArray.empty ∧ 1 ≤ n ∧ n ≤ 1099511627776)

theorem numKey_int (n : Int) (f : Nat) : numKey 2 n f = 4 * (n * unitF) := by unfold numKey; rw [if_pos rfl]
theorem numKey_nan (n : Int) (f : Nat) (h : isNaNF f = true) : numKey 3 n f = 4 * valF 9218868437227405312 + 3 := by unfold numKey; rw [if_neg (by omega), if_pos h]
theorem numKey_float (n : Int) (f : Nat) (h : isNaNF f = false) : numKey 3 n f = 4 * valF f + if f < 9223372036854775808 then 2 else 1 := by unfold numKey; rw [if_neg (by omega), if_neg (by simp [h])]
theorem valF_most (f : Nat) (hf : f < 18446744073709551616) (h : isNaNF f = false) : valF f ≤ valF 9218868437227405312 := by
  have k := num_bound f h
  have v := valF_lt 9218868437227405312 f
  have e : ¬ keyF 9218868437227405312 < keyF f := by
    unfold keyF
    rw [if_pos (by omega)]
    split <;> omega
  omega
theorem edge_le : valF 4890909195324358656 ≤ valF 9218868437227405312 := valF_most _ (by omega) (by decide)
/-- Two floats, neither a NaN: their places are as their keys. -/
theorem key_floats (a b : Nat) (ha : a < 18446744073709551616) (hb : b < 18446744073709551616) (na : isNaNF a = false) (nb : isNaNF b = false) (n m : Int) :
    (rankOf a < rankOf b ↔ numKey 3 n a < numKey 3 m b) := by
  rw [numKey_float n a na, numKey_float m b nb, rank_num_eq a ha na, rank_num_eq b hb nb]
  have v := valF_lt a b
  have w := valF_lt b a
  unfold keyF at v w
  by_cases p : a < 9223372036854775808 <;> by_cases q : b < 9223372036854775808 <;> simp only [p, q, if_true, if_false] at v w ⊢ <;> omega
theorem key_any_floats (a b : Nat) (ha : a < 18446744073709551616) (hb : b < 18446744073709551616) (n m : Int) :
    (rankOf a < rankOf b ↔ numKey 3 n a < numKey 3 m b) := by
  cases na : isNaNF a <;> cases nb : isNaNF b
  · exact key_floats a b ha hb na nb n m
  · have := rank_below a ha na
    have := valF_most a ha na
    rw [numKey_float n a na, numKey_nan m b nb, rank_nan_eq b hb nb]
    split <;> omega
  · have := rank_below b hb nb
    have := valF_most b hb nb
    rw [numKey_nan n a na, numKey_float m b nb, rank_nan_eq a ha na]
    split <;> omega
  · rw [numKey_nan n a na, numKey_nan m b nb, rank_nan_eq a ha na, rank_nan_eq b hb nb]
    omega
theorem cmpI_of (x y x' y' : Int) (h1 : x < y ↔ x' < y') (h2 : y < x ↔ y' < x') : cmpI x y = cmpI x' y' := by
  unfold cmpI; simp only [h1, h2]
theorem cmp_floats (a b : Nat) (ha : a < 18446744073709551616) (hb : b < 18446744073709551616) (n m : Int) : cmpI (rankOf a) (rankOf b) = cmpI (numKey 3 n a) (numKey 3 m b) :=
  cmpI_of _ _ _ _ (key_any_floats a b ha hb n m) (key_any_floats b a hb ha m n)
theorem cmp_ints (n m : Int) (f g : Nat) : cmpI n m = cmpI (numKey 2 n f) (numKey 2 m g) := by
  rw [numKey_int, numKey_int]
  have u := unitF_pos
  have h1 : n * unitF < m * unitF ↔ n < m := Int.mul_lt_mul_right u
  have h2 : m * unitF < n * unitF ↔ m < n := Int.mul_lt_mul_right u
  exact cmpI_of _ _ _ _ (by omega) (by omega)
theorem cmp_mixed (n : Int) (f : Nat) (hn : fits n) (g : Nat) (m : Int) :
    cmpI (numKey 2 n g) (numKey 3 m f) = if 0 < mixedF n f then 1 else -1 := by
  rw [numKey_int]
  cases p : isNaNF f
  · rw [show mixedF n f = cmpZ (n * unitF) (valF f) by unfold mixedF; rw [if_neg (by simp [p])], numKey_float m f p]
    unfold cmpZ cmpI
    generalize n * unitF = x
    generalize valF f = y
    repeat' split
    all_goals omega
  · rw [show mixedF n f = -1 by unfold mixedF; rw [if_pos p], numKey_nan m f p, if_neg (by omega)]
    have e := edge_le
    rw [valF_edge] at e
    have u := unitF_pos
    have h1 : n * unitF ≤ 9223372036854775808 * unitF := Int.mul_le_mul_of_nonneg_right (by have := hn.2; omega) (by omega)
    unfold cmpI
    rw [if_pos (by omega)]

/-- Unlike values, unlike keys. -/
theorem num_key_inj (k l n m : Int) (f g : Nat) (hk : k = 2 ∧ f = 0 ∨ k = 3 ∧ n = 0 ∧ canonF f = f) (hl : l = 2 ∧ g = 0 ∨ l = 3 ∧ m = 0 ∧ canonF g = g) (hf : f < 18446744073709551616) (hg : g < 18446744073709551616)
    (h : numKey k n f = numKey l m g) : k = l ∧ n = m ∧ f = g := by
  rcases hk with ⟨rfl, rfl⟩ | ⟨rfl, rfl, cf⟩ <;> rcases hl with ⟨rfl, rfl⟩ | ⟨rfl, rfl, cg⟩
  · rw [numKey_int, numKey_int] at h
    refine ⟨rfl, ?_, rfl⟩
    exact Int.eq_of_mul_eq_mul_right (by have := unitF_pos; omega) (by omega : n * unitF = m * unitF)
  · rw [numKey_int] at h
    cases q : isNaNF g
    · rw [numKey_float _ g q] at h; split at h <;> omega
    · rw [numKey_nan _ g q] at h; omega
  · rw [numKey_int] at h
    cases q : isNaNF f
    · rw [numKey_float _ f q] at h; split at h <;> omega
    · rw [numKey_nan _ f q] at h; omega
  · refine ⟨rfl, rfl, ?_⟩
    have t := cmp_floats f g hf hg 0 0
    rw [h, good_int.self] at t
    have := (cmpI_zero _ _).1 t
    rw [← cf, ← cg] at this
    rw [← cf, ← cg]
    exact (rank_inj f g hf hg).1 this
theorem key_inj (k l : Int) (b c : Bool) (n m : Int) (f g : Nat) (s t : ByteArray) (hx : MayV k b n f s) (hy : MayV l c m g t) (hf : f < 18446744073709551616) (hg : g < 18446744073709551616)
    (h : keyV k b n f s = keyV l c m g t) : k = l ∧ b = c ∧ n = m ∧ f = g ∧ s = t := by
  have h1 : classK k = classK l := (Prod.mk.inj h).1
  have h2 : ikey k b n f = ikey l c m g := (Prod.mk.inj (Prod.mk.inj h).2).1
  have h3 : skey k s = skey l t := (Prod.mk.inj (Prod.mk.inj h).2).2
  clear h
  unfold MayV at hx hy
  by_cases e : k = 2 ∨ k = 3
  · have e' : l = 2 ∨ l = 3 := by unfold classK at h1; split at h1 <;> split at h1 <;> omega
    have i1 : ikey k b n f = numKey k n f := by unfold ikey; rw [if_neg (by omega), if_pos e]
    have i2 : ikey l c m g = numKey l m g := by unfold ikey; rw [if_neg (by omega), if_pos e']
    rw [i1, i2] at h2
    have hk : k = 2 ∧ f = 0 ∨ k = 3 ∧ n = 0 ∧ canonF f = f := by rcases e with rfl | rfl <;> simp at hx <;> simp [hx]
    have hl : l = 2 ∧ g = 0 ∨ l = 3 ∧ m = 0 ∧ canonF g = g := by rcases e' with rfl | rfl <;> simp at hy <;> simp [hy]
    obtain ⟨r1, r2, r3⟩ := num_key_inj k l n m f g hk hl hf hg h2
    have r4 : b = c ∧ s = t := by rcases e with rfl | rfl <;> subst r1 <;> simp at hx hy <;> simp [hx, hy]
    exact ⟨r1, r4.1, r2, r3, r4.2⟩
  · have e' : k = l := by unfold classK at h1; split at h1 <;> split at h1 <;> omega
    subst e'
    refine ⟨rfl, ?_⟩
    rcases hx with ⟨rfl, rfl, rfl, rfl, rfl⟩ | ⟨rfl, rfl, rfl, rfl⟩ | ⟨rfl, _⟩ | ⟨rfl, _⟩ | ⟨rfl, rfl, rfl, rfl, _⟩ | ⟨hk, rfl, rfl, rfl, _⟩
    · simp at hy; simp [hy]
    · simp at hy
      simp [ikey] at h2
      obtain ⟨rfl, rfl, rfl⟩ := hy
      refine ⟨?_, rfl, rfl, rfl⟩
      revert h2
      cases b <;> cases c <;> simp
    · omega
    · omega
    · simp at hy
      simp [skey] at h3
      obtain ⟨rfl, rfl, rfl, _⟩ := hy
      exact ⟨rfl, rfl, rfl, ByteArray.ext h3⟩
    · rcases hk with rfl | rfl <;> simp at hy <;> simp [ikey] at h2 <;> simp [hy, h2]
end Go.Proofs.YtchklaepilcbbaaGreat

namespace Go.Proofs.YtchklaepilcbbaaGreat
open Go.ChangeShapes Go.WideShapes Go.RowKit

theorem i64_fits {x : Int} (h : (Lit.int .i64 x).wf = true) : fits x := by
  unfold fits
  simpa [Lit.wf, IntKind.min, IntKind.max, IntKind.signed, IntKind.bits] using h
theorem u16_fits {x : Int} (h : (Lit.int .u16 x).wf = true) : 0 ≤ x ∧ x ≤ 65535 := by
  simpa [Lit.wf, IntKind.min, IntKind.max, IntKind.signed, IntKind.bits] using h
theorem f64_fits {b : Nat} (h : (Lit.float .f64 b).wf = true) : b < 18446744073709551616 := by
  simpa [Lit.wf] using h
theorem trod_float_any {H : Type} {enc : TypeId × Value → H} {P : Program} {W : World} {base : Nat} {sp : Nat → Bool} {held : Bool} {n : Nat} {t : TypeId} {cs : List Value} {x : DataW H × List MemPlace} (ht : P.underlying t = some (.float .f64))
    (h : DataW.trod enc P W base sp held n t cs = some x) : ∃ b : Nat, cs = [.float .f64 b] ∧ b < 18446744073709551616 := by
  cases n with
  | zero => simp [DataW.trod] at h
  | succ n =>
    unfold DataW.trod at h
    rw [ht] at h
    split at h
    all_goals first | (simp_all; done) | skip
    rename_i k k' b heq
    obtain rfl : FloatKind.f64 = k := by simpa using heq
    by_cases e : k' = FloatKind.f64 ∧ (Lit.float .f64 b).wf = true
    · obtain ⟨rfl, e2⟩ := e
      exact ⟨_, rfl, f64_fits e2⟩
    · rw [if_neg e] at h; cases h
/-- A value that came in: its five fields lie in their ranges. -/
def WideV (k n : Int) (f : Nat) (s : ByteArray) : Prop := fits k ∧ fits n ∧ f < 18446744073709551616 ∧ s.size ≤ maxLen
section
variable {H : Type} {enc : TypeId × Value → H} {W : World} {base b0 : Nat} {sp : Nat → Bool} {held : Bool} {r : Reach} {v : Value} {d : DataW H} {p : List MemPlace}
set_option maxRecDepth 100000 in
theorem open_value (hv : Value.okWide Tryz.prog W r b0 24 v) (h : DataW.Trod enc Tryz.prog W base sp held 24 v d p) :
    ∃ (k : Int) (b : Bool) (n : Int) (f : Nat) (s : ByteArray), v = .agg #[.int .i64 k, .bool b, .int .i64 n, .float .f64 f, .string s] ∧ WideV k n f s := by
  obtain ⟨cs, rfl, hsz⟩ := okWide_struct Tryz.underlying24 hv
  have hC : Tryz.prog.cellsOf 24 = 5 := by kernel_rfl
  obtain ⟨l⟩ := cs
  match l, hsz.trans hC with
  | [c0, c1, c2, c3, c4], _ =>
    obtain ⟨fuel, hf⟩ := h
    obtain ⟨xs, n, _, _, _, hlen, hg⟩ := DataW.trod_struct Tryz.underlying24 hf
    have k0 : Tryz.prog.cellsOf 3 = 1 := by kernel_rfl
    have k1 : Tryz.prog.cellsOf 4 = 1 := by kernel_rfl
    have k2 : Tryz.prog.cellsOf 2 = 1 := by kernel_rfl
    have k3 : Tryz.prog.cellsOf 22 = 1 := by kernel_rfl
    have k4 : Tryz.prog.cellsOf 9 = 1 := by kernel_rfl
    match xs, hlen, hg with
    | [y0, y1, y2, y3, y4], _, hg =>
      have g0 : DataW.trod enc Tryz.prog W base sp held n 3 (([c0, c1, c2, c3, c4].drop 0).take (Tryz.prog.cellsOf 3)) = some y0 := hg 0 _ rfl
      have g1 : DataW.trod enc Tryz.prog W base sp held n 4 (([c0, c1, c2, c3, c4].drop 1).take (Tryz.prog.cellsOf 4)) = some y1 := hg 1 _ rfl
      have g2 : DataW.trod enc Tryz.prog W base sp held n 2 (([c0, c1, c2, c3, c4].drop 2).take (Tryz.prog.cellsOf 2)) = some y2 := hg 2 _ rfl
      have g3 : DataW.trod enc Tryz.prog W base sp held n 22 (([c0, c1, c2, c3, c4].drop 3).take (Tryz.prog.cellsOf 22)) = some y3 := hg 3 _ rfl
      have g4 : DataW.trod enc Tryz.prog W base sp held n 9 (([c0, c1, c2, c3, c4].drop 4).take (Tryz.prog.cellsOf 9)) = some y4 := hg 4 _ rfl
      rw [k0] at g0
      rw [k1] at g1
      rw [k2] at g2
      rw [k3] at g3
      rw [k4] at g4
      obtain ⟨z0, e0, _, w0⟩ := DataW.trod_int Tryz.underlying3 g0
      obtain ⟨z1, e1, _⟩ := DataW.trod_bool Tryz.underlying4 g1
      obtain ⟨z2, e2, _, w2⟩ := DataW.trod_int Tryz.underlying2 g2
      obtain ⟨z3, e3, w3⟩ := trod_float_any Tryz.underlying22 g3
      obtain ⟨z4, e4, _, w4⟩ := DataW.trod_string Tryz.underlying9 g4
      simp at e0 e1 e2 e3 e4
      subst e0 e1 e2 e3 e4
      exact ⟨z0, z1, z2, z3, z4, rfl, i64_fits w0, i64_fits w2, w3, w4⟩
end
end Go.Proofs.YtchklaepilcbbaaGreat

namespace Go.Proofs.YtchklaepilcbbaaGreat
open Go.RowKit
set_option maxRecDepth 100000 in
set_option maxHeartbeats 1000000 in
theorem len64_a (w : World) :
    Calls Tryz.prog 144 #[.int .u64 1000000000000000] w fun e w' => e = .returned (.int .i64 50) ∧ w = w' := by
  obtain ⟨hw64, hand, hor, hiand⟩ := closedKit
  go_enter Tryz.func144, Tryz.ntmps144
  go_wp2
  go_ret
  exact ⟨by kernel_rfl, rfl⟩
set_option maxRecDepth 100000 in
set_option maxHeartbeats 1000000 in
theorem len64_b (w : World) :
    Calls Tryz.prog 144 #[.int .u64 4503599627370496] w fun e w' => e = .returned (.int .i64 53) ∧ w = w' := by
  obtain ⟨hw64, hand, hor, hiand⟩ := closedKit
  go_enter Tryz.func144, Tryz.ntmps144
  go_wp2
  go_ret
  exact ⟨by kernel_rfl, rfl⟩
theorem bytes1 (w : World) (b : Nat) (c : Int) (cap : Nat) (hc : w.cell? ⟨b, 0, none⟩ = some (.int .u8 c)) : (convert 25 9 (.slice (some ⟨b, 0, none⟩) 1 cap)).run Tryz.prog w = .ok (.string (strOfNums [c])) w := by
  refine run_convert_bytes_arg w 25 5 (by kernel_rfl) (by kernel_rfl) b 0 1 cap [c] rfl ?_ 9 (by kernel_rfl)
  intro i hi
  obtain rfl : i = 0 := by omega
  exact hc
end Go.Proofs.YtchklaepilcbbaaGreat

namespace Go.Proofs.YtchklaepilcbbaaGreat
open Go.RowKit
theorem below_bytes (w : World) (e : TypeId) (s : ByteArray) : Below w.heap.size w (Lib.bytesWorld w e s) :=
  ⟨rfl, rfl, rfl, by rw [Lib.bytesWorld_size]; omega, fun j hj => Lib.bytesWorld_at_old w e s j hj⟩
theorem cuts : (⟨#[101, 53]⟩ : ByteArray).extract 0 1 = ⟨#[101]⟩ ∧ (⟨#[101, 53]⟩ : ByteArray).extract 1 2 = ⟨#[53]⟩ ∧ (⟨#[49, 101, 53]⟩ : ByteArray).extract 0 1 = ⟨#[49]⟩ ∧ (⟨#[53]⟩ : ByteArray).extract 0 1 = ⟨#[53]⟩ ∧ (⟨#[49]⟩ : ByteArray).extract 0 1 = ⟨#[49]⟩ := by decide
end Go.Proofs.YtchklaepilcbbaaGreat

namespace Go.Proofs.YtchklaepilcbbaaGreat
open Go.RowKit

end Go.Proofs.YtchklaepilcbbaaGreat

namespace Go.Proofs.YtchklaepilcbbaaGreat
open Go.RowKit

/-- The low word, the high word, of a whole number's two's complement. -/
def W0 (z : Int) : Int := z % 18446744073709551616
def W1 (z : Int) : Int := z / 18446744073709551616 % 18446744073709551616
theorem W0_range (z : Int) : 0 ≤ W0 z ∧ W0 z < 18446744073709551616 := by unfold W0; omega
theorem W1_range (z : Int) : 0 ≤ W1 z ∧ W1 z < 18446744073709551616 := by unfold W1; omega
def fitB (z : Int) : Bool := decide (-9223372036854775808 ≤ z ∧ z ≤ 9223372036854775807)

theorem words_sum (x y : Int) : (W0 x + W0 y + 0) % 18446744073709551616 = W0 (x + y) ∧ (W1 x + W1 y + (W0 x + W0 y + 0) / 18446744073709551616) % 18446744073709551616 = W1 (x + y) := by
  unfold W0 W1; omega
theorem words_one (x : Int) : (W0 x + 1 + 0) % 18446744073709551616 = W0 (x + 1) ∧ (W1 x + 0 + (W0 x + 1 + 0) / 18446744073709551616) % 18446744073709551616 = W1 (x + 1) := by
  unfold W0 W1; omega
theorem tupW {a b c d : Int} {k l : IntKind} (h1 : a = c) (h2 : b = d) : Ending.returned (.tuple #[.int k a, .int l b]) = .returned (.tuple #[.int k c, .int l d]) := by rw [h1, h2]

theorem retB {a b : Bool} (h : a = b) : Ending.returned (.bool a) = .returned (.bool b) := by rw [h]
theorem fit_words (z : Int) (h0 : -170141183460469231731687303715884105728 ≤ z) (h1 : z < 170141183460469231731687303715884105728) : (W1 z == IntKind.u64.wrap (wrap64 (W0 z) / 9223372036854775808)) = fitB z := by
  rw [IntKind.wrap_u64]
  unfold wrap64 W0 W1 fitB
  rw [Bool.eq_iff_iff, beq_iff_eq, decide_eq_true_iff]
  have hz : z = z / 18446744073709551616 * 18446744073709551616 + z % 18446744073709551616 := by omega
  have hr0 : 0 ≤ z % 18446744073709551616 := by omega
  have hr1 : z % 18446744073709551616 < 18446744073709551616 := by omega
  generalize z / 18446744073709551616 = q at *
  generalize z % 18446744073709551616 = r at *
  by_cases hr : r < 9223372036854775808
  · have e : ((r + 9223372036854775808) % 18446744073709551616 - 9223372036854775808) / 9223372036854775808 = 0 := by omega
    rw [e]; omega
  · have e : ((r + 9223372036854775808) % 18446744073709551616 - 9223372036854775808) / 9223372036854775808 = -1 := by omega
    rw [e]; omega
end Go.Proofs.YtchklaepilcbbaaGreat
