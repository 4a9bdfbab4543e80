/- Small facts, and the closed values that the walks of the text of 1.0 and the float of 1e5 pass. -/
/- num's integer functions: what each returns, for all integers. -/
/- The closed calls of the statements' own test of being awake: floats. -/
/- The order of double floats, worked out of their bits: two floats that are not NaN stand to each other as their bits, read as a sign and a number, do; and a float is a NaN just when it does not equal itself. For every two words of 64 bits. -/
/- The functions of num and of the document's own answers that ask a float's bits alone: Canon, Canonical, Floats, for every float. -/
/- Whole numbers as double floats: a whole number whose digits fit is written as the float of just its value; a float cut to a whole number, towards zero or down, is its value's whole part. For every word of 64 bits that is finite. -/
/- Whole parts of double floats: cut to a whole number, towards zero or down, a finite float gives its value's whole part, and that is a float again. -/
/- A finite double float cut to a whole number, and a whole number against a float: by exact values, by way of the float's whole part towards zero or down. For every finite float and every whole number. -/
import Derived.Test.YtmolpogehgeebaaGreatProg
import Derived.WalkKit
import Derived.WalkSpells
import Derived.WalkLawsBesides
import Derived.Handy
import Derived.Lib.Hide
import Derived.Lib.ConvBytes
import Derived.Deep.RegionWith
import Derived.Deep.DeepFit
import Derived.Deep.DeepMust
import Derived.Laws.BitsAllLaws
import Derived.Laws.Bits64
import Derived.Laws.MathBits
namespace Go.Proofs.YtmolpogehgeebaaGreat
open Go.RowKit

theorem results_tmp7 {fn : Func} {t0 t1 t2 t3 t4 t5 t6 : Tmp} (h : fn.results = #[.tmp t0, .tmp t1, .tmp t2, .tmp t3, .tmp t4, .tmp t5, .tmp t6]) (tmps : Array Value) (P : Program) (w : World) :
    (results fn tmps).run P w = .ok (.tuple #[tmps.getD t0 undef, tmps.getD t1 undef, tmps.getD t2 undef, tmps.getD t3 undef, tmps.getD t4 undef, tmps.getD t5 undef, tmps.getD t6 undef]) w := by
  simp [results, h]

abbrev s15 : ByteArray := ⟨#[48, 49, 101, 53]⟩
theorem i64_and (a b : Int) (h1 : 0 ≤ a) (h2 : a < 9223372036854775808) (h3 : 0 ≤ b) (h4 : b < 9223372036854775808) : bits .and .i64 a b = ((a.toNat &&& b.toNat : Nat) : Int) := by
  obtain ⟨x, rfl⟩ := Int.eq_ofNat_of_zero_le h1
  obtain ⟨y, rfl⟩ := Int.eq_ofNat_of_zero_le h3
  show IntKind.i64.wrap ((BitVec.ofInt 64 x &&& BitVec.ofInt 64 y).toNat : Nat) = _
  have hx : (BitVec.ofInt 64 (x : Int)).toNat = x := by rw [BitVec.toNat_ofInt]; omega
  have hy : (BitVec.ofInt 64 (y : Int)).toNat = y := by rw [BitVec.toNat_ofInt]; omega
  rw [BitVec.toNat_and, hx, hy, IntKind.wrap_i64]
  have := Nat.and_le_left (n := x) (m := y)
  simp only [Int.toNat_natCast]
  omega
theorem closedKit : (∀ n : Int, IntKind.u64.wrap n = n % 18446744073709551616) ∧
    (∀ a b : Int, 0 ≤ a → a < 18446744073709551616 → 0 ≤ b → b < 18446744073709551616 → bits .and .u64 a b = ((a.toNat &&& b.toNat : Nat) : Int)) ∧
    (∀ a b : Int, 0 ≤ a → a < 18446744073709551616 → 0 ≤ b → b < 18446744073709551616 → bits .or .u64 a b = ((a.toNat ||| b.toNat : Nat) : Int)) ∧
    (∀ a b : Int, 0 ≤ a → a < 9223372036854775808 → 0 ≤ b → b < 9223372036854775808 → bits .and .i64 a b = ((a.toNat &&& b.toNat : Nat) : Int)) :=
  ⟨IntKind.wrap_u64, u64_and, u64_or, i64_and⟩
theorem cell_alloc3 (w : World) (b i : Nat) (h : b < w.heap.size) (o1 o2 o3 : Obj) : (((w.alloc o1).alloc o2).alloc o3).drew.drew.cell? ⟨b, i, none⟩ = w.cell? ⟨b, i, none⟩ := by
  show (((w.alloc o1).alloc o2).alloc o3).cell? ⟨b, i, none⟩ = _
  rw [World.cell?_alloc_lt _ _ _ (by simp; omega), World.cell?_alloc_lt _ _ _ (by simp; omega), World.cell?_alloc_lt _ _ _ (by simp; omega)]
theorem cell_alloc2 (w : World) (b i : Nat) (h : b < w.heap.size) (o1 o2 : Obj) : ((w.alloc o1).alloc o2).drew.cell? ⟨b, i, none⟩ = w.cell? ⟨b, i, none⟩ := by
  show ((w.alloc o1).alloc o2).cell? ⟨b, i, none⟩ = _
  rw [World.cell?_alloc_lt _ _ _ (by simp; omega), World.cell?_alloc_lt _ _ _ (by simp; omega)]
theorem bcell {W w1 : World} (hb : Below W.heap.size W w1) : (∀ b o, b < W.heap.size → w1.cell? ⟨b, o, none⟩ = W.cell? ⟨b, o, none⟩) ∧ (∀ b o, b < W.heap.size → w1.frozen? ⟨b, o, none⟩ = W.frozen? ⟨b, o, none⟩) :=
  ⟨fun b o h => hb.cell (p := ⟨b, o, none⟩) h, fun b o h => hb.frozen (p := ⟨b, o, none⟩) h⟩
abbrev z24 : Array Value := #[.int .u8 0, .int .u8 0, .int .u8 0, .int .u8 0, .int .u8 0, .int .u8 0, .int .u8 0, .int .u8 0, .int .u8 0, .int .u8 0, .int .u8 0, .int .u8 0, .int .u8 0, .int .u8 0, .int .u8 0, .int .u8 0, .int .u8 0, .int .u8 0, .int .u8 0, .int .u8 0, .int .u8 0, .int .u8 0, .int .u8 0, .int .u8 0]
abbrev z32 : Array Value := #[.int .u8 0, .int .u8 0, .int .u8 0, .int .u8 0, .int .u8 0, .int .u8 0, .int .u8 0, .int .u8 0, .int .u8 0, .int .u8 0, .int .u8 0, .int .u8 0, .int .u8 0, .int .u8 0, .int .u8 0, .int .u8 0, .int .u8 0, .int .u8 0, .int .u8 0, .int .u8 0, .int .u8 0, .int .u8 0, .int .u8 0, .int .u8 0, .int .u8 0, .int .u8 0, .int .u8 0, .int .u8 0, .int .u8 0, .int .u8 0, .int .u8 0, .int .u8 0]
abbrev d32 : Array Value := #[.int .u8 49, .int .u8 48, .int .u8 48, .int .u8 48, .int .u8 48, .int .u8 48, .int .u8 48, .int .u8 48, .int .u8 48, .int .u8 48, .int .u8 48, .int .u8 48, .int .u8 48, .int .u8 48, .int .u8 48, .int .u8 48, .int .u8 0, .int .u8 0, .int .u8 0, .int .u8 0, .int .u8 0, .int .u8 0, .int .u8 0, .int .u8 0, .int .u8 0, .int .u8 0, .int .u8 0, .int .u8 0, .int .u8 0, .int .u8 0, .int .u8 0, .int .u8 0]
end Go.Proofs.YtmolpogehgeebaaGreat


namespace Go.Proofs.YtmolpogehgeebaaGreat
open Go.RowKit

theorem ret1 {k : IntKind} {a b : Int} (h : a = b) : Ending.returned (.int k a) = .returned (.int k b) := by rw [h]

/-- How a sum, difference, product, quotient is told: the number and OK, or nothing and ErrOverflow. -/
def fits (z : Int) : Prop := -9223372036854775808 ≤ z ∧ z ≤ 9223372036854775807

end Go.Proofs.YtmolpogehgeebaaGreat


namespace Go.Proofs.YtmolpogehgeebaaGreat
open Go.RowKit
theorem call_Float64bits (b : Nat) (w : World) : (callFunc 194 #[.float .f64 b]).run Tryz.prog w = .ok (.value (.int .u64 b)) w := by kernel_rfl
theorem and_top (b : Nat) (h : b < 18446744073709551616) : b &&& 9223372036854775808 = if b < 9223372036854775808 then 0 else 9223372036854775808 := by
  have e : (9223372036854775808 : Nat) = 2 ^ 63 := by decide
  rw [e]
  apply Nat.eq_of_testBit_eq
  intro i
  rw [Nat.testBit_and, Nat.testBit_two_pow]
  by_cases hi : 63 = i
  · subst hi
    by_cases p : b < 2 ^ 63
    · rw [if_pos p, Nat.testBit_eq_decide_div_mod_eq, Nat.div_eq_of_lt p]; simp
    · have q : b / 2 ^ 63 = 1 := by omega
      rw [if_neg p, Nat.testBit_eq_decide_div_mod_eq, q, Nat.testBit_two_pow]; simp
  · by_cases p : b < 2 ^ 63
    · rw [if_pos p]; simp [hi]
    · rw [if_neg p, Nat.testBit_two_pow]; simp [hi]
theorem or_top (b : Nat) (h : b < 9223372036854775808) : b ||| 9223372036854775808 = b + 9223372036854775808 := by
  have e : (9223372036854775808 : Nat) = 2 ^ 63 := by decide
  have := Nat.two_pow_add_eq_or_of_lt (i := 63) (b := b) (by omega) 1
  rw [e, Nat.or_comm, Nat.add_comm]
  simpa using this.symm
theorem xor_all (b : Nat) (h : b < 18446744073709551616) : bits .xor .u64 IntKind.u64.max (b : Int) = 18446744073709551615 - b := by
  show IntKind.u64.wrap ((BitVec.ofInt 64 18446744073709551615 ^^^ BitVec.ofInt 64 b).toNat : Nat) = _
  have e : BitVec.ofInt 64 18446744073709551615 = BitVec.allOnes 64 := by decide
  have hb : (BitVec.ofInt 64 (b : Int)).toNat = b := by rw [BitVec.toNat_ofInt]; omega
  rw [e, BitVec.allOnes_xor, BitVec.toNat_not, hb, IntKind.wrap_u64]
  omega
set_option maxRecDepth 100000 in
set_option maxHeartbeats 1000000 in
theorem rank_nan (b : Nat) (w : World) (h : (FloatKind.f64.format.order b b != some Ordering.eq) = true) :
    Calls Tryz.prog 277 #[.float .f64 b] w fun e w' => e = .returned (.int .u64 18446744073709551615) ∧ w = w' := by
  have hfb := call_Float64bits
  go_enter Tryz.func277, Tryz.ntmps277
  go_wp2
  go_ret
  exact ⟨rfl, rfl⟩
set_option maxRecDepth 100000 in
set_option maxHeartbeats 1000000 in
theorem rank_neg (b : Nat) (w : World) (h : (FloatKind.f64.format.order b b != some Ordering.eq) = false) (h0 : 9223372036854775808 ≤ b) (h1 : b < 18446744073709551616) :
    Calls Tryz.prog 277 #[.float .f64 b] w fun e w' => e = .returned (.int .u64 (18446744073709551615 - b)) ∧ w = w' := by
  have hfb := call_Float64bits
  have ha : bits .and .u64 (b : Int) 9223372036854775808 = 9223372036854775808 := by
    rw [u64_and _ _ (by omega) (by omega) (by omega) (by omega)]
    simp only [Int.toNat_natCast, show (9223372036854775808 : Int).toNat = 9223372036854775808 from rfl]
    rw [and_top b (by omega)]
    rw [if_neg (by omega)]; rfl
  go_enter Tryz.func277, Tryz.ntmps277
  go_wp2
  go_ret
  exact ⟨ret1 (xor_all b h1), rfl⟩
set_option maxRecDepth 100000 in
set_option maxHeartbeats 1000000 in
theorem rank_pos (b : Nat) (w : World) (h : (FloatKind.f64.format.order b b != some Ordering.eq) = false) (h0 : b < 9223372036854775808) :
    Calls Tryz.prog 277 #[.float .f64 b] w fun e w' => e = .returned (.int .u64 (b + 9223372036854775808)) ∧ w = w' := by
  have hfb := call_Float64bits
  have ha : bits .and .u64 (b : Int) 9223372036854775808 = 0 := by
    rw [u64_and _ _ (by omega) (by omega) (by omega) (by omega)]
    simp only [Int.toNat_natCast, show (9223372036854775808 : Int).toNat = 9223372036854775808 from rfl]
    rw [and_top b (by omega), if_pos h0]; rfl
  go_enter Tryz.func277, Tryz.ntmps277
  go_wp2
  go_ret
  refine ⟨ret1 ?_, rfl⟩
  rw [u64_or _ _ (by omega) (by omega) (by omega) (by omega)]
  simp only [Int.toNat_natCast, show (9223372036854775808 : Int).toNat = 9223372036854775808 from rfl]
  rw [or_top b h0]
  simp

/-- A float's place in the order, out of its bits. -/
def rankOf (b : Nat) : Int := if (FloatKind.f64.format.order b b != some Ordering.eq) = true then 18446744073709551615 else if b < 9223372036854775808 then b + 9223372036854775808 else 18446744073709551615 - b
theorem rank_any (b : Nat) (w : World) (hb : b < 18446744073709551616) :
    Calls Tryz.prog 277 #[.float .f64 b] w fun e w' => e = .returned (.int .u64 (rankOf b)) ∧ w = w' := by
  unfold rankOf
  by_cases h : (FloatKind.f64.format.order b b != some Ordering.eq) = true
  · rw [if_pos h]; exact rank_nan b w h
  · rw [if_neg h]
    by_cases h0 : b < 9223372036854775808
    · rw [if_pos h0]; exact rank_pos b w (by simpa using h) h0
    · rw [if_neg h0]; exact rank_neg b w (by simpa using h) (by omega) hb
theorem rankOf_range (b : Nat) (hb : b < 18446744073709551616) : 0 ≤ rankOf b ∧ rankOf b < 18446744073709551616 := by
  unfold rankOf; split
  · omega
  · split <;> omega
def cmpI (a b : Int) : Int := if a < b then -1 else if b < a then 1 else 0
set_option maxRecDepth 100000 in
set_option maxHeartbeats 1000000 in
theorem Floats_any (a b : Nat) (w : World) (ha : a < 18446744073709551616) (hb : b < 18446744073709551616) :
    Calls Tryz.prog 261 #[.float .f64 a, .float .f64 b] w fun e w' => e = .returned (.int .i64 (cmpI (rankOf a) (rankOf b))) ∧ w = w' := by
  have h1 := rankOf_range a ha
  have h2 := rankOf_range b hb
  have h3 := rank_any a w ha
  have h4 := rank_any b w hb
  generalize rankOf a = x at *
  generalize rankOf b = y at *
  have H3 := Lib.hid h3
  have H4 := Lib.hid h4
  clear h3 h4
  obtain ⟨c, hc⟩ : ∃ c, c = cmpI x y := ⟨_, rfl⟩
  rw [← hc]
  unfold cmpI at hc
  by_cases p : x < y
  · have pb : decide (x < y) = true := by simp [p]
    rw [if_pos p] at hc
    subst hc
    go_enter Tryz.func261, Tryz.ntmps261
    go_wp2_with fail
    refine (H3.out).mono ?_
    rintro e w' ⟨rfl, rfl⟩
    go_wp2_with fail
    refine (H4.out).mono ?_
    rintro e w' ⟨rfl, rfl⟩
    go_wp2
    go_ret
    exact ⟨rfl, rfl⟩
  · have pb : decide (x < y) = false := by simp [p]
    rw [if_neg p] at hc
    by_cases q : y < x
    · have qb : decide (y < x) = true := by simp [q]
      rw [if_pos q] at hc
      subst hc
      clear p
      go_enter Tryz.func261, Tryz.ntmps261
      go_wp2_with fail
      refine (H3.out).mono ?_
      rintro e w' ⟨rfl, rfl⟩
      go_wp2_with fail
      refine (H4.out).mono ?_
      rintro e w' ⟨rfl, rfl⟩
      go_wp2
      go_ret
      exact ⟨rfl, rfl⟩
    · have qb : decide (y < x) = false := by simp [q]
      rw [if_neg q] at hc
      subst hc
      clear p q
      go_enter Tryz.func261, Tryz.ntmps261
      go_wp2_with fail
      refine (H3.out).mono ?_
      rintro e w' ⟨rfl, rfl⟩
      go_wp2_with fail
      refine (H4.out).mono ?_
      rintro e w' ⟨rfl, rfl⟩
      go_wp2
      go_ret
      exact ⟨rfl, rfl⟩
end Go.Proofs.YtmolpogehgeebaaGreat


namespace Go.Proofs.YtmolpogehgeebaaGreat
open Ieee

/-- What a rung stands for, in units of the least place. -/
def valR (r : Nat) : Nat := if r < 4503599627370496 then r else (4503599627370496 + r % 4503599627370496) * 2 ^ (r / 4503599627370496 - 1)
theorem valR_mono {r s : Nat} (h : r < s) : valR r < valR s := by
  unfold valR
  by_cases p : s < 4503599627370496
  · rw [if_pos p, if_pos (by omega)]; exact h
  · rw [if_neg p]
    by_cases q : r < 4503599627370496
    · rw [if_pos q]
      have t : 1 ≤ 2 ^ (s / 4503599627370496 - 1) := Nat.one_le_two_pow
      have u := Nat.mul_le_mul_left (4503599627370496 + s % 4503599627370496) t
      omega
    · rw [if_neg q]
      rcases Nat.lt_or_ge (r / 4503599627370496) (s / 4503599627370496) with g | g
      · have e : 2 ^ (r / 4503599627370496 - 1) * 2 ≤ 2 ^ (s / 4503599627370496 - 1) := by
          rw [← Nat.pow_succ]; exact Nat.pow_le_pow_right (by omega) (by omega)
        have hx : 0 < 2 ^ (r / 4503599627370496 - 1) := Nat.two_pow_pos _
        generalize 2 ^ (r / 4503599627370496 - 1) = x at *
        generalize 2 ^ (s / 4503599627370496 - 1) = y at *
        have h1 : (4503599627370496 + r % 4503599627370496) * x < (2 * 4503599627370496) * x := Nat.mul_lt_mul_of_pos_right (by omega) hx
        have h2 : 4503599627370496 * y ≤ (4503599627370496 + s % 4503599627370496) * y := Nat.mul_le_mul_right _ (by omega)
        omega
      · have e : r / 4503599627370496 = s / 4503599627370496 := by omega
        rw [e]
        exact Nat.mul_lt_mul_of_pos_right (by omega) (Nat.two_pow_pos _)
theorem valR_lt (r s : Nat) : valR r < valR s ↔ r < s := by
  constructor
  · intro h
    rcases Nat.lt_or_ge r s with g | g
    · exact g
    · rcases Nat.eq_or_lt_of_le g with e | e
      · subst e; omega
      · have := valR_mono e; omega
  · exact valR_mono
theorem valR_pos (r : Nat) (h : 0 < r) : 0 < valR r := by
  have := valR_mono h
  omega

/-- A float's sign and rung as one number. -/
def keyF (b : Nat) : Int := if b < 9223372036854775808 then b else 9223372036854775808 - (b : Int)
/-- The same in units of the least place. -/
def valF (b : Nat) : Int := if b < 9223372036854775808 then valR b else -(valR (b - 9223372036854775808) : Int)

theorem valF_lt (a b : Nat) : valF a < valF b ↔ keyF a < keyF b := by
  unfold valF keyF
  have m := valR_lt
  have z : valR 0 = 0 := by decide
  have p : ∀ r, valR r = 0 ↔ r = 0 := fun r => by
    constructor
    · intro h
      rcases Nat.eq_zero_or_pos r with e | e
      · exact e
      · have := valR_pos r e; omega
    · rintro rfl; exact z
  by_cases ha : a < 9223372036854775808 <;> by_cases hb : b < 9223372036854775808
  · rw [if_pos ha, if_pos hb, if_pos ha, if_pos hb]; have := m a b; omega
  · rw [if_pos ha, if_neg hb, if_pos ha, if_neg hb]; omega
  · rw [if_neg ha, if_pos hb, if_neg ha, if_pos hb]
    have h1 := p (a - 9223372036854775808); have h2 := p b
    omega
  · rw [if_neg ha, if_neg hb, if_neg ha, if_neg hb]
    have h1 := m (b - 9223372036854775808) (a - 9223372036854775808)
    omega

theorem compare_cong (x y x' y' : Int) (h : x < y ↔ x' < y') (g : y < x ↔ y' < x') : compare x y = compare x' y' := by
  show compareOfLessAndEq x y = compareOfLessAndEq x' y'
  unfold compareOfLessAndEq
  by_cases p : x < y
  · rw [if_pos p, if_pos (h.1 p)]
  · rw [if_neg p, if_neg (fun t => p (h.2 t))]
    by_cases q : x = y
    · rw [if_pos q, if_pos (by omega)]
    · rw [if_neg q, if_neg (by omega)]

theorem signed_eq (s : Bool) (m k : Nat) : signed s m k = (if s then -1 else 1) * (m * 2 ^ k : Nat) := by
  unfold signed
  rw [Nat.shiftLeft_eq]
  cases s <;> simp

/-- The three ways a word of 64 bits is read. -/
theorem read_number (b : Nat) (hb : b < 18446744073709551616) (h : b % 9223372036854775808 < 9218868437227405312) :
    ∃ m e : Nat, double.read b = .number (decide (9223372036854775808 ≤ b)) m (double.leastPlace + e) ∧ m * 2 ^ e = valR (b % 9223372036854775808) ∧ m < 9007199254740992 := by
  have hs : double.signWeight = 9223372036854775808 := by decide
  have hB : double.binade = 4503599627370496 := by decide
  have hI : double.infRung = 9218868437227405312 := by decide
  have hn : (b / 9223372036854775808 % 2 == 1) = decide (9223372036854775808 ≤ b) := by
    by_cases p : 9223372036854775808 ≤ b
    · have : b / 9223372036854775808 = 1 := by omega
      simp [p, this]
    · have : b / 9223372036854775808 = 0 := by omega
      simp [p, this]
  unfold Format.read valR
  simp only [hs, hB, hI, hn]
  by_cases p : b % 9223372036854775808 < 4503599627370496
  · rw [if_pos p, if_pos p]
    exact ⟨b % 9223372036854775808, 0, by simp, by simp, by omega⟩
  · rw [if_neg p, if_neg p, if_pos h]
    exact ⟨_, _, rfl, rfl, by omega⟩
theorem read_inf (b : Nat) (hb : b < 18446744073709551616) (h : b % 9223372036854775808 = 9218868437227405312) :
    double.read b = .infinity (decide (9223372036854775808 ≤ b)) := by
  have hs : double.signWeight = 9223372036854775808 := by decide
  have hB : double.binade = 4503599627370496 := by decide
  have hI : double.infRung = 9218868437227405312 := by decide
  have hn : (b / 9223372036854775808 % 2 == 1) = decide (9223372036854775808 ≤ b) := by
    by_cases p : 9223372036854775808 ≤ b
    · have : b / 9223372036854775808 = 1 := by omega
      simp [p, this]
    · have : b / 9223372036854775808 = 0 := by omega
      simp [p, this]
  unfold Format.read
  simp only [hs, hB, hI, hn, h]
  simp
theorem read_nan (b : Nat) (h : 9218868437227405312 < b % 9223372036854775808) :
    ∃ s t, double.read b = .nan s t := by
  have hs : double.signWeight = 9223372036854775808 := by decide
  have hB : double.binade = 4503599627370496 := by decide
  have hI : double.infRung = 9218868437227405312 := by decide
  unfold Format.read
  simp only [hs, hB, hI]
  rw [if_neg (by omega), if_neg (by omega), if_neg (by omega)]
  exact ⟨_, _, rfl⟩

theorem valF_eq (b : Nat) (hb : b < 18446744073709551616) : valF b = (if decide (9223372036854775808 ≤ b) = true then -1 else 1) * (valR (b % 9223372036854775808) : Int) := by
  unfold valF
  by_cases p : b < 9223372036854775808
  · have e : b % 9223372036854775808 = b := by omega
    rw [if_pos p, if_neg (by simp; omega), e]; omega
  · have e : b % 9223372036854775808 = b - 9223372036854775808 := by omega
    rw [if_neg p, if_pos (by simp; omega), e]; omega

/-- One number against another. -/
theorem order_numbers (a b : Nat) (ha : a < 18446744073709551616) (hb : b < 18446744073709551616)
    (ra : a % 9223372036854775808 < 9218868437227405312) (rb : b % 9223372036854775808 < 9218868437227405312) :
    double.order a b = some (compare (keyF a) (keyF b)) := by
  obtain ⟨m, i, h1, h2, _⟩ := read_number a ha ra
  obtain ⟨n, j, h3, h4, _⟩ := read_number b hb rb
  unfold Format.order
  rw [h1, h3]
  unfold Datum.order
  simp only [Option.some.injEq]
  rw [signed_eq, signed_eq]
  have k1 : (double.leastPlace + (i : Int) - min (double.leastPlace + (i : Int)) (double.leastPlace + (j : Int))).toNat = i - min i j := by omega
  have k2 : (double.leastPlace + (j : Int) - min (double.leastPlace + (i : Int)) (double.leastPlace + (j : Int))).toNat = j - min i j := by omega
  rw [k1, k2]
  have p1 : m * 2 ^ (i - min i j) * 2 ^ min i j = valR (a % 9223372036854775808) := by
    rw [Nat.mul_assoc, ← Nat.pow_add, Nat.sub_add_cancel (Nat.min_le_left _ _), h2]
  have p2 : n * 2 ^ (j - min i j) * 2 ^ min i j = valR (b % 9223372036854775808) := by
    rw [Nat.mul_assoc, ← Nat.pow_add, Nat.sub_add_cancel (Nat.min_le_right _ _), h4]
  have hx : (0 : Int) < (2 ^ min i j : Nat) := by exact_mod_cast Nat.two_pow_pos _
  have w1 := valF_eq a ha
  have w2 := valF_eq b hb
  rw [← p1] at w1
  rw [← p2] at w2
  generalize m * 2 ^ (i - min i j) = M at *
  generalize n * 2 ^ (j - min i j) = N at *
  generalize (2 ^ min i j : Nat) = x at *
  generalize (if decide (9223372036854775808 ≤ a) = true then (-1 : Int) else 1) = s at *
  generalize (if decide (9223372036854775808 ≤ b) = true then (-1 : Int) else 1) = t at *
  have v1 : valF a = s * (M : Int) * (x : Int) := by rw [w1, Int.natCast_mul, Int.mul_assoc]
  have v2 : valF b = t * (N : Int) * (x : Int) := by rw [w2, Int.natCast_mul, Int.mul_assoc]
  have q1 := valF_lt a b
  have q2 := valF_lt b a
  rw [v1, v2] at q1 q2
  apply compare_cong
  · rw [← q1]; exact (Int.mul_lt_mul_right hx).symm
  · rw [← q2]; exact (Int.mul_lt_mul_right hx).symm

/-- Two floats that are no NaN stand to each other as their signs and rungs do. -/
theorem order_any (a b : Nat) (ha : a < 18446744073709551616) (hb : b < 18446744073709551616)
    (ra : a % 9223372036854775808 ≤ 9218868437227405312) (rb : b % 9223372036854775808 ≤ 9218868437227405312) :
    double.order a b = some (compare (keyF a) (keyF b)) := by
  rcases Nat.lt_or_eq_of_le ra with ca | ca <;> rcases Nat.lt_or_eq_of_le rb with cb | cb
  · exact order_numbers a b ha hb ca cb
  · obtain ⟨m, i, h1, h2, _⟩ := read_number a ha ca
    have h3 := read_inf b hb cb
    unfold Format.order
    rw [h1, h3]
    unfold Datum.order
    simp only [Option.some.injEq]
    show _ = compareOfLessAndEq _ _
    unfold compareOfLessAndEq keyF
    by_cases p : 9223372036854775808 ≤ b
    · rw [if_pos (by simp [p]), if_neg, if_neg] <;> (repeat' split) <;> omega
    · rw [if_neg (by simp; omega), if_pos]; (repeat' split) <;> omega
  · obtain ⟨m, i, h1, h2, _⟩ := read_number b hb cb
    have h3 := read_inf a ha ca
    unfold Format.order
    rw [h1, h3]
    unfold Datum.order
    simp only [Option.some.injEq]
    show _ = compareOfLessAndEq _ _
    unfold compareOfLessAndEq keyF
    by_cases p : 9223372036854775808 ≤ a
    · rw [if_pos (by simp [p]), if_pos]; (repeat' split) <;> omega
    · rw [if_neg (by simp; omega), if_neg, if_neg] <;> (repeat' split) <;> omega
  · have h1 := read_inf a ha ca
    have h3 := read_inf b hb cb
    unfold Format.order
    rw [h1, h3]
    unfold Datum.order keyF
    have ea : a = 9218868437227405312 ∨ a = 18442240474082181120 := by omega
    have eb : b = 9218868437227405312 ∨ b = 18442240474082181120 := by omega
    rcases ea with rfl | rfl <;> rcases eb with rfl | rfl <;> decide

/-- A NaN stands to nothing. -/
theorem order_nan (a b : Nat) (ra : 9218868437227405312 < a % 9223372036854775808) : double.order a b = none := by
  obtain ⟨s, t, h⟩ := read_nan a ra
  unfold Format.order
  rw [h]
  cases double.read b <;> rfl
/-- A float that equals itself is no NaN. -/
theorem self_any (b : Nat) (hb : b < 18446744073709551616) : (FloatKind.f64.format.order b b != some Ordering.eq) = decide (9218868437227405312 < b % 9223372036854775808) := by
  show (double.order b b != some Ordering.eq) = _
  by_cases p : 9218868437227405312 < b % 9223372036854775808
  · rw [order_nan b b p]; simp [p]
  · rw [order_any b b hb hb (by omega) (by omega)]
    have e : compare (keyF b) (keyF b) = Ordering.eq := by
      show compareOfLessAndEq _ _ = _
      unfold compareOfLessAndEq
      rw [if_neg (by omega), if_pos rfl]
    rw [e]; simp [p]
end Go.Proofs.YtmolpogehgeebaaGreat


namespace Go.Proofs.YtmolpogehgeebaaGreat
open Go.RowKit
/-- Whether a word of 64 bits is a NaN. -/
def isNaNF (b : Nat) : Bool := decide (9218868437227405312 < b % 9223372036854775808)
/-- The canonical float of a float. -/
def canonF (b : Nat) : Nat := if isNaNF b = true then 9221120237041090561 else b
set_option maxRecDepth 100000 in
theorem Canonical_any (b : Nat) (w : World) (hb : b < 18446744073709551616) :
    Calls Tryz.prog 237 #[.float .f64 b] w fun e w' => e = .returned (.bool (decide (canonF b = b))) ∧ w = w' := by
  have hfb := call_Float64bits
  have h0 := self_any b hb
  obtain ⟨c, hc⟩ : ∃ c, c = decide (canonF b = b) := ⟨_, rfl⟩
  rw [← hc]
  unfold canonF isNaNF at hc
  by_cases p : 9218868437227405312 < b % 9223372036854775808
  · have h : (FloatKind.f64.format.order b b != some Ordering.eq) = true := by rw [h0]; simp [p]
    rw [if_pos (by simp [p])] at hc
    clear h0
    go_enter Tryz.func237, Tryz.ntmps237
    go_wp2
    go_ret
    subst hc
    refine ⟨?_, rfl⟩
    show Ending.returned (Value.bool ((b : Int) == 9221120237041090561)) = _
    congr 2
    rw [Bool.eq_iff_iff]
    simp only [beq_iff_eq, decide_eq_true_eq]
    omega
  · have h : (FloatKind.f64.format.order b b != some Ordering.eq) = false := by rw [h0]; simp [p]
    rw [if_neg (by simp [p])] at hc
    have hc' : c = true := by rw [hc]; simp
    subst hc'
    clear h0 hc
    go_enter Tryz.func237, Tryz.ntmps237
    go_wp2
    go_ret
    exact ⟨rfl, rfl⟩
end Go.Proofs.YtmolpogehgeebaaGreat


namespace Go.Proofs.YtmolpogehgeebaaGreat
open Ieee

/-- The word of a whole number, worked out. -/
theorem nearest_whole (neg : Bool) (mag : Nat) (h0 : 0 < mag) (h1 : mag ≤ 9223372036854775808) (hd : mag % 2 ^ (mag.log2 - 52) = 0) :
    ∃ r, double.nearest neg mag 0 = double.word neg r ∧ r < 9218868437227405312 ∧ valR r = mag * 2 ^ 1074 := by
  have hB : double.binade = 4503599627370496 := by decide
  have hI : double.infRung = 9218868437227405312 := by decide
  have hL : double.leastPlace = -1074 := by decide
  have hF : double.fractionBits = 52 := rfl
  have l0 : 2 ^ mag.log2 ≤ mag := Nat.log2_self_le (by omega)
  have l1 : mag < 2 ^ (mag.log2 + 1) := Nat.lt_log2_self
  have l2 : mag.log2 ≤ 63 := by
    have : 2 ^ mag.log2 ≤ 2 ^ 63 := by omega
    exact (Nat.pow_le_pow_iff_right (by omega)).1 this
  have fact : ∀ kept : Nat, (4503599627370496 ≤ kept) → kept < 9007199254740992 → (kept * 2 ^ (mag.log2 + 1022) = mag * 2 ^ 1074) →
      ∃ r, double.word neg (min ((mag.log2 + 1022) * 4503599627370496 + kept) 9218868437227405312) = double.word neg r ∧ r < 9218868437227405312 ∧ valR r = mag * 2 ^ 1074 := by
    intro kept k0 k1 k2
    refine ⟨(mag.log2 + 1022) * 4503599627370496 + kept, ?_, by omega, ?_⟩
    · rw [Nat.min_eq_left (by omega)]
    · unfold valR
      rw [if_neg (by omega), ← k2]
      have e1 : ((mag.log2 + 1022) * 4503599627370496 + kept) % 4503599627370496 = kept - 4503599627370496 := by omega
      have e2 : ((mag.log2 + 1022) * 4503599627370496 + kept) / 4503599627370496 - 1 = mag.log2 + 1022 := by omega
      rw [e1, e2]
      rw [show 4503599627370496 + (kept - 4503599627370496) = kept by omega]
  unfold Format.nearest
  rw [if_neg (by omega)]
  simp only [hB, hI, hL, hF]
  have m1 : max (0 + (mag.log2 : Int) - (52 : Nat)) (-1074) = (mag.log2 : Int) - 52 := by omega
  rw [m1]
  have m2 : (((mag.log2 : Int) - 52) - -1074).toNat = mag.log2 + 1022 := by omega
  rw [m2]
  by_cases p : mag.log2 ≤ 52
  · have e1 : (0 - ((mag.log2 : Int) - 52)).toNat = 52 - mag.log2 := by omega
    have e2 : ((mag.log2 : Int) - 52 - 0).toNat = 0 := by omega
    rw [e1, e2]
    have ck : Toward.even.cut neg (mag <<< (52 - mag.log2)) 0 = mag * 2 ^ (52 - mag.log2) := by
      unfold Toward.cut
      simp [Nat.shiftLeft_eq, Nat.mod_one]
    rw [ck]
    have x : 2 ^ mag.log2 * 2 ^ (52 - mag.log2) = 4503599627370496 := by
      rw [← Nat.pow_add, show mag.log2 + (52 - mag.log2) = 52 by omega]
    refine fact _ ?_ ?_ ?_
    · rw [← x]; exact Nat.mul_le_mul_right _ l0
    · have : mag * 2 ^ (52 - mag.log2) < 2 ^ (mag.log2 + 1) * 2 ^ (52 - mag.log2) := Nat.mul_lt_mul_of_pos_right l1 (Nat.two_pow_pos _)
      rw [Nat.pow_succ, Nat.mul_assoc, Nat.mul_comm 2, ← Nat.mul_assoc, x] at this
      omega
    · rw [Nat.mul_assoc, ← Nat.pow_add, show 52 - mag.log2 + (mag.log2 + 1022) = 1074 by omega]
  · have e1 : (0 - ((mag.log2 : Int) - 52)).toNat = 0 := by omega
    have e2 : ((mag.log2 : Int) - 52 - 0).toNat = mag.log2 - 52 := by omega
    rw [e1, e2]
    have ck : Toward.even.cut neg (mag <<< 0) (mag.log2 - 52) = mag / 2 ^ (mag.log2 - 52) := by
      unfold Toward.cut
      have g : 1 <<< min (mag.log2 - 52) ((mag <<< 0).log2 + 2) = 2 ^ (mag.log2 - 52) := by
        rw [Nat.shiftLeft_zero, Nat.min_eq_left (by omega), Nat.shiftLeft_eq, Nat.one_mul]
      rw [g]
      have z : 2 ^ (mag.log2 - 52) ≠ 0 := by have := Nat.two_pow_pos (mag.log2 - 52); omega
      simp [hd]
    rw [ck]
    have y : mag / 2 ^ (mag.log2 - 52) * 2 ^ (mag.log2 - 52) = mag := Nat.div_mul_cancel (Nat.dvd_of_mod_eq_zero hd)
    have x : 2 ^ (mag.log2 - 52) * 4503599627370496 = 2 ^ mag.log2 := by
      rw [show (4503599627370496 : Nat) = 2 ^ 52 from rfl, ← Nat.pow_add, show mag.log2 - 52 + 52 = mag.log2 by omega]
    have zp : 0 < 2 ^ (mag.log2 - 52) := Nat.two_pow_pos _
    have hsucc : 2 ^ (mag.log2 + 1) = 2 ^ (mag.log2 - 52) * 9007199254740992 := by rw [Nat.pow_succ, ← x]; omega
    refine fact _ ?_ ?_ ?_
    · rw [Nat.le_div_iff_mul_le zp, Nat.mul_comm, x]; exact l0
    · rw [Nat.div_lt_iff_lt_mul zp, Nat.mul_comm, ← hsucc]; exact l1
    · rw [show mag.log2 + 1022 = (mag.log2 - 52) + 1074 by omega, Nat.pow_add, ← Nat.mul_assoc, y]
end Go.Proofs.YtmolpogehgeebaaGreat


namespace Go.Proofs.YtmolpogehgeebaaGreat
open Ieee
/-- One, in units of the least place. -/
def unitF : Int := ((2 ^ 1074 : Nat) : Int)
theorem unitF_pos : 0 < unitF := by unfold unitF; exact Int.natCast_pos.2 (Nat.two_pow_pos 1074)

/-- A word of a sign and a finite rung, as a value. -/
theorem valF_word (neg : Bool) (r : Nat) (h : r < 9218868437227405312) : valF (double.word neg r) = (if neg then -1 else 1) * (valR r : Int) := by
  have hs : double.signWeight = 9223372036854775808 := by decide
  unfold Format.word valF
  rw [hs]
  cases neg
  · simp only [Bool.false_eq_true, if_false]; rw [if_pos (by omega)]; omega
  · simp only [if_true]; rw [if_neg (by omega), show 9223372036854775808 + r - 9223372036854775808 = r by omega]; omega

/-- The float of a whole number whose digits fit. -/
theorem valF_nearest (neg : Bool) (mag : Nat) (h1 : mag ≤ 9223372036854775808) (hd : mag % 2 ^ (mag.log2 - 52) = 0) :
    valF (double.nearest neg mag 0) = (if neg then -1 else 1) * (mag : Int) * unitF ∧ double.nearest neg mag 0 < 18446744073709551616 ∧ double.nearest neg mag 0 % 9223372036854775808 < 9218868437227405312 := by
  have hs : double.signWeight = 9223372036854775808 := by decide
  rcases Nat.eq_zero_or_pos mag with e | e
  · subst e
    unfold Format.nearest
    rw [if_pos rfl, valF_word neg 0 (by omega)]
    have z : valR 0 = 0 := by decide
    rw [z]
    unfold Format.word
    rw [hs]
    refine ⟨by simp, ?_, ?_⟩ <;> cases neg <;> decide
  · obtain ⟨r, a1, a2, a3⟩ := nearest_whole neg mag e h1 hd
    rw [a1, valF_word neg r a2, a3]
    refine ⟨?_, ?_, ?_⟩
    · unfold unitF
      rw [Int.natCast_mul, Int.mul_assoc]
    · unfold Format.word; rw [hs]; split <;> omega
    · unfold Format.word; rw [hs]; split <;> omega

theorem pow_split (a b : Nat) (h : b ≤ a) : 2 ^ a = 2 ^ (a - b) * 2 ^ b := by rw [← Nat.pow_add, Nat.sub_add_cancel h]
theorem cut_gap (n drop : Nat) : n / (1 <<< min drop (n.log2 + 2)) = n / 2 ^ drop ∧ n % (1 <<< min drop (n.log2 + 2)) = n % 2 ^ drop := by
  rw [Nat.shiftLeft_eq, Nat.one_mul]
  rcases Nat.le_total drop (n.log2 + 2) with h | h
  · rw [Nat.min_eq_left h]; exact ⟨rfl, rfl⟩
  · rw [Nat.min_eq_right h]
    have l1 : n < 2 ^ (n.log2 + 1) := Nat.lt_log2_self
    have l2 : n < 2 ^ (n.log2 + 2) := Nat.lt_of_lt_of_le l1 (Nat.pow_le_pow_right (by omega) (by omega))
    have l3 : n < 2 ^ drop := Nat.lt_of_lt_of_le l2 (Nat.pow_le_pow_right (by omega) h)
    rw [Nat.div_eq_of_lt l2, Nat.div_eq_of_lt l3, Nat.mod_eq_of_lt l2, Nat.mod_eq_of_lt l3]; exact ⟨rfl, rfl⟩
/-- The whole part and the rest, of a number's digits at its place. -/
theorem parts_at (m e : Nat) : m <<< (-1074 + (e : Int)).toNat / 2 ^ (-(-1074 + (e : Int))).toNat = m * 2 ^ e / 2 ^ 1074 ∧
    (m <<< (-1074 + (e : Int)).toNat % 2 ^ (-(-1074 + (e : Int))).toNat = 0 ↔ m * 2 ^ e % 2 ^ 1074 = 0) := by
  rw [Nat.shiftLeft_eq]
  rcases Nat.le_total 1074 e with h | h
  · have e1 : (-1074 + (e : Int)).toNat = e - 1074 := by omega
    have e2 : (-(-1074 + (e : Int))).toNat = 0 := by omega
    have e3 : 2 ^ e = 2 ^ (e - 1074) * 2 ^ 1074 := pow_split e 1074 h
    rw [e1, e2, e3, ← Nat.mul_assoc, Nat.mul_div_cancel _ (Nat.two_pow_pos 1074), Nat.pow_zero, Nat.div_one, Nat.mod_one, Nat.mul_mod_left]
    exact ⟨rfl, Iff.rfl⟩
  · have e1 : (-1074 + (e : Int)).toNat = 0 := by omega
    have e2 : (-(-1074 + (e : Int))).toNat = 1074 - e := by omega
    have e3 : 2 ^ 1074 = 2 ^ (1074 - e) * 2 ^ e := pow_split 1074 e h
    rw [e1, e2, e3, Nat.mul_div_mul_right _ _ (Nat.two_pow_pos e), Nat.mul_mod_mul_right, Nat.pow_zero, Nat.mul_one]
    refine ⟨rfl, ?_⟩
    have := Nat.two_pow_pos e
    constructor
    · intro h; rw [h, Nat.zero_mul]
    · intro h; rcases Nat.mul_eq_zero.1 h with g | g
      · exact g
      · omega
/-- A whole part's digits fit. -/
theorem fits_down (m e M : Nat) (hm : m < 9007199254740992) (hM : M = m * 2 ^ e / 2 ^ 1074 ∨ M = m * 2 ^ e / 2 ^ 1074 + 1 ∧ m * 2 ^ e % 2 ^ 1074 ≠ 0) :
    M % 2 ^ (M.log2 - 52) = 0 := by
  have mono : ∀ k, M < 2 ^ (k + 53) → M.log2 - 52 ≤ k := by
    intro k hk
    rcases Nat.eq_zero_or_pos M with z | z
    · subst z; simp
    · have := (Nat.log2_lt (by omega)).2 hk; omega
  rcases Nat.le_total 1074 e with h | h
  · have e3 : 2 ^ e = 2 ^ (e - 1074) * 2 ^ 1074 := pow_split e 1074 h
    rw [e3, ← Nat.mul_assoc, Nat.mul_div_cancel _ (Nat.two_pow_pos 1074), Nat.mul_mod_left] at hM
    have hM' : M = m * 2 ^ (e - 1074) := by
      rcases hM with h | ⟨_, h⟩
      · exact h
      · exact absurd rfl h
    have b : M < 2 ^ (e - 1074 + 53) := by
      rw [hM', Nat.pow_add, Nat.mul_comm]; exact Nat.mul_lt_mul_of_pos_left hm (Nat.two_pow_pos _)
    have c := mono _ b
    have d : 2 ^ (M.log2 - 52) ∣ M := by
      rw [hM'] at c ⊢
      exact Nat.dvd_trans (Nat.pow_dvd_pow 2 c) (Nat.dvd_mul_left _ _)
    exact Nat.mod_eq_zero_of_dvd d
  · have e3 : 2 ^ 1074 = 2 ^ (1074 - e) * 2 ^ e := pow_split 1074 e h
    rw [e3, Nat.mul_div_mul_right _ _ (Nat.two_pow_pos e), Nat.mul_mod_mul_right] at hM
    have b : M < 2 ^ (0 + 53) := by
      rcases Nat.eq_zero_or_pos (1074 - e) with z | z
      · rw [z, Nat.pow_zero, Nat.div_one, Nat.mod_one] at hM
        rcases hM with h | ⟨_, h⟩ <;> omega
      · have t : 2 ≤ 2 ^ (1074 - e) := by
          have := Nat.pow_le_pow_right (n := 2) (by omega) z
          omega
        have u : m / 2 ^ (1074 - e) ≤ m / 2 := Nat.div_le_div_left t (by omega)
        omega
    have c := mono 0 b
    have d : M.log2 - 52 = 0 := by omega
    rw [d, Nat.pow_zero, Nat.mod_one]
end Go.Proofs.YtmolpogehgeebaaGreat


namespace Go.Proofs.YtmolpogehgeebaaGreat
open Ieee
/-- The sign, 1 or -1, and the whole part of the value without its sign. -/
def sgnF (b : Nat) : Int := if decide (9223372036854775808 ≤ b) = true then -1 else 1
def wholeF (b : Nat) : Nat := valR (b % 9223372036854775808) / 2 ^ 1074
def restF (b : Nat) : Nat := valR (b % 9223372036854775808) % 2 ^ 1074
/-- Cut towards zero; cut down. -/
def truncF (b : Nat) : Int := sgnF b * (wholeF b : Int)
theorem signed_sgn (b M : Nat) : signed (decide (9223372036854775808 ≤ b)) M 0 = sgnF b * (M : Int) := by
  rw [signed_eq]; unfold sgnF; rw [Nat.pow_zero, Nat.mul_one]

theorem integral_zero (b : Nat) (hb : b < 18446744073709551616) (h : b % 9223372036854775808 < 9218868437227405312) :
    (double.read b).integral .zero = .number (decide (9223372036854775808 ≤ b)) (wholeF b) 0 ∧ wholeF b % 2 ^ ((wholeF b).log2 - 52) = 0 := by
  obtain ⟨m, e, h1, h2, h3⟩ := read_number b hb h
  have hL : double.leastPlace = -1074 := by decide
  rw [hL] at h1
  have p := parts_at m e
  have g := cut_gap (m <<< (-1074 + (e : Int)).toNat) (-(-1074 + (e : Int))).toNat
  constructor
  · rw [h1]
    unfold Datum.integral
    have c : Toward.zero.cut (decide (9223372036854775808 ≤ b)) (m <<< (-1074 + (e : Int)).toNat) (-(-1074 + (e : Int))).toNat = wholeF b := by
      unfold Toward.cut wholeF
      simp only [g.1]
      rw [p.1, h2]; exact Nat.add_zero _
    simp only [c]
  · refine fits_down m e _ h3 (.inl ?_)
    unfold wholeF; rw [h2]
theorem toInt_zero (b : Nat) (hb : b < 18446744073709551616) (h : b % 9223372036854775808 < 9218868437227405312) :
    (double.read b).toInt .zero = some (truncF b) := by
  unfold Datum.toInt
  rw [(integral_zero b hb h).1]
  simp only [signed_sgn]
  rfl

theorem mul_next (n q U : Int) (hU : 0 < U) (h : n < q) : n * U + U ≤ q * U := by
  have := Int.mul_le_mul_of_nonneg_right (show n + 1 ≤ q by omega) (show 0 ≤ U by omega)
  rw [Int.add_mul, Int.one_mul] at this
  exact this
def cmpZ (a b : Int) : Int := if a < b then -1 else if b < a then 1 else 0
theorem cmp_floor (n q U V : Int) (hU : 0 < U) (h : q * U ≤ V) (h' : V < q * U + U) :
    cmpZ (n * U) V = if n > q then 1 else if n < q then -1 else if q * U < V then -1 else 0 := by
  unfold cmpZ
  rcases Int.lt_trichotomy n q with g | g | g
  · have := mul_next n q U hU g
    rw [if_pos (by omega), if_neg (by omega), if_pos g]
  · subst g
    rw [if_neg (show ¬ n > n by omega), if_neg (show ¬ n < n by omega), if_neg (show ¬ V < n * U by omega)]
  · have := mul_next q n U hU g
    rw [if_neg (by omega), if_pos (by omega), if_pos g]
theorem cmp_ceil (n q U V : Int) (hU : 0 < U) (h : V ≤ q * U) (h' : q * U < V + U) :
    cmpZ (n * U) V = if n = q then cmpZ (q * U) V else cmpZ n q := by
  unfold cmpZ
  rcases Int.lt_trichotomy n q with g | g | g
  · have := mul_next n q U hU g
    rw [if_pos (by omega), if_neg (by omega), if_pos g]
  · subst g
    rw [if_pos rfl]
  · have := mul_next q n U hU g
    rw [if_neg (by omega), if_pos (by omega), if_neg (by omega), if_neg (by omega), if_pos g]
theorem cmp_floor' (n q U V : Int) (hU : 0 < U) (h : q * U ≤ V) (h' : V < q * U + U) :
    cmpZ (n * U) V = if n = q then cmpZ (q * U) V else cmpZ n q := by
  rw [cmp_floor n q U V hU h h']
  unfold cmpZ
  rcases Int.lt_trichotomy n q with g | g | g
  · rw [if_neg (by omega), if_pos g, if_neg (by omega), if_pos g]
  · subst g
    rw [if_neg (by omega), if_neg (by omega), if_pos rfl, if_neg (show ¬ V < n * U by omega)]
  · rw [if_pos g, if_neg (by omega), if_neg (by omega), if_pos g]

theorem valF_parts (b : Nat) (hb : b < 18446744073709551616) : valF b = sgnF b * ((wholeF b : Int) * unitF + (restF b : Int)) ∧ (restF b : Int) < unitF := by
  have u := valF_eq b hb
  have d := Nat.div_add_mod (valR (b % 9223372036854775808)) (2 ^ 1074)
  have r := Nat.mod_lt (valR (b % 9223372036854775808)) (Nat.two_pow_pos 1074)
  unfold sgnF wholeF restF unitF
  rw [u]
  generalize (2 ^ 1074 : Nat) = U at *
  generalize valR (b % 9223372036854775808) = v at *
  refine ⟨?_, by omega⟩
  congr 1
  rw [← Int.natCast_mul, Nat.mul_comm (v / U) U]
  omega
/-- A whole number against a float, by way of the part towards zero. -/
theorem mixed_trunc (n : Int) (b : Nat) (hb : b < 18446744073709551616) :
    cmpZ (n * unitF) (valF b) = if n = truncF b then cmpZ (truncF b * unitF) (valF b) else cmpZ n (truncF b) := by
  obtain ⟨h1, h2⟩ := valF_parts b hb
  have h0 := unitF_pos
  unfold truncF
  unfold sgnF at *
  by_cases p : 9223372036854775808 ≤ b
  · have pd : decide (9223372036854775808 ≤ b) = true := by simp [p]
    rw [pd] at h1 ⊢
    simp only [if_true] at h1 ⊢
    generalize unitF = U at *
    generalize wholeF b = w at *
    generalize restF b = r at *
    generalize valF b = V at *
    refine cmp_ceil n _ U V h0 ?_ ?_ <;> (rw [Int.neg_one_mul, Int.neg_mul]; generalize (w : Int) * U = x at *; omega)
  · have pd : decide (9223372036854775808 ≤ b) = false := by simp [p]
    rw [pd] at h1 ⊢
    simp only [Bool.false_eq_true, if_false] at h1 ⊢
    generalize unitF = U at *
    generalize wholeF b = w at *
    generalize restF b = r at *
    generalize valF b = V at *
    refine cmp_floor' n _ U V h0 ?_ ?_ <;> (rw [Int.one_mul]; generalize (w : Int) * U = x at *; omega)
end Go.Proofs.YtmolpogehgeebaaGreat


