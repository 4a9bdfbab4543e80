/- num.Mixed and the document's own Mixed, for every whole number and every float: both answer by the exact values. -/
/- A float's place in the order of floats, in plain numbers; the laws' own test of bits. -/
/- What NumOneOrder asks of the orders, in plain numbers: the place of a canonical float is its own; a whole number against a float rises with the whole number and falls with the float; a whole number of 53 digits is a float. -/
/- The order of values in plain numbers and bytes: a value's class, its number in exact units, its bytes; the order is total, and none but the same value stands with itself. No program. -/
import Derived.Test.YtmolpogehgeebaaGreatbA0
import Derived.Lib.Bytealg
namespace Go.Proofs.YtmolpogehgeebaaGreat
open Go.RowKit
theorem order_lt (a b : Nat) (ha : a < 18446744073709551616) (hb : b < 18446744073709551616) (na : isNaNF a = false) (nb : isNaNF b = false) :
    (FloatKind.f64.format.order a b == some Ordering.lt) = decide (valF a < valF b) ∧ (FloatKind.f64.format.order a b == some Ordering.gt) = decide (valF b < valF a) ∧
    (FloatKind.f64.format.order a b == some Ordering.eq) = (!decide (valF a < valF b) && !decide (valF b < valF a)) := by
  unfold isNaNF at na nb
  simp only [decide_eq_false_iff_not] at na nb
  have e : FloatKind.f64.format.order a b = some (compare (keyF a) (keyF b)) := order_any a b ha hb (by omega) (by omega)
  rw [e]
  have q1 := valF_lt a b
  have q2 := valF_lt b a
  generalize keyF a = x at *
  generalize keyF b = y at *
  have g : compare x y = compareOfLessAndEq x y := rfl
  rw [g]
  unfold compareOfLessAndEq
  rcases Int.lt_trichotomy x y with t | t | t
  · have u1 := q1.2 t
    have u2 : ¬ valF b < valF a := fun v => by have := q2.1 v; omega
    rw [if_pos t]; simp [u1, u2]
  · have u1 : ¬ valF a < valF b := fun v => by have := q1.1 v; omega
    have u2 : ¬ valF b < valF a := fun v => by have := q2.1 v; omega
    rw [if_neg (by omega), if_pos t]; simp [u1, u2]
  · have u1 : ¬ valF a < valF b := fun v => by have := q1.1 v; omega
    have u2 := q2.2 t
    rw [if_neg (by omega), if_neg (by omega)]; simp [u1, u2]
theorem self_nan (b : Nat) (hb : b < 18446744073709551616) : (FloatKind.f64.format.order b b != some Ordering.eq) = isNaNF b := self_any b hb
theorem valF_edge : valF 4890909195324358656 = 9223372036854775808 * unitF := by
  have h := (valF_nearest false 9223372036854775808 (by omega) (by decide)).1
  rw [show Ieee.double.nearest false 9223372036854775808 0 = 4890909195324358656 by decide +kernel] at h
  rw [h]; simp
theorem valF_edge' : valF 14114281232179134464 = -9223372036854775808 * unitF := by
  have h := (valF_nearest true 9223372036854775808 (by omega) (by decide)).1
  rw [show Ieee.double.nearest true 9223372036854775808 0 = 14114281232179134464 by decide +kernel] at h
  rw [h]; simp

theorem conv_toInt (b : Nat) (w : World) (hb : b < 18446744073709551616) (h : b % 9223372036854775808 < 9218868437227405312)
    (h1 : -9223372036854775808 ≤ truncF b) (h2 : truncF b ≤ 9223372036854775807) :
    (convert 29 2 (.float .f64 b)).run Tryz.prog w = .ok (.int .i64 (truncF b)) w := by
  have e : (convert 29 2 (.float .f64 b)).run Tryz.prog w = (Conv.floatToInt .f64 b .i64).run Tryz.prog w := by kernel_rfl
  rw [e]
  unfold Conv.floatToInt
  rw [show FloatKind.f64.decode b = Ieee.double.read b from rfl, toInt_zero b hb h]
  have k1 : IntKind.i64.min = -9223372036854775808 := by decide
  have k2 : IntKind.i64.max = 9223372036854775807 := by decide
  simp only [k1, k2]
  rw [if_pos ⟨h1, h2⟩]
  rfl
theorem conv_toFloat (n : Int) (w : World) :
    (convert 2 29 (.int .i64 n)).run Tryz.prog w = .ok (.float .f64 (Ieee.double.nearest (decide (n < 0)) n.natAbs 0)) w := by kernel_rfl
set_option maxRecDepth 100000 in
theorem CompareI (x y : Int) (w : World) :
    Calls Tryz.prog 263 #[.int .i64 x, .int .i64 y] w fun e w' => e = .returned (.int .i64 (cmpZ x y)) ∧ w = w' := by
  obtain ⟨c, hc⟩ : ∃ c, c = cmpZ x y := ⟨_, rfl⟩
  rw [← hc]
  unfold cmpZ at hc
  by_cases p : x < y
  · have pb : decide (x < y) = true := by simp [p]
    rw [if_pos p] at hc
    subst hc
    go_enter Tryz.func263, Tryz.ntmps263
    go_wp2
    go_ret
    exact ⟨rfl, rfl⟩
  · have pb : decide (x < y) = false := by simp [p]
    rw [if_neg p] at hc
    by_cases q : y < x
    · have qb : decide (y < x) = true := by simp [q]
      rw [if_pos q] at hc
      subst hc
      clear p
      go_enter Tryz.func263, Tryz.ntmps263
      go_wp2
      go_ret
      exact ⟨rfl, rfl⟩
    · have qb : decide (y < x) = false := by simp [q]
      rw [if_neg q] at hc
      subst hc
      clear p q
      go_enter Tryz.func263, Tryz.ntmps263
      go_wp2
      go_ret
      exact ⟨rfl, rfl⟩
set_option maxRecDepth 100000 in
theorem CompareF (a b : Nat) (w : World) (ha : a < 18446744073709551616) (hb : b < 18446744073709551616) (na : isNaNF a = false) (nb : isNaNF b = false) :
    Calls Tryz.prog 293 #[.float .f64 a, .float .f64 b] w fun e w' => e = .returned (.int .i64 (cmpZ (valF a) (valF b))) ∧ w = w' := by
  have ha1 := self_nan a ha
  have hb1 := self_nan b hb
  rw [na] at ha1
  rw [nb] at hb1
  obtain ⟨o1, o2, _⟩ := order_lt a b ha hb na nb
  obtain ⟨c, hc⟩ : ∃ c, c = cmpZ (valF a) (valF b) := ⟨_, rfl⟩
  rw [← hc]
  unfold cmpZ at hc
  generalize valF a = x at *
  generalize valF b = y at *
  by_cases p : x < y
  · rw [if_pos p] at hc
    rw [show decide (x < y) = true by simp [p]] at o1
    subst hc
    clear o2 p
    go_enter Tryz.func293, Tryz.ntmps293
    go_wp2
    go_ret
    exact ⟨rfl, rfl⟩
  · rw [if_neg p] at hc
    rw [show decide (x < y) = false by simp [p]] at o1
    by_cases q : y < x
    · rw [if_pos q] at hc
      rw [show decide (y < x) = true by simp [q]] at o2
      subst hc
      clear p q
      go_enter Tryz.func293, Tryz.ntmps293
      go_wp2
      go_ret
      exact ⟨rfl, rfl⟩
    · rw [if_neg q] at hc
      rw [show decide (y < x) = false by simp [q]] at o2
      subst hc
      clear p q
      go_enter Tryz.func293, Tryz.ntmps293
      go_wp2
      go_ret
      exact ⟨rfl, rfl⟩

/-- What Mixed answers: by the exact values; a NaN is above all whole numbers. -/
def mixedF (n : Int) (b : Nat) : Int := if isNaNF b = true then -1 else cmpZ (n * unitF) (valF b)
/-- Between the edges: finite, and its whole part is a whole number of 64 bits. -/
theorem between (b : Nat) (hb : b < 18446744073709551616) (h1 : ¬ 9223372036854775808 * unitF ≤ valF b) (h2 : ¬ valF b < -9223372036854775808 * unitF) :
    b % 9223372036854775808 < 9218868437227405312 ∧ -9223372036854775808 ≤ truncF b ∧ truncF b ≤ 9223372036854775807 ∧ wholeF b ≤ 9223372036854775808 := by
  have u := unitF_pos
  have fin : b % 9223372036854775808 < 9218868437227405312 := by
    have q1 := valF_lt b 4890909195324358656
    have q2 := valF_lt b 14114281232179134464
    rw [valF_edge] at q1
    rw [valF_edge'] at q2
    have k1 := q1.1 (by omega)
    have k2 : ¬ keyF b < keyF 14114281232179134464 := fun v => h2 (q2.2 v)
    unfold keyF at k1 k2
    simp only [show (4890909195324358656 : Nat) < 9223372036854775808 by omega, show ¬ (14114281232179134464 : Nat) < 9223372036854775808 by omega, if_true, if_false] at k1 k2
    by_cases p : b < 9223372036854775808
    · rw [if_pos p] at k1 k2; omega
    · rw [if_neg p] at k1 k2; omega
  refine ⟨fin, ?_⟩
  obtain ⟨v1, v2⟩ := valF_parts b hb
  unfold truncF
  unfold sgnF at *
  by_cases p : 9223372036854775808 ≤ b
  · rw [if_pos (by simp [p])] at *
    have l : (wholeF b : Int) * unitF ≤ 9223372036854775808 * unitF := by
      generalize (wholeF b : Int) * unitF = x at *
      omega
    have m := Int.le_of_mul_le_mul_right l u
    omega
  · rw [if_neg (by simp [p])] at *
    have l : (wholeF b : Int) * unitF < 9223372036854775808 * unitF := by
      generalize (wholeF b : Int) * unitF = x at *
      omega
    have m := Int.lt_of_mul_lt_mul_right l (by omega)
    omega
/-- The whole part as a float again. -/
theorem trunc_float (b : Nat) (hb : b < 18446744073709551616) (fin : b % 9223372036854775808 < 9218868437227405312) (hw : wholeF b ≤ 9223372036854775808) :
    valF (Ieee.double.nearest (decide (truncF b < 0)) (truncF b).natAbs 0) = truncF b * unitF ∧ Ieee.double.nearest (decide (truncF b < 0)) (truncF b).natAbs 0 < 18446744073709551616 ∧
    isNaNF (Ieee.double.nearest (decide (truncF b < 0)) (truncF b).natAbs 0) = false := by
  have e : (truncF b).natAbs = wholeF b := by unfold truncF sgnF; split <;> omega
  obtain ⟨a1, a2, a3⟩ := valF_nearest (decide (truncF b < 0)) (truncF b).natAbs (by rw [e]; exact hw) (by rw [e]; exact (integral_zero b hb fin).2)
  refine ⟨?_, a2, ?_⟩
  · rw [a1]
    congr 1
    by_cases p : truncF b < 0
    · rw [if_pos (by simp [p])]; omega
    · rw [if_neg (by simp [p])]; omega
  · unfold isNaNF
    simp only [decide_eq_false_iff_not]
    omega
theorem mixed_top (n : Int) (b : Nat) (hn : fits n) (h : 9223372036854775808 * unitF ≤ valF b) : cmpZ (n * unitF) (valF b) = -1 := by
  unfold fits at hn
  have := mul_next n 9223372036854775808 unitF unitF_pos (by omega)
  have u := unitF_pos
  unfold cmpZ
  rw [if_pos (by omega)]
theorem mixed_low (n : Int) (b : Nat) (hn : fits n) (h : valF b < -9223372036854775808 * unitF) : cmpZ (n * unitF) (valF b) = 1 := by
  unfold fits at hn
  have : -9223372036854775808 * unitF ≤ n * unitF := Int.mul_le_mul_of_nonneg_right (by omega) (by have := unitF_pos; omega)
  unfold cmpZ
  rw [if_neg (by omega), if_pos (by omega)]
theorem edge_facts (b : Nat) (hb : b < 18446744073709551616) (nb : isNaNF b = false) :
    (FloatKind.f64.format.order b 4890909195324358656 == some Ordering.gt) = decide (9223372036854775808 * unitF < valF b) ∧
    (FloatKind.f64.format.order b 4890909195324358656 == some Ordering.eq) = (!decide (valF b < 9223372036854775808 * unitF) && !decide (9223372036854775808 * unitF < valF b)) ∧
    (FloatKind.f64.format.order b 14114281232179134464 == some Ordering.lt) = decide (valF b < -9223372036854775808 * unitF) := by
  obtain ⟨_, a2, a3⟩ := order_lt b 4890909195324358656 hb (by omega) nb (by decide)
  obtain ⟨b1, _, _⟩ := order_lt b 14114281232179134464 hb (by omega) nb (by decide)
  rw [valF_edge] at a2 a3
  rw [valF_edge'] at b1
  exact ⟨a2, a3, b1⟩
set_option maxRecDepth 100000 in
theorem IsNaN_any (b : Nat) (w : World) (hb : b < 18446744073709551616) :
    Calls Tryz.prog 268 #[.float .f64 b] w fun e w' => e = .returned (.bool (isNaNF b)) ∧ w = w' := by
  have h := self_nan b hb
  cases nb : isNaNF b <;> rw [nb] at h
  · go_enter Tryz.func268, Tryz.ntmps268
    go_wp2
    go_ret
    exact ⟨rfl, rfl⟩
  · go_enter Tryz.func268, Tryz.ntmps268
    go_wp2
    go_ret
    exact ⟨rfl, rfl⟩
set_option maxRecDepth 100000 in
theorem Mixed_any (n : Int) (b : Nat) (w : World) (hn : fits n) (hb : b < 18446744073709551616) :
    Calls Tryz.prog 276 #[.int .i64 n, .float .f64 b] w fun e w' => e = .returned (.int .i64 (mixedF n b)) ∧ w = w' := by
  have h0 := self_nan b hb
  cases nb : isNaNF b
  · rw [nb] at h0
    obtain ⟨g1, g2, g3⟩ := edge_facts b hb nb
    have goal : mixedF n b = cmpZ (n * unitF) (valF b) := by unfold mixedF; rw [if_neg (by simp [nb])]
    rw [goal]
    by_cases p : 9223372036854775808 * unitF ≤ valF b
    · rw [mixed_top n b hn p]
      have pp : (FloatKind.f64.format.order b 4890909195324358656 == some Ordering.gt || FloatKind.f64.format.order b 4890909195324358656 == some Ordering.eq) = true := by
        rw [g1, g2]
        generalize valF b = V at *
        generalize unitF = U at *
        by_cases q : 9223372036854775808 * U < V
        · simp [q]
        · have : ¬ V < 9223372036854775808 * U := by omega
          simp [q, this]
      clear g1 g2 g3 p goal
      go_enter Tryz.func276, Tryz.ntmps276
      go_wp2
      go_ret
      exact ⟨rfl, rfl⟩
    · have g1' : (FloatKind.f64.format.order b 4890909195324358656 == some Ordering.gt) = false := by rw [g1]; simp; omega
      have g2' : (FloatKind.f64.format.order b 4890909195324358656 == some Ordering.eq) = false := by rw [g2]; simp; omega
      by_cases p2 : valF b < -9223372036854775808 * unitF
      · rw [mixed_low n b hn p2]
        have g3' : (FloatKind.f64.format.order b 14114281232179134464 == some Ordering.lt) = true := by rw [g3]; simpa using p2
        clear g1 g2 g3 p p2 goal
        go_enter Tryz.func276, Tryz.ntmps276
        go_wp2
        go_ret
        exact ⟨rfl, rfl⟩
      · have g3' : (FloatKind.f64.format.order b 14114281232179134464 == some Ordering.lt) = false := by rw [g3]; simpa using p2
        have HN := Lib.hid (fun w => IsNaN_any b w hb)
        rw [nb] at HN
        obtain ⟨fin, t1, t2, t3⟩ := between b hb p p2
        obtain ⟨f1, f2, f3⟩ := trunc_float b hb fin t3
        have C1 := fun w => conv_toInt b w hb fin t1 t2
        have C2 := fun w => conv_toFloat (truncF b) w
        have C3 := fun w => CompareF _ b w f2 hb f3 nb
        rw [f1] at C3
        have C4 := fun w => CompareI n (truncF b) w
        rw [mixed_trunc n b hb]
        clear g1 g2 g3 p p2 goal t1 t2 t3 fin f1 f2 f3
        generalize Ieee.double.nearest (decide (truncF b < 0)) (truncF b).natAbs 0 = d at *
        generalize cmpZ (truncF b * unitF) (valF b) = c at *
        generalize truncF b = t at *
        by_cases q : n = t
        · have qb : (n != t) = false := by simp [q]
          rw [if_pos q]
          clear C4 q
          have H3 := Lib.hid C3
          clear C3
          go_enter Tryz.func276, Tryz.ntmps276
          go_wp2_with (first | (go_at_call 268; ((with_reducible refine (HN.out _).mono ?_); rintro e w' ⟨rfl, rfl⟩)) | (go_at_call 293; ((with_reducible refine (H3.out _).mono ?_); rintro e w' ⟨rfl, rfl⟩)))
          go_ret
          exact ⟨rfl, rfl⟩
        · have qb : (n != t) = true := by simp [q]
          rw [if_neg q]
          clear C3
          have H4 := Lib.hid C4
          clear C4 q
          go_enter Tryz.func276, Tryz.ntmps276
          go_wp2_with (first | (go_at_call 268; ((with_reducible refine (HN.out _).mono ?_); rintro e w' ⟨rfl, rfl⟩)) | (go_at_call 263; ((with_reducible refine (H4.out _).mono ?_); rintro e w' ⟨rfl, rfl⟩)))
          go_ret
          exact ⟨rfl, rfl⟩
  · rw [nb] at h0
    have goal : mixedF n b = -1 := by unfold mixedF; rw [if_pos nb]
    rw [goal]
    go_enter Tryz.func276, Tryz.ntmps276
    go_wp2
    go_ret
    exact ⟨rfl, rfl⟩
end Go.Proofs.YtmolpogehgeebaaGreat


namespace Go.Proofs.YtmolpogehgeebaaGreat
open Go.RowKit
theorem rank_nan_eq (b : Nat) (hb : b < 18446744073709551616) (n : isNaNF b = true) : rankOf b = 18446744073709551615 := by
  unfold rankOf; rw [self_nan b hb, if_pos n]
theorem rank_num_eq (b : Nat) (hb : b < 18446744073709551616) (n : isNaNF b = false) : rankOf b = if b < 9223372036854775808 then (b : Int) + 9223372036854775808 else 18446744073709551615 - b := by
  unfold rankOf; rw [self_nan b hb, if_neg (by simp [n])]
theorem num_bound (b : Nat) (n : isNaNF b = false) : b % 9223372036854775808 ≤ 9218868437227405312 := by
  unfold isNaNF at n; simp only [decide_eq_false_iff_not] at n; omega
end Go.Proofs.YtmolpogehgeebaaGreat


namespace Go.Proofs.YtmolpogehgeebaaGreat
open Go.RowKit
theorem canonF_lt (b : Nat) (hb : b < 18446744073709551616) : canonF b < 18446744073709551616 := by
  unfold canonF; split <;> omega
theorem canonF_nan (b : Nat) : isNaNF (canonF b) = true → canonF b = 9221120237041090561 := by
  unfold canonF
  by_cases p : isNaNF b = true
  · rw [if_pos p]; intro _; rfl
  · rw [if_neg p]; intro h; exact absurd h p
theorem cmpI_flip (x y : Int) : cmpI x y = -cmpI y x := by
  unfold cmpI; repeat' split
  all_goals omega
theorem cmpI_le (x y : Int) : cmpI x y ≤ 0 ↔ x ≤ y := by
  unfold cmpI; repeat' split
  all_goals omega
theorem cmpI_zero (x y : Int) : cmpI x y = 0 ↔ x = y := by
  unfold cmpI; repeat' split
  all_goals omega
theorem rank_below (b : Nat) (hb : b < 18446744073709551616) (n : isNaNF b = false) : rankOf b < 18446744073709551615 := by
  have k := num_bound b n
  rw [rank_num_eq b hb n]
  split <;> omega
theorem rank_inj (a b : Nat) (ha : a < 18446744073709551616) (hb : b < 18446744073709551616) : rankOf (canonF a) = rankOf (canonF b) ↔ canonF a = canonF b := by
  constructor
  · have la := canonF_lt a ha
    have lb := canonF_lt b hb
    have na := canonF_nan a
    have nb := canonF_nan b
    generalize canonF a = x at *
    generalize canonF b = y at *
    intro h
    cases p : isNaNF x <;> cases q : isNaNF y
    · rw [rank_num_eq x la p, rank_num_eq y lb q] at h
      split at h <;> split at h <;> omega
    · have := rank_below x la p
      rw [rank_nan_eq y lb q] at h; omega
    · have := rank_below y lb q
      rw [rank_nan_eq x la p] at h; omega
    · rw [na p, nb q]
  · intro h; rw [h]
end Go.Proofs.YtmolpogehgeebaaGreat


namespace Go.Proofs.YtmolpogehgeebaaGreat
open Go.RowKit

/-- A comparison that is a total order in which only one and the same stand together. -/
structure Good {α : Type} (c : α → α → Int) : Prop where
  flip : ∀ x y, c x y = -c y x
  least : ∀ x y, -1 ≤ c x y
  zero : ∀ x y, c x y = 0 ↔ x = y
  trans : ∀ x y z, c x y ≤ 0 → c y z ≤ 0 → c x z ≤ 0
theorem Good.self {α : Type} {c : α → α → Int} (h : Good c) (x : α) : c x x = 0 := (h.zero x x).2 rfl
/-- Of three: what is behind neither of two is not behind; and with itself only where both are. -/
theorem Good.three {α : Type} {c : α → α → Int} (h : Good c) (x y z : α) (p : c x y ≤ 0) (q : c y z ≤ 0) : c x z ≤ 0 ∧ (c x z = 0 → c x y = 0 ∧ c y z = 0) := by
  refine ⟨h.trans x y z p q, fun r => ?_⟩
  have e := (h.zero x z).1 r
  subst e
  have := h.flip x y
  omega
theorem good_int : Good cmpI where
  flip := cmpI_flip
  least x y := by unfold cmpI; repeat' split
                  all_goals omega
  zero := cmpI_zero
  trans x y z p q := by
    rw [cmpI_le] at *
    omega
theorem good_lex {α β : Type} {c : α → α → Int} {d : β → β → Int} (hc : Good c) (hd : Good d) :
    Good (fun (x y : α × β) => if c x.1 y.1 = 0 then d x.2 y.2 else c x.1 y.1) where
  flip x y := by
    have f := hc.flip x.1 y.1
    have g := hd.flip x.2 y.2
    by_cases e : c x.1 y.1 = 0
    · simp only [e, show c y.1 x.1 = 0 by omega, if_true]; exact g
    · simp only [if_neg e, if_neg (show ¬ c y.1 x.1 = 0 by omega)]; exact f
  least x y := by
    split
    · exact hd.least _ _
    · exact hc.least _ _
  zero x y := by
    have f := hc.zero x.1 y.1
    have g := hd.zero x.2 y.2
    constructor
    · intro h
      split at h
      · rename_i e
        exact Prod.ext (f.1 e) (g.1 h)
      · contradiction
    · rintro rfl
      rw [if_pos (hc.self _)]; exact hd.self _
  trans x y z p q := by
    have t := hc.three x.1 y.1 z.1
    have s := hd.trans x.2 y.2 z.2
    have e1 := hc.zero x.1 y.1
    have e2 := hc.zero y.1 z.1
    by_cases a : c x.1 y.1 = 0
    · rw [if_pos a] at p
      rw [e1.1 a]
      by_cases b : c y.1 z.1 = 0
      · rw [if_pos b] at q ⊢
        exact s p q
      · rw [if_neg b] at q ⊢
        exact q
    · rw [if_neg a] at p
      by_cases b : c y.1 z.1 = 0
      · rw [← e2.1 b, if_neg a]; exact p
      · rw [if_neg b] at q
        obtain ⟨t1, t2⟩ := t p q
        rw [if_neg (fun r => a (t2 r).1)]
        exact t1

theorem good_bytes : Good Lib.compareBytes where
  flip := by
    intro x
    induction x with
    | nil => intro y; cases y <;> simp [Lib.compareBytes]
    | cons a x ih =>
      intro y
      cases y with
      | nil => simp [Lib.compareBytes]
      | cons b y =>
        unfold Lib.compareBytes
        have := ih y
        have h1 : a < b → ¬ b < a := fun h => by rw [UInt8.lt_iff_toNat_lt] at *; omega
        by_cases p : a < b
        · rw [if_pos p, if_neg (h1 p), if_pos p]
        · rw [if_neg p]
          by_cases q : b < a
          · rw [if_pos q, if_pos q]; rfl
          · rw [if_neg q, if_neg q, if_neg p]; exact this
  least := by
    intro x
    induction x with
    | nil => intro y; cases y <;> simp [Lib.compareBytes]
    | cons a x ih =>
      intro y
      cases y with
      | nil => simp [Lib.compareBytes]
      | cons b y =>
        unfold Lib.compareBytes
        have := ih y
        repeat' split
        all_goals omega
  zero := by
    intro x
    induction x with
    | nil => intro y; cases y <;> simp [Lib.compareBytes]
    | cons a x ih =>
      intro y
      cases y with
      | nil => simp [Lib.compareBytes]
      | cons b y =>
        unfold Lib.compareBytes
        have t := ih y
        have e : ¬ a < b → ¬ b < a → a = b := fun h g => by
          rw [UInt8.lt_iff_toNat_lt] at *
          exact UInt8.toNat_inj.1 (by omega)
        have f : a = b → ¬ a < b ∧ ¬ b < a := fun h => by
          subst h; rw [UInt8.lt_iff_toNat_lt]; omega
        constructor
        · intro h
          split at h
          · omega
          · split at h
            · omega
            · rw [e ‹_› ‹_›, t.1 h]
        · intro h
          obtain ⟨h1, h2⟩ := List.cons.inj h
          rw [if_neg (f h1).1, if_neg (f h1).2]
          exact t.2 h2
  trans := by
    intro x
    induction x with
    | nil => intro y z; cases z <;> simp [Lib.compareBytes]
    | cons a x ih =>
      intro y z
      cases y with
      | nil => simp [Lib.compareBytes]
      | cons b y =>
        cases z with
        | nil => simp [Lib.compareBytes]
        | cons c z =>
          unfold Lib.compareBytes
          have t := ih y z
          simp only [UInt8.lt_iff_toNat_lt]
          intro p q
          repeat' split at p
          all_goals (repeat' split at q)
          all_goals (repeat' split)
          all_goals first | omega | exact t p q

/-- A value's class: Ints and Floats are one. -/
def classK (k : Int) : Int := if k = 3 then 2 else k
/-- A number's place, exactly: in quarters of the least place, an Int ahead of the Floats that are worth the same, -0 ahead of 0, a NaN behind all. -/
def numKey (k n : Int) (f : Nat) : Int :=
  if k = 2 then 4 * (n * unitF) else if isNaNF f = true then 4 * valF 9218868437227405312 + 3 else 4 * valF f + if f < 9223372036854775808 then 2 else 1
/-- A value's number within its class. -/
def ikey (k : Int) (b : Bool) (n : Int) (f : Nat) : Int :=
  if k = 1 then (if b = true then 1 else 0) else if k = 2 ∨ k = 3 then numKey k n f else if k = 5 ∨ k = 6 then n else 0
/-- A value's bytes. -/
def skey (k : Int) (s : ByteArray) : List UInt8 := if k = 4 then s.data.toList else []
/-- The order of values. -/
def cmpK (x y : Int × Int × List UInt8) : Int :=
  if cmpI x.1 y.1 = 0 then (if cmpI x.2.1 y.2.1 = 0 then Lib.compareBytes x.2.2 y.2.2 else cmpI x.2.1 y.2.1) else cmpI x.1 y.1
theorem good_cmpK : Good cmpK := good_lex good_int (good_lex good_int good_bytes)
def keyV (k : Int) (b : Bool) (n : Int) (f : Nat) (s : ByteArray) : Int × Int × List UInt8 := (classK k, ikey k b n f, skey k s)

/-- Which values may be. -/
def MayV (k : Int) (b : Bool) (n : Int) (f : Nat) (s : ByteArray) : Prop :=
  (k = 0 ∧ b = false ∧ n = 0 ∧ f = 0 ∧ s = ByteArray.empty) ∨ (k = 1 ∧ n = 0 ∧ f = 0 ∧ s = ByteArray.empty) ∨ (k = 2 ∧ b = false ∧ f = 0 ∧ s = ByteArray.empty) ∨
  (k = 3 ∧ b = false ∧ n = 0 ∧ s = ByteArray.empty ∧ canonF f = f) ∨ (k = 4 ∧ b = false ∧ n = 0 ∧ f = 0 ∧ s.size ≤ 32) ∨
  ((k = 5 ∨ k = 6) ∧ b = false ∧ f = 0 ∧ s = ByteArray.empty ∧ 1 ≤ n ∧ n ≤ 1099511627776)

theorem numKey_int (n : Int) (f : Nat) : numKey 2 n f = 4 * (n * unitF) := by unfold numKey; rw [if_pos rfl]
theorem numKey_nan (n : Int) (f : Nat) (h : isNaNF f = true) : numKey 3 n f = 4 * valF 9218868437227405312 + 3 := by unfold numKey; rw [if_neg (by omega), if_pos h]
theorem numKey_float (n : Int) (f : Nat) (h : isNaNF f = false) : numKey 3 n f = 4 * valF f + if f < 9223372036854775808 then 2 else 1 := by unfold numKey; rw [if_neg (by omega), if_neg (by simp [h])]
theorem valF_most (f : Nat) (hf : f < 18446744073709551616) (h : isNaNF f = false) : valF f ≤ valF 9218868437227405312 := by
  have k := num_bound f h
  have v := valF_lt 9218868437227405312 f
  have e : ¬ keyF 9218868437227405312 < keyF f := by
    unfold keyF
    rw [if_pos (by omega)]
    split <;> omega
  omega
theorem edge_le : valF 4890909195324358656 ≤ valF 9218868437227405312 := valF_most _ (by omega) (by decide)
/-- Two floats, neither a NaN: their places are as their keys. -/
theorem key_floats (a b : Nat) (ha : a < 18446744073709551616) (hb : b < 18446744073709551616) (na : isNaNF a = false) (nb : isNaNF b = false) (n m : Int) :
    (rankOf a < rankOf b ↔ numKey 3 n a < numKey 3 m b) := by
  rw [numKey_float n a na, numKey_float m b nb, rank_num_eq a ha na, rank_num_eq b hb nb]
  have v := valF_lt a b
  have w := valF_lt b a
  unfold keyF at v w
  by_cases p : a < 9223372036854775808 <;> by_cases q : b < 9223372036854775808 <;> simp only [p, q, if_true, if_false] at v w ⊢ <;> omega
theorem key_any_floats (a b : Nat) (ha : a < 18446744073709551616) (hb : b < 18446744073709551616) (n m : Int) :
    (rankOf a < rankOf b ↔ numKey 3 n a < numKey 3 m b) := by
  cases na : isNaNF a <;> cases nb : isNaNF b
  · exact key_floats a b ha hb na nb n m
  · have := rank_below a ha na
    have := valF_most a ha na
    rw [numKey_float n a na, numKey_nan m b nb, rank_nan_eq b hb nb]
    split <;> omega
  · have := rank_below b hb nb
    have := valF_most b hb nb
    rw [numKey_nan n a na, numKey_float m b nb, rank_nan_eq a ha na]
    split <;> omega
  · rw [numKey_nan n a na, numKey_nan m b nb, rank_nan_eq a ha na, rank_nan_eq b hb nb]
    omega
theorem cmpI_of (x y x' y' : Int) (h1 : x < y ↔ x' < y') (h2 : y < x ↔ y' < x') : cmpI x y = cmpI x' y' := by
  unfold cmpI; simp only [h1, h2]
theorem cmp_floats (a b : Nat) (ha : a < 18446744073709551616) (hb : b < 18446744073709551616) (n m : Int) : cmpI (rankOf a) (rankOf b) = cmpI (numKey 3 n a) (numKey 3 m b) :=
  cmpI_of _ _ _ _ (key_any_floats a b ha hb n m) (key_any_floats b a hb ha m n)
theorem cmp_ints (n m : Int) (f g : Nat) : cmpI n m = cmpI (numKey 2 n f) (numKey 2 m g) := by
  rw [numKey_int, numKey_int]
  have u := unitF_pos
  have h1 : n * unitF < m * unitF ↔ n < m := Int.mul_lt_mul_right u
  have h2 : m * unitF < n * unitF ↔ m < n := Int.mul_lt_mul_right u
  exact cmpI_of _ _ _ _ (by omega) (by omega)
theorem cmp_mixed (n : Int) (f : Nat) (hn : fits n) (g : Nat) (m : Int) :
    cmpI (numKey 2 n g) (numKey 3 m f) = if 0 < mixedF n f then 1 else -1 := by
  rw [numKey_int]
  cases p : isNaNF f
  · rw [show mixedF n f = cmpZ (n * unitF) (valF f) by unfold mixedF; rw [if_neg (by simp [p])], numKey_float m f p]
    unfold cmpZ cmpI
    generalize n * unitF = x
    generalize valF f = y
    repeat' split
    all_goals omega
  · rw [show mixedF n f = -1 by unfold mixedF; rw [if_pos p], numKey_nan m f p, if_neg (by omega)]
    have e := edge_le
    rw [valF_edge] at e
    have u := unitF_pos
    have h1 : n * unitF ≤ 9223372036854775808 * unitF := Int.mul_le_mul_of_nonneg_right (by have := hn.2; omega) (by omega)
    unfold cmpI
    rw [if_pos (by omega)]

/-- Unlike values, unlike keys. -/
theorem num_key_inj (k l n m : Int) (f g : Nat) (hk : k = 2 ∧ f = 0 ∨ k = 3 ∧ n = 0 ∧ canonF f = f) (hl : l = 2 ∧ g = 0 ∨ l = 3 ∧ m = 0 ∧ canonF g = g) (hf : f < 18446744073709551616) (hg : g < 18446744073709551616)
    (h : numKey k n f = numKey l m g) : k = l ∧ n = m ∧ f = g := by
  rcases hk with ⟨rfl, rfl⟩ | ⟨rfl, rfl, cf⟩ <;> rcases hl with ⟨rfl, rfl⟩ | ⟨rfl, rfl, cg⟩
  · rw [numKey_int, numKey_int] at h
    refine ⟨rfl, ?_, rfl⟩
    exact Int.eq_of_mul_eq_mul_right (by have := unitF_pos; omega) (by omega : n * unitF = m * unitF)
  · rw [numKey_int] at h
    cases q : isNaNF g
    · rw [numKey_float _ g q] at h; split at h <;> omega
    · rw [numKey_nan _ g q] at h; omega
  · rw [numKey_int] at h
    cases q : isNaNF f
    · rw [numKey_float _ f q] at h; split at h <;> omega
    · rw [numKey_nan _ f q] at h; omega
  · refine ⟨rfl, rfl, ?_⟩
    have t := cmp_floats f g hf hg 0 0
    rw [h, good_int.self] at t
    have := (cmpI_zero _ _).1 t
    rw [← cf, ← cg] at this
    rw [← cf, ← cg]
    exact (rank_inj f g hf hg).1 this
theorem key_inj (k l : Int) (b c : Bool) (n m : Int) (f g : Nat) (s t : ByteArray) (hx : MayV k b n f s) (hy : MayV l c m g t) (hf : f < 18446744073709551616) (hg : g < 18446744073709551616)
    (h : keyV k b n f s = keyV l c m g t) : k = l ∧ b = c ∧ n = m ∧ f = g ∧ s = t := by
  have h1 : classK k = classK l := (Prod.mk.inj h).1
  have h2 : ikey k b n f = ikey l c m g := (Prod.mk.inj (Prod.mk.inj h).2).1
  have h3 : skey k s = skey l t := (Prod.mk.inj (Prod.mk.inj h).2).2
  clear h
  unfold MayV at hx hy
  by_cases e : k = 2 ∨ k = 3
  · have e' : l = 2 ∨ l = 3 := by unfold classK at h1; split at h1 <;> split at h1 <;> omega
    have i1 : ikey k b n f = numKey k n f := by unfold ikey; rw [if_neg (by omega), if_pos e]
    have i2 : ikey l c m g = numKey l m g := by unfold ikey; rw [if_neg (by omega), if_pos e']
    rw [i1, i2] at h2
    have hk : k = 2 ∧ f = 0 ∨ k = 3 ∧ n = 0 ∧ canonF f = f := by rcases e with rfl | rfl <;> simp at hx <;> simp [hx]
    have hl : l = 2 ∧ g = 0 ∨ l = 3 ∧ m = 0 ∧ canonF g = g := by rcases e' with rfl | rfl <;> simp at hy <;> simp [hy]
    obtain ⟨r1, r2, r3⟩ := num_key_inj k l n m f g hk hl hf hg h2
    have r4 : b = c ∧ s = t := by rcases e with rfl | rfl <;> subst r1 <;> simp at hx hy <;> simp [hx, hy]
    exact ⟨r1, r4.1, r2, r3, r4.2⟩
  · have e' : k = l := by unfold classK at h1; split at h1 <;> split at h1 <;> omega
    subst e'
    refine ⟨rfl, ?_⟩
    rcases hx with ⟨rfl, rfl, rfl, rfl, rfl⟩ | ⟨rfl, rfl, rfl, rfl⟩ | ⟨rfl, _⟩ | ⟨rfl, _⟩ | ⟨rfl, rfl, rfl, rfl, _⟩ | ⟨hk, rfl, rfl, rfl, _⟩
    · simp at hy; simp [hy]
    · simp at hy
      simp [ikey] at h2
      obtain ⟨rfl, rfl, rfl⟩ := hy
      refine ⟨?_, rfl, rfl, rfl⟩
      revert h2
      cases b <;> cases c <;> simp
    · omega
    · omega
    · simp at hy
      simp [skey] at h3
      obtain ⟨rfl, rfl, rfl, _⟩ := hy
      exact ⟨rfl, rfl, rfl, ByteArray.ext h3⟩
    · rcases hk with rfl | rfl <;> simp at hy <;> simp [ikey] at h2 <;> simp [hy, h2]
end Go.Proofs.YtmolpogehgeebaaGreat


