/- num.Mixed and the document's own Mixed, for every whole number and every float: both answer by the exact values. -/
import Derived.Test.YtflgdhhgnbdofaaGreatmG8
namespace Go.Proofs.YtflgdhhgnbdofaaGreat
open Go.RowKit
theorem order_lt (a b : Nat) (ha : a < 18446744073709551616) (hb : b < 18446744073709551616) (na : isNaNF a = false) (nb : isNaNF b = false) :
    (FloatKind.f64.format.order a b == some Ordering.lt) = decide (valF a < valF b) ∧ (FloatKind.f64.format.order a b == some Ordering.gt) = decide (valF b < valF a) ∧
    (FloatKind.f64.format.order a b == some Ordering.eq) = (!decide (valF a < valF b) && !decide (valF b < valF a)) := by
  unfold isNaNF at na nb
  simp only [decide_eq_false_iff_not] at na nb
  have e : FloatKind.f64.format.order a b = some (compare (keyF a) (keyF b)) := order_any a b ha hb (by omega) (by omega)
  rw [e]
  have q1 := valF_lt a b
  have q2 := valF_lt b a
  generalize keyF a = x at *
  generalize keyF b = y at *
  have g : compare x y = compareOfLessAndEq x y := rfl
  rw [g]
  unfold compareOfLessAndEq
  rcases Int.lt_trichotomy x y with t | t | t
  · have u1 := q1.2 t
    have u2 : ¬ valF b < valF a := fun v => by have := q2.1 v; omega
    rw [if_pos t]; simp [u1, u2]
  · have u1 : ¬ valF a < valF b := fun v => by have := q1.1 v; omega
    have u2 : ¬ valF b < valF a := fun v => by have := q2.1 v; omega
    rw [if_neg (by omega), if_pos t]; simp [u1, u2]
  · have u1 : ¬ valF a < valF b := fun v => by have := q1.1 v; omega
    have u2 := q2.2 t
    rw [if_neg (by omega), if_neg (by omega)]; simp [u1, u2]
theorem self_nan (b : Nat) (hb : b < 18446744073709551616) : (FloatKind.f64.format.order b b != some Ordering.eq) = isNaNF b := self_any b hb
theorem valF_edge : valF 4890909195324358656 = 9223372036854775808 * unitF := by
  have h := (valF_nearest false 9223372036854775808 (by omega) (by decide)).1
  rw [show Ieee.double.nearest false 9223372036854775808 0 = 4890909195324358656 by decide +kernel] at h
  rw [h]; simp
theorem valF_edge' : valF 14114281232179134464 = -9223372036854775808 * unitF := by
  have h := (valF_nearest true 9223372036854775808 (by omega) (by decide)).1
  rw [show Ieee.double.nearest true 9223372036854775808 0 = 14114281232179134464 by decide +kernel] at h
  rw [h]; simp

theorem conv_toInt (b : Nat) (w : World) (hb : b < 18446744073709551616) (h : b % 9223372036854775808 < 9218868437227405312)
    (h1 : -9223372036854775808 ≤ truncF b) (h2 : truncF b ≤ 9223372036854775807) :
    (convert 29 2 (.float .f64 b)).run Tryz.prog w = .ok (.int .i64 (truncF b)) w := by
  have e : (convert 29 2 (.float .f64 b)).run Tryz.prog w = (Conv.floatToInt .f64 b .i64).run Tryz.prog w := by kernel_rfl
  rw [e]
  unfold Conv.floatToInt
  rw [show FloatKind.f64.decode b = Ieee.double.read b from rfl, toInt_zero b hb h]
  have k1 : IntKind.i64.min = -9223372036854775808 := by decide
  have k2 : IntKind.i64.max = 9223372036854775807 := by decide
  simp only [k1, k2]
  rw [if_pos ⟨h1, h2⟩]
  rfl
theorem conv_toFloat (n : Int) (w : World) :
    (convert 2 29 (.int .i64 n)).run Tryz.prog w = .ok (.float .f64 (Ieee.double.nearest (decide (n < 0)) n.natAbs 0)) w := by kernel_rfl
set_option maxRecDepth 100000 in
theorem CompareI (x y : Int) (w : World) :
    Calls Tryz.prog 227 #[.int .i64 x, .int .i64 y] w fun e w' => e = .returned (.int .i64 (cmpZ x y)) ∧ w = w' := by
  obtain ⟨c, hc⟩ : ∃ c, c = cmpZ x y := ⟨_, rfl⟩
  rw [← hc]
  unfold cmpZ at hc
  by_cases p : x < y
  · have pb : decide (x < y) = true := by simp [p]
    rw [if_pos p] at hc
    subst hc
    go_enter Tryz.func227, Tryz.ntmps227
    go_wp2
    go_ret
    exact ⟨rfl, rfl⟩
  · have pb : decide (x < y) = false := by simp [p]
    rw [if_neg p] at hc
    by_cases q : y < x
    · have qb : decide (y < x) = true := by simp [q]
      rw [if_pos q] at hc
      subst hc
      clear p
      go_enter Tryz.func227, Tryz.ntmps227
      go_wp2
      go_ret
      exact ⟨rfl, rfl⟩
    · have qb : decide (y < x) = false := by simp [q]
      rw [if_neg q] at hc
      subst hc
      clear p q
      go_enter Tryz.func227, Tryz.ntmps227
      go_wp2
      go_ret
      exact ⟨rfl, rfl⟩
set_option maxRecDepth 100000 in
theorem CompareF (a b : Nat) (w : World) (ha : a < 18446744073709551616) (hb : b < 18446744073709551616) (na : isNaNF a = false) (nb : isNaNF b = false) :
    Calls Tryz.prog 250 #[.float .f64 a, .float .f64 b] w fun e w' => e = .returned (.int .i64 (cmpZ (valF a) (valF b))) ∧ w = w' := by
  have ha1 := self_nan a ha
  have hb1 := self_nan b hb
  rw [na] at ha1
  rw [nb] at hb1
  obtain ⟨o1, o2, _⟩ := order_lt a b ha hb na nb
  obtain ⟨c, hc⟩ : ∃ c, c = cmpZ (valF a) (valF b) := ⟨_, rfl⟩
  rw [← hc]
  unfold cmpZ at hc
  generalize valF a = x at *
  generalize valF b = y at *
  by_cases p : x < y
  · rw [if_pos p] at hc
    rw [show decide (x < y) = true by simp [p]] at o1
    subst hc
    clear o2 p
    go_enter Tryz.func250, Tryz.ntmps250
    go_wp2
    go_ret
    exact ⟨rfl, rfl⟩
  · rw [if_neg p] at hc
    rw [show decide (x < y) = false by simp [p]] at o1
    by_cases q : y < x
    · rw [if_pos q] at hc
      rw [show decide (y < x) = true by simp [q]] at o2
      subst hc
      clear p q
      go_enter Tryz.func250, Tryz.ntmps250
      go_wp2
      go_ret
      exact ⟨rfl, rfl⟩
    · rw [if_neg q] at hc
      rw [show decide (y < x) = false by simp [q]] at o2
      subst hc
      clear p q
      go_enter Tryz.func250, Tryz.ntmps250
      go_wp2
      go_ret
      exact ⟨rfl, rfl⟩

/-- What Mixed answers: by the exact values; a NaN is above all whole numbers. -/
def mixedF (n : Int) (b : Nat) : Int := if isNaNF b = true then -1 else cmpZ (n * unitF) (valF b)
/-- Between the edges: finite, and its whole part is a whole number of 64 bits. -/
theorem between (b : Nat) (hb : b < 18446744073709551616) (h1 : ¬ 9223372036854775808 * unitF ≤ valF b) (h2 : ¬ valF b < -9223372036854775808 * unitF) :
    b % 9223372036854775808 < 9218868437227405312 ∧ -9223372036854775808 ≤ truncF b ∧ truncF b ≤ 9223372036854775807 ∧ wholeF b ≤ 9223372036854775808 := by
  have u := unitF_pos
  have fin : b % 9223372036854775808 < 9218868437227405312 := by
    have q1 := valF_lt b 4890909195324358656
    have q2 := valF_lt b 14114281232179134464
    rw [valF_edge] at q1
    rw [valF_edge'] at q2
    have k1 := q1.1 (by omega)
    have k2 : ¬ keyF b < keyF 14114281232179134464 := fun v => h2 (q2.2 v)
    unfold keyF at k1 k2
    simp only [show (4890909195324358656 : Nat) < 9223372036854775808 by omega, show ¬ (14114281232179134464 : Nat) < 9223372036854775808 by omega, if_true, if_false] at k1 k2
    by_cases p : b < 9223372036854775808
    · rw [if_pos p] at k1 k2; omega
    · rw [if_neg p] at k1 k2; omega
  refine ⟨fin, ?_⟩
  obtain ⟨v1, v2⟩ := valF_parts b hb
  unfold truncF
  unfold sgnF at *
  by_cases p : 9223372036854775808 ≤ b
  · rw [if_pos (by simp [p])] at *
    have l : (wholeF b : Int) * unitF ≤ 9223372036854775808 * unitF := by
      generalize (wholeF b : Int) * unitF = x at *
      omega
    have m := Int.le_of_mul_le_mul_right l u
    omega
  · rw [if_neg (by simp [p])] at *
    have l : (wholeF b : Int) * unitF < 9223372036854775808 * unitF := by
      generalize (wholeF b : Int) * unitF = x at *
      omega
    have m := Int.lt_of_mul_lt_mul_right l (by omega)
    omega
/-- The whole part as a float again. -/
theorem trunc_float (b : Nat) (hb : b < 18446744073709551616) (fin : b % 9223372036854775808 < 9218868437227405312) (hw : wholeF b ≤ 9223372036854775808) :
    valF (Ieee.double.nearest (decide (truncF b < 0)) (truncF b).natAbs 0) = truncF b * unitF ∧ Ieee.double.nearest (decide (truncF b < 0)) (truncF b).natAbs 0 < 18446744073709551616 ∧
    isNaNF (Ieee.double.nearest (decide (truncF b < 0)) (truncF b).natAbs 0) = false := by
  have e : (truncF b).natAbs = wholeF b := by unfold truncF sgnF; split <;> omega
  obtain ⟨a1, a2, a3⟩ := valF_nearest (decide (truncF b < 0)) (truncF b).natAbs (by rw [e]; exact hw) (by rw [e]; exact (integral_zero b hb fin).2)
  refine ⟨?_, a2, ?_⟩
  · rw [a1]
    congr 1
    by_cases p : truncF b < 0
    · rw [if_pos (by simp [p])]; omega
    · rw [if_neg (by simp [p])]; omega
  · unfold isNaNF
    simp only [decide_eq_false_iff_not]
    omega
theorem mixed_top (n : Int) (b : Nat) (hn : fits n) (h : 9223372036854775808 * unitF ≤ valF b) : cmpZ (n * unitF) (valF b) = -1 := by
  unfold fits at hn
  have := mul_next n 9223372036854775808 unitF unitF_pos (by omega)
  have u := unitF_pos
  unfold cmpZ
  rw [if_pos (by omega)]
theorem mixed_low (n : Int) (b : Nat) (hn : fits n) (h : valF b < -9223372036854775808 * unitF) : cmpZ (n * unitF) (valF b) = 1 := by
  unfold fits at hn
  have : -9223372036854775808 * unitF ≤ n * unitF := Int.mul_le_mul_of_nonneg_right (by omega) (by have := unitF_pos; omega)
  unfold cmpZ
  rw [if_neg (by omega), if_pos (by omega)]
theorem edge_facts (b : Nat) (hb : b < 18446744073709551616) (nb : isNaNF b = false) :
    (FloatKind.f64.format.order b 4890909195324358656 == some Ordering.gt) = decide (9223372036854775808 * unitF < valF b) ∧
    (FloatKind.f64.format.order b 4890909195324358656 == some Ordering.eq) = (!decide (valF b < 9223372036854775808 * unitF) && !decide (9223372036854775808 * unitF < valF b)) ∧
    (FloatKind.f64.format.order b 14114281232179134464 == some Ordering.lt) = decide (valF b < -9223372036854775808 * unitF) := by
  obtain ⟨_, a2, a3⟩ := order_lt b 4890909195324358656 hb (by omega) nb (by decide)
  obtain ⟨b1, _, _⟩ := order_lt b 14114281232179134464 hb (by omega) nb (by decide)
  rw [valF_edge] at a2 a3
  rw [valF_edge'] at b1
  exact ⟨a2, a3, b1⟩
set_option maxRecDepth 100000 in
theorem IsNaN_any (b : Nat) (w : World) (hb : b < 18446744073709551616) :
    Calls Tryz.prog 214 #[.float .f64 b] w fun e w' => e = .returned (.bool (isNaNF b)) ∧ w = w' := by
  have h := self_nan b hb
  cases nb : isNaNF b <;> rw [nb] at h
  · go_enter Tryz.func214, Tryz.ntmps214
    go_wp2
    go_ret
    exact ⟨rfl, rfl⟩
  · go_enter Tryz.func214, Tryz.ntmps214
    go_wp2
    go_ret
    exact ⟨rfl, rfl⟩
set_option maxRecDepth 100000 in
theorem Mixed_any (n : Int) (b : Nat) (w : World) (hn : fits n) (hb : b < 18446744073709551616) :
    Calls Tryz.prog 234 #[.int .i64 n, .float .f64 b] w fun e w' => e = .returned (.int .i64 (mixedF n b)) ∧ w = w' := by
  have h0 := self_nan b hb
  cases nb : isNaNF b
  · rw [nb] at h0
    obtain ⟨g1, g2, g3⟩ := edge_facts b hb nb
    have goal : mixedF n b = cmpZ (n * unitF) (valF b) := by unfold mixedF; rw [if_neg (by simp [nb])]
    rw [goal]
    by_cases p : 9223372036854775808 * unitF ≤ valF b
    · rw [mixed_top n b hn p]
      have pp : (FloatKind.f64.format.order b 4890909195324358656 == some Ordering.gt || FloatKind.f64.format.order b 4890909195324358656 == some Ordering.eq) = true := by
        rw [g1, g2]
        generalize valF b = V at *
        generalize unitF = U at *
        by_cases q : 9223372036854775808 * U < V
        · simp [q]
        · have : ¬ V < 9223372036854775808 * U := by omega
          simp [q, this]
      clear g1 g2 g3 p goal
      go_enter Tryz.func234, Tryz.ntmps234
      go_wp2
      go_ret
      exact ⟨rfl, rfl⟩
    · have g1' : (FloatKind.f64.format.order b 4890909195324358656 == some Ordering.gt) = false := by rw [g1]; simp; omega
      have g2' : (FloatKind.f64.format.order b 4890909195324358656 == some Ordering.eq) = false := by rw [g2]; simp; omega
      by_cases p2 : valF b < -9223372036854775808 * unitF
      · rw [mixed_low n b hn p2]
        have g3' : (FloatKind.f64.format.order b 14114281232179134464 == some Ordering.lt) = true := by rw [g3]; simpa using p2
        clear g1 g2 g3 p p2 goal
        go_enter Tryz.func234, Tryz.ntmps234
        go_wp2
        go_ret
        exact ⟨rfl, rfl⟩
      · have g3' : (FloatKind.f64.format.order b 14114281232179134464 == some Ordering.lt) = false := by rw [g3]; simpa using p2
        have HN := Lib.hid (fun w => IsNaN_any b w hb)
        rw [nb] at HN
        obtain ⟨fin, t1, t2, t3⟩ := between b hb p p2
        obtain ⟨f1, f2, f3⟩ := trunc_float b hb fin t3
        have C1 := fun w => conv_toInt b w hb fin t1 t2
        have C2 := fun w => conv_toFloat (truncF b) w
        have C3 := fun w => CompareF _ b w f2 hb f3 nb
        rw [f1] at C3
        have C4 := fun w => CompareI n (truncF b) w
        rw [mixed_trunc n b hb]
        clear g1 g2 g3 p p2 goal t1 t2 t3 fin f1 f2 f3
        generalize Ieee.double.nearest (decide (truncF b < 0)) (truncF b).natAbs 0 = d at *
        generalize cmpZ (truncF b * unitF) (valF b) = c at *
        generalize truncF b = t at *
        by_cases q : n = t
        · have qb : (n != t) = false := by simp [q]
          rw [if_pos q]
          clear C4 q
          have H3 := Lib.hid C3
          clear C3
          go_enter Tryz.func234, Tryz.ntmps234
          go_wp2_with (first | (go_at_call 214; ((with_reducible refine (HN.out _).mono ?_); rintro e w' ⟨rfl, rfl⟩)) | (go_at_call 250; ((with_reducible refine (H3.out _).mono ?_); rintro e w' ⟨rfl, rfl⟩)))
          go_ret
          exact ⟨rfl, rfl⟩
        · have qb : (n != t) = true := by simp [q]
          rw [if_neg q]
          clear C3
          have H4 := Lib.hid C4
          clear C4 q
          go_enter Tryz.func234, Tryz.ntmps234
          go_wp2_with (first | (go_at_call 214; ((with_reducible refine (HN.out _).mono ?_); rintro e w' ⟨rfl, rfl⟩)) | (go_at_call 227; ((with_reducible refine (H4.out _).mono ?_); rintro e w' ⟨rfl, rfl⟩)))
          go_ret
          exact ⟨rfl, rfl⟩
  · rw [nb] at h0
    have goal : mixedF n b = -1 := by unfold mixedF; rw [if_pos nb]
    rw [goal]
    go_enter Tryz.func234, Tryz.ntmps234
    go_wp2
    go_ret
    exact ⟨rfl, rfl⟩
end Go.Proofs.YtflgdhhgnbdofaaGreat

