/- The document's own Mixed and Floats, for every whole number and every float. -/
import Derived.Test.YtaaekjmiapelgaaGreatmF6
namespace Go.Proofs.YtaaekjmiapelgaaGreat
open Go.RowKit
theorem trunc_of (d : Nat) (k : Int) (hd : d < 18446744073709551616) (h : valF d = k * unitF) : truncF d = k := by
  have m := mixed_trunc k d hd
  rw [h] at m
  have z : cmpZ (k * unitF) (k * unitF) = 0 := by unfold cmpZ; rw [if_neg (by omega), if_neg (by omega)]
  rw [z] at m
  by_cases p : k = truncF d
  · exact p.symm
  · rw [if_neg p] at m
    unfold cmpZ at m
    split at m
    · omega
    · split at m <;> omega
theorem floor_between (b : Nat) (hb : b < 18446744073709551616) (h1 : ¬ 9223372036854775808 * unitF ≤ valF b) (h2 : ¬ valF b < -9223372036854775808 * unitF) :
    -9223372036854775808 ≤ floorF b ∧ floorF b ≤ 9223372036854775807 := by
  have m1 := mixed_floor (-9223372036854775808) b hb
  have m2 := mixed_floor 9223372036854775808 b hb
  constructor
  · by_cases p : -9223372036854775808 > floorF b
    · rw [if_pos p] at m1
      unfold cmpZ at m1
      split at m1
      · omega
      · first | omega | (split at m1 <;> omega)
    · omega
  · by_cases p : 9223372036854775808 > floorF b
    · omega
    · rw [if_neg p] at m2
      unfold cmpZ at m2
      rw [if_neg (by omega), if_pos (by omega)] at m2
      split at m2
      · omega
      · split at m2 <;> omega
/-- The float that math.Floor gives. -/
def floorB (b : Nat) : Nat := Ieee.double.nearest (decide (9223372036854775808 ≤ b)) (downN b) 0
theorem arch_number (b : Nat) (s : Bool) (m : Nat) (p : Int) (r : FloatKind.f64.decode b = Ieee.Datum.number s m p) :
    Extern.MathFloor.toIntegral "math.archFloor" .down #[.float .f64 b] = pure (.float .f64 (FloatKind.f64.encode ((Ieee.Datum.number s m p).integral .down))) := by
  have e2 : Extern.MathFloor.toIntegral "math.archFloor" .down #[.float .f64 b] = Extern.MathFloor.toIntegral "math.archFloor" .down #[.float .f64 b] := rfl
  conv at e2 => rhs; whnf
  rw [r] at e2
  exact e2
theorem call_archFloor (b : Nat) (w : World) (hb : b < 18446744073709551616) (fin : b % 9223372036854775808 < 9218868437227405312) :
    (callFunc 143 #[.float .f64 b]).run Tryz.prog w = .ok (.value (.float .f64 (floorB b))) w := by
  have e : (callFunc 143 #[.float .f64 b]).run Tryz.prog w = (do let v ← Extern.MathFloor.toIntegral "math.archFloor" .down #[.float .f64 b]; pure (Next.value v)).run Tryz.prog w := by kernel_rfl
  rw [e]
  obtain ⟨m, i, r, _⟩ := read_number b hb fin
  have d := (integral_down b hb fin).1
  rw [arch_number b _ _ _ r]
  rw [r] at d
  rw [d]
  rfl
theorem floorB_facts (b : Nat) (hb : b < 18446744073709551616) (fin : b % 9223372036854775808 < 9218868437227405312)
    (h1 : -9223372036854775808 ≤ floorF b) (h2 : floorF b ≤ 9223372036854775807) :
    valF (floorB b) = floorF b * unitF ∧ floorB b < 18446744073709551616 ∧ floorB b % 9223372036854775808 < 9218868437227405312 ∧ truncF (floorB b) = floorF b ∧ isNaNF (floorB b) = false := by
  have hw : downN b ≤ 9223372036854775808 := by
    unfold floorF sgnF at h1 h2
    by_cases p : 9223372036854775808 ≤ b
    · rw [if_pos (by simp [p])] at h1 h2; omega
    · rw [if_neg (by simp [p])] at h1 h2; omega
  obtain ⟨a1, a2, a3⟩ := valF_nearest (decide (9223372036854775808 ≤ b)) (downN b) hw (integral_down b hb fin).2
  have v : valF (floorB b) = floorF b * unitF := by unfold floorB floorF sgnF; exact a1
  refine ⟨v, a2, a3, trunc_of _ _ a2 v, ?_⟩
  unfold isNaNF
  simp only [decide_eq_false_iff_not]
  unfold floorB
  omega
set_option maxRecDepth 100000 in
theorem Floor_any (b : Nat) (w : World) (hb : b < 18446744073709551616) (fin : b % 9223372036854775808 < 9218868437227405312) :
    Calls Tryz.prog 132 #[.float .f64 b] w fun e w' => e = .returned (.float .f64 (floorB b)) ∧ w = w' := by
  have h := fun w => call_archFloor b w hb fin
  generalize floorB b = d at *
  go_enter Tryz.func132, Tryz.ntmps132
  go_wp2
  go_ret
  exact ⟨rfl, rfl⟩
set_option maxRecDepth 100000 in
theorem refMixed_any (n : Int) (b : Nat) (w : World) (hn : fits n) (hb : b < 18446744073709551616) :
    Calls Tryz.prog 115 #[.int .i64 n, .float .f64 b] w fun e w' => e = .returned (.int .i64 (mixedF n b)) ∧ w = w' := by
  have h0 := self_nan b hb
  cases nb : isNaNF b
  · rw [nb] at h0
    obtain ⟨g1, g2, g3⟩ := edge_facts b hb nb
    have goal : mixedF n b = cmpZ (n * unitF) (valF b) := by unfold mixedF; rw [if_neg (by simp [nb])]
    rw [goal]
    by_cases p : 9223372036854775808 * unitF ≤ valF b
    · rw [mixed_top n b hn p]
      have pp : (FloatKind.f64.format.order b 4890909195324358656 == some Ordering.gt || FloatKind.f64.format.order b 4890909195324358656 == some Ordering.eq) = true := by
        rw [g1, g2]
        generalize valF b = V at *
        generalize unitF = U at *
        by_cases q : 9223372036854775808 * U < V
        · simp [q]
        · have : ¬ V < 9223372036854775808 * U := by omega
          simp [q, this]
      clear g1 g2 g3 p goal
      go_enter Tryz.func115, Tryz.ntmps115
      go_wp2
      go_ret
      exact ⟨rfl, rfl⟩
    · have g1' : (FloatKind.f64.format.order b 4890909195324358656 == some Ordering.gt) = false := by rw [g1]; simp; omega
      have g2' : (FloatKind.f64.format.order b 4890909195324358656 == some Ordering.eq) = false := by rw [g2]; simp; omega
      by_cases p2 : valF b < -9223372036854775808 * unitF
      · rw [mixed_low n b hn p2]
        have g3' : (FloatKind.f64.format.order b 14114281232179134464 == some Ordering.lt) = true := by rw [g3]; simpa using p2
        clear g1 g2 g3 p p2 goal
        go_enter Tryz.func115, Tryz.ntmps115
        go_wp2
        go_ret
        exact ⟨rfl, rfl⟩
      · have g3' : (FloatKind.f64.format.order b 14114281232179134464 == some Ordering.lt) = false := by rw [g3]; simpa using p2
        obtain ⟨fin, _⟩ := between b hb p p2
        obtain ⟨t1, t2⟩ := floor_between b hb p p2
        obtain ⟨f1, f2, f3, f4, f5⟩ := floorB_facts b hb fin t1 t2
        have C1 := fun w => conv_toInt (floorB b) w f2 f3 (by rw [f4]; exact t1) (by rw [f4]; exact t2)
        rw [f4] at C1
        have HF := Lib.hid (fun w => Floor_any b w hb fin)
        obtain ⟨_, o, _⟩ := order_lt b (floorB b) hb f2 nb f5
        rw [f1] at o
        rw [mixed_floor n b hb]
        obtain ⟨g, hg⟩ : ∃ g, g = decide (floorF b * unitF < valF b) := ⟨_, rfl⟩
        rw [← hg] at o
        have hg' : (floorF b * unitF < valF b) = (g = true) := by rw [hg]; simp
        simp only [hg']
        clear g1 g2 g3 p p2 goal t1 t2 fin f1 f2 f3 f4 f5 hg hg'
        generalize floorB b = d at *
        generalize floorF b = t at *
        by_cases q : n > t
        · have qb : decide (t < n) = true := by simp; omega
          rw [if_pos q]
          clear q
          go_enter Tryz.func115, Tryz.ntmps115
          go_wp2_with (go_at_call 132; ((with_reducible refine (HF.out _).mono ?_); rintro e w' ⟨rfl, rfl⟩))
          go_ret
          exact ⟨rfl, rfl⟩
        · have qb : decide (t < n) = false := by simp; omega
          rw [if_neg q]
          by_cases r : n < t
          · have rb : decide (n < t) = true := by simp [r]
            rw [if_pos r]
            clear q r
            go_enter Tryz.func115, Tryz.ntmps115
            go_wp2_with (go_at_call 132; ((with_reducible refine (HF.out _).mono ?_); rintro e w' ⟨rfl, rfl⟩))
            go_ret
            exact ⟨rfl, rfl⟩
          · have rb : decide (n < t) = false := by simp [r]
            rw [if_neg r]
            clear q r
            cases g
            · rw [if_neg (by simp)]
              go_enter Tryz.func115, Tryz.ntmps115
              go_wp2_with (go_at_call 132; ((with_reducible refine (HF.out _).mono ?_); rintro e w' ⟨rfl, rfl⟩))
              go_ret
              exact ⟨rfl, rfl⟩
            · rw [if_pos rfl]
              go_enter Tryz.func115, Tryz.ntmps115
              go_wp2_with (go_at_call 132; ((with_reducible refine (HF.out _).mono ?_); rintro e w' ⟨rfl, rfl⟩))
              go_ret
              exact ⟨rfl, rfl⟩
  · rw [nb] at h0
    have goal : mixedF n b = -1 := by unfold mixedF; rw [if_pos nb]
    rw [goal]
    go_enter Tryz.func115, Tryz.ntmps115
    go_wp2
    go_ret
    exact ⟨rfl, rfl⟩
end Go.Proofs.YtaaekjmiapelgaaGreat

