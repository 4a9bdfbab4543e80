/- The document's own Mixed and Floats, for every whole number and every float. -/
/- The document's own order of floats, and NumOrders: for every whole number and every two floats it answers true. -/
import Derived.Test.YtflgdhhgnbdofaaGreatmF6
import Derived.Test.YtflgdhhgnbdofaaGreatmG11
import Derived.Test.YtflgdhhgnbdofaaGreatmG10
namespace Go.Proofs.YtflgdhhgnbdofaaGreat
open Go.RowKit
theorem trunc_of (d : Nat) (k : Int) (hd : d < 18446744073709551616) (h : valF d = k * unitF) : truncF d = k := by
  have m := mixed_trunc k d hd
  rw [h] at m
  have z : cmpZ (k * unitF) (k * unitF) = 0 := by unfold cmpZ; rw [if_neg (by omega), if_neg (by omega)]
  rw [z] at m
  by_cases p : k = truncF d
  · exact p.symm
  · rw [if_neg p] at m
    unfold cmpZ at m
    split at m
    · omega
    · split at m <;> omega
theorem floor_between (b : Nat) (hb : b < 18446744073709551616) (h1 : ¬ 9223372036854775808 * unitF ≤ valF b) (h2 : ¬ valF b < -9223372036854775808 * unitF) :
    -9223372036854775808 ≤ floorF b ∧ floorF b ≤ 9223372036854775807 := by
  have m1 := mixed_floor (-9223372036854775808) b hb
  have m2 := mixed_floor 9223372036854775808 b hb
  constructor
  · by_cases p : -9223372036854775808 > floorF b
    · rw [if_pos p] at m1
      unfold cmpZ at m1
      split at m1
      · omega
      · first | omega | (split at m1 <;> omega)
    · omega
  · by_cases p : 9223372036854775808 > floorF b
    · omega
    · rw [if_neg p] at m2
      unfold cmpZ at m2
      rw [if_neg (by omega), if_pos (by omega)] at m2
      split at m2
      · omega
      · split at m2 <;> omega
/-- The float that math.Floor gives. -/
def floorB (b : Nat) : Nat := Ieee.double.nearest (decide (9223372036854775808 ≤ b)) (downN b) 0
theorem arch_number (b : Nat) (s : Bool) (m : Nat) (p : Int) (r : FloatKind.f64.decode b = Ieee.Datum.number s m p) :
    Extern.MathFloor.toIntegral "math.archFloor" .down #[.float .f64 b] = pure (.float .f64 (FloatKind.f64.encode ((Ieee.Datum.number s m p).integral .down))) := by
  have e2 : Extern.MathFloor.toIntegral "math.archFloor" .down #[.float .f64 b] = Extern.MathFloor.toIntegral "math.archFloor" .down #[.float .f64 b] := rfl
  conv at e2 => rhs; whnf
  rw [r] at e2
  exact e2
theorem call_archFloor (b : Nat) (w : World) (hb : b < 18446744073709551616) (fin : b % 9223372036854775808 < 9218868437227405312) :
    (callFunc 254 #[.float .f64 b]).run Tryz.prog w = .ok (.value (.float .f64 (floorB b))) w := by
  have e : (callFunc 254 #[.float .f64 b]).run Tryz.prog w = (do let v ← Extern.MathFloor.toIntegral "math.archFloor" .down #[.float .f64 b]; pure (Next.value v)).run Tryz.prog w := by kernel_rfl
  rw [e]
  obtain ⟨m, i, r, _⟩ := read_number b hb fin
  have d := (integral_down b hb fin).1
  rw [arch_number b _ _ _ r]
  rw [r] at d
  rw [d]
  rfl
theorem floorB_facts (b : Nat) (hb : b < 18446744073709551616) (fin : b % 9223372036854775808 < 9218868437227405312)
    (h1 : -9223372036854775808 ≤ floorF b) (h2 : floorF b ≤ 9223372036854775807) :
    valF (floorB b) = floorF b * unitF ∧ floorB b < 18446744073709551616 ∧ floorB b % 9223372036854775808 < 9218868437227405312 ∧ truncF (floorB b) = floorF b ∧ isNaNF (floorB b) = false := by
  have hw : downN b ≤ 9223372036854775808 := by
    unfold floorF sgnF at h1 h2
    by_cases p : 9223372036854775808 ≤ b
    · rw [if_pos (by simp [p])] at h1 h2; omega
    · rw [if_neg (by simp [p])] at h1 h2; omega
  obtain ⟨a1, a2, a3⟩ := valF_nearest (decide (9223372036854775808 ≤ b)) (downN b) hw (integral_down b hb fin).2
  have v : valF (floorB b) = floorF b * unitF := by unfold floorB floorF sgnF; exact a1
  refine ⟨v, a2, a3, trunc_of _ _ a2 v, ?_⟩
  unfold isNaNF
  simp only [decide_eq_false_iff_not]
  unfold floorB
  omega
set_option maxRecDepth 100000 in
theorem Floor_any (b : Nat) (w : World) (hb : b < 18446744073709551616) (fin : b % 9223372036854775808 < 9218868437227405312) :
    Calls Tryz.prog 247 #[.float .f64 b] w fun e w' => e = .returned (.float .f64 (floorB b)) ∧ w = w' := by
  have h := fun w => call_archFloor b w hb fin
  generalize floorB b = d at *
  go_enter Tryz.func247, Tryz.ntmps247
  go_wp2
  go_ret
  exact ⟨rfl, rfl⟩
set_option maxRecDepth 100000 in
theorem refMixed_any (n : Int) (b : Nat) (w : World) (hn : fits n) (hb : b < 18446744073709551616) :
    Calls Tryz.prog 230 #[.int .i64 n, .float .f64 b] w fun e w' => e = .returned (.int .i64 (mixedF n b)) ∧ w = w' := by
  have h0 := self_nan b hb
  cases nb : isNaNF b
  · rw [nb] at h0
    obtain ⟨g1, g2, g3⟩ := edge_facts b hb nb
    have goal : mixedF n b = cmpZ (n * unitF) (valF b) := by unfold mixedF; rw [if_neg (by simp [nb])]
    rw [goal]
    by_cases p : 9223372036854775808 * unitF ≤ valF b
    · rw [mixed_top n b hn p]
      have pp : (FloatKind.f64.format.order b 4890909195324358656 == some Ordering.gt || FloatKind.f64.format.order b 4890909195324358656 == some Ordering.eq) = true := by
        rw [g1, g2]
        generalize valF b = V at *
        generalize unitF = U at *
        by_cases q : 9223372036854775808 * U < V
        · simp [q]
        · have : ¬ V < 9223372036854775808 * U := by omega
          simp [q, this]
      clear g1 g2 g3 p goal
      go_enter Tryz.func230, Tryz.ntmps230
      go_wp2
      go_ret
      exact ⟨rfl, rfl⟩
    · have g1' : (FloatKind.f64.format.order b 4890909195324358656 == some Ordering.gt) = false := by rw [g1]; simp; omega
      have g2' : (FloatKind.f64.format.order b 4890909195324358656 == some Ordering.eq) = false := by rw [g2]; simp; omega
      by_cases p2 : valF b < -9223372036854775808 * unitF
      · rw [mixed_low n b hn p2]
        have g3' : (FloatKind.f64.format.order b 14114281232179134464 == some Ordering.lt) = true := by rw [g3]; simpa using p2
        clear g1 g2 g3 p p2 goal
        go_enter Tryz.func230, Tryz.ntmps230
        go_wp2
        go_ret
        exact ⟨rfl, rfl⟩
      · have g3' : (FloatKind.f64.format.order b 14114281232179134464 == some Ordering.lt) = false := by rw [g3]; simpa using p2
        obtain ⟨fin, _⟩ := between b hb p p2
        obtain ⟨t1, t2⟩ := floor_between b hb p p2
        obtain ⟨f1, f2, f3, f4, f5⟩ := floorB_facts b hb fin t1 t2
        have C1 := fun w => conv_toInt (floorB b) w f2 f3 (by rw [f4]; exact t1) (by rw [f4]; exact t2)
        rw [f4] at C1
        have HF := Lib.hid (fun w => Floor_any b w hb fin)
        obtain ⟨_, o, _⟩ := order_lt b (floorB b) hb f2 nb f5
        rw [f1] at o
        rw [mixed_floor n b hb]
        obtain ⟨g, hg⟩ : ∃ g, g = decide (floorF b * unitF < valF b) := ⟨_, rfl⟩
        rw [← hg] at o
        have hg' : (floorF b * unitF < valF b) = (g = true) := by rw [hg]; simp
        simp only [hg']
        clear g1 g2 g3 p p2 goal t1 t2 fin f1 f2 f3 f4 f5 hg hg'
        generalize floorB b = d at *
        generalize floorF b = t at *
        by_cases q : n > t
        · have qb : decide (t < n) = true := by simp; omega
          rw [if_pos q]
          clear q
          go_enter Tryz.func230, Tryz.ntmps230
          go_wp2_with (go_at_call 247; ((with_reducible refine (HF.out _).mono ?_); rintro e w' ⟨rfl, rfl⟩))
          go_ret
          exact ⟨rfl, rfl⟩
        · have qb : decide (t < n) = false := by simp; omega
          rw [if_neg q]
          by_cases r : n < t
          · have rb : decide (n < t) = true := by simp [r]
            rw [if_pos r]
            clear q r
            go_enter Tryz.func230, Tryz.ntmps230
            go_wp2_with (go_at_call 247; ((with_reducible refine (HF.out _).mono ?_); rintro e w' ⟨rfl, rfl⟩))
            go_ret
            exact ⟨rfl, rfl⟩
          · have rb : decide (n < t) = false := by simp [r]
            rw [if_neg r]
            clear q r
            cases g
            · rw [if_neg (by simp)]
              go_enter Tryz.func230, Tryz.ntmps230
              go_wp2_with (go_at_call 247; ((with_reducible refine (HF.out _).mono ?_); rintro e w' ⟨rfl, rfl⟩))
              go_ret
              exact ⟨rfl, rfl⟩
            · rw [if_pos rfl]
              go_enter Tryz.func230, Tryz.ntmps230
              go_wp2_with (go_at_call 247; ((with_reducible refine (HF.out _).mono ?_); rintro e w' ⟨rfl, rfl⟩))
              go_ret
              exact ⟨rfl, rfl⟩
  · rw [nb] at h0
    have goal : mixedF n b = -1 := by unfold mixedF; rw [if_pos nb]
    rw [goal]
    go_enter Tryz.func230, Tryz.ntmps230
    go_wp2
    go_ret
    exact ⟨rfl, rfl⟩
end Go.Proofs.YtflgdhhgnbdofaaGreat

namespace Go.Proofs.YtflgdhhgnbdofaaGreat
open Go.RowKit
set_option maxRecDepth 100000 in
theorem Signbit_any (b : Nat) (w : World) (hb : b < 18446744073709551616) :
    Calls Tryz.prog 248 #[.float .f64 b] w fun e w' => e = .returned (.bool (decide (9223372036854775808 ≤ b))) ∧ w = w' := by
  have hfb := call_Float64bits
  have ha : bits .and .u64 (b : Int) 9223372036854775808 = if b < 9223372036854775808 then 0 else 9223372036854775808 := by
    rw [u64_and _ _ (by omega) (by omega) (by omega) (by omega)]
    simp only [Int.toNat_natCast, show (9223372036854775808 : Int).toNat = 9223372036854775808 from rfl]
    rw [and_top b (by omega)]
    split <;> rfl
  by_cases p : b < 9223372036854775808
  · rw [if_pos p] at ha
    rw [show decide (9223372036854775808 ≤ b) = false by simp; omega]
    go_enter Tryz.func248, Tryz.ntmps248
    go_wp2
    go_ret
    exact ⟨rfl, rfl⟩
  · rw [if_neg p] at ha
    rw [show decide (9223372036854775808 ≤ b) = true by simp; omega]
    have hx : decide (wrap64 (b : Int) < 0) = true := by unfold wrap64; simp; omega
    clear ha
    go_enter Tryz.func248, Tryz.ntmps248
    go_wp2
    go_ret
    exact ⟨rfl, rfl⟩
theorem cmpI_lt (a b : Nat) (ha : a < 18446744073709551616) (hb : b < 18446744073709551616) (na : isNaNF a = false) (nb : isNaNF b = false) (h : valF a < valF b) : cmpI (rankOf a) (rankOf b) = -1 := by
  have k := (valF_lt a b).1 h
  rw [rank_num_eq a ha na, rank_num_eq b hb nb]
  unfold keyF at k
  unfold cmpI
  by_cases p : a < 9223372036854775808 <;> by_cases q : b < 9223372036854775808 <;> simp only [p, q, if_true, if_false] at k ⊢ <;> rw [if_pos (by omega)]
theorem cmpI_gt (a b : Nat) (ha : a < 18446744073709551616) (hb : b < 18446744073709551616) (na : isNaNF a = false) (nb : isNaNF b = false) (h : valF b < valF a) : cmpI (rankOf a) (rankOf b) = 1 := by
  have k := (valF_lt b a).1 h
  rw [rank_num_eq a ha na, rank_num_eq b hb nb]
  unfold keyF at k
  unfold cmpI
  by_cases p : a < 9223372036854775808 <;> by_cases q : b < 9223372036854775808 <;> simp only [p, q, if_true, if_false] at k ⊢ <;> rw [if_neg (by omega), if_pos (by omega)]
theorem cmpI_eq (a b : Nat) (ha : a < 18446744073709551616) (hb : b < 18446744073709551616) (na : isNaNF a = false) (nb : isNaNF b = false) (h1 : ¬ valF a < valF b) (h2 : ¬ valF b < valF a) :
    cmpI (rankOf a) (rankOf b) = if decide (9223372036854775808 ≤ a) = true then (if decide (9223372036854775808 ≤ b) = true then 0 else -1) else (if decide (9223372036854775808 ≤ b) = true then 1 else 0) := by
  have k1 : ¬ keyF a < keyF b := fun v => h1 ((valF_lt a b).2 v)
  have k2 : ¬ keyF b < keyF a := fun v => h2 ((valF_lt b a).2 v)
  rw [rank_num_eq a ha na, rank_num_eq b hb nb]
  unfold keyF at k1 k2
  unfold cmpI
  by_cases p : a < 9223372036854775808 <;> by_cases q : b < 9223372036854775808
  · simp only [p, q, if_true] at k1 k2 ⊢
    rw [if_neg (by omega), if_neg (by omega), if_neg (by simp; omega), if_neg (by simp; omega)]
  · simp only [p, q, if_true, if_false] at k1 k2 ⊢
    rw [if_neg (by omega), if_pos (by omega), if_neg (by simp; omega), if_pos (by simp; omega)]
  · simp only [p, q, if_true, if_false] at k1 k2 ⊢
    rw [if_pos (by omega), if_pos (by simp; omega), if_neg (by simp; omega)]
  · simp only [p, q, if_false] at k1 k2 ⊢
    rw [if_neg (by omega), if_neg (by omega), if_pos (by simp; omega), if_pos (by simp; omega)]
theorem cmpI_nan_any (a b : Nat) (ha : a < 18446744073709551616) (hb : b < 18446744073709551616) (na : isNaNF a = true) (nb : isNaNF b = false) : cmpI (rankOf a) (rankOf b) = 1 := by
  have k := num_bound b nb
  rw [rank_nan_eq a ha na, rank_num_eq b hb nb]
  unfold cmpI
  by_cases q : b < 9223372036854775808 <;> simp only [q, if_true, if_false] <;> rw [if_neg (by omega), if_pos (by omega)]
theorem cmpI_any_nan (a b : Nat) (ha : a < 18446744073709551616) (hb : b < 18446744073709551616) (na : isNaNF a = false) (nb : isNaNF b = true) : cmpI (rankOf a) (rankOf b) = -1 := by
  have k := num_bound a na
  rw [rank_nan_eq b hb nb, rank_num_eq a ha na]
  unfold cmpI
  by_cases q : a < 9223372036854775808 <;> simp only [q, if_true, if_false] <;> rw [if_pos (by omega)]
set_option maxRecDepth 100000 in
theorem refFloats_any (a b : Nat) (w : World) (ha : a < 18446744073709551616) (hb : b < 18446744073709551616) :
    Calls Tryz.prog 231 #[.float .f64 a, .float .f64 b] w fun e w' => e = .returned (.int .i64 (cmpI (rankOf a) (rankOf b))) ∧ w = w' := by
  have h1 := self_nan a ha
  have h2 := self_nan b hb
  obtain ⟨c, hc⟩ : ∃ c, c = cmpI (rankOf a) (rankOf b) := ⟨_, rfl⟩
  rw [← hc]
  cases na : isNaNF a <;> cases nb : isNaNF b <;> rw [na] at h1 <;> rw [nb] at h2
  · obtain ⟨o1, o2, _⟩ := order_lt a b ha hb na nb
    have l1 := cmpI_lt a b ha hb na nb
    have l2 := cmpI_gt a b ha hb na nb
    have l3 := cmpI_eq a b ha hb na nb
    by_cases p : valF a < valF b
    · rw [l1 p] at hc
      rw [show decide (valF a < valF b) = true by simp [p]] at o1
      subst hc
      clear l1 l2 l3 o2 p
      go_enter Tryz.func231, Tryz.ntmps231
      go_wp2
      go_ret
      exact ⟨rfl, rfl⟩
    · rw [show decide (valF a < valF b) = false by simp [p]] at o1
      by_cases q : valF b < valF a
      · rw [l2 q] at hc
        rw [show decide (valF b < valF a) = true by simp [q]] at o2
        subst hc
        clear l1 l2 l3 p q
        go_enter Tryz.func231, Tryz.ntmps231
        go_wp2
        go_ret
        exact ⟨rfl, rfl⟩
      · rw [l3 p q] at hc
        rw [show decide (valF b < valF a) = false by simp [q]] at o2
        have S1 := Lib.hid (fun w => Signbit_any a w ha)
        have S2 := Lib.hid (fun w => Signbit_any b w hb)
        clear l1 l2 l3 p q
        generalize decide (9223372036854775808 ≤ a) = s at *
        generalize decide (9223372036854775808 ≤ b) = t at *
        have goal : ∀ s t : Bool, Hid (∀ w, Calls Tryz.prog 248 #[.float .f64 a] w fun e w' => e = .returned (.bool s) ∧ w = w') → Hid (∀ w, Calls Tryz.prog 248 #[.float .f64 b] w fun e w' => e = .returned (.bool t) ∧ w = w') →
            Calls Tryz.prog 231 #[.float .f64 a, .float .f64 b] w fun e w' => e = .returned (.int .i64 (if s = true then (if t = true then 0 else -1) else (if t = true then 1 else 0))) ∧ w = w' := by
          clear S1 S2 hc
          intro s t S1 S2
          cases s <;> cases t <;>
          · go_enter Tryz.func231, Tryz.ntmps231
            go_wp2_with (first | (go_at_call 248; ((with_reducible refine (S1.out _).mono ?_); rintro e w' ⟨rfl, rfl⟩)) | (go_at_call 248; ((with_reducible refine (S2.out _).mono ?_); rintro e w' ⟨rfl, rfl⟩)))
            go_ret
            exact ⟨rfl, rfl⟩
        rw [hc]
        exact goal s t S1 S2
  · rw [cmpI_any_nan a b ha hb na nb] at hc
    subst hc
    go_enter Tryz.func231, Tryz.ntmps231
    go_wp2
    go_ret
    exact ⟨rfl, rfl⟩
  · rw [cmpI_nan_any a b ha hb na nb] at hc
    subst hc
    go_enter Tryz.func231, Tryz.ntmps231
    go_wp2
    go_ret
    exact ⟨rfl, rfl⟩
  · rw [rank_nan_eq a ha na, rank_nan_eq b hb nb] at hc
    have hc' : c = 0 := by rw [hc]; decide
    subst hc'
    clear hc
    go_enter Tryz.func231, Tryz.ntmps231
    go_wp2
    go_ret
    exact ⟨rfl, rfl⟩
end Go.Proofs.YtflgdhhgnbdofaaGreat

