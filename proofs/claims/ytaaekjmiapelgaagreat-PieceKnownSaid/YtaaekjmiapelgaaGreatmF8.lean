/- The document's own order of floats, and NumOrders: for every whole number and every two floats it answers true. -/
import Derived.Test.YtaaekjmiapelgaaGreatmF7
import Derived.Test.YtaaekjmiapelgaaGreatmG18
import Derived.Test.YtaaekjmiapelgaaGreatmG16
namespace Go.Proofs.YtaaekjmiapelgaaGreat
open Go.RowKit
set_option maxRecDepth 100000 in
theorem Signbit_any (b : Nat) (w : World) (hb : b < 18446744073709551616) :
    Calls Tryz.prog 133 #[.float .f64 b] w fun e w' => e = .returned (.bool (decide (9223372036854775808 ≤ b))) ∧ w = w' := by
  have hfb := call_Float64bits
  have ha : bits .and .u64 (b : Int) 9223372036854775808 = if b < 9223372036854775808 then 0 else 9223372036854775808 := by
    rw [u64_and _ _ (by omega) (by omega) (by omega) (by omega)]
    simp only [Int.toNat_natCast, show (9223372036854775808 : Int).toNat = 9223372036854775808 from rfl]
    rw [and_top b (by omega)]
    split <;> rfl
  by_cases p : b < 9223372036854775808
  · rw [if_pos p] at ha
    rw [show decide (9223372036854775808 ≤ b) = false by simp; omega]
    go_enter Tryz.func133, Tryz.ntmps133
    go_wp2
    go_ret
    exact ⟨rfl, rfl⟩
  · rw [if_neg p] at ha
    rw [show decide (9223372036854775808 ≤ b) = true by simp; omega]
    have hx : decide (wrap64 (b : Int) < 0) = true := by unfold wrap64; simp; omega
    clear ha
    go_enter Tryz.func133, Tryz.ntmps133
    go_wp2
    go_ret
    exact ⟨rfl, rfl⟩
theorem cmpI_lt (a b : Nat) (ha : a < 18446744073709551616) (hb : b < 18446744073709551616) (na : isNaNF a = false) (nb : isNaNF b = false) (h : valF a < valF b) : cmpI (rankOf a) (rankOf b) = -1 := by
  have k := (valF_lt a b).1 h
  rw [rank_num_eq a ha na, rank_num_eq b hb nb]
  unfold keyF at k
  unfold cmpI
  by_cases p : a < 9223372036854775808 <;> by_cases q : b < 9223372036854775808 <;> simp only [p, q, if_true, if_false] at k ⊢ <;> rw [if_pos (by omega)]
theorem cmpI_gt (a b : Nat) (ha : a < 18446744073709551616) (hb : b < 18446744073709551616) (na : isNaNF a = false) (nb : isNaNF b = false) (h : valF b < valF a) : cmpI (rankOf a) (rankOf b) = 1 := by
  have k := (valF_lt b a).1 h
  rw [rank_num_eq a ha na, rank_num_eq b hb nb]
  unfold keyF at k
  unfold cmpI
  by_cases p : a < 9223372036854775808 <;> by_cases q : b < 9223372036854775808 <;> simp only [p, q, if_true, if_false] at k ⊢ <;> rw [if_neg (by omega), if_pos (by omega)]
theorem cmpI_eq (a b : Nat) (ha : a < 18446744073709551616) (hb : b < 18446744073709551616) (na : isNaNF a = false) (nb : isNaNF b = false) (h1 : ¬ valF a < valF b) (h2 : ¬ valF b < valF a) :
    cmpI (rankOf a) (rankOf b) = if decide (9223372036854775808 ≤ a) = true then (if decide (9223372036854775808 ≤ b) = true then 0 else -1) else (if decide (9223372036854775808 ≤ b) = true then 1 else 0) := by
  have k1 : ¬ keyF a < keyF b := fun v => h1 ((valF_lt a b).2 v)
  have k2 : ¬ keyF b < keyF a := fun v => h2 ((valF_lt b a).2 v)
  rw [rank_num_eq a ha na, rank_num_eq b hb nb]
  unfold keyF at k1 k2
  unfold cmpI
  by_cases p : a < 9223372036854775808 <;> by_cases q : b < 9223372036854775808
  · simp only [p, q, if_true] at k1 k2 ⊢
    rw [if_neg (by omega), if_neg (by omega), if_neg (by simp; omega), if_neg (by simp; omega)]
  · simp only [p, q, if_true, if_false] at k1 k2 ⊢
    rw [if_neg (by omega), if_pos (by omega), if_neg (by simp; omega), if_pos (by simp; omega)]
  · simp only [p, q, if_true, if_false] at k1 k2 ⊢
    rw [if_pos (by omega), if_pos (by simp; omega), if_neg (by simp; omega)]
  · simp only [p, q, if_false] at k1 k2 ⊢
    rw [if_neg (by omega), if_neg (by omega), if_pos (by simp; omega), if_pos (by simp; omega)]
theorem cmpI_nan_any (a b : Nat) (ha : a < 18446744073709551616) (hb : b < 18446744073709551616) (na : isNaNF a = true) (nb : isNaNF b = false) : cmpI (rankOf a) (rankOf b) = 1 := by
  have k := num_bound b nb
  rw [rank_nan_eq a ha na, rank_num_eq b hb nb]
  unfold cmpI
  by_cases q : b < 9223372036854775808 <;> simp only [q, if_true, if_false] <;> rw [if_neg (by omega), if_pos (by omega)]
theorem cmpI_any_nan (a b : Nat) (ha : a < 18446744073709551616) (hb : b < 18446744073709551616) (na : isNaNF a = false) (nb : isNaNF b = true) : cmpI (rankOf a) (rankOf b) = -1 := by
  have k := num_bound a na
  rw [rank_nan_eq b hb nb, rank_num_eq a ha na]
  unfold cmpI
  by_cases q : a < 9223372036854775808 <;> simp only [q, if_true, if_false] <;> rw [if_pos (by omega)]
set_option maxRecDepth 100000 in
theorem refFloats_any (a b : Nat) (w : World) (ha : a < 18446744073709551616) (hb : b < 18446744073709551616) :
    Calls Tryz.prog 116 #[.float .f64 a, .float .f64 b] w fun e w' => e = .returned (.int .i64 (cmpI (rankOf a) (rankOf b))) ∧ w = w' := by
  have h1 := self_nan a ha
  have h2 := self_nan b hb
  obtain ⟨c, hc⟩ : ∃ c, c = cmpI (rankOf a) (rankOf b) := ⟨_, rfl⟩
  rw [← hc]
  cases na : isNaNF a <;> cases nb : isNaNF b <;> rw [na] at h1 <;> rw [nb] at h2
  · obtain ⟨o1, o2, _⟩ := order_lt a b ha hb na nb
    have l1 := cmpI_lt a b ha hb na nb
    have l2 := cmpI_gt a b ha hb na nb
    have l3 := cmpI_eq a b ha hb na nb
    by_cases p : valF a < valF b
    · rw [l1 p] at hc
      rw [show decide (valF a < valF b) = true by simp [p]] at o1
      subst hc
      clear l1 l2 l3 o2 p
      go_enter Tryz.func116, Tryz.ntmps116
      go_wp2
      go_ret
      exact ⟨rfl, rfl⟩
    · rw [show decide (valF a < valF b) = false by simp [p]] at o1
      by_cases q : valF b < valF a
      · rw [l2 q] at hc
        rw [show decide (valF b < valF a) = true by simp [q]] at o2
        subst hc
        clear l1 l2 l3 p q
        go_enter Tryz.func116, Tryz.ntmps116
        go_wp2
        go_ret
        exact ⟨rfl, rfl⟩
      · rw [l3 p q] at hc
        rw [show decide (valF b < valF a) = false by simp [q]] at o2
        have S1 := Lib.hid (fun w => Signbit_any a w ha)
        have S2 := Lib.hid (fun w => Signbit_any b w hb)
        clear l1 l2 l3 p q
        generalize decide (9223372036854775808 ≤ a) = s at *
        generalize decide (9223372036854775808 ≤ b) = t at *
        have goal : ∀ s t : Bool, Hid (∀ w, Calls Tryz.prog 133 #[.float .f64 a] w fun e w' => e = .returned (.bool s) ∧ w = w') → Hid (∀ w, Calls Tryz.prog 133 #[.float .f64 b] w fun e w' => e = .returned (.bool t) ∧ w = w') →
            Calls Tryz.prog 116 #[.float .f64 a, .float .f64 b] w fun e w' => e = .returned (.int .i64 (if s = true then (if t = true then 0 else -1) else (if t = true then 1 else 0))) ∧ w = w' := by
          clear S1 S2 hc
          intro s t S1 S2
          cases s <;> cases t <;>
          · go_enter Tryz.func116, Tryz.ntmps116
            go_wp2_with (first | (go_at_call 133; ((with_reducible refine (S1.out _).mono ?_); rintro e w' ⟨rfl, rfl⟩)) | (go_at_call 133; ((with_reducible refine (S2.out _).mono ?_); rintro e w' ⟨rfl, rfl⟩)))
            go_ret
            exact ⟨rfl, rfl⟩
        rw [hc]
        exact goal s t S1 S2
  · rw [cmpI_any_nan a b ha hb na nb] at hc
    subst hc
    go_enter Tryz.func116, Tryz.ntmps116
    go_wp2
    go_ret
    exact ⟨rfl, rfl⟩
  · rw [cmpI_nan_any a b ha hb na nb] at hc
    subst hc
    go_enter Tryz.func116, Tryz.ntmps116
    go_wp2
    go_ret
    exact ⟨rfl, rfl⟩
  · rw [rank_nan_eq a ha na, rank_nan_eq b hb nb] at hc
    have hc' : c = 0 := by rw [hc]; decide
    subst hc'
    clear hc
    go_enter Tryz.func116, Tryz.ntmps116
    go_wp2
    go_ret
    exact ⟨rfl, rfl⟩
end Go.Proofs.YtaaekjmiapelgaaGreat

