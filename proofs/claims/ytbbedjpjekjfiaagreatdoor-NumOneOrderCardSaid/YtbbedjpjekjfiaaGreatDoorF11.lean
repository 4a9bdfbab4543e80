/- NumOneOrder, walked: for every three floats and two whole numbers it answers true. -/
import Derived.Test.YtbbedjpjekjfiaaGreatDoorF10
import Derived.Test.YtbbedjpjekjfiaaGreatDoorA5
import Derived.Test.YtbbedjpjekjfiaaGreatDoorO1
import Derived.Test.YtbbedjpjekjfiaaGreatDoorQ1
namespace Go.Proofs.YtbbedjpjekjfiaaGreatDoor
open Go.RowKit
theorem cmpI_three (x y : Int) : cmpI x y = -1 ∨ cmpI x y = 0 ∨ cmpI x y = 1 := by
  unfold cmpI; repeat' split
  all_goals omega
theorem cmpI_trans (x y z : Int) : cmpI x y ≤ 0 → cmpI y z ≤ 0 → cmpI x z ≤ 0 := by
  rw [cmpI_le, cmpI_le, cmpI_le]; omega
theorem Bits_place (x y : Nat) (hx : x < 18446744073709551616) (hy : y < 18446744073709551616) (w : World) :
    Calls Tryz.prog 23 #[.float .f64 (canonF x), .float .f64 (canonF y)] w fun e w' => e = .returned (.bool (cmpI (rankOf (canonF x)) (rankOf (canonF y)) == 0)) ∧ w = w' := by
  have t := Bits_any (canonF x) (canonF y) w
  rwa [show ((canonF x : Int) == (canonF y : Int)) = (cmpI (rankOf (canonF x)) (rankOf (canonF y)) == 0) by
    rw [Bool.eq_iff_iff]
    simp only [beq_iff_eq]
    rw [cmpI_zero, rank_inj x y hx hy]
    omega] at t
theorem less_place (x y : Nat) (hx : x < 18446744073709551616) (hy : y < 18446744073709551616) (h : (FloatKind.f64.format.order x y == some Ordering.lt) = true) : cmpI (rankOf x) (rankOf y) = -1 := by
  cases nx : isNaNF x <;> cases ny : isNaNF y
  · obtain ⟨o1, _, _⟩ := order_lt x y hx hy nx ny
    rw [o1] at h
    have v := (valF_lt x y).1 (by simpa using h)
    rw [rank_num_eq x hx nx, rank_num_eq y hy ny]
    unfold keyF at v
    unfold cmpI
    by_cases p : x < 9223372036854775808 <;> by_cases q : y < 9223372036854775808 <;> simp only [p, q, if_true, if_false] at v ⊢ <;> rw [if_pos (by omega)]
  all_goals
    exfalso
    first
    | (rw [show FloatKind.f64.format.order x y = none from Go.Proofs.YtbbedjpjekjfiaaGreatDoor.order_nan' x y (by simpa [isNaNF] using ny)] at h; cases h)
    | (rw [show FloatKind.f64.format.order x y = none from Go.Proofs.YtbbedjpjekjfiaaGreatDoor.order_nan x y (by simpa [isNaNF] using nx)] at h; cases h)
set_option maxRecDepth 100000 in
set_option maxHeartbeats 4000000 in
theorem oneorder_walk (a b c : Nat) (n m : Int) (w : World) (hw : WideF a b c n m) (h : Env w) :
    Calls Tryz.prog 5 #[.agg #[.float .f64 a, .float .f64 b, .float .f64 c, .int .i64 n, .int .i64 m]] w fun e w' => e = .returned (.bool true) ∧ Below w.heap.size w w' := by
  obtain ⟨ha, hb, hc, hn, hm⟩ := hw
  have hx := canonF_lt a ha
  have hy := canonF_lt b hb
  have hz := canonF_lt c hc
  have KA := Lib.hid (fun w => Canon_any a w ha)
  have KB := Lib.hid (fun w => Canon_any b w hb)
  have KC := Lib.hid (fun w => Canon_any c w hc)
  have cxy := fun w => Floats_any (canonF a) (canonF b) w hx hy
  have cyx := fun w => Floats_any (canonF b) (canonF a) w hy hx
  have cyz := fun w => Floats_any (canonF b) (canonF c) w hy hz
  have cxz := fun w => Floats_any (canonF a) (canonF c) w hx hz
  have cB := fun w => Bits_place a b ha hb w
  have cm1 := fun w => Mixed_any n (canonF a) w hn hx
  have cm2 := fun w => Mixed_any m (canonF a) w hm hx
  have cm3 := fun w => Mixed_any n (canonF b) w hn hy
  have fl := less_place (canonF a) (canonF b) hx hy
  have f3 := cmpI_trans (rankOf (canonF a)) (rankOf (canonF b)) (rankOf (canonF c))
  have g1 := fun (t : m < n) => mixed_mono n m (canonF a) (by omega)
  have g2 := fun (t : cmpI (rankOf (canonF a)) (rankOf (canonF b)) ≤ 0) => mixed_anti n (canonF a) (canonF b) hx hy ((cmpI_le _ _).1 t)
  have p3 := cmpI_three (rankOf (canonF a)) (rankOf (canonF b))
  rw [cmpI_flip (rankOf (canonF b)) (rankOf (canonF a))] at cyx
  generalize cmpI (rankOf (canonF a)) (rankOf (canonF b)) = p at *
  generalize cmpI (rankOf (canonF b)) (rankOf (canonF c)) = q at *
  generalize cmpI (rankOf (canonF a)) (rankOf (canonF c)) = r at *
  generalize mixedF n (canonF a) = m1 at *
  generalize mixedF m (canonF a) = m2 at *
  generalize mixedF n (canonF b) = m3 at *
  generalize hL : (FloatKind.f64.format.order (canonF a) (canonF b) == some Ordering.lt) = l at *
  have C1 := Lib.hid cxy
  have C2 := Lib.hid cyx
  have C3 := Lib.hid cyz
  have C4 := Lib.hid cxz
  have CB := Lib.hid cB
  have CM1 := Lib.hid cm1
  have CM2 := Lib.hid cm2
  have CM3 := Lib.hid cm3
  have HE := Lib.hid h
  clear cxy cyx cyz cxz cB cm1 cm2 cm3 h ha hb hc
  have HN := Lib.hid hn
  clear hn hm hx hy hz
  have FL := Lib.hid fl
  have F3 := Lib.hid f3
  have G1 := Lib.hid g1
  have G2 := Lib.hid g2
  have P3 := Lib.hid p3
  have HL := Lib.hid hL
  clear fl f3 g1 g2 p3 hL
  generalize canonF a = x at *
  generalize canonF b = y at *
  generalize canonF c = z at *
  go_enter Tryz.func5, Tryz.ntmps5
  go_wp2
  go_quiet ((first | (go_at_call 24; exact quiet_l (KA.out _)) | (go_at_call 24; exact quiet_l (KB.out _)) | (go_at_call 24; exact quiet_l (KC.out _))))
  have b1 : Below w.heap.size w ((w.alloc (.cells #[.float .f64 a, .float .f64 b, .float .f64 c, .int .i64 n, .int .i64 m] 41)).drewN nq) := below_drewN ((Below.refl _ _).alloc (Nat.le_refl _) _) nq
  have e1 := HE.out.below b1
  have HE2 := Lib.hid e1
  have B1 := Lib.hid b1
  clear HE b1 e1
  generalize (w.alloc (.cells #[.float .f64 a, .float .f64 b, .float .f64 c, .int .i64 n, .int .i64 m] 41)).drewN nq = w1 at *
  go_upto_region 2 with (fail)
  go_cut [40] (fun t w' => t = .bool false ∧ w' = w1)
  case first => as_aux_lemma =>
    rcases P3.out with rfl | rfl | rfl
    all_goals
      go_wp2_with (first | (go_at_call 25; ((with_reducible refine (C1.out _).mono ?_); rintro e w' ⟨rfl, rfl⟩)) | (go_at_call 25; ((with_reducible refine (C2.out _).mono ?_); rintro e w' ⟨rfl, rfl⟩)) | (go_at_call 25; ((with_reducible refine (C3.out _).mono ?_); rintro e w' ⟨rfl, rfl⟩)) | (go_at_call 25; ((with_reducible refine (C4.out _).mono ?_); rintro e w' ⟨rfl, rfl⟩)) | (go_at_call 23; ((with_reducible refine (CB.out _).mono ?_); rintro e w' ⟨rfl, rfl⟩)) | (go_at_call 26; ((with_reducible refine (CM1.out _).mono ?_); rintro e w' ⟨rfl, rfl⟩)) | (go_at_call 26; ((with_reducible refine (CM2.out _).mono ?_); rintro e w' ⟨rfl, rfl⟩)) | (go_at_call 26; ((with_reducible refine (CM3.out _).mono ?_); rintro e w' ⟨rfl, rfl⟩)))
      go_meet
      exact ⟨rfl, rfl⟩
  case rest => as_aux_lemma =>
  obtain ⟨rfl, rfl⟩ := hcut
  go_upto_region 4 with (fail)
  go_cut [56] (fun t w' => t = .bool false ∧ w' = wc)
  case first => as_aux_lemma =>
    by_cases p0 : p ≤ 0
    · by_cases q0 : q ≤ 0
      · have r0 := F3.out p0 q0
        have t1 : decide (p ≤ 0) = true := by simp [p0]
        have t2 : decide (q ≤ 0) = true := by simp [q0]
        have t3 : decide (0 < r) = false := by simp; omega
        clear p0 q0 r0
        go_wp2_with (first | (go_at_call 25; ((with_reducible refine (C1.out _).mono ?_); rintro e w' ⟨rfl, rfl⟩)) | (go_at_call 25; ((with_reducible refine (C2.out _).mono ?_); rintro e w' ⟨rfl, rfl⟩)) | (go_at_call 25; ((with_reducible refine (C3.out _).mono ?_); rintro e w' ⟨rfl, rfl⟩)) | (go_at_call 25; ((with_reducible refine (C4.out _).mono ?_); rintro e w' ⟨rfl, rfl⟩)))
        go_meet
        exact ⟨rfl, rfl⟩
      · have t1 : decide (p ≤ 0) = true := by simp [p0]
        have t2 : decide (q ≤ 0) = false := by simp; omega
        clear p0 q0
        go_wp2_with (first | (go_at_call 25; ((with_reducible refine (C1.out _).mono ?_); rintro e w' ⟨rfl, rfl⟩)) | (go_at_call 25; ((with_reducible refine (C2.out _).mono ?_); rintro e w' ⟨rfl, rfl⟩)) | (go_at_call 25; ((with_reducible refine (C3.out _).mono ?_); rintro e w' ⟨rfl, rfl⟩)) | (go_at_call 25; ((with_reducible refine (C4.out _).mono ?_); rintro e w' ⟨rfl, rfl⟩)))
        go_meet
        exact ⟨rfl, rfl⟩
    · have t1 : decide (p ≤ 0) = false := by simp; omega
      clear p0
      go_wp2_with (first | (go_at_call 25; ((with_reducible refine (C1.out _).mono ?_); rintro e w' ⟨rfl, rfl⟩)) | (go_at_call 25; ((with_reducible refine (C2.out _).mono ?_); rintro e w' ⟨rfl, rfl⟩)) | (go_at_call 25; ((with_reducible refine (C3.out _).mono ?_); rintro e w' ⟨rfl, rfl⟩)) | (go_at_call 25; ((with_reducible refine (C4.out _).mono ?_); rintro e w' ⟨rfl, rfl⟩)))
      go_meet
      exact ⟨rfl, rfl⟩
  case rest => as_aux_lemma =>
  obtain ⟨rfl, rfl⟩ := hcut
  go_upto_region 6 with (fail)
  go_cut [65] (fun t w' => t = .bool false ∧ w' = wc)
  case first => as_aux_lemma =>
    have hl := HL.out
    cases l
    · go_wp2_with (first | (go_at_call 25; ((with_reducible refine (C1.out _).mono ?_); rintro e w' ⟨rfl, rfl⟩)) | (go_at_call 25; ((with_reducible refine (C2.out _).mono ?_); rintro e w' ⟨rfl, rfl⟩)) | (go_at_call 25; ((with_reducible refine (C3.out _).mono ?_); rintro e w' ⟨rfl, rfl⟩)) | (go_at_call 25; ((with_reducible refine (C4.out _).mono ?_); rintro e w' ⟨rfl, rfl⟩)))
      go_meet
      exact ⟨rfl, rfl⟩
    · have e := FL.out rfl
      subst e
      go_wp2_with (first | (go_at_call 25; ((with_reducible refine (C1.out _).mono ?_); rintro e w' ⟨rfl, rfl⟩)) | (go_at_call 25; ((with_reducible refine (C2.out _).mono ?_); rintro e w' ⟨rfl, rfl⟩)) | (go_at_call 25; ((with_reducible refine (C3.out _).mono ?_); rintro e w' ⟨rfl, rfl⟩)) | (go_at_call 25; ((with_reducible refine (C4.out _).mono ?_); rintro e w' ⟨rfl, rfl⟩)))
      go_meet
      exact ⟨rfl, rfl⟩
  case rest => as_aux_lemma =>
  obtain ⟨rfl, rfl⟩ := hcut
  go_upto_region 8 with (fail)
  go_cut [77] (fun t w' => t = .bool false ∧ w' = wc)
  case first => as_aux_lemma =>
    by_cases k0 : m < n
    · have g := G1.out k0
      have t1 : decide (m < n) = true := by simp [k0]
      have t2 : decide (m1 < m2) = false := by simp; omega
      clear k0 g
      go_wp2_with (first | (go_at_call 25; ((with_reducible refine (C1.out _).mono ?_); rintro e w' ⟨rfl, rfl⟩)) | (go_at_call 26; ((with_reducible refine (CM1.out _).mono ?_); rintro e w' ⟨rfl, rfl⟩)) | (go_at_call 26; ((with_reducible refine (CM2.out _).mono ?_); rintro e w' ⟨rfl, rfl⟩)) | (go_at_call 26; ((with_reducible refine (CM3.out _).mono ?_); rintro e w' ⟨rfl, rfl⟩)))
      go_meet
      exact ⟨rfl, rfl⟩
    · have t1 : decide (m < n) = false := by simp; omega
      clear k0
      go_wp2_with (first | (go_at_call 25; ((with_reducible refine (C1.out _).mono ?_); rintro e w' ⟨rfl, rfl⟩)) | (go_at_call 26; ((with_reducible refine (CM1.out _).mono ?_); rintro e w' ⟨rfl, rfl⟩)) | (go_at_call 26; ((with_reducible refine (CM2.out _).mono ?_); rintro e w' ⟨rfl, rfl⟩)) | (go_at_call 26; ((with_reducible refine (CM3.out _).mono ?_); rintro e w' ⟨rfl, rfl⟩)))
      go_meet
      exact ⟨rfl, rfl⟩
  case rest => as_aux_lemma =>
  obtain ⟨rfl, rfl⟩ := hcut
  go_upto_region 10 with (fail)
  go_cut [90] (fun t w' => t = .bool false ∧ w' = wc)
  case first => as_aux_lemma =>
    by_cases k0 : p ≤ 0
    · have g := G2.out k0
      have t1 : decide (p ≤ 0) = true := by simp [k0]
      have t2 : decide (m1 < m3) = false := by simp; omega
      clear k0 g
      go_wp2_with (first | (go_at_call 25; ((with_reducible refine (C1.out _).mono ?_); rintro e w' ⟨rfl, rfl⟩)) | (go_at_call 26; ((with_reducible refine (CM1.out _).mono ?_); rintro e w' ⟨rfl, rfl⟩)) | (go_at_call 26; ((with_reducible refine (CM2.out _).mono ?_); rintro e w' ⟨rfl, rfl⟩)) | (go_at_call 26; ((with_reducible refine (CM3.out _).mono ?_); rintro e w' ⟨rfl, rfl⟩)))
      go_meet
      exact ⟨rfl, rfl⟩
    · have t1 : decide (p ≤ 0) = false := by simp; omega
      clear k0
      go_wp2_with (first | (go_at_call 25; ((with_reducible refine (C1.out _).mono ?_); rintro e w' ⟨rfl, rfl⟩)) | (go_at_call 26; ((with_reducible refine (CM1.out _).mono ?_); rintro e w' ⟨rfl, rfl⟩)) | (go_at_call 26; ((with_reducible refine (CM2.out _).mono ?_); rintro e w' ⟨rfl, rfl⟩)) | (go_at_call 26; ((with_reducible refine (CM3.out _).mono ?_); rintro e w' ⟨rfl, rfl⟩)))
      go_meet
      exact ⟨rfl, rfl⟩
  case rest => as_aux_lemma =>
  obtain ⟨rfl, rfl⟩ := hcut
  clear C1 C2 C3 C4 CB CM1 CM2 CM3 FL F3 G1 G2 P3 HL
  go_upto_region 14 with (fail)
  have hk0 : fits (wrap64 (n / 2048 * 2048)) ∧ wrap64 (n / 2048 * 2048) % 2048 = 0 := by
    have := HN.out
    unfold fits at *
    simp only [wrap64]
    omega
  generalize wrap64 (n / 2048 * 2048) = k at *
  obtain ⟨hk, hd⟩ := hk0
  have hf := whole_float k hk.1 hk.2 hd
  have hfo : floatOfInt .f64 k = Ieee.double.nearest (decide (k < 0)) k.natAbs 0 := rfl
  rw [← hfo] at hf
  have d0 : ∀ w, Calls Tryz.prog 26 #[.int .i64 k, .float .f64 (floatOfInt .f64 k)] w fun e w' => e = .returned (.int .i64 0) ∧ w = w' := fun w => by
    have t := Mixed_any k _ w hk hf.2.1
    rwa [hfo, mixed_whole k k hk.1 hk.2 hd, show cmpZ k k = 0 by unfold cmpZ; rw [if_neg (by omega), if_neg (by omega)], ← hfo] at t
  have d1 : ∀ w, Calls Tryz.prog 26 #[.int .i64 (k + 1), .float .f64 (floatOfInt .f64 k)] w fun e w' => e = .returned (.int .i64 1) ∧ w = w' := fun w => by
    have t := Mixed_any (k + 1) _ w (by unfold fits at *; omega) hf.2.1
    rwa [hfo, mixed_whole (k + 1) k hk.1 hk.2 hd, show cmpZ (k + 1) k = 1 by unfold cmpZ; rw [if_neg (by omega), if_pos (by omega)], ← hfo] at t
  have hk1 : -9223372036854775808 ≤ k := hk.1
  have hk2 : k < 9223372036854775807 := by have := hk.2; omega
  have D0 := Lib.hid d0
  have D1 := Lib.hid d1
  clear d0 d1
  go_cut [123] (fun t w' => t = .bool false ∧ w' = wc)
  case first => as_aux_lemma =>
    by_cases k0 : -9223372036854775808 < k
    · have d2 : ∀ w, Calls Tryz.prog 26 #[.int .i64 (k - 1), .float .f64 (floatOfInt .f64 k)] w fun e w' => e = .returned (.int .i64 (-1)) ∧ w = w' := fun w => by
        have t := Mixed_any (k - 1) _ w (by unfold fits at *; omega) hf.2.1
        rwa [hfo, mixed_whole (k - 1) k hk.1 hk.2 hd, show cmpZ (k - 1) k = -1 by unfold cmpZ; rw [if_pos (by omega)], ← hfo] at t
      have D2 := Lib.hid d2
      have t1 : decide (-9223372036854775808 < k) = true := by simp [k0]
      have t2 : decide (k < 9223372036854775807) = true := by simp [hk2]
      clear d2 hf hfo hk hd HN
      generalize floatOfInt .f64 k = fk at *
      go_wp2_with (first | (go_at_call 26; ((with_reducible refine (D0.out _).mono ?_); rintro e w' ⟨rfl, rfl⟩)) | (go_at_call 26; ((with_reducible refine (D1.out _).mono ?_); rintro e w' ⟨rfl, rfl⟩)) | (go_at_call 26; ((with_reducible refine (D2.out _).mono ?_); rintro e w' ⟨rfl, rfl⟩)))
      go_meet
      exact ⟨rfl, rfl⟩
    · obtain rfl : k = -9223372036854775808 := by omega
      rw [show (-9223372036854775808 : Int) + 1 = -9223372036854775807 from rfl] at D1
      clear hf hfo hk hd HN
      generalize floatOfInt .f64 (-9223372036854775808) = fk at *
      go_wp2_with (first | (go_at_call 26; ((with_reducible refine (D0.out _).mono ?_); rintro e w' ⟨rfl, rfl⟩)) | (go_at_call 26; ((with_reducible refine (D1.out _).mono ?_); rintro e w' ⟨rfl, rfl⟩)))
      go_meet
      exact ⟨rfl, rfl⟩
  case rest => as_aux_lemma =>
  obtain ⟨rfl, rfl⟩ := hcut
  go_wp2_with (go_at_call 16; ((with_reducible refine (awake_any _ HE2.out).mono ?_); rintro e w5 ⟨rfl, hb5⟩))
  go_ret
  exact ⟨rfl, B1.out.trans (hb5.mono B1.out.size)⟩
end Go.Proofs.YtbbedjpjekjfiaaGreatDoor
