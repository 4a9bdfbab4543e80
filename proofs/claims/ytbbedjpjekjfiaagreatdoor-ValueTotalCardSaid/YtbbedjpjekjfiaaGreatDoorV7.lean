/- ValueTotal, walked over a contract of the statements' own test of being awake: for every three values it answers true. -/
import Derived.Test.YtbbedjpjekjfiaaGreatDoorV6b
namespace Go.Proofs.YtbbedjpjekjfiaaGreatDoor
open Go.RowKit
theorem like_cmp {k l : Int} {b c : Bool} {n m : Int} {f g : Nat} {s t : ByteArray} (hx : WideV k n f s) (hy : WideV l m g t) (mx : MayV k b n f s) (my : MayV l c m g t) : likeV k b n f s l c m g t = (cmpK (keyV k b n f s) (keyV l c m g t) == 0) := by
  rw [Bool.eq_iff_iff, like_iff, beq_iff_eq, good_cmpK.zero]
  constructor
  · rintro ⟨rfl, rfl, rfl, rfl, rfl⟩; rfl
  · exact key_inj k l b c n m f g s t mx my hx.2.2.1 hy.2.2.1
set_option maxRecDepth 100000 in
set_option maxHeartbeats 4000000 in
theorem total_walk (xk : Int) (xb : Bool) (xn : Int) (xf : Nat) (xs : ByteArray) (yk : Int) (yb : Bool) (yn : Int) (yf : Nat) (ys : ByteArray) (zk : Int) (zb : Bool) (zn : Int) (zf : Nat) (zs : ByteArray)
    (w : World) (ha : WideV xk xn xf xs) (hb : WideV yk yn yf ys) (hc : WideV zk zn zf zs)
    (wakes : ∀ wc, Below w.heap.size w wc → Calls Tryz.prog 37 #[] wc fun e w' => e = .returned (.bool true) ∧ Below wc.heap.size wc w') :
    Calls Tryz.prog 9 #[vagg xk xb xn xf xs, vagg yk yb yn yf ys, vagg zk zb zn zf zs] w fun e w' => e = .returned (.bool true) ∧ Below w.heap.size w w' := by
  have MA := Lib.hid (fun w => May_any xk xb xn xf xs w ha.2.2.1)
  have MB := Lib.hid (fun w => May_any yk yb yn yf ys w hb.2.2.1)
  have MC := Lib.hid (fun w => May_any zk zb zn zf zs w hc.2.2.1)
  have WK := Lib.hid wakes
  clear wakes
  have T := Lib.hid (Three.start w #[.int .i64 xk, .bool xb, .int .i64 xn, .float .f64 xf, .string xs] #[.int .i64 yk, .bool yb, .int .i64 yn, .float .f64 yf, .string ys] #[.int .i64 zk, .bool zb, .int .i64 zn, .float .f64 zf, .string zs] 58 58 58)
  cases m1 : mayB xk xb xn xf xs
  · rw [m1] at MA
    clear m1
    go_enter Tryz.func9, Tryz.ntmps9
    go_wp2_with (first | (go_at_call 36; ((with_reducible refine (MA.out _).mono ?_); rintro e w1 ⟨rfl, hb1⟩; replace T := Lib.hid (T.out.step hb1); clear hb1; obtain ⟨_, _, x1, x2, x3⟩ := T.out)) | (go_at_call 36; ((with_reducible refine (MB.out _).mono ?_); rintro e w1 ⟨rfl, hb1⟩; replace T := Lib.hid (T.out.step hb1); clear hb1; obtain ⟨_, _, x1, x2, x3⟩ := T.out)) | (go_at_call 36; ((with_reducible refine (MC.out _).mono ?_); rintro e w1 ⟨rfl, hb1⟩; replace T := Lib.hid (T.out.step hb1); clear hb1; obtain ⟨_, _, x1, x2, x3⟩ := T.out)) | (go_at_call 37; ((with_reducible refine (WK.out _ T.out.below).mono ?_); rintro e w2 ⟨rfl, hb2⟩)))
    go_ret
    exact ⟨rfl, T.out.below.trans (hb2.mono T.out.below.size)⟩
  cases m2 : mayB yk yb yn yf ys
  · rw [m1] at MA
    rw [m2] at MB
    clear m1 m2
    go_enter Tryz.func9, Tryz.ntmps9
    go_wp2_with (first | (go_at_call 36; ((with_reducible refine (MA.out _).mono ?_); rintro e w1 ⟨rfl, hb1⟩; replace T := Lib.hid (T.out.step hb1); clear hb1; obtain ⟨_, _, x1, x2, x3⟩ := T.out)) | (go_at_call 36; ((with_reducible refine (MB.out _).mono ?_); rintro e w1 ⟨rfl, hb1⟩; replace T := Lib.hid (T.out.step hb1); clear hb1; obtain ⟨_, _, x1, x2, x3⟩ := T.out)) | (go_at_call 36; ((with_reducible refine (MC.out _).mono ?_); rintro e w1 ⟨rfl, hb1⟩; replace T := Lib.hid (T.out.step hb1); clear hb1; obtain ⟨_, _, x1, x2, x3⟩ := T.out)) | (go_at_call 37; ((with_reducible refine (WK.out _ T.out.below).mono ?_); rintro e w2 ⟨rfl, hb2⟩)))
    go_ret
    exact ⟨rfl, T.out.below.trans (hb2.mono T.out.below.size)⟩
  cases m3 : mayB zk zb zn zf zs
  · rw [m1] at MA
    rw [m2] at MB
    rw [m3] at MC
    clear m1 m2 m3
    go_enter Tryz.func9, Tryz.ntmps9
    go_wp2_with (first | (go_at_call 36; ((with_reducible refine (MA.out _).mono ?_); rintro e w1 ⟨rfl, hb1⟩; replace T := Lib.hid (T.out.step hb1); clear hb1; obtain ⟨_, _, x1, x2, x3⟩ := T.out)) | (go_at_call 36; ((with_reducible refine (MB.out _).mono ?_); rintro e w1 ⟨rfl, hb1⟩; replace T := Lib.hid (T.out.step hb1); clear hb1; obtain ⟨_, _, x1, x2, x3⟩ := T.out)) | (go_at_call 36; ((with_reducible refine (MC.out _).mono ?_); rintro e w1 ⟨rfl, hb1⟩; replace T := Lib.hid (T.out.step hb1); clear hb1; obtain ⟨_, _, x1, x2, x3⟩ := T.out)) | (go_at_call 37; ((with_reducible refine (WK.out _ T.out.below).mono ?_); rintro e w2 ⟨rfl, hb2⟩)))
    go_ret
    exact ⟨rfl, T.out.below.trans (hb2.mono T.out.below.size)⟩
  have ma : MayV xk xb xn xf xs := of_decide_eq_true m1
  have mb : MayV yk yb yn yf ys := of_decide_eq_true m2
  have mc : MayV zk zb zn zf zs := of_decide_eq_true m3
  rw [m1] at MA
  rw [m2] at MB
  rw [m3] at MC
  clear m1 m2 m3
  have c1 := fun w => Compare_any xk xn yk yn xb yb xf yf xs ys w ha hb ma mb
  have c2 := fun w => Compare_any yk yn zk zn yb zb yf zf ys zs w hb hc mb mc
  have c3 := fun w => Compare_any xk xn zk zn xb zb xf zf xs zs w ha hc ma mc
  generalize hp : cmpK (keyV xk xb xn xf xs) (keyV yk yb yn yf ys) = p at *
  generalize hq : cmpK (keyV yk yb yn yf ys) (keyV zk zb zn zf zs) = q at *
  generalize hr : cmpK (keyV xk xb xn xf xs) (keyV zk zb zn zf zs) = r at *
  have C1 := Lib.hid c1
  have C2 := Lib.hid c2
  have C3 := Lib.hid c3
  have HP := Lib.hid hp
  have HQ := Lib.hid hq
  have HR := Lib.hid hr
  have HA := Lib.hid ha
  have HB := Lib.hid hb
  have HC := Lib.hid hc
  have HMA := Lib.hid ma
  have HMB := Lib.hid mb
  have HMC := Lib.hid mc
  clear c1 c2 c3 hp hq hr ha hb hc ma mb mc
  go_enter Tryz.func9, Tryz.ntmps9
  go_upto_region 3 with (first | (go_at_call 36; ((with_reducible refine (MA.out _).mono ?_); rintro e w1 ⟨rfl, hb1⟩; replace T := Lib.hid (T.out.step hb1); clear hb1; obtain ⟨_, _, x1, x2, x3⟩ := T.out)) | (go_at_call 36; ((with_reducible refine (MB.out _).mono ?_); rintro e w1 ⟨rfl, hb1⟩; replace T := Lib.hid (T.out.step hb1); clear hb1; obtain ⟨_, _, x1, x2, x3⟩ := T.out)) | (go_at_call 36; ((with_reducible refine (MC.out _).mono ?_); rintro e w1 ⟨rfl, hb1⟩; replace T := Lib.hid (T.out.step hb1); clear hb1; obtain ⟨_, _, x1, x2, x3⟩ := T.out)))
  clear MA MB MC
  go_cut [7, 8, 9] (fun t u v w' => t = .int .i64 p ∧ u = .int .i64 q ∧ v = .int .i64 r ∧ Three w w' #[.int .i64 xk, .bool xb, .int .i64 xn, .float .f64 xf, .string xs] #[.int .i64 yk, .bool yb, .int .i64 yn, .float .f64 yf, .string ys] #[.int .i64 zk, .bool zb, .int .i64 zn, .float .f64 zf, .string zs])
  case first =>
    go_region_held3 (fun w' => Below w.heap.size w w' ∧ w.heap.size + 3 ≤ w'.heap.size ∧ (∀ j, w'.cell? ⟨w.heap.size, j, none⟩ = #[Value.int .i64 xk, .bool xb, .int .i64 xn, .float .f64 xf, .string xs][j]?) ∧ (∀ j, w'.cell? ⟨w.heap.size + 1, j, none⟩ = #[Value.int .i64 yk, .bool yb, .int .i64 yn, .float .f64 yf, .string ys][j]?) ∧ (∀ j, w'.cell? ⟨w.heap.size + 2, j, none⟩ = #[Value.int .i64 zk, .bool zb, .int .i64 zn, .float .f64 zf, .string zs][j]?)) (first | exact T.out.drew | exact Three.on hb (by assumption) (by assumption) (by assumption) (by assumption) (by assumption) | (go_split_ands; exact Three.on hb (by assumption) (by assumption) (by assumption) (by assumption) (by assumption))) (first | (go_at_call 38; ((with_reducible refine (C1.out _).mono ?_); rintro e w1 ⟨rfl, hb⟩)) | (go_at_call 38; ((with_reducible refine (C2.out _).mono ?_); rintro e w1 ⟨rfl, hb⟩)) | (go_at_call 38; ((with_reducible refine (C3.out _).mono ?_); rintro e w1 ⟨rfl, hb⟩)))
    go_wp2
    go_meet
    exact ⟨rfl, rfl, rfl, by assumption⟩
  case rest =>
  obtain ⟨rfl, rfl, rfl, ht⟩ := hcut
  replace T := Lib.hid ht
  clear ht
  clear C1 C2 C3
  go_upto_region 4 with (fail)
  go_cut [69] (fun t w' => t = .bool false ∧ Three w w' #[.int .i64 xk, .bool xb, .int .i64 xn, .float .f64 xf, .string xs] #[.int .i64 yk, .bool yb, .int .i64 yn, .float .f64 yf, .string ys] #[.int .i64 zk, .bool zb, .int .i64 zn, .float .f64 zf, .string zs])
  case first =>
    have k1 := fun w => Compare_any yk yn xk xn yb xb yf xf ys xs w HB.out HA.out HMB.out HMA.out
    have k2 := fun w => Compare_any xk xn xk xn xb xb xf xf xs xs w HA.out HA.out HMA.out HMA.out
    have k3 := fun w => Same_any xk xn yk yn xb yb xf yf xs ys w HA.out HB.out HMA.out HMB.out
    have k4 := fun w => Like_any xk xb xn xf xs yk yb yn yf ys w
    rw [like_cmp HA.out HB.out HMA.out HMB.out, HP.out] at k4
    rw [good_cmpK.flip, HP.out] at k1
    rw [good_cmpK.self] at k2
    rw [HP.out] at k3
    have K1 := Lib.hid k1
    have K2 := Lib.hid k2
    have K3 := Lib.hid k3
    have K4 := Lib.hid k4
    have p3 : p = -1 ∨ p = 0 ∨ p = 1 := by
      have h1 := good_cmpK.least (keyV xk xb xn xf xs) (keyV yk yb yn yf ys)
      have h2 := good_cmpK.most (keyV xk xb xn xf xs) (keyV yk yb yn yf ys)
      rw [HP.out] at h1 h2
      omega
    clear k1 k2 k3 k4
    obtain ⟨_, _, x1, x2, x3⟩ := T.out
    clear HP HQ HR
    rcases p3 with rfl | rfl | rfl
    all_goals
      go_wp2_with (first | (go_at_call 38; ((with_reducible refine (K1.out _).mono ?_); rintro e w1 ⟨rfl, hb1⟩; replace T := Lib.hid (T.out.step hb1); clear hb1; obtain ⟨_, _, x1, x2, x3⟩ := T.out)) | (go_at_call 38; ((with_reducible refine (K2.out _).mono ?_); rintro e w1 ⟨rfl, hb1⟩; replace T := Lib.hid (T.out.step hb1); clear hb1; obtain ⟨_, _, x1, x2, x3⟩ := T.out)) | (go_at_call 40; ((with_reducible refine (K3.out _).mono ?_); rintro e w1 ⟨rfl, hb1⟩; replace T := Lib.hid (T.out.step hb1); clear hb1; obtain ⟨_, _, x1, x2, x3⟩ := T.out)) | (go_at_call 39; ((with_reducible refine (K4.out _).mono ?_); rintro e w1 ⟨rfl, hb1⟩; replace T := Lib.hid (T.out.step hb1); clear hb1; obtain ⟨_, _, x1, x2, x3⟩ := T.out)))
      go_meet
      exact ⟨rfl, T.out⟩
  case rest =>
  obtain ⟨rfl, ht⟩ := hcut
  replace T := Lib.hid ht
  clear ht
  go_upto_region 6 with (fail)
  go_cut [91] (fun t w' => t = .bool false ∧ w' = wc)
  case first =>
    have tr := good_cmpK.three (keyV xk xb xn xf xs) (keyV yk yb yn yf ys) (keyV zk zb zn zf zs)
    rw [HP.out, HQ.out, HR.out] at tr
    by_cases p0 : p ≤ 0
    · have t1 : decide (p ≤ 0) = true := by simp [p0]
      by_cases q0 : q ≤ 0
      · have t2 : decide (q ≤ 0) = true := by simp [q0]
        obtain ⟨r0, r1⟩ := tr p0 q0
        have t3 : decide (0 < r) = false := by simp; omega
        by_cases rz : r = 0
        · obtain ⟨rfl, rfl⟩ := r1 rz
          subst rz
          clear t1 t2 t3 p0 q0 r0 r1 tr
          go_wp2
          go_meet
          exact ⟨rfl, rfl⟩
        · have t4 : (r == 0) = false := by simp [rz]
          clear p0 q0 r0 r1 rz tr
          go_wp2
          go_meet
          exact ⟨rfl, rfl⟩
      · have t2 : decide (q ≤ 0) = false := by simp; omega
        clear p0 q0 tr
        go_wp2
        go_meet
        exact ⟨rfl, rfl⟩
    · have t1 : decide (p ≤ 0) = false := by simp; omega
      clear p0 tr
      go_wp2
      go_meet
      exact ⟨rfl, rfl⟩
  case rest =>
  obtain ⟨rfl, hw⟩ := hcut
  subst hw
  have ka := may_kind HMA.out
  have kb := may_kind HMB.out
  obtain ⟨_, _, x1, x2, x3⟩ := T.out
  have hkd : (xk = yk ∨ xk = 2 ∧ yk = 3 ∨ xk = 3 ∧ yk = 2) ∨ (¬ (xk = yk ∨ xk = 2 ∧ yk = 3 ∨ xk = 3 ∧ yk = 2) ∧ (p == -1) = decide (xk < yk)) := by
    by_cases h : xk = yk ∨ xk = 2 ∧ yk = 3 ∨ xk = 3 ∧ yk = 2
    · exact .inl h
    · refine .inr ⟨h, ?_⟩
      have hc : classK xk ≠ classK yk := by unfold classK; split <;> split <;> omega
      rw [← HP.out, cmpK_far (x := keyV xk xb xn xf xs) (y := keyV yk yb yn yf ys) hc]
      show (cmpI (classK xk) (classK yk) == -1) = _
      rw [Bool.eq_iff_iff]
      simp only [beq_iff_eq, decide_eq_true_eq]
      unfold cmpI classK
      split <;> split <;> split <;> (try split) <;> omega
  clear HP HQ HR HA HB HC HMA HMB HMC
  rcases hkd with h | ⟨h, hp⟩
  · rcases h with rfl | ⟨rfl, rfl⟩ | ⟨rfl, rfl⟩
    all_goals
      clear ka kb
      go_wp2_with (go_at_call 37; ((with_reducible refine (WK.out _ T.out.below).mono ?_); rintro e w2 ⟨rfl, hb2⟩))
      go_ret
      exact ⟨rfl, T.out.below.trans (hb2.mono T.out.below.size)⟩
  · by_cases e2 : xk = 2
    · subst e2
      have t1 : ((2 : Int) == yk) = false := by simp; omega
      have t3 : (yk == 3) = false := by simp; omega
      have t5 : (p == -1) = decide (2 < yk) := hp
      clear h hp ka kb
      go_wp2_with (go_at_call 37; ((with_reducible refine (WK.out _ T.out.below).mono ?_); rintro e w2 ⟨rfl, hb2⟩))
      go_ret
      exact ⟨rfl, T.out.below.trans (hb2.mono T.out.below.size)⟩
    · by_cases e3 : xk = 3
      · subst e3
        have t1 : ((3 : Int) == yk) = false := by simp; omega
        have t3 : (yk == 2) = false := by simp; omega
        have t5 : (p == -1) = decide (3 < yk) := hp
        clear h hp ka kb
        go_wp2_with (go_at_call 37; ((with_reducible refine (WK.out _ T.out.below).mono ?_); rintro e w2 ⟨rfl, hb2⟩))
        go_ret
        exact ⟨rfl, T.out.below.trans (hb2.mono T.out.below.size)⟩
      · have t1 : (xk == yk) = false := by simp; omega
        have t2 : (xk == 2) = false := by simp [e2]
        have t3 : (xk == 3) = false := by simp [e3]
        have t5 : (p == -1) = decide (xk < yk) := hp
        clear e2 e3
        clear h hp ka kb
        go_wp2_with (go_at_call 37; ((with_reducible refine (WK.out _ T.out.below).mono ?_); rintro e w2 ⟨rfl, hb2⟩))
        go_ret
        exact ⟨rfl, T.out.below.trans (hb2.mono T.out.below.size)⟩
end Go.Proofs.YtbbedjpjekjfiaaGreatDoor
