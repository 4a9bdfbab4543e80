/- The document's order of values, as far as it tells whether two are the same. -/
import Derived.Test.YtflgdhhgnbdofaaGreatmG14
import Derived.Test.YtflgdhhgnbdofaaGreatmG15
namespace Go.Proofs.YtflgdhhgnbdofaaGreat
open Go.RowKit
def grpV (v : VP) : Int := if v.k = 1 then (if v.b = true then 2 else 1) else if v.k = 2 ∨ v.k = 3 then 3 else if v.k = 4 ∨ v.k = 5 ∨ v.k = 6 then v.k else 0
def signB (p q : Bool) : Int := if p = true then -1 else if q = true then 1 else 0
theorem may_k {v : VP} (h : v.may) : v.k = 0 ∨ v.k = 1 ∨ v.k = 2 ∨ v.k = 3 ∨ v.k = 4 ∨ v.k = 5 ∨ v.k = 6 := may_kind h
section
set_option maxRecDepth 100000
set_option maxHeartbeats 4000000
theorem sign_any (p q : Bool) (w : World) : Calls Tryz.prog 212 #[.bool p, .bool q] w fun e w' => e = .returned (.int .i64 (signB p q)) ∧ w = w' := by
  cases p <;> cases q
  all_goals
    go_enter Tryz.func212, Tryz.ntmps212
    go_wp2
    go_ret
    exact ⟨rfl, rfl⟩
theorem group_any (v : VP) (hm : v.may) (w : World) : Calls Tryz.prog 211 #[v.val] w fun e w' => e = .returned (.int .i64 (grpV v)) ∧ Below w.heap.size w w' := by
  have hk := may_k hm
  obtain ⟨k, b, n, f, s⟩ := v
  clear hm
  simp only at hk
  rcases hk with rfl | rfl | rfl | rfl | rfl | rfl | rfl
  case inr.inl =>
    cases b
    all_goals
      go_enter Tryz.func211, Tryz.ntmps211
      go_wp2
      go_ret
      exact ⟨rfl, (Below.refl _ _).alloc (Nat.le_refl _) _⟩
  all_goals
    go_enter Tryz.func211, Tryz.ntmps211
    go_wp2
    go_ret
    exact ⟨rfl, (Below.refl _ _).alloc (Nat.le_refl _) _⟩
theorem mixed_range (n : Int) (f : Nat) : mixedF n f = -1 ∨ mixedF n f = 0 ∨ mixedF n f = 1 := by
  unfold mixedF
  split
  · exact .inl rfl
  · unfold cmpZ
    (repeat' split) <;> simp
/-- What Numbers tells. -/
def NumR (x y : VP) (w : World) (e : Ending) (w' : World) : Prop := ∃ r : Int, e = .returned (.int .i64 r) ∧ (x.k = y.k → (r = 0 ↔ x = y)) ∧ Below w.heap.size w w'
theorem Numbers_any (x y : VP) (mx : x.may) (my : y.may) (hx : x.wide) (hy : y.wide) (kx : x.k = 2 ∨ x.k = 3) (ky : y.k = 2 ∨ y.k = 3) (w : World) :
    Calls Tryz.prog 213 #[x.val, y.val] w (NumR x y w) := by
  have HB := Lib.hid (((Below.refl w.heap.size w).alloc (Nat.le_refl _) (.cells (VP.cells x) 31)).alloc (by simp) (.cells (VP.cells y) 31))
  have hsf := store_float
  obtain ⟨k, b, n, f, s⟩ := x
  obtain ⟨k', b', n', f', s'⟩ := y
  simp only at kx ky
  have fx := hx.2.2.1
  have fy := hy.2.2.1
  have nx := hx.2.1
  have ny := hy.2.1
  unfold VP.may MayV at mx my
  simp only at fx fy nx ny
  rcases kx with rfl | rfl <;> rcases ky with rfl | rfl
  · have HR : Hid ((signB (decide (n < n')) (decide (n' < n)) = 0) ↔ (⟨2, b, n, f, s⟩ : VP) = ⟨2, b', n', f', s'⟩) := Lib.hid (by
      simp at mx my
      obtain ⟨rfl, rfl, rfl⟩ := mx
      obtain ⟨rfl, rfl, rfl⟩ := my
      unfold signB
      simp only [decide_eq_true_eq]
      constructor
      · intro h
        have : n = n' := by
          split at h
          · omega
          · split at h <;> omega
        rw [this]
      · intro h
        injection h with h1 h2 h3
        subst h3
        simp)
    have CS := Lib.hid (fun W => sign_any (decide (n < n')) (decide (n' < n)) W)
    clear mx my hx hy
    go_enter Tryz.func213, Tryz.ntmps213
    go_wp2_with (go_at_call 212; (with_reducible refine (CS.out _).mono ?_); rintro e w1 ⟨rfl, rfl⟩)
    go_ret
    exact ⟨_, rfl, fun _ => HR.out, HB.out⟩
  · have CM := Lib.hid (fun W => refMixed_any n f' W nx fy)
    clear mx my hx hy
    go_enter Tryz.func213, Tryz.ntmps213
    go_wp2_with (go_at_call 230; (with_reducible refine (CM.out _).mono ?_); rintro e w1 ⟨rfl, rfl⟩)
    go_ret
    exact ⟨_, rfl, fun h => absurd h (by simp), HB.out⟩
  · have CM := Lib.hid (fun W => refMixed_any n' f W ny fx)
    have hr := mixed_range n' f
    generalize mixedF n' f = r at *
    clear mx my hx hy
    go_enter Tryz.func213, Tryz.ntmps213
    go_wp2_with (go_at_call 230; (with_reducible refine (CM.out _).mono ?_); rintro e w1 ⟨rfl, rfl⟩)
    go_ret
    exact ⟨_, rfl, fun h => absurd h (by simp), HB.out⟩
  · have HR : Hid ((cmpI (rankOf f) (rankOf f') = 0) ↔ (⟨3, b, n, f, s⟩ : VP) = ⟨3, b', n', f', s'⟩) := Lib.hid (by
      simp at mx my
      obtain ⟨rfl, rfl, rfl, cf⟩ := mx
      obtain ⟨rfl, rfl, rfl, cg⟩ := my
      rw [cmpI_zero]
      constructor
      · intro h
        have := (rank_inj f f' fx fy).1 (by rw [cf, cg]; exact h)
        first | rw [this] | (rw [cf, cg] at this; rw [this])
      · intro h
        injection h with h1 h2 h3 h4
        rw [h4])
    have CF := Lib.hid (fun W => refFloats_any f f' W fx fy)
    clear mx my hx hy
    go_enter Tryz.func213, Tryz.ntmps213
    go_wp2_with (go_at_call 231; (with_reducible refine (CF.out _).mono ?_); rintro e w1 ⟨rfl, rfl⟩)
    go_ret
    exact ⟨_, rfl, fun _ => HR.out, HB.out⟩
theorem grp_apart {x y : VP} (h : grpV x ≠ grpV y) : x ≠ y := fun e => h (by rw [e])
/-- Of what stands in one group of values. -/
theorem grp_same {x y : VP} (mx : x.may) (my : y.may) (h : grpV x = grpV y) : (grpV x = 0 → x = y) ∧ ((grpV x = 1 ∨ grpV x = 2) → x = y) ∧ (grpV x = 3 → (x.k = 2 ∨ x.k = 3) ∧ (y.k = 2 ∨ y.k = 3)) ∧ (grpV x = 4 → (x = y ↔ x.s = y.s)) ∧ ((grpV x = 5 ∨ grpV x = 6) → (x = y ↔ x.n = y.n)) := by
  obtain ⟨k, b, n, f, s⟩ := x
  obtain ⟨k', b', n', f', s'⟩ := y
  have kx := may_k mx
  have ky := may_k my
  unfold VP.may MayV at mx my
  unfold grpV at *
  simp only at *
  rcases kx with rfl | rfl | rfl | rfl | rfl | rfl | rfl <;> rcases ky with rfl | rfl | rfl | rfl | rfl | rfl | rfl <;> simp at h mx my ⊢ <;> (try (cases b <;> cases b' <;> simp at h mx my ⊢)) <;> simp_all
theorem grp_range {x : VP} (mx : x.may) : grpV x = 0 ∨ grpV x = 1 ∨ grpV x = 2 ∨ grpV x = 3 ∨ grpV x = 4 ∨ grpV x = 5 ∨ grpV x = 6 := by
  have kx := may_k mx
  unfold grpV
  (repeat' split) <;> omega
/-- What Compare tells: nothing, just of the same. -/
def CmpR (x y : VP) (w : World) (e : Ending) (w' : World) : Prop := ∃ r : Int, e = .returned (.int .i64 r) ∧ (r = 0 ↔ x = y) ∧ Below w.heap.size w w'
theorem sign_zero {p q : Bool} : signB p q = 0 ↔ p = false ∧ q = false := by cases p <;> cases q <;> simp [signB]
theorem less_self : ∀ l : List UInt8, Op.bytesLess l l = false
  | [] => by simp [Op.bytesLess]
  | a :: l => by
    have := less_self l
    simp [Op.bytesLess, this]
theorem str_eq {s t : ByteArray} : s.toList = t.toList ↔ s = t := by
  constructor
  · intro h
    rw [ByteArray.toList_eq, ByteArray.toList_eq] at h
    exact ByteArray.ext (Array.toList_inj.1 h)
  · rintro rfl; rfl
theorem str_sign (s t : ByteArray) : signB (Op.bytesLess s.toList t.toList) (!Op.bytesLess s.toList t.toList && !s.toList == t.toList) = 0 ↔ s = t := by
  rw [sign_zero, ← str_eq]
  constructor
  · rintro ⟨h1, h2⟩
    rw [h1] at h2
    simpa using h2
  · intro h
    rw [h, less_self]
    simp
theorem refCompare_any (x y : VP) (mx : x.may) (my : y.may) (hx : x.wide) (hy : y.wide) (w : World) :
    Calls Tryz.prog 172 #[x.val, y.val] w (CmpR x y w) := by
  have CX := Lib.hid (fun W => group_any x mx W)
  have CY := Lib.hid (fun W => group_any y my W)
  have hsf := store_float
  have HB := Lib.hid (((Below.refl w.heap.size w).alloc (Nat.le_refl _) (.cells (VP.cells x) 31)).alloc (by simp) (.cells (VP.cells y) 31))
  have X0 := Lib.hid ((Bx.new w (VP.cells x) 31).below ((Below.refl _ _).alloc (Nat.le_refl _) (.cells (VP.cells y) 31)))
  have Y0 := Lib.hid (Bx.new (w.alloc (.cells (VP.cells x) 31)) (VP.cells y) 31)
  rw [show (w.alloc (.cells (VP.cells x) 31)).heap.size = w.heap.size + 1 by simp] at Y0
  by_cases hg : grpV x = grpV y
  · have HG := Lib.hid (grp_same mx my hg)
    rw [← hg] at CY
    have rg := grp_range mx
    have HN := Lib.hid (fun (h : grpV x = 3) W => Numbers_any x y mx my hx hy ((grp_same mx my hg).2.2.1 h).1 ((grp_same mx my hg).2.2.1 h).2 W)
    generalize grpV x = gx at *
    clear hg mx my hx hy
    obtain ⟨k, b, n, f, s⟩ := x
    obtain ⟨k', b', n', f', s'⟩ := y
    obtain ⟨W0, hW0⟩ : ∃ W, (w.alloc (.cells (VP.cells ⟨k, b, n, f, s⟩) 31)).alloc (.cells (VP.cells ⟨k', b', n', f', s'⟩) 31) = W := ⟨_, rfl⟩
    rw [hW0] at HB X0 Y0
    have K0 : Hid (∀ w', Below W0.heap.size W0 w' → (∀ j, w'.cell? ⟨w.heap.size, j, none⟩ = #[Value.int .i64 k, .bool b, .int .i64 n, .float .f64 f, .string s][j]?) ∧ (∀ j, w'.cell? ⟨w.heap.size + 1, j, none⟩ = #[Value.int .i64 k', .bool b', .int .i64 n', .float .f64 f', .string s'][j]?)) := Lib.hid fun w' hb =>
      ⟨(X0.out.below hb).c, (Y0.out.below hb).c⟩
    rcases rg with rfl | rfl | rfl | rfl | rfl | rfl | rfl
    · skip
      have HE := Lib.hid (HG.out.1 rfl)
      go_enter Tryz.func172, Tryz.ntmps172
      go_upto_region 1 with fail
      try rw [hW0]
      clear hW0
      go_region_held3 (fun w' => (∀ j, w'.cell? ⟨w.heap.size, j, none⟩ = #[Value.int .i64 k, .bool b, .int .i64 n, .float .f64 f, .string s][j]?) ∧ (∀ j, w'.cell? ⟨w.heap.size + 1, j, none⟩ = #[Value.int .i64 k', .bool b', .int .i64 n', .float .f64 f', .string s'][j]?)) (first
          | exact K0.out _ (Below.refl _ _).drew
          | exact K0.out _ HU2.out
          | exact K0.out _ HU1.out
          | fail) (first
        | (go_at_call 211; (with_reducible refine (CX.out _).mono ?_); rintro e1 w4 ⟨rfl, b4⟩; have HU1 := Lib.hid (show Below W0.heap.size W0 w4 from (Below.refl _ _).drew.trans b4); clear b4)
        | (go_at_call 211; (with_reducible refine (CY.out _).mono ?_); rintro e2 w5 ⟨rfl, b5⟩; have HU2 := Lib.hid (show Below W0.heap.size W0 w5 from HU1.out.trans (b5.mono HU1.out.size)); clear b5)
        | fail)
      all_goals
        have on := K0.out w5 HU2.out
        have x0 := on.1
        have y0 := on.2
        have HB5 := Lib.hid (HB.out.trans (HU2.out.mono HB.out.size))
        clear on K0 HU1
        go_wp2
        go_ret
        exact ⟨0, rfl, ⟨fun _ => HE.out, fun _ => rfl⟩, HB5.out⟩
    · skip
      have HE := Lib.hid (HG.out.2.1 (by omega))
      go_enter Tryz.func172, Tryz.ntmps172
      go_upto_region 1 with fail
      try rw [hW0]
      clear hW0
      go_region_held3 (fun w' => (∀ j, w'.cell? ⟨w.heap.size, j, none⟩ = #[Value.int .i64 k, .bool b, .int .i64 n, .float .f64 f, .string s][j]?) ∧ (∀ j, w'.cell? ⟨w.heap.size + 1, j, none⟩ = #[Value.int .i64 k', .bool b', .int .i64 n', .float .f64 f', .string s'][j]?)) (first
          | exact K0.out _ (Below.refl _ _).drew
          | exact K0.out _ HU2.out
          | exact K0.out _ HU1.out
          | fail) (first
        | (go_at_call 211; (with_reducible refine (CX.out _).mono ?_); rintro e1 w4 ⟨rfl, b4⟩; have HU1 := Lib.hid (show Below W0.heap.size W0 w4 from (Below.refl _ _).drew.trans b4); clear b4)
        | (go_at_call 211; (with_reducible refine (CY.out _).mono ?_); rintro e2 w5 ⟨rfl, b5⟩; have HU2 := Lib.hid (show Below W0.heap.size W0 w5 from HU1.out.trans (b5.mono HU1.out.size)); clear b5)
        | fail)
      all_goals
        have on := K0.out w5 HU2.out
        have x0 := on.1
        have y0 := on.2
        have HB5 := Lib.hid (HB.out.trans (HU2.out.mono HB.out.size))
        clear on K0 HU1
        go_wp2
        go_ret
        exact ⟨0, rfl, ⟨fun _ => HE.out, fun _ => rfl⟩, HB5.out⟩
    · skip
      have HE := Lib.hid (HG.out.2.1 (by omega))
      go_enter Tryz.func172, Tryz.ntmps172
      go_upto_region 1 with fail
      try rw [hW0]
      clear hW0
      go_region_held3 (fun w' => (∀ j, w'.cell? ⟨w.heap.size, j, none⟩ = #[Value.int .i64 k, .bool b, .int .i64 n, .float .f64 f, .string s][j]?) ∧ (∀ j, w'.cell? ⟨w.heap.size + 1, j, none⟩ = #[Value.int .i64 k', .bool b', .int .i64 n', .float .f64 f', .string s'][j]?)) (first
          | exact K0.out _ (Below.refl _ _).drew
          | exact K0.out _ HU2.out
          | exact K0.out _ HU1.out
          | fail) (first
        | (go_at_call 211; (with_reducible refine (CX.out _).mono ?_); rintro e1 w4 ⟨rfl, b4⟩; have HU1 := Lib.hid (show Below W0.heap.size W0 w4 from (Below.refl _ _).drew.trans b4); clear b4)
        | (go_at_call 211; (with_reducible refine (CY.out _).mono ?_); rintro e2 w5 ⟨rfl, b5⟩; have HU2 := Lib.hid (show Below W0.heap.size W0 w5 from HU1.out.trans (b5.mono HU1.out.size)); clear b5)
        | fail)
      all_goals
        have on := K0.out w5 HU2.out
        have x0 := on.1
        have y0 := on.2
        have HB5 := Lib.hid (HB.out.trans (HU2.out.mono HB.out.size))
        clear on K0 HU1
        go_wp2
        go_ret
        exact ⟨0, rfl, ⟨fun _ => HE.out, fun _ => rfl⟩, HB5.out⟩
    · skip
      have CN := Lib.hid (HN.out rfl)
      go_enter Tryz.func172, Tryz.ntmps172
      go_upto_region 1 with fail
      try rw [hW0]
      clear hW0
      go_region_held3 (fun w' => (∀ j, w'.cell? ⟨w.heap.size, j, none⟩ = #[Value.int .i64 k, .bool b, .int .i64 n, .float .f64 f, .string s][j]?) ∧ (∀ j, w'.cell? ⟨w.heap.size + 1, j, none⟩ = #[Value.int .i64 k', .bool b', .int .i64 n', .float .f64 f', .string s'][j]?)) (first
          | exact K0.out _ (Below.refl _ _).drew
          | exact K0.out _ HU2.out
          | exact K0.out _ HU1.out
          | fail) (first
        | (go_at_call 211; (with_reducible refine (CX.out _).mono ?_); rintro e1 w4 ⟨rfl, b4⟩; have HU1 := Lib.hid (show Below W0.heap.size W0 w4 from (Below.refl _ _).drew.trans b4); clear b4)
        | (go_at_call 211; (with_reducible refine (CY.out _).mono ?_); rintro e2 w5 ⟨rfl, b5⟩; have HU2 := Lib.hid (show Below W0.heap.size W0 w5 from HU1.out.trans (b5.mono HU1.out.size)); clear b5)
        | fail)
      all_goals
        have on := K0.out w5 HU2.out
        have x0 := on.1
        have y0 := on.2
        have HB5 := Lib.hid (HB.out.trans (HU2.out.mono HB.out.size))
        clear on K0 HU1
        go_upto_region 7 with (go_at_call 213; (with_reducible refine (CN.out _).mono ?_); rintro e3 w6 ⟨r, rfl, hr, b6⟩; have HR := Lib.hid hr; have HB6 := Lib.hid (HB5.out.trans (b6.mono HB5.out.size)); have X6 := Lib.hid ((X0.out.below HU2.out).below b6); have Y6 := Lib.hid ((Y0.out.below HU2.out).below b6); clear hr b6 x0 y0)
        have x0 := X6.out.c
        have y0 := Y6.out.c
        by_cases hz : r = 0
        · have CS := Lib.hid (fun W => sign_any (decide (k < k')) (decide (k' < k)) W)
          have HE : Hid (signB (decide (k < k')) (decide (k' < k)) = 0 ↔ (⟨k, b, n, f, s⟩ : VP) = ⟨k', b', n', f', s'⟩) := Lib.hid (by
            rw [sign_zero]
            constructor
            · rintro ⟨h1, h2⟩
              have e : k = k' := by simp at h1 h2; omega
              exact (HR.out e).1 hz
            · intro h
              injection h with h1
              subst h1
              simp)
          subst hz
          clear HR
          go_wp2_with (go_at_call 212; (with_reducible refine (CS.out _).mono ?_); rintro e7 w7 ⟨rfl, rfl⟩)
          go_ret
          exact ⟨_, rfl, HE.out, HB6.out⟩
        · have HE : Hid (r = 0 ↔ (⟨k, b, n, f, s⟩ : VP) = ⟨k', b', n', f', s'⟩) := Lib.hid
            ⟨fun h => absurd h hz, fun h => (HR.out (by injection h)).2 h⟩
          have t0 : (r == 0) = false := by simpa using hz
          clear HR hz
          go_wp2
          go_ret
          exact ⟨_, rfl, HE.out, HB6.out⟩
    · have CS := Lib.hid (fun W => sign_any (Op.bytesLess s.toList s'.toList) (!Op.bytesLess s.toList s'.toList && !s.toList == s'.toList) W)
      have HE : Hid (signB (Op.bytesLess s.toList s'.toList) (!Op.bytesLess s.toList s'.toList && !s.toList == s'.toList) = 0 ↔ (⟨k, b, n, f, s⟩ : VP) = ⟨k', b', n', f', s'⟩) := Lib.hid (by
        rw [str_sign, HG.out.2.2.2.1 rfl])
      go_enter Tryz.func172, Tryz.ntmps172
      go_upto_region 1 with fail
      try rw [hW0]
      clear hW0
      go_region_held3 (fun w' => (∀ j, w'.cell? ⟨w.heap.size, j, none⟩ = #[Value.int .i64 k, .bool b, .int .i64 n, .float .f64 f, .string s][j]?) ∧ (∀ j, w'.cell? ⟨w.heap.size + 1, j, none⟩ = #[Value.int .i64 k', .bool b', .int .i64 n', .float .f64 f', .string s'][j]?)) (first
          | exact K0.out _ (Below.refl _ _).drew
          | exact K0.out _ HU2.out
          | exact K0.out _ HU1.out
          | fail) (first
        | (go_at_call 211; (with_reducible refine (CX.out _).mono ?_); rintro e1 w4 ⟨rfl, b4⟩; have HU1 := Lib.hid (show Below W0.heap.size W0 w4 from (Below.refl _ _).drew.trans b4); clear b4)
        | (go_at_call 211; (with_reducible refine (CY.out _).mono ?_); rintro e2 w5 ⟨rfl, b5⟩; have HU2 := Lib.hid (show Below W0.heap.size W0 w5 from HU1.out.trans (b5.mono HU1.out.size)); clear b5)
        | fail)
      all_goals
        have on := K0.out w5 HU2.out
        have x0 := on.1
        have y0 := on.2
        have HB5 := Lib.hid (HB.out.trans (HU2.out.mono HB.out.size))
        clear on K0 HU1
        go_wp2_with (go_at_call 212; (with_reducible refine (CS.out _).mono ?_); rintro e7 w7 ⟨rfl, rfl⟩)
        go_ret
        exact ⟨_, rfl, HE.out, HB5.out⟩
    · skip
      have CS := Lib.hid (fun W => sign_any (decide (n < n')) (decide (n' < n)) W)
      have HE : Hid (signB (decide (n < n')) (decide (n' < n)) = 0 ↔ (⟨k, b, n, f, s⟩ : VP) = ⟨k', b', n', f', s'⟩) := Lib.hid (by
        rw [sign_zero, HG.out.2.2.2.2 (by omega)]
        simp
        omega)
      go_enter Tryz.func172, Tryz.ntmps172
      go_upto_region 1 with fail
      try rw [hW0]
      clear hW0
      go_region_held3 (fun w' => (∀ j, w'.cell? ⟨w.heap.size, j, none⟩ = #[Value.int .i64 k, .bool b, .int .i64 n, .float .f64 f, .string s][j]?) ∧ (∀ j, w'.cell? ⟨w.heap.size + 1, j, none⟩ = #[Value.int .i64 k', .bool b', .int .i64 n', .float .f64 f', .string s'][j]?)) (first
          | exact K0.out _ (Below.refl _ _).drew
          | exact K0.out _ HU2.out
          | exact K0.out _ HU1.out
          | fail) (first
        | (go_at_call 211; (with_reducible refine (CX.out _).mono ?_); rintro e1 w4 ⟨rfl, b4⟩; have HU1 := Lib.hid (show Below W0.heap.size W0 w4 from (Below.refl _ _).drew.trans b4); clear b4)
        | (go_at_call 211; (with_reducible refine (CY.out _).mono ?_); rintro e2 w5 ⟨rfl, b5⟩; have HU2 := Lib.hid (show Below W0.heap.size W0 w5 from HU1.out.trans (b5.mono HU1.out.size)); clear b5)
        | fail)
      all_goals
        have on := K0.out w5 HU2.out
        have x0 := on.1
        have y0 := on.2
        have HB5 := Lib.hid (HB.out.trans (HU2.out.mono HB.out.size))
        clear on K0 HU1
        go_wp2_with (go_at_call 212; (with_reducible refine (CS.out _).mono ?_); rintro e7 w7 ⟨rfl, rfl⟩)
        go_ret
        exact ⟨_, rfl, HE.out, HB5.out⟩
    · skip
      have CS := Lib.hid (fun W => sign_any (decide (n < n')) (decide (n' < n)) W)
      have HE : Hid (signB (decide (n < n')) (decide (n' < n)) = 0 ↔ (⟨k, b, n, f, s⟩ : VP) = ⟨k', b', n', f', s'⟩) := Lib.hid (by
        rw [sign_zero, HG.out.2.2.2.2 (by omega)]
        simp
        omega)
      go_enter Tryz.func172, Tryz.ntmps172
      go_upto_region 1 with fail
      try rw [hW0]
      clear hW0
      go_region_held3 (fun w' => (∀ j, w'.cell? ⟨w.heap.size, j, none⟩ = #[Value.int .i64 k, .bool b, .int .i64 n, .float .f64 f, .string s][j]?) ∧ (∀ j, w'.cell? ⟨w.heap.size + 1, j, none⟩ = #[Value.int .i64 k', .bool b', .int .i64 n', .float .f64 f', .string s'][j]?)) (first
          | exact K0.out _ (Below.refl _ _).drew
          | exact K0.out _ HU2.out
          | exact K0.out _ HU1.out
          | fail) (first
        | (go_at_call 211; (with_reducible refine (CX.out _).mono ?_); rintro e1 w4 ⟨rfl, b4⟩; have HU1 := Lib.hid (show Below W0.heap.size W0 w4 from (Below.refl _ _).drew.trans b4); clear b4)
        | (go_at_call 211; (with_reducible refine (CY.out _).mono ?_); rintro e2 w5 ⟨rfl, b5⟩; have HU2 := Lib.hid (show Below W0.heap.size W0 w5 from HU1.out.trans (b5.mono HU1.out.size)); clear b5)
        | fail)
      all_goals
        have on := K0.out w5 HU2.out
        have x0 := on.1
        have y0 := on.2
        have HB5 := Lib.hid (HB.out.trans (HU2.out.mono HB.out.size))
        clear on K0 HU1
        go_wp2_with (go_at_call 212; (with_reducible refine (CS.out _).mono ?_); rintro e7 w7 ⟨rfl, rfl⟩)
        go_ret
        exact ⟨_, rfl, HE.out, HB5.out⟩
  · have HA : Hid ((signB (decide (grpV x < grpV y)) (decide (grpV y < grpV x)) = 0) ↔ x = y) := Lib.hid (by
      rw [sign_zero]
      constructor
      · rintro ⟨h1, h2⟩
        simp at h1 h2
        omega
      · intro h
        exact absurd (by rw [h]) hg)
    generalize grpV x = gx at *
    generalize grpV y = gy at *
    have CS := Lib.hid (fun W => sign_any (decide (gx < gy)) (decide (gy < gx)) W)
    have hne : (gx != gy) = true := by simpa using hg
    clear hg mx my hx hy
    obtain ⟨k, b, n, f, s⟩ := x
    obtain ⟨k', b', n', f', s'⟩ := y
    obtain ⟨W0, hW0⟩ : ∃ W, (w.alloc (.cells (VP.cells ⟨k, b, n, f, s⟩) 31)).alloc (.cells (VP.cells ⟨k', b', n', f', s'⟩) 31) = W := ⟨_, rfl⟩
    rw [hW0] at HB X0 Y0
    have K0 : Hid (∀ w', Below W0.heap.size W0 w' → (∀ j, w'.cell? ⟨w.heap.size, j, none⟩ = #[Value.int .i64 k, .bool b, .int .i64 n, .float .f64 f, .string s][j]?) ∧ (∀ j, w'.cell? ⟨w.heap.size + 1, j, none⟩ = #[Value.int .i64 k', .bool b', .int .i64 n', .float .f64 f', .string s'][j]?)) := Lib.hid fun w' hb =>
      ⟨(X0.out.below hb).c, (Y0.out.below hb).c⟩
    go_enter Tryz.func172, Tryz.ntmps172
    go_upto_region 1 with fail
    try rw [hW0]
    clear hW0
    go_region_held3 (fun w' => (∀ j, w'.cell? ⟨w.heap.size, j, none⟩ = #[Value.int .i64 k, .bool b, .int .i64 n, .float .f64 f, .string s][j]?) ∧ (∀ j, w'.cell? ⟨w.heap.size + 1, j, none⟩ = #[Value.int .i64 k', .bool b', .int .i64 n', .float .f64 f', .string s'][j]?)) (first
        | exact K0.out _ (Below.refl _ _).drew
        | exact K0.out _ HU2.out
        | exact K0.out _ HU1.out
        | fail) (first
      | (go_at_call 211; (with_reducible refine (CX.out _).mono ?_); rintro e1 w4 ⟨rfl, b4⟩; have HU1 := Lib.hid (show Below W0.heap.size W0 w4 from (Below.refl _ _).drew.trans b4); clear b4)
      | (go_at_call 211; (with_reducible refine (CY.out _).mono ?_); rintro e2 w5 ⟨rfl, b5⟩; have HU2 := Lib.hid (show Below W0.heap.size W0 w5 from HU1.out.trans (b5.mono HU1.out.size)); clear b5)
      | fail)
    all_goals
      have HB5 := Lib.hid (HB.out.trans (HU2.out.mono HB.out.size))
      clear K0 HU1
      go_wp2_with (go_at_call 212; (with_reducible refine (CS.out _).mono ?_); rintro e7 w7 ⟨rfl, rfl⟩)
      go_ret
      exact ⟨_, rfl, HA.out, HB5.out⟩
theorem refSame_any (x y : VP) (mx : x.may) (my : y.may) (hx : x.wide) (hy : y.wide) (w : World) :
    Calls Tryz.prog 120 #[x.val, y.val] w (Says (x = y) w) := by
  have CC := Lib.hid (fun W => refCompare_any x y mx my hx hy W)
  have HB := Lib.hid (((Below.refl w.heap.size w).alloc (Nat.le_refl _) (.cells (VP.cells x) 31)).alloc (by simp) (.cells (VP.cells y) 31))
  have hsf := store_float
  clear mx my hx hy
  obtain ⟨k, b, n, f, s⟩ := x
  obtain ⟨k', b', n', f', s'⟩ := y
  go_enter Tryz.func120, Tryz.ntmps120
  go_wp2_with (go_at_call 172; (with_reducible refine (CC.out _).mono ?_); rintro e7 w7 ⟨r, rfl, hr, hb⟩; have HR := Lib.hid hr; have HB7 := Lib.hid (HB.out.trans (hb.mono HB.out.size)); clear hr hb)
  go_ret
  exact ⟨r == 0, rfl, by rw [beq_iff_eq]; exact HR.out, HB7.out⟩
end
end Go.Proofs.YtflgdhhgnbdofaaGreat

