/- Minus. -/
import Derived.Test.YtmolpogehgeebaaGreatbJ1
namespace Go.Proofs.YtmolpogehgeebaaGreat.Se.Pe
open Go.RowKit
/-- Minus. -/
def minusL (a b c d : Int) : List (Int × Int) := if mayB a b = false then [] else if meetB a b c d = false then [(a, b)] else (if a < c then [(a, c)] else []) ++ (if d < b then [(d, b)] else [])
theorem ownP_mono {base base' : Nat} {w : World} {v : Value} {L : List (Int × Int)} (h : OwnP base w v L) (hb : base' ≤ base) : OwnP base' w v L := by
  refine ⟨h.1, ?_⟩
  rcases h.2 with h0 | ⟨g, cap, cur, h1, h2, h3⟩
  · exact .inl h0
  · exact .inr ⟨g, cap, cur, h1, Nat.le_trans hb h2, h3⟩
/-- A slice of one period, just laid. -/
theorem ownP_one (w : World) (a b : Int) (base g : Nat) (hg : w.heap.size = g) (hb : base ≤ g) : OwnP base (w.alloc (.cells #[.int .u64 a, .int .u64 b] 33)) (.slice (some ⟨g, 0, none⟩) 1 1) [(a, b)] := by
  subst hg
  exact ⟨rfl, .inr ⟨w.heap.size, 1, #[.int .u64 a, .int .u64 b], rfl, hb, heap_alloc_new w _, by simp, by simp [maxLen], rfl, rfl⟩⟩
set_option maxRecDepth 100000 in
set_option maxHeartbeats 2000000 in
theorem Minus_no (a b c d : Int) (w : World) (h1 : mayB a b = false) : Calls Tryz.prog 251 #[.agg #[.int .u64 a, .int .u64 b], .agg #[.int .u64 c, .int .u64 d]] w fun e w' => e = .returned (.slice none 0 0) ∧ Below w.heap.size w w' := by
  have hM := May_any a b
  rw [h1] at hM
  have HM := Lib.hid hM
  clear hM h1
  go_enter Tryz.func251, Tryz.ntmps251
  go_wp2_with fail
  refine (HM.out _).mono ?_
  rintro e w1 ⟨rfl, hb1⟩
  go_wp2
  go_ret
  exact ⟨rfl, (((Below.refl _ _).alloc (Nat.le_refl _) _).alloc (by simp) _).trans (hb1.mono (by simp <;> omega))⟩
set_option maxRecDepth 100000 in
set_option maxHeartbeats 2000000 in
theorem Minus_all (a b c d : Int) (w : World) (h1 : mayB a b = true) (h2 : meetB a b c d = false) : Calls Tryz.prog 251 #[.agg #[.int .u64 a, .int .u64 b], .agg #[.int .u64 c, .int .u64 d]] w fun e w' => ∃ u, e = .returned u ∧ OwnP w.heap.size w' u [(a, b)] ∧ Below w.heap.size w w' := by
  have hM := May_any a b
  rw [h1] at hM
  have hN := Meet_any a b c d
  rw [(meet_no h2).1, (meet_no h2).2, h2] at hN
  have HM := Lib.hid hM
  have HN := Lib.hid hN
  clear hM h1 hN h2
  go_enter Tryz.func251, Tryz.ntmps251
  go_wp2_with fail
  refine (HM.out _).mono ?_
  rintro e w1 ⟨rfl, hb1⟩
  have X1 := Lib.hid (Box.below (Box.alloc (box_at _ a b 33 w.heap.size rfl) _) hb1)
  have Y1 := Lib.hid (Box.below (box_at _ c d 33 (w.heap.size + 1) (by simp)) hb1)
  have S1 := Lib.hid ((((Below.refl _ _).alloc (Nat.le_refl _) _).alloc (by simp) _).trans (hb1.mono (by simp <;> omega)))
  clear hb1
  obtain ⟨x0, x1, x2, x3⟩ := X1.out
  obtain ⟨y0, y1, y2, y3⟩ := Y1.out
  go_wp2_with fail
  refine (HN.out _).mono ?_
  rintro e w2 ⟨rfl, hb2⟩
  have X2 := Lib.hid (X1.out.below hb2)
  have S2 := Lib.hid (S1.out.trans (hb2.mono (by omega)))
  have hs2 := hb2.size
  clear hb2 x0 x1 x2 x3 y0 y1 y2 y3
  obtain ⟨x0, x1, x2, x3⟩ := X2.out
  go_wp2
  go_ret
  exact ⟨_, rfl, ownP_one _ a b _ _ (by simp) (by have := S2.out.size; omega), (S2.out.alloc (by omega) _).alloc (by simp; omega) _⟩
theorem meet_may {a b c d : Int} (h : meetB a b c d = true) : mayB a (mx a c) = decide (a < c) ∧ mayB (mn b d) b = decide (d < b) := by
  simp only [meetB, mayB, Bool.and_eq_true, decide_eq_true_eq] at h
  obtain ⟨⟨⟨h1, h2⟩, h3, h4⟩, h5, h6⟩ := h
  constructor
  · by_cases x : a < c
    · rw [mx_yes x] at *
      simp only [mayB, x, decide_true, Bool.true_and, decide_eq_true_eq]
      omega
    · rw [mx_no x]
      simp [mayB, x]
  · by_cases x : d < b
    · rw [mn_yes x] at *
      simp only [mayB, x, decide_true, Bool.true_and, decide_eq_true_eq]
      omega
    · rw [mn_no x]
      simp [mayB, x]
theorem minus_some {a b c d : Int} (h : meetB a b c d = true) : mayB a b = true := by
  simp only [meetB, Bool.and_eq_true] at h
  exact h.1.1
set_option maxRecDepth 100000 in
set_option maxHeartbeats 4000000 in
theorem Minus_11 (a b c d : Int) (w : World) (h : meetB a b c d = true) (x1 : a < c) (x2 : d < b) : Calls Tryz.prog 251 #[.agg #[.int .u64 a, .int .u64 b], .agg #[.int .u64 c, .int .u64 d]] w fun e w' => ∃ u, e = .returned u ∧ OwnP w.heap.size w' u [(a, c), (d, b)] ∧ Below w.heap.size w w' := by
  have hM := May_any a b
  rw [minus_some h] at hM
  have hN := Meet_any a b c d
  obtain ⟨m1, m2⟩ := meet_may h
  rw [(meet_yes h).1, (meet_yes h).2, h] at hN
  rw [mx_yes x1] at hN m1
  rw [mn_yes x2] at hN m2
  have hO := May_any a c
  have hQ := May_any d b
  rw [m1, decide_eq_true x1] at hO
  rw [m2, decide_eq_true x2] at hQ
  have HM := Lib.hid hM
  have HN := Lib.hid hN
  have HO := Lib.hid hO
  have HQ := Lib.hid hQ
  clear hM h hN m1 m2 hO hQ x1 x2
  have i0 : ∀ w, (Instr.index 305 (.agg #[.int .u64 a, .int .u64 c, .int .u64 d, .int .u64 b]) (.int .i64 0)).run Tryz.prog w = .ok (.agg #[.int .u64 a, .int .u64 c]) w := fun _ => by kernel_rfl
  have i1 : ∀ w, (Instr.index 305 (.agg #[.int .u64 a, .int .u64 c, .int .u64 d, .int .u64 b]) (.int .i64 1)).run Tryz.prog w = .ok (.agg #[.int .u64 d, .int .u64 b]) w := fun _ => by kernel_rfl
  go_enter Tryz.func251, Tryz.ntmps251
  go_wp2_with fail
  refine (HM.out _).mono ?_
  rintro e w1 ⟨rfl, hb1⟩
  have X1 := Lib.hid (Box.below (Box.alloc (box_at _ a b 33 w.heap.size rfl) _) hb1)
  have Y1 := Lib.hid (Box.below (box_at _ c d 33 (w.heap.size + 1) (by simp)) hb1)
  have S1 := Lib.hid ((((Below.refl _ _).alloc (Nat.le_refl _) _).alloc (by simp) _).trans (hb1.mono (by simp <;> omega)))
  clear hb1
  obtain ⟨x0, x1, x2, x3⟩ := X1.out
  obtain ⟨y0, y1, y2, y3⟩ := Y1.out
  go_wp2_with fail
  refine (HN.out _).mono ?_
  rintro e w2 ⟨rfl, hb2⟩
  have X2 := Lib.hid (X1.out.below hb2)
  have S2 := Lib.hid (S1.out.trans (hb2.mono (by omega)))
  have hs2 := hb2.size
  clear hb2 x0 x1 x2 x3 y0 y1 y2 y3
  obtain ⟨x0, x1, x2, x3⟩ := X2.out
  go_wp2
  refine wp_loop_rounds 3 ?_
  rw [rounds_succ]
  go_wp2_with fail
  refine (HO.out _).mono ?_
  rintro e w3 ⟨rfl, hb3⟩
  have S3 := Lib.hid (S2.out.trans ((((Below.refl _ _).alloc (Nat.le_refl _) _).alloc (by simp) _).trans (hb3.mono (by simp <;> omega)) |>.mono (by omega)))
  have U3 := Lib.hid ((((Below.refl _ _).alloc (Nat.le_refl _) _).alloc (by simp) _).trans (hb3.mono (by simp <;> omega)))
  have Z3 := Lib.hid (Box.below (box_at _ a c 33 (w2.heap.size + 1) (by simp)) hb3)
  have C3 := Lib.hid (Box.below (Box.alloc (box_at _ c d 33 w2.heap.size rfl) _) hb3)
  have hs3 := U3.out.size
  clear hb3
  obtain ⟨z0, z1, z2, z3⟩ := Z3.out
  go_wp2_with (at_builtin; refine wpList_appP rfl (.tmp 39) (.tmp 41) rfl w2.heap.size _ [] rfl (OwnP.nil _ _) w3.heap.size a c rfl (by go_simp) (by go_simp) (by simp) (by simp; omega) ?_; intro v4 w4 ho4 hb4 _; have O4 := Lib.hid ho4; have U4 := Lib.hid ((U3.out.alloc hs3 (.cells #[.int .u64 a, .int .u64 c] 33)).trans hb4); clear ho4 hb4)
  have hs4 := U4.out.size
  rw [rounds_succ]
  go_wp2_with fail
  refine (HQ.out _).mono ?_
  rintro e w5 ⟨rfl, hb5⟩
  have U5 := Lib.hid (U4.out.trans (((Below.refl _ _).alloc (Nat.le_refl _) _).trans (hb5.mono (by simp)) |>.mono hs4))
  have Z5 := Lib.hid (Box.below (box_at _ d b 33 w4.heap.size rfl) hb5)
  have hs5 := U5.out.size
  have O5 := Lib.hid (((O4.out).alloc (.cells #[.int .u64 d, .int .u64 b] 33)).below hb5)
  clear hb5
  obtain ⟨z0, z1, z2, z3⟩ := Z5.out
  go_wp2_with (at_builtin; refine wpList_appP rfl (.tmp 39) (.tmp 41) rfl w2.heap.size _ [(a, c)] rfl (O5.out.alloc _) w5.heap.size d b rfl (by go_simp) (by go_simp) (by simp) (by simp; omega) ?_; intro v6 w6 ho6 hb6 _; have O6 := Lib.hid ho6; have U6 := Lib.hid ((U5.out.alloc hs5 (.cells #[.int .u64 d, .int .u64 b] 33)).trans hb6); clear ho6 hb6)
  rw [rounds_succ]
  go_wp2
  go_ret
  exact ⟨_, rfl, ownP_mono O6.out S2.out.size, S2.out.trans (U6.out.mono S2.out.size)⟩
set_option maxRecDepth 100000 in
set_option maxHeartbeats 4000000 in
theorem Minus_10 (a b c d : Int) (w : World) (h : meetB a b c d = true) (x1 : a < c) (x2 : ¬ d < b) : Calls Tryz.prog 251 #[.agg #[.int .u64 a, .int .u64 b], .agg #[.int .u64 c, .int .u64 d]] w fun e w' => ∃ u, e = .returned u ∧ OwnP w.heap.size w' u [(a, c)] ∧ Below w.heap.size w w' := by
  have hM := May_any a b
  rw [minus_some h] at hM
  have hN := Meet_any a b c d
  obtain ⟨m1, m2⟩ := meet_may h
  rw [(meet_yes h).1, (meet_yes h).2, h] at hN
  rw [mx_yes x1] at hN m1
  rw [mn_no x2] at hN m2
  have hO := May_any a c
  have hQ := May_any b b
  rw [m1, decide_eq_true x1] at hO
  rw [m2, decide_eq_false x2] at hQ
  have HM := Lib.hid hM
  have HN := Lib.hid hN
  have HO := Lib.hid hO
  have HQ := Lib.hid hQ
  clear hM h hN m1 m2 hO hQ x1 x2
  have i0 : ∀ w, (Instr.index 305 (.agg #[.int .u64 a, .int .u64 c, .int .u64 b, .int .u64 b]) (.int .i64 0)).run Tryz.prog w = .ok (.agg #[.int .u64 a, .int .u64 c]) w := fun _ => by kernel_rfl
  have i1 : ∀ w, (Instr.index 305 (.agg #[.int .u64 a, .int .u64 c, .int .u64 b, .int .u64 b]) (.int .i64 1)).run Tryz.prog w = .ok (.agg #[.int .u64 b, .int .u64 b]) w := fun _ => by kernel_rfl
  go_enter Tryz.func251, Tryz.ntmps251
  go_wp2_with fail
  refine (HM.out _).mono ?_
  rintro e w1 ⟨rfl, hb1⟩
  have X1 := Lib.hid (Box.below (Box.alloc (box_at _ a b 33 w.heap.size rfl) _) hb1)
  have Y1 := Lib.hid (Box.below (box_at _ c d 33 (w.heap.size + 1) (by simp)) hb1)
  have S1 := Lib.hid ((((Below.refl _ _).alloc (Nat.le_refl _) _).alloc (by simp) _).trans (hb1.mono (by simp <;> omega)))
  clear hb1
  obtain ⟨x0, x1, x2, x3⟩ := X1.out
  obtain ⟨y0, y1, y2, y3⟩ := Y1.out
  go_wp2_with fail
  refine (HN.out _).mono ?_
  rintro e w2 ⟨rfl, hb2⟩
  have X2 := Lib.hid (X1.out.below hb2)
  have S2 := Lib.hid (S1.out.trans (hb2.mono (by omega)))
  have hs2 := hb2.size
  clear hb2 x0 x1 x2 x3 y0 y1 y2 y3
  obtain ⟨x0, x1, x2, x3⟩ := X2.out
  go_wp2
  refine wp_loop_rounds 3 ?_
  rw [rounds_succ]
  go_wp2_with fail
  refine (HO.out _).mono ?_
  rintro e w3 ⟨rfl, hb3⟩
  have S3 := Lib.hid (S2.out.trans ((((Below.refl _ _).alloc (Nat.le_refl _) _).alloc (by simp) _).trans (hb3.mono (by simp <;> omega)) |>.mono (by omega)))
  have U3 := Lib.hid ((((Below.refl _ _).alloc (Nat.le_refl _) _).alloc (by simp) _).trans (hb3.mono (by simp <;> omega)))
  have Z3 := Lib.hid (Box.below (box_at _ a c 33 (w2.heap.size + 1) (by simp)) hb3)
  have C3 := Lib.hid (Box.below (Box.alloc (box_at _ c b 33 w2.heap.size rfl) _) hb3)
  have hs3 := U3.out.size
  clear hb3
  obtain ⟨z0, z1, z2, z3⟩ := Z3.out
  go_wp2_with (at_builtin; refine wpList_appP rfl (.tmp 39) (.tmp 41) rfl w2.heap.size _ [] rfl (OwnP.nil _ _) w3.heap.size a c rfl (by go_simp) (by go_simp) (by simp) (by simp; omega) ?_; intro v4 w4 ho4 hb4 _; have O4 := Lib.hid ho4; have U4 := Lib.hid ((U3.out.alloc hs3 (.cells #[.int .u64 a, .int .u64 c] 33)).trans hb4); clear ho4 hb4)
  have hs4 := U4.out.size
  rw [rounds_succ]
  go_wp2_with fail
  refine (HQ.out _).mono ?_
  rintro e w5 ⟨rfl, hb5⟩
  have U5 := Lib.hid (U4.out.trans (((Below.refl _ _).alloc (Nat.le_refl _) _).trans (hb5.mono (by simp)) |>.mono hs4))
  have Z5 := Lib.hid (Box.below (box_at _ b b 33 w4.heap.size rfl) hb5)
  have hs5 := U5.out.size
  have O5 := Lib.hid (((O4.out).alloc (.cells #[.int .u64 b, .int .u64 b] 33)).below hb5)
  clear hb5
  obtain ⟨z0, z1, z2, z3⟩ := Z5.out
  go_wp2
  rw [rounds_succ]
  go_wp2
  go_ret
  exact ⟨_, rfl, ownP_mono O5.out S2.out.size, S2.out.trans (U5.out.mono S2.out.size)⟩
set_option maxRecDepth 100000 in
set_option maxHeartbeats 4000000 in
theorem Minus_01 (a b c d : Int) (w : World) (h : meetB a b c d = true) (x1 : ¬ a < c) (x2 : d < b) : Calls Tryz.prog 251 #[.agg #[.int .u64 a, .int .u64 b], .agg #[.int .u64 c, .int .u64 d]] w fun e w' => ∃ u, e = .returned u ∧ OwnP w.heap.size w' u [(d, b)] ∧ Below w.heap.size w w' := by
  have hM := May_any a b
  rw [minus_some h] at hM
  have hN := Meet_any a b c d
  obtain ⟨m1, m2⟩ := meet_may h
  rw [(meet_yes h).1, (meet_yes h).2, h] at hN
  rw [mx_no x1] at hN m1
  rw [mn_yes x2] at hN m2
  have hO := May_any a a
  have hQ := May_any d b
  rw [m1, decide_eq_false x1] at hO
  rw [m2, decide_eq_true x2] at hQ
  have HM := Lib.hid hM
  have HN := Lib.hid hN
  have HO := Lib.hid hO
  have HQ := Lib.hid hQ
  clear hM h hN m1 m2 hO hQ x1 x2
  have i0 : ∀ w, (Instr.index 305 (.agg #[.int .u64 a, .int .u64 a, .int .u64 d, .int .u64 b]) (.int .i64 0)).run Tryz.prog w = .ok (.agg #[.int .u64 a, .int .u64 a]) w := fun _ => by kernel_rfl
  have i1 : ∀ w, (Instr.index 305 (.agg #[.int .u64 a, .int .u64 a, .int .u64 d, .int .u64 b]) (.int .i64 1)).run Tryz.prog w = .ok (.agg #[.int .u64 d, .int .u64 b]) w := fun _ => by kernel_rfl
  go_enter Tryz.func251, Tryz.ntmps251
  go_wp2_with fail
  refine (HM.out _).mono ?_
  rintro e w1 ⟨rfl, hb1⟩
  have X1 := Lib.hid (Box.below (Box.alloc (box_at _ a b 33 w.heap.size rfl) _) hb1)
  have Y1 := Lib.hid (Box.below (box_at _ c d 33 (w.heap.size + 1) (by simp)) hb1)
  have S1 := Lib.hid ((((Below.refl _ _).alloc (Nat.le_refl _) _).alloc (by simp) _).trans (hb1.mono (by simp <;> omega)))
  clear hb1
  obtain ⟨x0, x1, x2, x3⟩ := X1.out
  obtain ⟨y0, y1, y2, y3⟩ := Y1.out
  go_wp2_with fail
  refine (HN.out _).mono ?_
  rintro e w2 ⟨rfl, hb2⟩
  have X2 := Lib.hid (X1.out.below hb2)
  have S2 := Lib.hid (S1.out.trans (hb2.mono (by omega)))
  have hs2 := hb2.size
  clear hb2 x0 x1 x2 x3 y0 y1 y2 y3
  obtain ⟨x0, x1, x2, x3⟩ := X2.out
  go_wp2
  refine wp_loop_rounds 3 ?_
  rw [rounds_succ]
  go_wp2_with fail
  refine (HO.out _).mono ?_
  rintro e w3 ⟨rfl, hb3⟩
  have S3 := Lib.hid (S2.out.trans ((((Below.refl _ _).alloc (Nat.le_refl _) _).alloc (by simp) _).trans (hb3.mono (by simp <;> omega)) |>.mono (by omega)))
  have U3 := Lib.hid ((((Below.refl _ _).alloc (Nat.le_refl _) _).alloc (by simp) _).trans (hb3.mono (by simp <;> omega)))
  have Z3 := Lib.hid (Box.below (box_at _ a a 33 (w2.heap.size + 1) (by simp)) hb3)
  have C3 := Lib.hid (Box.below (Box.alloc (box_at _ a d 33 w2.heap.size rfl) _) hb3)
  have hs3 := U3.out.size
  clear hb3
  obtain ⟨z0, z1, z2, z3⟩ := Z3.out
  go_wp2
  have hs4 := U3.out.size
  rw [rounds_succ]
  go_wp2_with fail
  refine (HQ.out _).mono ?_
  rintro e w5 ⟨rfl, hb5⟩
  have U5 := Lib.hid (U3.out.trans (((Below.refl _ _).alloc (Nat.le_refl _) _).trans (hb5.mono (by simp)) |>.mono hs4))
  have Z5 := Lib.hid (Box.below (box_at _ d b 33 w3.heap.size rfl) hb5)
  have hs5 := U5.out.size
  have O5 := Lib.hid (OwnP.nil w2.heap.size w5)
  clear hb5
  obtain ⟨z0, z1, z2, z3⟩ := Z5.out
  go_wp2_with (at_builtin; refine wpList_appP rfl (.tmp 39) (.tmp 41) rfl w2.heap.size _ [] rfl (O5.out.alloc _) w5.heap.size d b rfl (by go_simp) (by go_simp) (by simp) (by simp; omega) ?_; intro v6 w6 ho6 hb6 _; have O6 := Lib.hid ho6; have U6 := Lib.hid ((U5.out.alloc hs5 (.cells #[.int .u64 d, .int .u64 b] 33)).trans hb6); clear ho6 hb6)
  rw [rounds_succ]
  go_wp2
  go_ret
  exact ⟨_, rfl, ownP_mono O6.out S2.out.size, S2.out.trans (U6.out.mono S2.out.size)⟩
set_option maxRecDepth 100000 in
set_option maxHeartbeats 4000000 in
theorem Minus_00 (a b c d : Int) (w : World) (h : meetB a b c d = true) (x1 : ¬ a < c) (x2 : ¬ d < b) : Calls Tryz.prog 251 #[.agg #[.int .u64 a, .int .u64 b], .agg #[.int .u64 c, .int .u64 d]] w fun e w' => ∃ u, e = .returned u ∧ OwnP w.heap.size w' u [] ∧ Below w.heap.size w w' := by
  have hM := May_any a b
  rw [minus_some h] at hM
  have hN := Meet_any a b c d
  obtain ⟨m1, m2⟩ := meet_may h
  rw [(meet_yes h).1, (meet_yes h).2, h] at hN
  rw [mx_no x1] at hN m1
  rw [mn_no x2] at hN m2
  have hO := May_any a a
  have hQ := May_any b b
  rw [m1, decide_eq_false x1] at hO
  rw [m2, decide_eq_false x2] at hQ
  have HM := Lib.hid hM
  have HN := Lib.hid hN
  have HO := Lib.hid hO
  have HQ := Lib.hid hQ
  clear hM h hN m1 m2 hO hQ x1 x2
  have i0 : ∀ w, (Instr.index 305 (.agg #[.int .u64 a, .int .u64 a, .int .u64 b, .int .u64 b]) (.int .i64 0)).run Tryz.prog w = .ok (.agg #[.int .u64 a, .int .u64 a]) w := fun _ => by kernel_rfl
  have i1 : ∀ w, (Instr.index 305 (.agg #[.int .u64 a, .int .u64 a, .int .u64 b, .int .u64 b]) (.int .i64 1)).run Tryz.prog w = .ok (.agg #[.int .u64 b, .int .u64 b]) w := fun _ => by kernel_rfl
  go_enter Tryz.func251, Tryz.ntmps251
  go_wp2_with fail
  refine (HM.out _).mono ?_
  rintro e w1 ⟨rfl, hb1⟩
  have X1 := Lib.hid (Box.below (Box.alloc (box_at _ a b 33 w.heap.size rfl) _) hb1)
  have Y1 := Lib.hid (Box.below (box_at _ c d 33 (w.heap.size + 1) (by simp)) hb1)
  have S1 := Lib.hid ((((Below.refl _ _).alloc (Nat.le_refl _) _).alloc (by simp) _).trans (hb1.mono (by simp <;> omega)))
  clear hb1
  obtain ⟨x0, x1, x2, x3⟩ := X1.out
  obtain ⟨y0, y1, y2, y3⟩ := Y1.out
  go_wp2_with fail
  refine (HN.out _).mono ?_
  rintro e w2 ⟨rfl, hb2⟩
  have X2 := Lib.hid (X1.out.below hb2)
  have S2 := Lib.hid (S1.out.trans (hb2.mono (by omega)))
  have hs2 := hb2.size
  clear hb2 x0 x1 x2 x3 y0 y1 y2 y3
  obtain ⟨x0, x1, x2, x3⟩ := X2.out
  go_wp2
  refine wp_loop_rounds 3 ?_
  rw [rounds_succ]
  go_wp2_with fail
  refine (HO.out _).mono ?_
  rintro e w3 ⟨rfl, hb3⟩
  have S3 := Lib.hid (S2.out.trans ((((Below.refl _ _).alloc (Nat.le_refl _) _).alloc (by simp) _).trans (hb3.mono (by simp <;> omega)) |>.mono (by omega)))
  have U3 := Lib.hid ((((Below.refl _ _).alloc (Nat.le_refl _) _).alloc (by simp) _).trans (hb3.mono (by simp <;> omega)))
  have Z3 := Lib.hid (Box.below (box_at _ a a 33 (w2.heap.size + 1) (by simp)) hb3)
  have C3 := Lib.hid (Box.below (Box.alloc (box_at _ a b 33 w2.heap.size rfl) _) hb3)
  have hs3 := U3.out.size
  clear hb3
  obtain ⟨z0, z1, z2, z3⟩ := Z3.out
  go_wp2
  have hs4 := U3.out.size
  rw [rounds_succ]
  go_wp2_with fail
  refine (HQ.out _).mono ?_
  rintro e w5 ⟨rfl, hb5⟩
  have U5 := Lib.hid (U3.out.trans (((Below.refl _ _).alloc (Nat.le_refl _) _).trans (hb5.mono (by simp)) |>.mono hs4))
  have Z5 := Lib.hid (Box.below (box_at _ b b 33 w3.heap.size rfl) hb5)
  have hs5 := U5.out.size
  have O5 := Lib.hid (OwnP.nil w2.heap.size w5)
  clear hb5
  obtain ⟨z0, z1, z2, z3⟩ := Z5.out
  go_wp2
  rw [rounds_succ]
  go_wp2
  go_ret
  exact ⟨_, rfl, ownP_mono O5.out S2.out.size, S2.out.trans (U5.out.mono S2.out.size)⟩
theorem minus_no {a b c d : Int} (h : mayB a b = false) : minusL a b c d = [] := by simp [minusL, h]
theorem minus_all {a b c d : Int} (h : mayB a b = true) (h2 : meetB a b c d = false) : minusL a b c d = [(a, b)] := by simp [minusL, h, h2]
theorem minus_two {a b c d : Int} (h2 : meetB a b c d = true) : minusL a b c d = (if a < c then [(a, c)] else []) ++ (if d < b then [(d, b)] else []) := by simp [minusL, minus_some h2, h2]
theorem Minus_any (a b c d : Int) (w : World) : Calls Tryz.prog 251 #[.agg #[.int .u64 a, .int .u64 b], .agg #[.int .u64 c, .int .u64 d]] w fun e w' => ∃ u, e = .returned u ∧ OwnP w.heap.size w' u (minusL a b c d) ∧ Below w.heap.size w w' := by
  cases h1 : mayB a b
  · rw [minus_no h1]
    exact (Minus_no a b c d w h1).mono fun e w' h => ⟨_, h.1, OwnP.nil _ _, h.2⟩
  · cases h2 : meetB a b c d
    · rw [minus_all h1 h2]
      exact Minus_all a b c d w h1 h2
    · rw [minus_two h2]
      by_cases x1 : a < c <;> by_cases x2 : d < b
      · rw [if_pos x1, if_pos x2]
        exact Minus_11 a b c d w h2 x1 x2
      · rw [if_pos x1, if_neg x2]
        exact Minus_10 a b c d w h2 x1 x2
      · rw [if_neg x1, if_pos x2]
        exact Minus_01 a b c d w h2 x1 x2
      · rw [if_neg x1, if_neg x2]
        exact Minus_00 a b c d w h2 x1 x2
theorem minus_length (a b c d : Int) : (minusL a b c d).length ≤ 2 := by
  unfold minusL
  (repeat' split) <;> simp
end Go.Proofs.YtmolpogehgeebaaGreat.Se.Pe


