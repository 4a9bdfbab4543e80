/- fit: a period that may be, out of any two numbers. -/
import Derived.Test.YtbdlmidkkdmkpaaP13
namespace Go.Proofs.Ytbdlmidkkdmkpaa
open Go.RowKit
set_option maxRecDepth 100000 in
set_option maxHeartbeats 2000000 in
theorem fit_low (x y u v : Int) (w : World) (hx : x.tmod 1099511627777 = u) (hy : y.tmod 1099511627777 = v) (h : u < v) :
    Calls Try.prog 29 #[.agg #[.int .u64 x, .int .u64 y]] w fun e w' => e = .returned (.agg #[.int .u64 (u), .int .u64 (v)]) ∧ Below w.heap.size w w' := by
  have PA := Lib.hid P_any
  have t1 : decide (v < u) = false := by simp; omega
  have t2 : (u == v) = false := by simp; omega
  clear h
  have HB := Lib.hid (((Below.refl w.heap.size w).alloc (Nat.le_refl _) (.cells #[.int .u64 x, .int .u64 y] 24)).alloc (by simp) (.cells #[.int .u64 0, .int .u64 0] 24))
  have X := Lib.hid (Box.alloc (box_at w x y 24 w.heap.size rfl) (.cells #[.int .u64 0, .int .u64 0] 24))
  have Y := Lib.hid (box_at (w.alloc (.cells #[.int .u64 x, .int .u64 y] 24)) 0 0 24 (w.heap.size + 1) (by simp))
  go_enter Try.func29, Try.ntmps29
  go_wp2
  obtain ⟨w1, hw1⟩ : ∃ w1, (w.alloc (.cells #[.int .u64 x, .int .u64 y] 24)).alloc (.cells #[.int .u64 0, .int .u64 0] 24) = w1 := ⟨_, rfl⟩
  rw [hw1] at X Y HB
  obtain ⟨x0, x1, x2, x3⟩ := X.out
  try rw [hw1]
  clear hw1
  go_quiet (fail)
  go_wp2_with fail
  refine (PA.out _ _ _).mono ?_
  rintro e w2 ⟨rfl, hb2⟩
  have Y2 := Lib.hid (Y.out.below (w := w1) (bel_drewN _ (Below.refl _ _) |>.trans hb2))
  have B2 := Lib.hid (HB.out.trans ((bel_drewN _ (Below.refl _ _) |>.trans hb2 : Below w1.heap.size w1 w2).mono HB.out.size))
  clear hb2
  obtain ⟨y0, y1, y2, y3⟩ := Y2.out
  go_wp2
  refine bodyPost_ret (v := .agg #[.int .u64 (u), .int .u64 (v)]) (by simp [results, Try.results29, go_sem, y0, y1]) rfl ⟨rfl, ?_⟩
  exact ((B2.out.setCell (by first | omega | (simp; done) | (simp; omega)) _).setCell (by first | omega | (simp; done) | (simp; omega)) _)
set_option maxRecDepth 100000 in
set_option maxHeartbeats 2000000 in
theorem fit_high (x y u v : Int) (w : World) (hx : x.tmod 1099511627777 = u) (hy : y.tmod 1099511627777 = v) (h : v < u) :
    Calls Try.prog 29 #[.agg #[.int .u64 x, .int .u64 y]] w fun e w' => e = .returned (.agg #[.int .u64 (v), .int .u64 (u)]) ∧ Below w.heap.size w w' := by
  have PA := Lib.hid P_any
  have t1 : decide (v < u) = true := by simp; omega
  have t2 : (v == u) = false := by simp; omega
  clear h
  have HB := Lib.hid (((Below.refl w.heap.size w).alloc (Nat.le_refl _) (.cells #[.int .u64 x, .int .u64 y] 24)).alloc (by simp) (.cells #[.int .u64 0, .int .u64 0] 24))
  have X := Lib.hid (Box.alloc (box_at w x y 24 w.heap.size rfl) (.cells #[.int .u64 0, .int .u64 0] 24))
  have Y := Lib.hid (box_at (w.alloc (.cells #[.int .u64 x, .int .u64 y] 24)) 0 0 24 (w.heap.size + 1) (by simp))
  go_enter Try.func29, Try.ntmps29
  go_wp2
  obtain ⟨w1, hw1⟩ : ∃ w1, (w.alloc (.cells #[.int .u64 x, .int .u64 y] 24)).alloc (.cells #[.int .u64 0, .int .u64 0] 24) = w1 := ⟨_, rfl⟩
  rw [hw1] at X Y HB
  obtain ⟨x0, x1, x2, x3⟩ := X.out
  try rw [hw1]
  clear hw1
  go_quiet (fail)
  go_wp2_with fail
  refine (PA.out _ _ _).mono ?_
  rintro e w2 ⟨rfl, hb2⟩
  have Y2 := Lib.hid (Y.out.below (w := w1) (bel_drewN _ (Below.refl _ _) |>.trans hb2))
  have B2 := Lib.hid (HB.out.trans ((bel_drewN _ (Below.refl _ _) |>.trans hb2 : Below w1.heap.size w1 w2).mono HB.out.size))
  clear hb2
  obtain ⟨y0, y1, y2, y3⟩ := Y2.out
  go_wp2
  refine bodyPost_ret (v := .agg #[.int .u64 (v), .int .u64 (u)]) (by simp [results, Try.results29, go_sem, y0, y1]) rfl ⟨rfl, ?_⟩
  exact ((B2.out.setCell (by first | omega | (simp; done) | (simp; omega)) _).setCell (by first | omega | (simp; done) | (simp; omega)) _)
set_option maxRecDepth 100000 in
set_option maxHeartbeats 2000000 in
theorem fit_last (x y : Int) (w : World) (hx : x.tmod 1099511627777 = 1099511627776) (hy : y.tmod 1099511627777 = 1099511627776)  :
    Calls Try.prog 29 #[.agg #[.int .u64 x, .int .u64 y]] w fun e w' => e = .returned (.agg #[.int .u64 (1099511627775), .int .u64 (1099511627776)]) ∧ Below w.heap.size w w' := by
  have PA := Lib.hid P_any
  have HB := Lib.hid (((Below.refl w.heap.size w).alloc (Nat.le_refl _) (.cells #[.int .u64 x, .int .u64 y] 24)).alloc (by simp) (.cells #[.int .u64 0, .int .u64 0] 24))
  have X := Lib.hid (Box.alloc (box_at w x y 24 w.heap.size rfl) (.cells #[.int .u64 0, .int .u64 0] 24))
  have Y := Lib.hid (box_at (w.alloc (.cells #[.int .u64 x, .int .u64 y] 24)) 0 0 24 (w.heap.size + 1) (by simp))
  go_enter Try.func29, Try.ntmps29
  go_wp2
  obtain ⟨w1, hw1⟩ : ∃ w1, (w.alloc (.cells #[.int .u64 x, .int .u64 y] 24)).alloc (.cells #[.int .u64 0, .int .u64 0] 24) = w1 := ⟨_, rfl⟩
  rw [hw1] at X Y HB
  obtain ⟨x0, x1, x2, x3⟩ := X.out
  try rw [hw1]
  clear hw1
  go_quiet (fail)
  go_wp2_with fail
  refine (PA.out _ _ _).mono ?_
  rintro e w2 ⟨rfl, hb2⟩
  have Y2 := Lib.hid (Y.out.below (w := w1) (bel_drewN _ (Below.refl _ _) |>.trans hb2))
  have B2 := Lib.hid (HB.out.trans ((bel_drewN _ (Below.refl _ _) |>.trans hb2 : Below w1.heap.size w1 w2).mono HB.out.size))
  clear hb2
  obtain ⟨y0, y1, y2, y3⟩ := Y2.out
  go_wp2
  refine bodyPost_ret (v := .agg #[.int .u64 (1099511627775), .int .u64 (1099511627776)]) (by simp [results, Try.results29, go_sem, y0, y1]) rfl ⟨rfl, ?_⟩
  exact ((B2.out.setCell (by first | omega | (simp; done) | (simp; omega)) _).setCell (by first | omega | (simp; done) | (simp; omega)) _)
set_option maxRecDepth 100000 in
set_option maxHeartbeats 2000000 in
theorem fit_same (x y u : Int) (w : World) (hx : x.tmod 1099511627777 = u) (hy : y.tmod 1099511627777 = u) (h0 : 0 ≤ u) (h : u < 1099511627776) :
    Calls Try.prog 29 #[.agg #[.int .u64 x, .int .u64 y]] w fun e w' => e = .returned (.agg #[.int .u64 (u), .int .u64 (u + 1)]) ∧ Below w.heap.size w w' := by
  have PA := Lib.hid P_any
  have t2 : (u == u) = true := by simp
  have t3 : (u == 1099511627776) = false := by simp; omega
  have t1 : decide (u < u) = false := by simp
  have t4 : IntKind.u64.wrap (u + 1) = u + 1 := IntWalk.u64_in _ (by omega)
  have HB := Lib.hid (((Below.refl w.heap.size w).alloc (Nat.le_refl _) (.cells #[.int .u64 x, .int .u64 y] 24)).alloc (by simp) (.cells #[.int .u64 0, .int .u64 0] 24))
  have X := Lib.hid (Box.alloc (box_at w x y 24 w.heap.size rfl) (.cells #[.int .u64 0, .int .u64 0] 24))
  have Y := Lib.hid (box_at (w.alloc (.cells #[.int .u64 x, .int .u64 y] 24)) 0 0 24 (w.heap.size + 1) (by simp))
  go_enter Try.func29, Try.ntmps29
  go_wp2
  obtain ⟨w1, hw1⟩ : ∃ w1, (w.alloc (.cells #[.int .u64 x, .int .u64 y] 24)).alloc (.cells #[.int .u64 0, .int .u64 0] 24) = w1 := ⟨_, rfl⟩
  rw [hw1] at X Y HB
  obtain ⟨x0, x1, x2, x3⟩ := X.out
  try rw [hw1]
  clear hw1
  go_quiet (fail)
  go_wp2_with fail
  refine (PA.out _ _ _).mono ?_
  rintro e w2 ⟨rfl, hb2⟩
  have Y2 := Lib.hid (Y.out.below (w := w1) (bel_drewN _ (Below.refl _ _) |>.trans hb2))
  have B2 := Lib.hid (HB.out.trans ((bel_drewN _ (Below.refl _ _) |>.trans hb2 : Below w1.heap.size w1 w2).mono HB.out.size))
  clear hb2
  obtain ⟨y0, y1, y2, y3⟩ := Y2.out
  go_wp2
  refine bodyPost_ret (v := .agg #[.int .u64 (u), .int .u64 (u + 1)]) (by simp [results, Try.results29, go_sem, y0, y1]) rfl ⟨rfl, ?_⟩
  exact ((B2.out.setCell (by first | omega | (simp; done) | (simp; omega)) _).setCell (by first | omega | (simp; done) | (simp; omega)) _)
/-- What fit gives may be. -/
theorem fit_any (x y : Int) (hx : 0 ≤ x) (hy : 0 ≤ y) : ∃ a b : Int, 0 ≤ a ∧ a < b ∧ b ≤ 1099511627776 ∧ ∀ w, Calls Try.prog 29 #[.agg #[.int .u64 x, .int .u64 y]] w fun e w' => e = .returned (.agg #[.int .u64 a, .int .u64 b]) ∧ Below w.heap.size w w' := by
  have h1 : 0 ≤ x.tmod 1099511627777 := Int.tmod_nonneg _ hx
  have h2 : x.tmod 1099511627777 < 1099511627777 := Int.tmod_lt_of_pos _ (by decide)
  have h3 : 0 ≤ y.tmod 1099511627777 := Int.tmod_nonneg _ hy
  have h4 : y.tmod 1099511627777 < 1099511627777 := Int.tmod_lt_of_pos _ (by decide)
  obtain ⟨u, hu⟩ : ∃ u, x.tmod 1099511627777 = u := ⟨_, rfl⟩
  obtain ⟨v, hv⟩ : ∃ v, y.tmod 1099511627777 = v := ⟨_, rfl⟩
  rw [hu] at h1 h2
  rw [hv] at h3 h4
  rcases Int.lt_trichotomy u v with h | h | h
  · exact ⟨u, v, h1, h, by omega, fun w => fit_low x y u v w hu hv h⟩
  · subst h
    by_cases e : u = 1099511627776
    · subst e
      exact ⟨1099511627775, 1099511627776, by decide, by decide, by decide, fun w => fit_last x y w hu hv⟩
    · exact ⟨u, u + 1, h1, by omega, by omega, fun w => fit_same x y u w hu hv h1 (by omega)⟩
  · exact ⟨v, u, h3, h, by omega, fun w => fit_high x y u v w hu hv h⟩
end Go.Proofs.Ytbdlmidkkdmkpaa
