/- The document's Minus; Same. -/
import Derived.Test.YtbdlmidkkdmkpaaP10
namespace Go.Proofs.Ytbdlmidkkdmkpaa
open Go.RowKit
set_option maxRecDepth 100000 in
set_option maxHeartbeats 4000000 in
theorem refMinus_no (a b c d : Int) (w : World) (h1 : mayB a b = false) : Calls Try.prog 22 #[.agg #[.int .u64 a, .int .u64 b], .agg #[.int .u64 c, .int .u64 d]] w fun e w' => e = .returned (.slice none 0 0) ∧ Below w.heap.size w w' := by
  have hM := refMay_any a b
  rw [h1] at hM
  have HM := Lib.hid hM
  clear hM h1
  go_enter Try.func22, Try.ntmps22
  go_wp2_with fail
  refine (HM.out _).mono ?_
  rintro e w1 ⟨rfl, hb1⟩
  go_wp2
  go_ret
  exact ⟨rfl, (((Below.refl _ _).alloc (Nat.le_refl _) _).alloc (by simp) _).trans (hb1.mono (by simp <;> omega))⟩
set_option maxRecDepth 100000 in
set_option maxHeartbeats 4000000 in
theorem refMinus_all (a b c d : Int) (w : World) (h1 : mayB a b = true) (h2 : meetB a b c d = false) : Calls Try.prog 22 #[.agg #[.int .u64 a, .int .u64 b], .agg #[.int .u64 c, .int .u64 d]] w fun e w' => ∃ A c, e = .returned (.slice A 1 c) ∧ AtP w' A [(a, b)] ∧ Below w.heap.size w w' := by
  have hM := refMay_any a b
  rw [h1] at hM
  have hN := refMeet_any a b c d
  rw [(meet_no h2).1, (meet_no h2).2, h2] at hN
  clear h1 h2
  have HM := Lib.hid hM
  have HN := Lib.hid hN
  clear hM hN
  go_enter Try.func22, Try.ntmps22
  go_wp2_with fail
  refine (HM.out _).mono ?_
  rintro e w1 ⟨rfl, hb1⟩
  have X1 := Lib.hid (Box.below (Box.alloc (box_at _ a b 24 w.heap.size rfl) _) hb1)
  have Y1 := Lib.hid (Box.below (box_at _ c d 24 (w.heap.size + 1) (by simp)) hb1)
  have S1 := Lib.hid ((((Below.refl _ _).alloc (Nat.le_refl _) _).alloc (by simp) _).trans (hb1.mono (by simp <;> omega)))
  clear hb1
  obtain ⟨x0, x1, x2, x3⟩ := X1.out
  obtain ⟨y0, y1, y2, y3⟩ := Y1.out
  go_wp2_with fail
  refine (HN.out _).mono ?_
  rintro e w2 ⟨rfl, hb2⟩
  have X2 := Lib.hid (X1.out.below hb2)
  have Y2 := Lib.hid (Y1.out.below hb2)
  have S2 := Lib.hid (S1.out.trans (hb2.mono (by omega)))
  have hs2 := hb2.size
  clear hb2 x0 x1 x2 x3 y0 y1 y2 y3
  obtain ⟨x0, x1, x2, x3⟩ := X2.out
  obtain ⟨y0, y1, y2, y3⟩ := Y2.out
  have U2 := Lib.hid ((Below.refl w2.heap.size w2).alloc (Nat.le_refl _) (.cells #[.int .u64 0, .int .u64 0] 24))
  go_wp2_with (at_builtin; refine wpList_appP rfl (.tmp 20) (.tmp 22) rfl w2.heap.size _ [] rfl (OwnP.nil _ _) (w2.heap.size + 1) a b rfl (by go_simp) (by go_simp) (by simp) (by first | omega | (simp; done) | (simp; omega)) ?_; intro v3 w3 ho3 hb3 _; have O3 := Lib.hid ho3; have U3 := Lib.hid ((U2.out.alloc (by first | omega | (simp; done) | (simp; omega)) (.cells #[.int .u64 a, .int .u64 b] 24)).trans hb3); clear ho3 hb3)
  go_ret
  obtain ⟨A, k, e, hA⟩ := O3.out.at
  exact ⟨A, k, retv e, hA, S2.out.trans (U3.out.mono S2.out.size)⟩
set_option maxRecDepth 100000 in
set_option maxHeartbeats 4000000 in
theorem refMinus_11 (a b c d : Int) (w : World) (h : meetB a b c d = true) (x1 : a < c) (x2 : d < b) : Calls Try.prog 22 #[.agg #[.int .u64 a, .int .u64 b], .agg #[.int .u64 c, .int .u64 d]] w fun e w' => ∃ A k, e = .returned (.slice A 2 k) ∧ AtP w' A [(a, c), (d, b)] ∧ Below w.heap.size w w' := by
  have hM := refMay_any a b
  rw [minus_some h] at hM
  have hN := refMeet_any a b c d
  rw [(meet_yes h).1, (meet_yes h).2, h, mx_yes x1, mn_yes x2] at hN
  have t1 : decide (a < c) = true := decide_eq_true x1
  have t2 : decide (d < b) = true := decide_eq_true x2
  clear h x1 x2
  have HM := Lib.hid hM
  have HN := Lib.hid hN
  clear hM hN
  go_enter Try.func22, Try.ntmps22
  go_wp2_with fail
  refine (HM.out _).mono ?_
  rintro e w1 ⟨rfl, hb1⟩
  have X1 := Lib.hid (Box.below (Box.alloc (box_at _ a b 24 w.heap.size rfl) _) hb1)
  have Y1 := Lib.hid (Box.below (box_at _ c d 24 (w.heap.size + 1) (by simp)) hb1)
  have S1 := Lib.hid ((((Below.refl _ _).alloc (Nat.le_refl _) _).alloc (by simp) _).trans (hb1.mono (by simp <;> omega)))
  clear hb1
  obtain ⟨x0, x1, x2, x3⟩ := X1.out
  obtain ⟨y0, y1, y2, y3⟩ := Y1.out
  go_wp2_with fail
  refine (HN.out _).mono ?_
  rintro e w2 ⟨rfl, hb2⟩
  have X2 := Lib.hid (X1.out.below hb2)
  have Y2 := Lib.hid (Y1.out.below hb2)
  have S2 := Lib.hid (S1.out.trans (hb2.mono (by omega)))
  have hs2 := hb2.size
  clear hb2 x0 x1 x2 x3 y0 y1 y2 y3
  obtain ⟨x0, x1, x2, x3⟩ := X2.out
  obtain ⟨y0, y1, y2, y3⟩ := Y2.out
  have U2 := Lib.hid ((Below.refl w2.heap.size w2).alloc (Nat.le_refl _) (.cells #[.int .u64 c, .int .u64 d] 24))
  go_wp2_with (first | (at_builtin; refine wpList_appP rfl (.tmp 29) (.tmp 35) rfl w2.heap.size _ [] rfl (OwnP.nil _ _) (w2.heap.size + 1) a c rfl (by go_simp) (by go_simp) (by simp) (by first | omega | (simp; done) | (simp; omega)) ?_; intro v3 w3 ho3 hb3 _; have O3 := Lib.hid ho3; have U3 := Lib.hid ((U2.out.alloc (by first | omega | (simp; done) | (simp; omega)) (.cells #[.int .u64 a, .int .u64 c] 24)).trans hb3); have X3 := Lib.hid (X2.out.below U3.out); have Y3 := Lib.hid (Y2.out.below U3.out); clear ho3 hb3 x0 x1 x2 x3 y0 y1 y2 y3; obtain ⟨x0, x1, x2, x3⟩ := X3.out; obtain ⟨y0, y1, y2, y3⟩ := Y3.out; have hs3 := U3.out.size) | (at_builtin; refine wpList_appP rfl (.tmp 42) (.tmp 48) rfl w2.heap.size _ [(a, c)] rfl (O3.out.alloc _) (w3.heap.size) d b rfl (by go_simp) (by go_simp) (by simp) (by first | omega | (simp; done) | (simp; omega)) ?_; intro v4 w4 ho4 hb4 _; have O4 := Lib.hid ho4; have U4 := Lib.hid ((U3.out.alloc (by first | omega | (simp; done) | (simp; omega)) (.cells #[.int .u64 d, .int .u64 b] 24)).trans hb4); clear ho4 hb4))
  go_ret
  obtain ⟨A, k, e, hA⟩ := O4.out.at
  exact ⟨A, k, retv e, hA, S2.out.trans (U4.out.mono S2.out.size)⟩
set_option maxRecDepth 100000 in
set_option maxHeartbeats 4000000 in
theorem refMinus_10 (a b c d : Int) (w : World) (h : meetB a b c d = true) (x1 : a < c) (x2 : ¬ d < b) : Calls Try.prog 22 #[.agg #[.int .u64 a, .int .u64 b], .agg #[.int .u64 c, .int .u64 d]] w fun e w' => ∃ A k, e = .returned (.slice A 1 k) ∧ AtP w' A [(a, c)] ∧ Below w.heap.size w w' := by
  have hM := refMay_any a b
  rw [minus_some h] at hM
  have hN := refMeet_any a b c d
  rw [(meet_yes h).1, (meet_yes h).2, h, mx_yes x1, mn_no x2] at hN
  have t1 : decide (a < c) = true := decide_eq_true x1
  have t2 : decide (d < b) = false := decide_eq_false x2
  clear h x1 x2
  have HM := Lib.hid hM
  have HN := Lib.hid hN
  clear hM hN
  go_enter Try.func22, Try.ntmps22
  go_wp2_with fail
  refine (HM.out _).mono ?_
  rintro e w1 ⟨rfl, hb1⟩
  have X1 := Lib.hid (Box.below (Box.alloc (box_at _ a b 24 w.heap.size rfl) _) hb1)
  have Y1 := Lib.hid (Box.below (box_at _ c d 24 (w.heap.size + 1) (by simp)) hb1)
  have S1 := Lib.hid ((((Below.refl _ _).alloc (Nat.le_refl _) _).alloc (by simp) _).trans (hb1.mono (by simp <;> omega)))
  clear hb1
  obtain ⟨x0, x1, x2, x3⟩ := X1.out
  obtain ⟨y0, y1, y2, y3⟩ := Y1.out
  go_wp2_with fail
  refine (HN.out _).mono ?_
  rintro e w2 ⟨rfl, hb2⟩
  have X2 := Lib.hid (X1.out.below hb2)
  have Y2 := Lib.hid (Y1.out.below hb2)
  have S2 := Lib.hid (S1.out.trans (hb2.mono (by omega)))
  have hs2 := hb2.size
  clear hb2 x0 x1 x2 x3 y0 y1 y2 y3
  obtain ⟨x0, x1, x2, x3⟩ := X2.out
  obtain ⟨y0, y1, y2, y3⟩ := Y2.out
  have U2 := Lib.hid ((Below.refl w2.heap.size w2).alloc (Nat.le_refl _) (.cells #[.int .u64 c, .int .u64 b] 24))
  go_wp2_with (at_builtin; refine wpList_appP rfl (.tmp 29) (.tmp 35) rfl w2.heap.size _ [] rfl (OwnP.nil _ _) (w2.heap.size + 1) a c rfl (by go_simp) (by go_simp) (by simp) (by first | omega | (simp; done) | (simp; omega)) ?_; intro v3 w3 ho3 hb3 _; have O3 := Lib.hid ho3; have U3 := Lib.hid ((U2.out.alloc (by first | omega | (simp; done) | (simp; omega)) (.cells #[.int .u64 a, .int .u64 c] 24)).trans hb3); have X3 := Lib.hid (X2.out.below U3.out); have Y3 := Lib.hid (Y2.out.below U3.out); clear ho3 hb3 x0 x1 x2 x3 y0 y1 y2 y3; obtain ⟨x0, x1, x2, x3⟩ := X3.out; obtain ⟨y0, y1, y2, y3⟩ := Y3.out; have hs3 := U3.out.size)
  go_ret
  obtain ⟨A, k, e, hA⟩ := O3.out.at
  exact ⟨A, k, retv e, hA, S2.out.trans (U3.out.mono S2.out.size)⟩
set_option maxRecDepth 100000 in
set_option maxHeartbeats 4000000 in
theorem refMinus_01 (a b c d : Int) (w : World) (h : meetB a b c d = true) (x1 : ¬ a < c) (x2 : d < b) : Calls Try.prog 22 #[.agg #[.int .u64 a, .int .u64 b], .agg #[.int .u64 c, .int .u64 d]] w fun e w' => ∃ A k, e = .returned (.slice A 1 k) ∧ AtP w' A [(d, b)] ∧ Below w.heap.size w w' := by
  have hM := refMay_any a b
  rw [minus_some h] at hM
  have hN := refMeet_any a b c d
  rw [(meet_yes h).1, (meet_yes h).2, h, mx_no x1, mn_yes x2] at hN
  have t1 : decide (a < c) = false := decide_eq_false x1
  have t2 : decide (d < b) = true := decide_eq_true x2
  clear h x1 x2
  have HM := Lib.hid hM
  have HN := Lib.hid hN
  clear hM hN
  go_enter Try.func22, Try.ntmps22
  go_wp2_with fail
  refine (HM.out _).mono ?_
  rintro e w1 ⟨rfl, hb1⟩
  have X1 := Lib.hid (Box.below (Box.alloc (box_at _ a b 24 w.heap.size rfl) _) hb1)
  have Y1 := Lib.hid (Box.below (box_at _ c d 24 (w.heap.size + 1) (by simp)) hb1)
  have S1 := Lib.hid ((((Below.refl _ _).alloc (Nat.le_refl _) _).alloc (by simp) _).trans (hb1.mono (by simp <;> omega)))
  clear hb1
  obtain ⟨x0, x1, x2, x3⟩ := X1.out
  obtain ⟨y0, y1, y2, y3⟩ := Y1.out
  go_wp2_with fail
  refine (HN.out _).mono ?_
  rintro e w2 ⟨rfl, hb2⟩
  have X2 := Lib.hid (X1.out.below hb2)
  have Y2 := Lib.hid (Y1.out.below hb2)
  have S2 := Lib.hid (S1.out.trans (hb2.mono (by omega)))
  have hs2 := hb2.size
  clear hb2 x0 x1 x2 x3 y0 y1 y2 y3
  obtain ⟨x0, x1, x2, x3⟩ := X2.out
  obtain ⟨y0, y1, y2, y3⟩ := Y2.out
  have U2 := Lib.hid ((Below.refl w2.heap.size w2).alloc (Nat.le_refl _) (.cells #[.int .u64 a, .int .u64 d] 24))
  go_wp2_with (at_builtin; refine wpList_appP rfl (.tmp 42) (.tmp 48) rfl w2.heap.size _ [] rfl (OwnP.nil _ _) (w2.heap.size + 1) d b rfl (by go_simp) (by go_simp) (by simp) (by first | omega | (simp; done) | (simp; omega)) ?_; intro v3 w3 ho3 hb3 _; have O3 := Lib.hid ho3; have U3 := Lib.hid ((U2.out.alloc (by first | omega | (simp; done) | (simp; omega)) (.cells #[.int .u64 d, .int .u64 b] 24)).trans hb3); clear ho3 hb3)
  go_ret
  obtain ⟨A, k, e, hA⟩ := O3.out.at
  exact ⟨A, k, retv e, hA, S2.out.trans (U3.out.mono S2.out.size)⟩
set_option maxRecDepth 100000 in
set_option maxHeartbeats 4000000 in
theorem refMinus_00 (a b c d : Int) (w : World) (h : meetB a b c d = true) (x1 : ¬ a < c) (x2 : ¬ d < b) : Calls Try.prog 22 #[.agg #[.int .u64 a, .int .u64 b], .agg #[.int .u64 c, .int .u64 d]] w fun e w' => ∃ A k, e = .returned (.slice A 0 k) ∧ AtP w' A [] ∧ Below w.heap.size w w' := by
  have hM := refMay_any a b
  rw [minus_some h] at hM
  have hN := refMeet_any a b c d
  rw [(meet_yes h).1, (meet_yes h).2, h, mx_no x1, mn_no x2] at hN
  have t1 : decide (a < c) = false := decide_eq_false x1
  have t2 : decide (d < b) = false := decide_eq_false x2
  clear h x1 x2
  have HM := Lib.hid hM
  have HN := Lib.hid hN
  clear hM hN
  go_enter Try.func22, Try.ntmps22
  go_wp2_with fail
  refine (HM.out _).mono ?_
  rintro e w1 ⟨rfl, hb1⟩
  have X1 := Lib.hid (Box.below (Box.alloc (box_at _ a b 24 w.heap.size rfl) _) hb1)
  have Y1 := Lib.hid (Box.below (box_at _ c d 24 (w.heap.size + 1) (by simp)) hb1)
  have S1 := Lib.hid ((((Below.refl _ _).alloc (Nat.le_refl _) _).alloc (by simp) _).trans (hb1.mono (by simp <;> omega)))
  clear hb1
  obtain ⟨x0, x1, x2, x3⟩ := X1.out
  obtain ⟨y0, y1, y2, y3⟩ := Y1.out
  go_wp2_with fail
  refine (HN.out _).mono ?_
  rintro e w2 ⟨rfl, hb2⟩
  have X2 := Lib.hid (X1.out.below hb2)
  have Y2 := Lib.hid (Y1.out.below hb2)
  have S2 := Lib.hid (S1.out.trans (hb2.mono (by omega)))
  have hs2 := hb2.size
  clear hb2 x0 x1 x2 x3 y0 y1 y2 y3
  obtain ⟨x0, x1, x2, x3⟩ := X2.out
  obtain ⟨y0, y1, y2, y3⟩ := Y2.out
  have U2 := Lib.hid ((Below.refl w2.heap.size w2).alloc (Nat.le_refl _) (.cells #[.int .u64 a, .int .u64 b] 24))
  go_wp2
  go_ret
  exact ⟨none, 0, rfl, fun h => absurd h (by simp), S2.out.trans (U2.out.mono S2.out.size)⟩
end Go.Proofs.Ytbdlmidkkdmkpaa
