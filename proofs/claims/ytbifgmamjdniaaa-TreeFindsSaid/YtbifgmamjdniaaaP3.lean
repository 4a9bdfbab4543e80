/- The document's Meet; Hull, both; the document's Relation. -/
import Derived.Test.YtbifgmamjdniaaaP2
namespace Go.Proofs.Ytbifgmamjdniaaa
open Go.RowKit
theorem may_both {a b c d : Int} (h1 : mayB a b = true) (h2 : mayB c d = true) : mayB (mx a c) (mn b d) = decide (mx a c < mn b d) := by
  simp only [mayB, Bool.and_eq_true, decide_eq_true_eq] at h1 h2
  have : mn b d ≤ 1099511627776 := by unfold mn; split <;> omega
  simp [mayB, this]
set_option maxRecDepth 100000 in
set_option maxHeartbeats 2000000 in
theorem refMeet_any (a b c d : Int) (w : World) : Calls Try.prog 41 #[.agg #[.int .u64 a, .int .u64 b], .agg #[.int .u64 c, .int .u64 d]] w fun e w' => e = .returned (.tuple #[.agg #[.int .u64 (meetF a b c d), .int .u64 (meetT a b c d)], .bool (meetB a b c d)]) ∧ Below w.heap.size w w' := by
  have hM := refMay_any a b
  have hN := refMay_any c d
  cases h1 : mayB a b
  · have hm : meetB a b c d = false := by simp [meetB, h1]
    obtain ⟨e1, e2⟩ := meet_no hm
    rw [hm, e1, e2]
    rw [h1] at hM
    have HM := Lib.hid hM
    clear hM hN h1 hm e1 e2
    go_enter Try.func41, Try.ntmps41
    go_wp2_with fail
    refine (HM.out _).mono ?_
    rintro e w1 ⟨rfl, hb1⟩
    have hz1 := hb1.size
    simp at hz1
    have X10 : Hid (Box w1 (w.heap.size) (a) (b)) := Lib.hid (Box.below (Box.alloc (Box.alloc (box_at _ (a) (b) 32 _ (by simp)) _) _) hb1)
    have X11 : Hid (Box w1 (w.heap.size + 1) (c) (d)) := Lib.hid (Box.below (Box.alloc (box_at _ (c) (d) 32 _ (by simp)) _) hb1)
    have X12 : Hid (Box w1 (w.heap.size + 1 + 1) (0) (0)) := Lib.hid (Box.below (box_at _ (0) (0) 32 _ (by simp)) hb1)
    have S1 : Hid (Below w.heap.size w w1) := Lib.hid ((((((Below.refl _ _).alloc (Nat.le_refl _) _).alloc (by simp <;> omega) _).alloc (by simp <;> omega) _).trans (hb1.mono (by simp <;> omega))))
    obtain ⟨x10, y10, f10, l10⟩ := X10.out
    obtain ⟨x11, y11, f11, l11⟩ := X11.out
    obtain ⟨x12, y12, f12, l12⟩ := X12.out
    clear hb1
    go_wp2
    refine bodyPost_ret (v := .tuple #[.agg #[.int .u64 0, .int .u64 0], .bool false]) (by simp [results, Try.results41, go_sem, x12, y12]) rfl ⟨rfl, ?_⟩
    exact ((S1.out.setCell (by first | omega | (simp; done) | (simp; omega)) _).setCell (by first | omega | (simp; done) | (simp; omega)) _)
  rw [h1] at hM
  have HM := Lib.hid hM
  clear hM
  cases h2 : mayB c d
  · have hm : meetB a b c d = false := by simp [meetB, h2]
    obtain ⟨e1, e2⟩ := meet_no hm
    rw [hm, e1, e2]
    rw [h2] at hN
    have HN := Lib.hid hN
    clear hN h1 h2 hm e1 e2
    go_enter Try.func41, Try.ntmps41
    go_wp2_with fail
    refine (HM.out _).mono ?_
    rintro e w1 ⟨rfl, hb1⟩
    have hz1 := hb1.size
    simp at hz1
    have X10 : Hid (Box w1 (w.heap.size) (a) (b)) := Lib.hid (Box.below (Box.alloc (Box.alloc (box_at _ (a) (b) 32 _ (by simp)) _) _) hb1)
    have X11 : Hid (Box w1 (w.heap.size + 1) (c) (d)) := Lib.hid (Box.below (Box.alloc (box_at _ (c) (d) 32 _ (by simp)) _) hb1)
    have X12 : Hid (Box w1 (w.heap.size + 1 + 1) (0) (0)) := Lib.hid (Box.below (box_at _ (0) (0) 32 _ (by simp)) hb1)
    have S1 : Hid (Below w.heap.size w w1) := Lib.hid ((((((Below.refl _ _).alloc (Nat.le_refl _) _).alloc (by simp <;> omega) _).alloc (by simp <;> omega) _).trans (hb1.mono (by simp <;> omega))))
    obtain ⟨x10, y10, f10, l10⟩ := X10.out
    obtain ⟨x11, y11, f11, l11⟩ := X11.out
    obtain ⟨x12, y12, f12, l12⟩ := X12.out
    clear hb1
    go_wp2_with fail
    refine (HN.out _).mono ?_
    rintro e w2 ⟨rfl, hb2⟩
    have hz2 := hb2.size
    have X20 : Hid (Box w2 (w.heap.size) (a) (b)) := Lib.hid (Box.below X10.out hb2)
    have X21 : Hid (Box w2 (w.heap.size + 1) (c) (d)) := Lib.hid (Box.below X11.out hb2)
    have X22 : Hid (Box w2 (w.heap.size + 1 + 1) (0) (0)) := Lib.hid (Box.below X12.out hb2)
    have S2 : Hid (Below w.heap.size w w2) := Lib.hid (S1.out.trans (hb2.mono (by omega)))
    clear x10 y10 f10 l10 x11 y11 f11 l11 x12 y12 f12 l12
    obtain ⟨x20, y20, f20, l20⟩ := X20.out
    obtain ⟨x21, y21, f21, l21⟩ := X21.out
    obtain ⟨x22, y22, f22, l22⟩ := X22.out
    clear hb2
    go_wp2
    refine bodyPost_ret (v := .tuple #[.agg #[.int .u64 0, .int .u64 0], .bool false]) (by simp [results, Try.results41, go_sem, x22, y22]) rfl ⟨rfl, ?_⟩
    exact ((S2.out.setCell (by first | omega | (simp; done) | (simp; omega)) _).setCell (by first | omega | (simp; done) | (simp; omega)) _)
  rw [h2] at hN
  have HN := Lib.hid hN
  clear hN
  have hB : meetB a b c d = decide (mx a c < mn b d) := by simp [meetB, h1, h2, may_both h1 h2]
  clear h1 h2
  by_cases x3 : mx a c < mn b d
  · rw [decide_eq_true x3] at hB
    obtain ⟨e1, e2⟩ := meet_yes hB
    rw [hB, e1, e2]
    clear hB e1 e2
    by_cases x1 : a < c <;> by_cases x2 : d < b
    all_goals as_aux_lemma =>
      (first | rw [mx_yes x1] at x3 ⊢ | rw [mx_no x1] at x3 ⊢)
      (first | rw [mn_yes x2] at x3 ⊢ | rw [mn_no x2] at x3 ⊢)
      go_enter Try.func41, Try.ntmps41
      go_wp2_with fail
      refine (HM.out _).mono ?_
      rintro e w1 ⟨rfl, hb1⟩
      have hz1 := hb1.size
      simp at hz1
      have X10 : Hid (Box w1 (w.heap.size) (a) (b)) := Lib.hid (Box.below (Box.alloc (Box.alloc (box_at _ (a) (b) 32 _ (by simp)) _) _) hb1)
      have X11 : Hid (Box w1 (w.heap.size + 1) (c) (d)) := Lib.hid (Box.below (Box.alloc (box_at _ (c) (d) 32 _ (by simp)) _) hb1)
      have X12 : Hid (Box w1 (w.heap.size + 1 + 1) (0) (0)) := Lib.hid (Box.below (box_at _ (0) (0) 32 _ (by simp)) hb1)
      have S1 : Hid (Below w.heap.size w w1) := Lib.hid ((((((Below.refl _ _).alloc (Nat.le_refl _) _).alloc (by simp <;> omega) _).alloc (by simp <;> omega) _).trans (hb1.mono (by simp <;> omega))))
      obtain ⟨x10, y10, f10, l10⟩ := X10.out
      obtain ⟨x11, y11, f11, l11⟩ := X11.out
      obtain ⟨x12, y12, f12, l12⟩ := X12.out
      clear hb1
      go_wp2_with fail
      refine (HN.out _).mono ?_
      rintro e w2 ⟨rfl, hb2⟩
      have hz2 := hb2.size
      have X20 : Hid (Box w2 (w.heap.size) (a) (b)) := Lib.hid (Box.below X10.out hb2)
      have X21 : Hid (Box w2 (w.heap.size + 1) (c) (d)) := Lib.hid (Box.below X11.out hb2)
      have X22 : Hid (Box w2 (w.heap.size + 1 + 1) (0) (0)) := Lib.hid (Box.below X12.out hb2)
      have S2 : Hid (Below w.heap.size w w2) := Lib.hid (S1.out.trans (hb2.mono (by omega)))
      clear x10 y10 f10 l10 x11 y11 f11 l11 x12 y12 f12 l12
      obtain ⟨x20, y20, f20, l20⟩ := X20.out
      obtain ⟨x21, y21, f21, l21⟩ := X21.out
      obtain ⟨x22, y22, f22, l22⟩ := X22.out
      clear hb2
      go_wp2
      refine bodyPost_ret (v := .tuple #[.agg #[.int .u64 _, .int .u64 _], .bool true]) (by simp [results, Try.results41, go_sem, x22, y22, l22]) rfl ⟨rfl, ?_⟩
      exact (((S2.out.setCell (by first | omega | (simp; done) | (simp; omega)) _).setCell (by first | omega | (simp; done) | (simp; omega)) _).alloc (by simp <;> omega) _)
  · rw [decide_eq_false x3] at hB
    obtain ⟨e1, e2⟩ := meet_no hB
    rw [hB, e1, e2]
    clear hB e1 e2
    by_cases x1 : a < c <;> by_cases x2 : d < b
    all_goals as_aux_lemma =>
      (first | rw [mx_yes x1] at x3 | rw [mx_no x1] at x3)
      (first | rw [mn_yes x2] at x3 | rw [mn_no x2] at x3)
      go_enter Try.func41, Try.ntmps41
      go_wp2_with fail
      refine (HM.out _).mono ?_
      rintro e w1 ⟨rfl, hb1⟩
      have hz1 := hb1.size
      simp at hz1
      have X10 : Hid (Box w1 (w.heap.size) (a) (b)) := Lib.hid (Box.below (Box.alloc (Box.alloc (box_at _ (a) (b) 32 _ (by simp)) _) _) hb1)
      have X11 : Hid (Box w1 (w.heap.size + 1) (c) (d)) := Lib.hid (Box.below (Box.alloc (box_at _ (c) (d) 32 _ (by simp)) _) hb1)
      have X12 : Hid (Box w1 (w.heap.size + 1 + 1) (0) (0)) := Lib.hid (Box.below (box_at _ (0) (0) 32 _ (by simp)) hb1)
      have S1 : Hid (Below w.heap.size w w1) := Lib.hid ((((((Below.refl _ _).alloc (Nat.le_refl _) _).alloc (by simp <;> omega) _).alloc (by simp <;> omega) _).trans (hb1.mono (by simp <;> omega))))
      obtain ⟨x10, y10, f10, l10⟩ := X10.out
      obtain ⟨x11, y11, f11, l11⟩ := X11.out
      obtain ⟨x12, y12, f12, l12⟩ := X12.out
      clear hb1
      go_wp2_with fail
      refine (HN.out _).mono ?_
      rintro e w2 ⟨rfl, hb2⟩
      have hz2 := hb2.size
      have X20 : Hid (Box w2 (w.heap.size) (a) (b)) := Lib.hid (Box.below X10.out hb2)
      have X21 : Hid (Box w2 (w.heap.size + 1) (c) (d)) := Lib.hid (Box.below X11.out hb2)
      have X22 : Hid (Box w2 (w.heap.size + 1 + 1) (0) (0)) := Lib.hid (Box.below X12.out hb2)
      have S2 : Hid (Below w.heap.size w w2) := Lib.hid (S1.out.trans (hb2.mono (by omega)))
      clear x10 y10 f10 l10 x11 y11 f11 l11 x12 y12 f12 l12
      obtain ⟨x20, y20, f20, l20⟩ := X20.out
      obtain ⟨x21, y21, f21, l21⟩ := X21.out
      obtain ⟨x22, y22, f22, l22⟩ := X22.out
      clear hb2
      go_wp2
      refine bodyPost_ret (v := .tuple #[.agg #[.int .u64 0, .int .u64 0], .bool false]) (by simp [results, Try.results41, go_sem, x22, y22, l22]) rfl ⟨rfl, ?_⟩
      exact (((S2.out.setCell (by first | omega | (simp; done) | (simp; omega)) _).setCell (by first | omega | (simp; done) | (simp; omega)) _).alloc (by simp <;> omega) _)
/-- Hull. -/
def bothB (a b c d : Int) : Bool := mayB a b && mayB c d
def hullF (a b c d : Int) : Int := if bothB a b c d = true then mn a c else 0
def hullT (a b c d : Int) : Int := if bothB a b c d = true then mx b d else 0
def badE (a b c d : Int) : Int := if bothB a b c d = true then 0 else 1
theorem hull_no {a b c d : Int} (h : bothB a b c d = false) : hullF a b c d = 0 ∧ hullT a b c d = 0 ∧ badE a b c d = 1 := by simp [hullF, hullT, badE, h]
theorem hull_yes {a b c d : Int} (h : bothB a b c d = true) : hullF a b c d = mn a c ∧ hullT a b c d = mx b d ∧ badE a b c d = 0 := by simp [hullF, hullT, badE, h]
/-- The relation of two periods, by the order of their ends. -/
def relV (a b c d : Int) : Int := if b < c then 1 else if b = c then 2 else if d < a then 13 else if d = a then 12 else if a < c then (if b < d then 3 else if b = d then 8 else 9) else if a = c then (if b < d then 4 else if b = d then 7 else 10) else if b < d then 5 else if b = d then 6 else 11
def relR (a b c d : Int) : Int := if bothB a b c d = true then relV a b c d else 0
theorem rel_no {a b c d : Int} (h : bothB a b c d = false) : relR a b c d = 0 ∧ badE a b c d = 1 := by simp [relR, badE, h]
theorem rel_yes {a b c d : Int} (h : bothB a b c d = true) : relR a b c d = relV a b c d ∧ badE a b c d = 0 := by simp [relR, badE, h]
theorem ret2 {a b k : Int} {w w' : World} {B : Nat} (h : a = b) (hb : Below B w w') : Ending.returned (.tuple #[.int .i64 a, .int .i64 k]) = .returned (.tuple #[.int .i64 b, .int .i64 k]) ∧ Below B w w' := ⟨by rw [h], hb⟩
end Go.Proofs.Ytbifgmamjdniaaa
