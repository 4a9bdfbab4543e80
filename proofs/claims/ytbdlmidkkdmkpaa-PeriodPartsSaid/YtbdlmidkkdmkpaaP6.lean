/- Relation, for every two periods. -/
import Derived.Test.YtbdlmidkkdmkpaaP5
namespace Go.Proofs.Ytbdlmidkkdmkpaa
open Go.RowKit
theorem bel_drewN {B : Nat} {a w : World} (n : Nat) (h : Below B a w) : Below B a (w.drewN n) := ⟨h.os, h.tape, h.output, h.size, h.block⟩
theorem may_lt {a b : Int} (h : mayB a b = true) : a < b := by
  simp only [mayB, Bool.and_eq_true, decide_eq_true_eq] at h
  exact h.1
theorem tst_iff_1 {a b c d : Int} (_hp : a < b) (_hq : c < d) : tst 1 a b c d = true ↔ relV a b c d = 1 := by
  simp [tst, tst7]
  unfold relV
  (repeat' split) <;> omega
theorem tst_iff_2 {a b c d : Int} (_hp : a < b) (_hq : c < d) : tst 2 a b c d = true ↔ relV a b c d = 2 := by
  simp [tst, tst7]
  unfold relV
  (repeat' split) <;> omega
theorem tst_iff_3 {a b c d : Int} (_hp : a < b) (_hq : c < d) : tst 3 a b c d = true ↔ relV a b c d = 3 := by
  simp [tst, tst7]
  unfold relV
  (repeat' split) <;> omega
theorem tst_iff_4 {a b c d : Int} (_hp : a < b) (_hq : c < d) : tst 4 a b c d = true ↔ relV a b c d = 4 := by
  simp [tst, tst7]
  unfold relV
  (repeat' split) <;> omega
theorem tst_iff_5 {a b c d : Int} (_hp : a < b) (_hq : c < d) : tst 5 a b c d = true ↔ relV a b c d = 5 := by
  simp [tst, tst7]
  unfold relV
  (repeat' split) <;> omega
theorem tst_iff_6 {a b c d : Int} (_hp : a < b) (_hq : c < d) : tst 6 a b c d = true ↔ relV a b c d = 6 := by
  simp [tst, tst7]
  unfold relV
  (repeat' split) <;> omega
theorem tst_iff_7 {a b c d : Int} (_hp : a < b) (_hq : c < d) : tst 7 a b c d = true ↔ relV a b c d = 7 := by
  simp [tst, tst7]
  unfold relV
  (repeat' split) <;> omega
theorem tst_iff_8 {a b c d : Int} (_hp : a < b) (_hq : c < d) : tst 8 a b c d = true ↔ relV a b c d = 8 := by
  simp [tst, tst7]
  unfold relV
  (repeat' split) <;> omega
theorem tst_iff_9 {a b c d : Int} (_hp : a < b) (_hq : c < d) : tst 9 a b c d = true ↔ relV a b c d = 9 := by
  simp [tst, tst7]
  unfold relV
  (repeat' split) <;> omega
theorem tst_iff_10 {a b c d : Int} (_hp : a < b) (_hq : c < d) : tst 10 a b c d = true ↔ relV a b c d = 10 := by
  simp [tst, tst7]
  unfold relV
  (repeat' split) <;> omega
theorem tst_iff_11 {a b c d : Int} (_hp : a < b) (_hq : c < d) : tst 11 a b c d = true ↔ relV a b c d = 11 := by
  simp [tst, tst7]
  unfold relV
  (repeat' split) <;> omega
theorem tst_iff_12 {a b c d : Int} (_hp : a < b) (_hq : c < d) : tst 12 a b c d = true ↔ relV a b c d = 12 := by
  simp [tst, tst7]
  unfold relV
  (repeat' split) <;> omega
theorem tst_iff (r : Nat) (h1 : 1 ≤ r) (h2 : r ≤ 12) {a b c d : Int} (hp : a < b) (hq : c < d) : tst r a b c d = true ↔ relV a b c d = (r : Int) :=
  match r, h1, h2 with
  | 1, _, _ => tst_iff_1 hp hq
  | 2, _, _ => tst_iff_2 hp hq
  | 3, _, _ => tst_iff_3 hp hq
  | 4, _, _ => tst_iff_4 hp hq
  | 5, _, _ => tst_iff_5 hp hq
  | 6, _, _ => tst_iff_6 hp hq
  | 7, _, _ => tst_iff_7 hp hq
  | 8, _, _ => tst_iff_8 hp hq
  | 9, _, _ => tst_iff_9 hp hq
  | 10, _, _ => tst_iff_10 hp hq
  | 11, _, _ => tst_iff_11 hp hq
  | 12, _, _ => tst_iff_12 hp hq
theorem relV_range (a b c d : Int) : 1 ≤ relV a b c d ∧ relV a b c d ≤ 13 := by
  unfold relV
  (repeat' split) <;> omega
set_option maxRecDepth 100000 in
set_option maxHeartbeats 2000000 in
theorem Relation_any (a b c d : Int) (w : World) : Calls Try.prog 13 #[.agg #[.int .u64 a, .int .u64 b], .agg #[.int .u64 c, .int .u64 d]] w fun e w' => e = .returned (.tuple #[.int .i64 (relR a b c d), .int .i64 (badE a b c d)]) ∧ Below w.heap.size w w' := by
  have hM := May_any a b
  have hN := May_any c d
  cases h1 : mayB a b
  · have hm : bothB a b c d = false := by simp [bothB, h1]
    obtain ⟨e1, e2⟩ := rel_no hm
    rw [e1, e2]
    rw [h1] at hM
    have HM := Lib.hid hM
    clear hM hN h1 hm e1 e2
    go_enter Try.func13, Try.ntmps13
    go_wp2_with fail
    refine (HM.out _).mono ?_
    rintro e w1 ⟨rfl, hb1⟩
    have hz1 := hb1.size
    simp at hz1
    have X10 : Hid (Box w1 (w.heap.size) (a) (b)) := Lib.hid (Box.below (Box.alloc (box_at _ (a) (b) 24 _ (by simp)) _) hb1)
    have X11 : Hid (Box w1 (w.heap.size + 1) (c) (d)) := Lib.hid (Box.below (box_at _ (c) (d) 24 _ (by simp)) hb1)
    have S1 : Hid (Below w.heap.size w w1) := Lib.hid (((((Below.refl _ _).alloc (Nat.le_refl _) _).alloc (by simp <;> omega) _).trans (hb1.mono (by simp <;> omega))))
    obtain ⟨x10, y10, f10, l10⟩ := X10.out
    obtain ⟨x11, y11, f11, l11⟩ := X11.out
    clear hb1
    go_wp2
    go_ret2
    exact ⟨rfl, S1.out⟩
  have hp := may_lt h1
  rw [h1] at hM
  have HM := Lib.hid hM
  clear hM
  cases h2 : mayB c d
  · have hm : bothB a b c d = false := by simp [bothB, h2]
    obtain ⟨e1, e2⟩ := rel_no hm
    rw [e1, e2]
    rw [h2] at hN
    have HN := Lib.hid hN
    clear hN h1 h2 hm e1 e2
    go_enter Try.func13, Try.ntmps13
    go_wp2_with fail
    refine (HM.out _).mono ?_
    rintro e w1 ⟨rfl, hb1⟩
    have hz1 := hb1.size
    simp at hz1
    have X10 : Hid (Box w1 (w.heap.size) (a) (b)) := Lib.hid (Box.below (Box.alloc (box_at _ (a) (b) 24 _ (by simp)) _) hb1)
    have X11 : Hid (Box w1 (w.heap.size + 1) (c) (d)) := Lib.hid (Box.below (box_at _ (c) (d) 24 _ (by simp)) hb1)
    have S1 : Hid (Below w.heap.size w w1) := Lib.hid (((((Below.refl _ _).alloc (Nat.le_refl _) _).alloc (by simp <;> omega) _).trans (hb1.mono (by simp <;> omega))))
    obtain ⟨x10, y10, f10, l10⟩ := X10.out
    obtain ⟨x11, y11, f11, l11⟩ := X11.out
    clear hb1
    go_wp2_with fail
    refine (HN.out _).mono ?_
    rintro e w2 ⟨rfl, hb2⟩
    have hz2 := hb2.size
    have X20 : Hid (Box w2 (w.heap.size) (a) (b)) := Lib.hid (Box.below X10.out hb2)
    have X21 : Hid (Box w2 (w.heap.size + 1) (c) (d)) := Lib.hid (Box.below X11.out hb2)
    have S2 : Hid (Below w.heap.size w w2) := Lib.hid (S1.out.trans (hb2.mono (by omega)))
    clear x10 y10 f10 l10 x11 y11 f11 l11
    obtain ⟨x20, y20, f20, l20⟩ := X20.out
    obtain ⟨x21, y21, f21, l21⟩ := X21.out
    clear hb2
    go_wp2
    go_ret2
    exact ⟨rfl, S2.out⟩
  have hq := may_lt h2
  rw [h2] at hN
  have HN := Lib.hid hN
  clear hN
  have hm : bothB a b c d = true := by simp [bothB, h1, h2]
  obtain ⟨e1, e2⟩ := rel_yes hm
  rw [e1, e2]
  clear h1 h2 hm e1 e2
  have HT := Lib.hid (fun r h1 h2 => tst_iff r h1 h2 hp hq)
  obtain ⟨k1, k2⟩ := relV_range a b c d
  generalize relV a b c d = R at *
  clear hp hq
  go_enter Try.func13, Try.ntmps13
  go_wp2_with fail
  refine (HM.out _).mono ?_
  rintro e w1 ⟨rfl, hb1⟩
  have hz1 := hb1.size
  simp at hz1
  have X10 : Hid (Box w1 (w.heap.size) (a) (b)) := Lib.hid (Box.below (Box.alloc (box_at _ (a) (b) 24 _ (by simp)) _) hb1)
  have X11 : Hid (Box w1 (w.heap.size + 1) (c) (d)) := Lib.hid (Box.below (box_at _ (c) (d) 24 _ (by simp)) hb1)
  have S1 : Hid (Below w.heap.size w w1) := Lib.hid (((((Below.refl _ _).alloc (Nat.le_refl _) _).alloc (by simp <;> omega) _).trans (hb1.mono (by simp <;> omega))))
  obtain ⟨x10, y10, f10, l10⟩ := X10.out
  obtain ⟨x11, y11, f11, l11⟩ := X11.out
  clear hb1
  go_wp2_with fail
  refine (HN.out _).mono ?_
  rintro e w2 ⟨rfl, hb2⟩
  have hz2 := hb2.size
  have X20 : Hid (Box w2 (w.heap.size) (a) (b)) := Lib.hid (Box.below X10.out hb2)
  have X21 : Hid (Box w2 (w.heap.size + 1) (c) (d)) := Lib.hid (Box.below X11.out hb2)
  have S2 : Hid (Below w.heap.size w w2) := Lib.hid (S1.out.trans (hb2.mono (by omega)))
  clear x10 y10 f10 l10 x11 y11 f11 l11
  obtain ⟨x20, y20, f20, l20⟩ := X20.out
  obtain ⟨x21, y21, f21, l21⟩ := X21.out
  clear hb2
  have K0 := Lib.hid (fun w' (hb : Below w2.heap.size w2 w') => (⟨hb, (X20.out.below hb).c0, (X20.out.below hb).c1, (X21.out.below hb).c0, (X21.out.below hb).c1⟩ : Below w2.heap.size w2 w' ∧ w'.cell? ⟨w.heap.size, 0, none⟩ = some (.int .u64 a) ∧ w'.cell? ⟨w.heap.size, 1, none⟩ = some (.int .u64 b) ∧ w'.cell? ⟨w.heap.size + 1, 0, none⟩ = some (.int .u64 c) ∧ w'.cell? ⟨w.heap.size + 1, 1, none⟩ = some (.int .u64 d)))
  clear x20 y20 f20 l20 x21 y21 f21 l21 X10 X11 HM HN
  go_wp2
  go_loopw [6] (fun v wr => ∃ r : Nat, 1 ≤ r ∧ (r : Int) ≤ R ∧ v = .int .i64 r ∧ Below w2.heap.size w2 wr) (fun v _ => 13 - (intOf v).toNat)
  case atStart => exact ⟨1, Nat.le_refl _, k1, rfl, Below.refl _ _⟩
  case round =>
    obtain ⟨r, hr1, hr2, rfl, hbr⟩ := hrel
    by_cases h13 : r < 13
    · have hi := HT.out r hr1 (by omega)
      have CT := Lib.hid (fun W => test_any r hr1 (by omega) W)
      have t13 : (r : Int) < 13 := by omega
      have HBR := Lib.hid hbr
      clear hbr
      by_cases hR : R = (r : Int)
      · have HTT := Lib.hid (hi.2 hR)
        have HR := Lib.hid hR
        clear hi hR
        go_upto_region 4 with fail
        go_region_held3 (fun w' => Below w2.heap.size w2 w' ∧ w'.cell? ⟨w.heap.size, 0, none⟩ = some (.int .u64 a) ∧ w'.cell? ⟨w.heap.size, 1, none⟩ = some (.int .u64 b) ∧ w'.cell? ⟨w.heap.size + 1, 0, none⟩ = some (.int .u64 c) ∧ w'.cell? ⟨w.heap.size + 1, 1, none⟩ = some (.int .u64 d)) (first | exact K0.out _ HBR.out.drew | exact K0.out _ (by assumption) | fail) (first
          | (go_at_call 34; ((with_reducible refine (CT.out _).mono ?_); rintro e w3 ⟨v, rfl, ⟨F, caps, rfl, hF, hC⟩, hb3⟩; have HC := Lib.hid hC; have hb4 := HBR.out.drew.trans (Below.mono hb3 HBR.out.drew.size); clear hC))
          | ((with_reducible refine (HC.out _ (by first | exact Below.refl _ _ | assumption) _ _ _ _).mono ?_); rintro e w5 ⟨rfl, hb5⟩; have hb6 := hb4.trans (Below.mono hb5 hb4.size))
          | fail)
        rw [HTT.out]
        have HB6 := Lib.hid hb6
        clear hb6 hb5 hb4 hb3
        go_wp2
        go_ret2
        exact ret2 HR.out.symm (S2.out.trans (HB6.out.mono S2.out.size))
      · have HTT := Lib.hid (Bool.eq_false_iff.2 (fun h => hR (hi.1 h)))
        have HR := Lib.hid hR
        clear hi hR
        go_upto_region 4 with fail
        go_region_held3 (fun w' => Below w2.heap.size w2 w' ∧ w'.cell? ⟨w.heap.size, 0, none⟩ = some (.int .u64 a) ∧ w'.cell? ⟨w.heap.size, 1, none⟩ = some (.int .u64 b) ∧ w'.cell? ⟨w.heap.size + 1, 0, none⟩ = some (.int .u64 c) ∧ w'.cell? ⟨w.heap.size + 1, 1, none⟩ = some (.int .u64 d)) (first | exact K0.out _ HBR.out.drew | exact K0.out _ (by assumption) | fail) (first
          | (go_at_call 34; ((with_reducible refine (CT.out _).mono ?_); rintro e w3 ⟨v, rfl, ⟨F, caps, rfl, hF, hC⟩, hb3⟩; have HC := Lib.hid hC; have hb4 := HBR.out.drew.trans (Below.mono hb3 HBR.out.drew.size); clear hC))
          | ((with_reducible refine (HC.out _ (by first | exact Below.refl _ _ | assumption) _ _ _ _).mono ?_); rintro e w5 ⟨rfl, hb5⟩; have hb6 := hb4.trans (Below.mono hb5 hb4.size))
          | fail)
        rw [HTT.out]
        have HB6 := Lib.hid hb6
        clear hb6 hb5 hb4 hb3
        have HN : Hid ((r : Int) + 1 ≤ R) := Lib.hid (by have := HR.out; omega)
        go_wp2
        exact ⟨⟨r + 1, by omega, HN.out, by go_num, HB6.out⟩, by simp [intOf]; omega⟩
    · have HR : Hid (R = 13) := Lib.hid (by omega)
      obtain rfl : r = 13 := by omega
      have HBR := Lib.hid hbr
      clear hbr h13 hr2 k1 k2
      go_wp2
      go_quiet (fail)
      go_wp2
      go_ret2
      exact ret2 HR.out.symm (S2.out.trans ((bel_drewN _ HBR.out).mono S2.out.size))
end Go.Proofs.Ytbdlmidkkdmkpaa
