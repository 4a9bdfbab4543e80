/- The statement PeriodOne, walked. -/
import Derived.Test.YtbdlmidkkdmkpaaP17
namespace Go.Proofs.Ytbdlmidkkdmkpaa
open Go.RowKit
theorem relV_conv {a b c d : Int} (hp : a < b) (hq : c < d) : relV c d a b = 14 - relV a b c d := by
  unfold relV
  (repeat' split) <;> omega
theorem relV_shift (a b c d m : Int) : relV (a + m) (b + m) (c + m) (d + m) = relV a b c d := by
  have e1 : ∀ u v : Int, (u + m < v + m) = (u < v) := fun u v => propext ⟨by omega, by omega⟩
  have e2 : ∀ u v : Int, (u + m = v + m) = (u = v) := fun u v => propext ⟨by omega, by omega⟩
  unfold relV
  simp only [e1, e2]
theorem may_mk {a b : Int} (h : a < b) (h2 : b ≤ 1099511627776) : mayB a b = true := by simp [mayB, h, h2]
theorem tst7_eq {a b c d : Int} (hp : a < b) (hq : c < d) (i : Nat) (hi : i < 7) : tst7 (i + 1) a b c d = decide (relV a b c d = (i : Int) + 1) := by
  have h := tst_iff (i + 1) (by omega) (by omega) hp hq
  unfold tst at h
  rw [if_pos (by omega)] at h
  rw [Bool.eq_iff_iff, h, decide_eq_true_eq]
  constructor <;> intro e <;> omega
/-- Seven truths in a row. -/
def Row7 (w : World) (g : Nat) (a b c d : Int) : Prop := ∀ i, i < 7 → w.cell? ⟨g, i, none⟩ = some (.bool (tst7 (i + 1) a b c d))
theorem Row7.below {w w' : World} {g : Nat} {a b c d : Int} (h : Row7 w g a b c d) (hg : g < w.heap.size) (hb : Below w.heap.size w w') : Row7 w' g a b c d := fun i hi => (hb.cell (p := ⟨g, i, none⟩) hg).trans (h i hi)
/-- A row of seven that is new. -/
structure Arr7 (w : World) (g : Nat) : Prop where
  c0 : w.cell? ⟨g, 0, none⟩ = some (.bool false)
  c1 : w.cell? ⟨g, 1, none⟩ = some (.bool false)
  c2 : w.cell? ⟨g, 2, none⟩ = some (.bool false)
  c3 : w.cell? ⟨g, 3, none⟩ = some (.bool false)
  c4 : w.cell? ⟨g, 4, none⟩ = some (.bool false)
  c5 : w.cell? ⟨g, 5, none⟩ = some (.bool false)
  c6 : w.cell? ⟨g, 6, none⟩ = some (.bool false)
  fr : ∀ o, w.frozen? ⟨g, o, none⟩ = false
  lt : g < w.heap.size
theorem Arr7.below {w w' : World} {g : Nat} (h : Arr7 w g) (hb : Below w.heap.size w w') : Arr7 w' g :=
  have e := fun o => hb.cell (p := ⟨g, o, none⟩) h.lt
  ⟨(e 0).trans h.c0, (e 1).trans h.c1, (e 2).trans h.c2, (e 3).trans h.c3, (e 4).trans h.c4, (e 5).trans h.c5, (e 6).trans h.c6, fun o => (hb.frozen (p := ⟨g, o, none⟩) h.lt).trans (h.fr o), Nat.lt_of_lt_of_le h.lt hb.size⟩
theorem Arr7.alloc {w : World} {g : Nat} (h : Arr7 w g) (o : Obj) : Arr7 (w.alloc o) g := h.below ((Below.refl _ _).alloc (Nat.le_refl _) o)
theorem Arr7.new (w : World) (g : Nat) (h : w.heap.size = g) : Arr7 (w.alloc (.cells #[.bool false, .bool false, .bool false, .bool false, .bool false, .bool false, .bool false] 53)) g := by
  subst h
  exact ⟨by go_simp, by go_simp, by go_simp, by go_simp, by go_simp, by go_simp, by go_simp, fun o => by go_simp, by simp⟩
def cntR (R : Int) (i : Nat) : Int := (if R ≤ (i : Int) then 1 else 0) + (if 14 - (min (i : Int) 6) ≤ R then 1 else 0)
theorem cnt_end {R : Int} (h1 : 1 ≤ R) (h2 : R ≤ 13) : cntR R 7 = 1 := by
  unfold cntR
  by_cases h : R ≤ 7
  · rw [if_pos (by omega), if_neg (by omega)]; rfl
  · rw [if_neg (by omega), if_pos (by omega)]; rfl
theorem cnt_zero {R : Int} (h1 : 1 ≤ R) (h2 : R ≤ 13) : cntR R 0 = 0 := by
  unfold cntR
  rw [if_neg (by omega), if_neg (by omega)]; rfl
theorem cnt_bd (R : Int) (i : Nat) : 0 ≤ cntR R i ∧ cntR R i ≤ 2 := by
  unfold cntR
  split <;> split <;> omega
theorem cnt_a {R : Int} {i : Nat} (_hi : i < 7) (h : R = (i : Int) + 1) : cntR R (i + 1) = cntR R i + 1 := by
  unfold cntR
  rw [if_pos (by omega), if_neg (show ¬ R ≤ (i : Int) by omega)]
  by_cases e : 14 - (min (i : Int) 6) ≤ R
  · omega
  · rw [if_neg e, if_neg (by omega)]; rfl
theorem cnt_b {R : Int} {i : Nat} (_hi : i < 6) (h : R = 13 - (i : Int)) : cntR R (i + 1) = cntR R i + 1 := by
  unfold cntR
  rw [if_neg (show ¬ R ≤ ((i + 1 : Nat) : Int) by omega), if_pos (by omega), if_neg (show ¬ R ≤ (i : Int) by omega), if_neg (by omega)]; rfl
theorem cnt_n {R : Int} {i : Nat} (_hi : i < 7) (h : ¬ R = (i : Int) + 1) (h2 : ¬ R = 13 - (i : Int)) (_h0 : 1 ≤ R) : cntR R (i + 1) = cntR R i := by
  unfold cntR
  have e1 : (R ≤ ((i + 1 : Nat) : Int)) = (R ≤ (i : Int)) := by apply propext; omega
  have e2 : (14 - min ((i + 1 : Nat) : Int) 6 ≤ R) = (14 - min (i : Int) 6 ≤ R) := by apply propext; omega
  simp only [e1, e2]
theorem enter_holds : ∀ args w, (callFunc 30 args).run Try.prog w = .ok (.enter 30 args) w := fun _ _ => by kernel_rfl
set_option maxRecDepth 100000 in
set_option maxHeartbeats 8000000 in
theorem One_walk (x y z u t : Int) (w : World) (hx : 0 ≤ x) (hy : 0 ≤ y) (hz : 0 ≤ z) (hu : 0 ≤ u) (ht : 0 ≤ t) (ht2 : t ≤ 18446744073709551615) :
    Calls Try.prog 5 #[.agg #[.int .u64 x, .int .u64 y], .agg #[.int .u64 z, .int .u64 u], .int .u64 t] w fun e w' => e = .returned (.bool true) ∧ Below w.heap.size w w' := by
  obtain ⟨a, b, ha, hab, hbF, c1⟩ := fit_any x y hx hy
  obtain ⟨c, d, hc, hcd, hdF, c2⟩ := fit_any z u hz hu
  have FA := Lib.hid c1
  have FB := Lib.hid c2
  clear c1 c2
  obtain ⟨W, hW⟩ : ∃ W, (w.alloc (.cells #[.int .u64 x, .int .u64 y] 24)).alloc (.cells #[.int .u64 z, .int .u64 u] 24) = W := ⟨_, rfl⟩
  have XP := Lib.hid (show Box W w.heap.size x y by rw [← hW]; exact Box.alloc (box_at _ _ _ _ _ rfl) _)
  have XQ := Lib.hid (show Box W (w.heap.size + 1) z u by rw [← hW]; exact box_at _ _ _ _ _ (by simp))
  have BW := Lib.hid (show Below w.heap.size w W by rw [← hW]; exact ((Below.refl _ _).alloc (Nat.le_refl _) _).alloc (by simp) _)
  go_enter Try.func5, Try.ntmps5
  go_upto_region 1 with fail
  try rw [hW]
  clear hW
  go_cut [] (fun w' => Box w' w.heap.size a b ∧ Box w' (w.heap.size + 1) c d ∧ Below w.heap.size w w')
  case first =>
    obtain ⟨p0, p1, p2, p3⟩ := XP.out
    obtain ⟨q0, q1, q2, q3⟩ := XQ.out
    refine wp_region_held_drew (S := (fun wk => Below w.heap.size w wk)) (by kernel_rfl) (BW.out.drew) (fun hHeld => ?_)
    refine wpAnyH_ready (rs := [0, 2]) (by kernel_rfl) (by simp) ?_
    refine (AllReadyH.cons rfl (fun K hK => ?_) (AllReadyH.cons rfl (fun K hK => ?_) AllReadyH.nil))
    · go_simp
      refine hK.out _ _ (hHeld) (fun hHeld => ?_)
      clear hK K
      try simp only [Act.put, List.setIfInBounds_toArray, List.set_cons_zero, List.set_cons_succ]
      refine wpAnyH_ready (rs := [1, 2]) (by kernel_rfl) (by simp) ?_
      refine (AllReadyH.cons rfl (fun K hK => ?_) (AllReadyH.cons rfl (fun K hK => ?_) AllReadyH.nil))
      · go_simp
        refine (FA.out _).mono ?_
        rintro e w1 ⟨rfl, hb1⟩
        have hw1 : Below W.heap.size W w1 := (Below.refl W.heap.size W).drew.trans hb1
        have P1 := Lib.hid (XP.out.below hw1)
        have Q1 := Lib.hid (XQ.out.below hw1)
        have D1 := Lib.hid (BW.out.trans (hw1.mono BW.out.size))
        clear hb1 hw1
        obtain ⟨p0', p1', p2', p3'⟩ := P1.out
        obtain ⟨q0', q1', q2', q3'⟩ := Q1.out
        go_wp2_with fail
        refine hK.out _ _ (D1.out) (fun hHeld => ?_)
        clear hK K
        try simp only [Act.put, List.setIfInBounds_toArray, List.set_cons_zero, List.set_cons_succ]
        refine wpAnyH_ready (rs := [2]) (by kernel_rfl) (by simp) ?_
        refine (AllReadyH.cons rfl (fun K hK => ?_) AllReadyH.nil)
        go_simp
        refine hK.out _ _ (hHeld) (fun hHeld => ?_)
        clear hK K
        try simp only [Act.put, List.setIfInBounds_toArray, List.set_cons_zero, List.set_cons_succ]
        refine wpAnyH_ready (rs := [3]) (by kernel_rfl) (by simp) ?_
        refine (AllReadyH.cons rfl (fun K hK => ?_) AllReadyH.nil)
        go_simp
        refine (FB.out _).mono ?_
        rintro e w2 ⟨rfl, hb2⟩
        have P2 := Lib.hid (P1.out.below hb2)
        have Q2 := Lib.hid (Q1.out.below hb2)
        have D2 := Lib.hid (D1.out.trans (hb2.mono D1.out.size))
        clear hb2
        clear p0' p1' p2' p3' q0' q1' q2' q3' p0 p1 p2 p3 q0 q1 q2 q3
        obtain ⟨p0, p1, p2, p3⟩ := P2.out
        obtain ⟨q0, q1, q2, q3⟩ := Q2.out
        go_wp2_with fail
        refine hK.out _ _ (D2.out) (fun hHeld => ?_)
        clear hK K
        try simp only [Act.put, List.setIfInBounds_toArray, List.set_cons_zero, List.set_cons_succ]
        refine wpAnyH_ready (rs := [4]) (by kernel_rfl) (by simp) ?_
        refine (AllReadyH.cons rfl (fun K hK => ?_) AllReadyH.nil)
        go_simp
        refine hK.out _ _ ((hHeld.setCell (by simp) _).setCell (by simp) _) (fun hHeld => ?_)
        clear hK K
        try simp only [Act.put, List.setIfInBounds_toArray, List.set_cons_zero, List.set_cons_succ]
        refine wpAnyH_ready (rs := [5]) (by kernel_rfl) (by simp) ?_
        refine (AllReadyH.cons rfl (fun K hK => ?_) AllReadyH.nil)
        go_simp
        refine hK.out _ _ ((hHeld.setCell (by simp) _).setCell (by simp) _) (fun hHeld => ?_)
        clear hK K
        try simp only [Act.put, List.setIfInBounds_toArray, List.set_cons_zero, List.set_cons_succ]
        refine wpAnyH_done (by kernel_rfl) ?_ _
        go_wp2
        go_meet
        exact ⟨⟨by go_simp, by go_simp, by intro o; go_simp, by simp; omega⟩, ⟨by go_simp, by go_simp, by intro o; go_simp, by simp; omega⟩, hHeld⟩
      · go_simp
        refine hK.out _ _ (hHeld) (fun hHeld => ?_)
        clear hK K
        try simp only [Act.put, List.setIfInBounds_toArray, List.set_cons_zero, List.set_cons_succ]
        refine wpAnyH_ready (rs := [1]) (by kernel_rfl) (by simp) ?_
        refine (AllReadyH.cons rfl (fun K hK => ?_) AllReadyH.nil)
        go_simp
        refine (FA.out _).mono ?_
        rintro e w1 ⟨rfl, hb1⟩
        have hw1 : Below W.heap.size W w1 := (Below.refl W.heap.size W).drew.trans hb1
        have P1 := Lib.hid (XP.out.below hw1)
        have Q1 := Lib.hid (XQ.out.below hw1)
        have D1 := Lib.hid (BW.out.trans (hw1.mono BW.out.size))
        clear hb1 hw1
        obtain ⟨p0', p1', p2', p3'⟩ := P1.out
        obtain ⟨q0', q1', q2', q3'⟩ := Q1.out
        go_wp2_with fail
        refine hK.out _ _ (D1.out) (fun hHeld => ?_)
        clear hK K
        try simp only [Act.put, List.setIfInBounds_toArray, List.set_cons_zero, List.set_cons_succ]
        refine wpAnyH_ready (rs := [3]) (by kernel_rfl) (by simp) ?_
        refine (AllReadyH.cons rfl (fun K hK => ?_) AllReadyH.nil)
        go_simp
        refine (FB.out _).mono ?_
        rintro e w2 ⟨rfl, hb2⟩
        have P2 := Lib.hid (P1.out.below hb2)
        have Q2 := Lib.hid (Q1.out.below hb2)
        have D2 := Lib.hid (D1.out.trans (hb2.mono D1.out.size))
        clear hb2
        clear p0' p1' p2' p3' q0' q1' q2' q3' p0 p1 p2 p3 q0 q1 q2 q3
        obtain ⟨p0, p1, p2, p3⟩ := P2.out
        obtain ⟨q0, q1, q2, q3⟩ := Q2.out
        go_wp2_with fail
        refine hK.out _ _ (D2.out) (fun hHeld => ?_)
        clear hK K
        try simp only [Act.put, List.setIfInBounds_toArray, List.set_cons_zero, List.set_cons_succ]
        refine wpAnyH_ready (rs := [4]) (by kernel_rfl) (by simp) ?_
        refine (AllReadyH.cons rfl (fun K hK => ?_) AllReadyH.nil)
        go_simp
        refine hK.out _ _ ((hHeld.setCell (by simp) _).setCell (by simp) _) (fun hHeld => ?_)
        clear hK K
        try simp only [Act.put, List.setIfInBounds_toArray, List.set_cons_zero, List.set_cons_succ]
        refine wpAnyH_ready (rs := [5]) (by kernel_rfl) (by simp) ?_
        refine (AllReadyH.cons rfl (fun K hK => ?_) AllReadyH.nil)
        go_simp
        refine hK.out _ _ ((hHeld.setCell (by simp) _).setCell (by simp) _) (fun hHeld => ?_)
        clear hK K
        try simp only [Act.put, List.setIfInBounds_toArray, List.set_cons_zero, List.set_cons_succ]
        refine wpAnyH_done (by kernel_rfl) ?_ _
        go_wp2
        go_meet
        exact ⟨⟨by go_simp, by go_simp, by intro o; go_simp, by simp; omega⟩, ⟨by go_simp, by go_simp, by intro o; go_simp, by simp; omega⟩, hHeld⟩
    · go_simp
      refine hK.out _ _ (hHeld) (fun hHeld => ?_)
      clear hK K
      try simp only [Act.put, List.setIfInBounds_toArray, List.set_cons_zero, List.set_cons_succ]
      refine wpAnyH_ready (rs := [0]) (by kernel_rfl) (by simp) ?_
      refine (AllReadyH.cons rfl (fun K hK => ?_) AllReadyH.nil)
      go_simp
      refine hK.out _ _ (hHeld) (fun hHeld => ?_)
      clear hK K
      try simp only [Act.put, List.setIfInBounds_toArray, List.set_cons_zero, List.set_cons_succ]
      refine wpAnyH_ready (rs := [1]) (by kernel_rfl) (by simp) ?_
      refine (AllReadyH.cons rfl (fun K hK => ?_) AllReadyH.nil)
      go_simp
      refine (FA.out _).mono ?_
      rintro e w1 ⟨rfl, hb1⟩
      have hw1 : Below W.heap.size W w1 := (Below.refl W.heap.size W).drew.trans hb1
      have P1 := Lib.hid (XP.out.below hw1)
      have Q1 := Lib.hid (XQ.out.below hw1)
      have D1 := Lib.hid (BW.out.trans (hw1.mono BW.out.size))
      clear hb1 hw1
      obtain ⟨p0', p1', p2', p3'⟩ := P1.out
      obtain ⟨q0', q1', q2', q3'⟩ := Q1.out
      go_wp2_with fail
      refine hK.out _ _ (D1.out) (fun hHeld => ?_)
      clear hK K
      try simp only [Act.put, List.setIfInBounds_toArray, List.set_cons_zero, List.set_cons_succ]
      refine wpAnyH_ready (rs := [3]) (by kernel_rfl) (by simp) ?_
      refine (AllReadyH.cons rfl (fun K hK => ?_) AllReadyH.nil)
      go_simp
      refine (FB.out _).mono ?_
      rintro e w2 ⟨rfl, hb2⟩
      have P2 := Lib.hid (P1.out.below hb2)
      have Q2 := Lib.hid (Q1.out.below hb2)
      have D2 := Lib.hid (D1.out.trans (hb2.mono D1.out.size))
      clear hb2
      clear p0' p1' p2' p3' q0' q1' q2' q3' p0 p1 p2 p3 q0 q1 q2 q3
      obtain ⟨p0, p1, p2, p3⟩ := P2.out
      obtain ⟨q0, q1, q2, q3⟩ := Q2.out
      go_wp2_with fail
      refine hK.out _ _ (D2.out) (fun hHeld => ?_)
      clear hK K
      try simp only [Act.put, List.setIfInBounds_toArray, List.set_cons_zero, List.set_cons_succ]
      refine wpAnyH_ready (rs := [4]) (by kernel_rfl) (by simp) ?_
      refine (AllReadyH.cons rfl (fun K hK => ?_) AllReadyH.nil)
      go_simp
      refine hK.out _ _ ((hHeld.setCell (by simp) _).setCell (by simp) _) (fun hHeld => ?_)
      clear hK K
      try simp only [Act.put, List.setIfInBounds_toArray, List.set_cons_zero, List.set_cons_succ]
      refine wpAnyH_ready (rs := [5]) (by kernel_rfl) (by simp) ?_
      refine (AllReadyH.cons rfl (fun K hK => ?_) AllReadyH.nil)
      go_simp
      refine hK.out _ _ ((hHeld.setCell (by simp) _).setCell (by simp) _) (fun hHeld => ?_)
      clear hK K
      try simp only [Act.put, List.setIfInBounds_toArray, List.set_cons_zero, List.set_cons_succ]
      refine wpAnyH_done (by kernel_rfl) ?_ _
      go_wp2
      go_meet
      exact ⟨⟨by go_simp, by go_simp, by intro o; go_simp, by simp; omega⟩, ⟨by go_simp, by go_simp, by intro o; go_simp, by simp; omega⟩, hHeld⟩
  case rest =>
  obtain ⟨hp, hq, hb⟩ := hcut
  obtain ⟨w0, rfl⟩ : ∃ w0 : World, w0 = wc := ⟨_, rfl⟩
  have P0 := Lib.hid hp
  have Q0 := Lib.hid hq
  have D0 := Lib.hid hb
  clear hp hq hb XP XQ BW FA FB
  have mp := may_mk hab hbF
  have mq := may_mk hcd hdF
  have r1 := Relation_any a b c d
  have r2 := Relation_any c d a b
  rw [(rel_yes (show bothB a b c d = true by simp [bothB, mp, mq])).1, (rel_yes (show bothB a b c d = true by simp [bothB, mp, mq])).2] at r1
  rw [(rel_yes (show bothB c d a b = true by simp [bothB, mp, mq])).1, (rel_yes (show bothB c d a b = true by simp [bothB, mp, mq])).2, relV_conv hab hcd] at r2
  have hR := relV_range a b c d
  have T1 := Lib.hid (fun i hi => tst7_eq hab hcd i hi)
  have T2 := Lib.hid (fun i hi => tst7_eq hcd hab i hi)
  rw [relV_conv hab hcd] at T2
  have SH := Lib.hid (fun m => relV_shift a b c d m)
  generalize relV a b c d = R at *
  have r3 := fun w => Converse_yes R w hR.1 hR.2
  obtain ⟨hR1, hR2⟩ := hR
  have R1 := Lib.hid r1
  have R2 := Lib.hid r2
  have R3 := Lib.hid r3
  have HO := Lib.hid holds_any
  have PA := Lib.hid P_any
  have AW := Lib.hid awake_any
  clear r1 r2 r3 mp mq
  have v1 : decide (R < 1) = false := by simp; omega
  have v2 : decide (13 < R) = false := by simp; omega
  obtain ⟨p0, p1, p2, p3⟩ := P0.out
  obtain ⟨q0, q1, q2, q3⟩ := Q0.out
  go_wp2_with fail
  refine (R1.out _).mono ?_
  rintro e w1 ⟨rfl, hb1⟩
  have P1 := Lib.hid (P0.out.below hb1)
  have Q1 := Lib.hid (Q0.out.below hb1)
  have D1 := Lib.hid (D0.out.trans (hb1.mono D0.out.size))
  clear hb1 p0 p1 p2 p3 q0 q1 q2 q3 P0 Q0
  obtain ⟨p0, p1, p2, p3⟩ := P1.out
  obtain ⟨q0, q1, q2, q3⟩ := Q1.out
  go_wp2_with fail
  refine (R2.out _).mono ?_
  rintro e w2 ⟨rfl, hb2⟩
  have P2 := Lib.hid (P1.out.below hb2)
  have Q2 := Lib.hid (Q1.out.below hb2)
  have D2 := Lib.hid (D1.out.trans (hb2.mono D1.out.size))
  clear hb2 p0 p1 p2 p3 q0 q1 q2 q3 P1 Q1 D0
  obtain ⟨p0, p1, p2, p3⟩ := P2.out
  obtain ⟨q0, q1, q2, q3⟩ := Q2.out
  go_wp2_with fail
  refine (R3.out _).mono ?_
  rintro e w3 ⟨rfl, rfl⟩
  have eh := enter_holds
  go_upto_region 9 with fail
  go_cut [15, 16] (fun u v w' => ∃ g1 g2, u = .pointer (some ⟨g1, 0, none⟩) ∧ v = .pointer (some ⟨g2, 0, none⟩) ∧ Row7 w' g1 a b c d ∧ Row7 w' g2 c d a b ∧ g1 < w'.heap.size ∧ g2 < w'.heap.size ∧ Box w' w.heap.size a b ∧ Box w' (w.heap.size + 1) c d ∧ Below w.heap.size w w')
  case first =>
    have K0 := Lib.hid (fun wk (hb : Below w2.heap.size w2 wk) => (⟨hb, (P2.out.below hb).c0, (P2.out.below hb).c1, (Q2.out.below hb).c0, (Q2.out.below hb).c1⟩ : Below w2.heap.size w2 wk ∧ wk.cell? ⟨w.heap.size, 0, none⟩ = some (.int .u64 a) ∧ wk.cell? ⟨w.heap.size, 1, none⟩ = some (.int .u64 b) ∧ wk.cell? ⟨w.heap.size + 1, 0, none⟩ = some (.int .u64 c) ∧ wk.cell? ⟨w.heap.size + 1, 1, none⟩ = some (.int .u64 d)))
    have h2 := p3
    have h3 := q3
    clear p0 p1 p2 p3 q0 q1 q2 q3
    refine wp_region_held_drew (S := (fun wk => Below w2.heap.size w2 wk ∧ wk.cell? ⟨w.heap.size, 0, none⟩ = some (.int .u64 a) ∧ wk.cell? ⟨w.heap.size, 1, none⟩ = some (.int .u64 b) ∧ wk.cell? ⟨w.heap.size + 1, 0, none⟩ = some (.int .u64 c) ∧ wk.cell? ⟨w.heap.size + 1, 1, none⟩ = some (.int .u64 d))) (by kernel_rfl) (K0.out _ (Below.refl _ _).drew) (fun hHeld => ?_)
    refine take_in (i := 0) (v := ?_) (some 66) rfl rfl (by kernel_rfl) (by kernel_rfl) (by kernel_rfl) (fun _ _ _ h => h) (Or.inl ⟨by rfl, ?_⟩) (by assumption) ?_
    rotate_left
    · (intro w hSw; (try dsimp only at hSw); (try go_split_ands); go_simp; try with_reducible rfl)
    try simp only [Act.put, List.setIfInBounds_toArray, List.set_cons_zero, List.set_cons_succ]
    refine take_in (i := 1) (v := ?_) (some 67) rfl rfl (by kernel_rfl) (by kernel_rfl) (by kernel_rfl) (fun _ _ _ h => h) (Or.inl ⟨by rfl, ?_⟩) (by assumption) ?_
    rotate_left
    · (intro w hSw; (try dsimp only at hSw); (try go_split_ands); go_simp; try with_reducible rfl)
    try simp only [Act.put, List.setIfInBounds_toArray, List.set_cons_zero, List.set_cons_succ]
    refine take_in (i := 2) (v := ?_) (some 68) rfl rfl (by kernel_rfl) (by kernel_rfl) (by kernel_rfl) (fun _ _ _ h => h) (Or.inl ⟨by rfl, ?_⟩) (by assumption) ?_
    rotate_left
    · (intro w hSw; (try dsimp only at hSw); (try go_split_ands); go_simp; try with_reducible rfl)
    try simp only [Act.put, List.setIfInBounds_toArray, List.set_cons_zero, List.set_cons_succ]
    refine take_in (i := 4) (v := ?_) (some 70) rfl rfl (by kernel_rfl) (by kernel_rfl) (by kernel_rfl) (fun _ _ _ h => h) (Or.inl ⟨by rfl, ?_⟩) (by assumption) ?_
    rotate_left
    · (intro w hSw; (try dsimp only at hSw); (try go_split_ands); go_simp; try with_reducible rfl)
    try simp only [Act.put, List.setIfInBounds_toArray, List.set_cons_zero, List.set_cons_succ]
    refine take_in (i := 5) (v := ?_) (some 71) rfl rfl (by kernel_rfl) (by kernel_rfl) (by kernel_rfl) (fun _ _ _ h => h) (Or.inl ⟨by rfl, ?_⟩) (by assumption) ?_
    rotate_left
    · (intro w hSw; (try dsimp only at hSw); (try go_split_ands); go_simp; try with_reducible rfl)
    try simp only [Act.put, List.setIfInBounds_toArray, List.set_cons_zero, List.set_cons_succ]
    refine take_in (i := 6) (v := ?_) (some 72) rfl rfl (by kernel_rfl) (by kernel_rfl) (by kernel_rfl) (fun _ _ _ h => h) (Or.inl ⟨by rfl, ?_⟩) (by assumption) ?_
    rotate_left
    · (intro w hSw; (try dsimp only at hSw); (try go_split_ands); go_simp; try with_reducible rfl)
    try simp only [Act.put, List.setIfInBounds_toArray, List.set_cons_zero, List.set_cons_succ]
    refine wpAnyH_ready (rs := [3, 8, 9]) (by kernel_rfl) (by simp) ?_
    refine (AllReadyH.cons rfl (fun K hK => ?_) (AllReadyH.cons rfl (fun K hK => ?_) (AllReadyH.cons rfl (fun K hK => ?_) AllReadyH.nil)))
    · go_simp
      refine (HO.out _ _ _ _ _).mono ?_
      rintro e w4 ⟨rfl, hb4⟩
      have hB := hHeld.1.trans (hb4.mono hHeld.1.size)
      have hz4 := hB.size
      go_wp2_with fail
      refine hK.out _ _ (K0.out _ hB) (fun hHeld => ?_)
      clear hK K
      try simp only [Act.put, List.setIfInBounds_toArray, List.set_cons_zero, List.set_cons_succ]
      refine wpAnyH_ready (rs := [7, 8, 9]) (by kernel_rfl) (by simp) ?_
      refine (AllReadyH.cons rfl (fun K hK => ?_) (AllReadyH.cons rfl (fun K hK => ?_) (AllReadyH.cons rfl (fun K hK => ?_) AllReadyH.nil)))
      · go_simp
        refine (HO.out _ _ _ _ _).mono ?_
        rintro e w5 ⟨rfl, hb5⟩
        have hB := hHeld.1.trans (hb5.mono hHeld.1.size)
        have hz5 := hB.size
        go_wp2_with fail
        refine hK.out _ _ (K0.out _ hB) (fun hHeld => ?_)
        clear hK K
        try simp only [Act.put, List.setIfInBounds_toArray, List.set_cons_zero, List.set_cons_succ]
        refine wpAnyH_ready (rs := [8, 9]) (by kernel_rfl) (by simp) ?_
        refine (AllReadyH.cons rfl (fun K hK => ?_) (AllReadyH.cons rfl (fun K hK => ?_) AllReadyH.nil))
        · go_simp
          refine hK.out _ _ (K0.out _ (by go_grown)) (fun hHeld => ?_)
          clear hK K
          try simp only [Act.put, List.setIfInBounds_toArray, List.set_cons_zero, List.set_cons_succ]
          have A8 := Lib.hid (Arr7.new (w5) _ (show ((w5)).heap.size = w5.heap.size by simp))
          refine wpAnyH_ready (rs := [9]) (by kernel_rfl) (by simp) ?_
          refine (AllReadyH.cons rfl (fun K hK => ?_) AllReadyH.nil)
          go_simp
          refine hK.out _ _ (K0.out _ (by go_grown)) (fun hHeld => ?_)
          clear hK K
          try simp only [Act.put, List.setIfInBounds_toArray, List.set_cons_zero, List.set_cons_succ]
          replace A8 := Lib.hid (A8.out.alloc (.cells #[.bool false, .bool false, .bool false, .bool false, .bool false, .bool false, .bool false] 53))
          have A9 := Lib.hid (Arr7.new ((w5).alloc (.cells #[.bool false, .bool false, .bool false, .bool false, .bool false, .bool false, .bool false] 53)) _ (show (((w5).alloc (.cells #[.bool false, .bool false, .bool false, .bool false, .bool false, .bool false, .bool false] 53))).heap.size = w5.heap.size + 1 by simp))
          refine wpAnyH_ready (rs := [10]) (by kernel_rfl) (by simp) ?_
          refine (AllReadyH.cons rfl (fun K hK => ?_) AllReadyH.nil)
          go_simp
          refine hK.out _ _ (K0.out _ (by go_grown)) (fun hHeld => ?_)
          clear hK K
          try simp only [Act.put, List.setIfInBounds_toArray, List.set_cons_zero, List.set_cons_succ]
          refine wpAnyH_ready (rs := [11]) (by kernel_rfl) (by simp) ?_
          refine (AllReadyH.cons rfl (fun K hK => ?_) AllReadyH.nil)
          go_simp
          refine hK.out _ _ (K0.out _ (by go_grown)) (fun hHeld => ?_)
          clear hK K
          try simp only [Act.put, List.setIfInBounds_toArray, List.set_cons_zero, List.set_cons_succ]
          refine wpAnyH_done (by kernel_rfl) ?_ _
          go_wp2
          go_meet
          obtain ⟨k0, k1, k2, k3, k4⟩ := hHeld
          exact ⟨w5.heap.size, w5.heap.size + 1, rfl, rfl, (fun i hi => by match i, hi with | 0, _ => go_simp | 1, _ => go_simp | 2, _ => go_simp | 3, _ => go_simp | 4, _ => go_simp | 5, _ => go_simp | 6, _ => go_simp), (fun i hi => by match i, hi with | 0, _ => go_simp | 1, _ => go_simp | 2, _ => go_simp | 3, _ => go_simp | 4, _ => go_simp | 5, _ => go_simp | 6, _ => go_simp), by first | omega | (simp; done) | (simp; omega), by first | omega | (simp; done) | (simp; omega), ⟨k1, k2, fun o => (k0.frozen (p := ⟨w.heap.size, o, none⟩) h2).trans (P2.out.fr o), Nat.lt_of_lt_of_le h2 k0.size⟩, ⟨k3, k4, fun o => (k0.frozen (p := ⟨w.heap.size + 1, o, none⟩) h3).trans (Q2.out.fr o), Nat.lt_of_lt_of_le h3 k0.size⟩, D2.out.trans (k0.mono D2.out.size)⟩
        · go_simp
          refine hK.out _ _ (K0.out _ (by go_grown)) (fun hHeld => ?_)
          clear hK K
          try simp only [Act.put, List.setIfInBounds_toArray, List.set_cons_zero, List.set_cons_succ]
          have A9 := Lib.hid (Arr7.new (w5) _ (show ((w5)).heap.size = w5.heap.size by simp))
          refine wpAnyH_ready (rs := [8]) (by kernel_rfl) (by simp) ?_
          refine (AllReadyH.cons rfl (fun K hK => ?_) AllReadyH.nil)
          go_simp
          refine hK.out _ _ (K0.out _ (by go_grown)) (fun hHeld => ?_)
          clear hK K
          try simp only [Act.put, List.setIfInBounds_toArray, List.set_cons_zero, List.set_cons_succ]
          replace A9 := Lib.hid (A9.out.alloc (.cells #[.bool false, .bool false, .bool false, .bool false, .bool false, .bool false, .bool false] 53))
          have A8 := Lib.hid (Arr7.new ((w5).alloc (.cells #[.bool false, .bool false, .bool false, .bool false, .bool false, .bool false, .bool false] 53)) _ (show (((w5).alloc (.cells #[.bool false, .bool false, .bool false, .bool false, .bool false, .bool false, .bool false] 53))).heap.size = w5.heap.size + 1 by simp))
          refine wpAnyH_ready (rs := [10]) (by kernel_rfl) (by simp) ?_
          refine (AllReadyH.cons rfl (fun K hK => ?_) AllReadyH.nil)
          go_simp
          refine hK.out _ _ (K0.out _ (by go_grown)) (fun hHeld => ?_)
          clear hK K
          try simp only [Act.put, List.setIfInBounds_toArray, List.set_cons_zero, List.set_cons_succ]
          refine wpAnyH_ready (rs := [11]) (by kernel_rfl) (by simp) ?_
          refine (AllReadyH.cons rfl (fun K hK => ?_) AllReadyH.nil)
          go_simp
          refine hK.out _ _ (K0.out _ (by go_grown)) (fun hHeld => ?_)
          clear hK K
          try simp only [Act.put, List.setIfInBounds_toArray, List.set_cons_zero, List.set_cons_succ]
          refine wpAnyH_done (by kernel_rfl) ?_ _
          go_wp2
          go_meet
          obtain ⟨k0, k1, k2, k3, k4⟩ := hHeld
          exact ⟨w5.heap.size + 1, w5.heap.size, rfl, rfl, (fun i hi => by match i, hi with | 0, _ => go_simp | 1, _ => go_simp | 2, _ => go_simp | 3, _ => go_simp | 4, _ => go_simp | 5, _ => go_simp | 6, _ => go_simp), (fun i hi => by match i, hi with | 0, _ => go_simp | 1, _ => go_simp | 2, _ => go_simp | 3, _ => go_simp | 4, _ => go_simp | 5, _ => go_simp | 6, _ => go_simp), by first | omega | (simp; done) | (simp; omega), by first | omega | (simp; done) | (simp; omega), ⟨k1, k2, fun o => (k0.frozen (p := ⟨w.heap.size, o, none⟩) h2).trans (P2.out.fr o), Nat.lt_of_lt_of_le h2 k0.size⟩, ⟨k3, k4, fun o => (k0.frozen (p := ⟨w.heap.size + 1, o, none⟩) h3).trans (Q2.out.fr o), Nat.lt_of_lt_of_le h3 k0.size⟩, D2.out.trans (k0.mono D2.out.size)⟩
      · go_simp
        refine hK.out _ _ (K0.out _ (by go_grown)) (fun hHeld => ?_)
        clear hK K
        try simp only [Act.put, List.setIfInBounds_toArray, List.set_cons_zero, List.set_cons_succ]
        have A8 := Lib.hid (Arr7.new (w4) _ (show ((w4)).heap.size = w4.heap.size by simp))
        refine wpAnyH_ready (rs := [7, 9]) (by kernel_rfl) (by simp) ?_
        refine (AllReadyH.cons rfl (fun K hK => ?_) (AllReadyH.cons rfl (fun K hK => ?_) AllReadyH.nil))
        · go_simp
          refine (HO.out _ _ _ _ _).mono ?_
          rintro e w5 ⟨rfl, hb5⟩
          have hB := hHeld.1.trans (hb5.mono hHeld.1.size)
          have hz5 := hB.size
          replace A8 := Lib.hid (A8.out.below hb5)
          try clear m80 m81 m82 m83 m84 m85 m86 n8 l8
          obtain ⟨m80, m81, m82, m83, m84, m85, m86, n8, l8⟩ := A8.out
          go_wp2_with fail
          refine hK.out _ _ (K0.out _ hB) (fun hHeld => ?_)
          clear hK K
          try simp only [Act.put, List.setIfInBounds_toArray, List.set_cons_zero, List.set_cons_succ]
          refine wpAnyH_ready (rs := [9]) (by kernel_rfl) (by simp) ?_
          refine (AllReadyH.cons rfl (fun K hK => ?_) AllReadyH.nil)
          go_simp
          refine hK.out _ _ (K0.out _ (by go_grown)) (fun hHeld => ?_)
          clear hK K
          try simp only [Act.put, List.setIfInBounds_toArray, List.set_cons_zero, List.set_cons_succ]
          replace A8 := Lib.hid (A8.out.alloc (.cells #[.bool false, .bool false, .bool false, .bool false, .bool false, .bool false, .bool false] 53))
          have ne1 : w4.heap.size ≠ w5.heap.size := by have := l8; omega
          have ne2 : w5.heap.size ≠ w4.heap.size := by have := l8; omega
          have A9 := Lib.hid (Arr7.new (w5) _ (show ((w5)).heap.size = w5.heap.size by simp))
          refine wpAnyH_ready (rs := [10]) (by kernel_rfl) (by simp) ?_
          refine (AllReadyH.cons rfl (fun K hK => ?_) AllReadyH.nil)
          go_simp
          refine hK.out _ _ (K0.out _ (by go_grown)) (fun hHeld => ?_)
          clear hK K
          try simp only [Act.put, List.setIfInBounds_toArray, List.set_cons_zero, List.set_cons_succ]
          refine wpAnyH_ready (rs := [11]) (by kernel_rfl) (by simp) ?_
          refine (AllReadyH.cons rfl (fun K hK => ?_) AllReadyH.nil)
          go_simp
          refine hK.out _ _ (K0.out _ (by go_grown)) (fun hHeld => ?_)
          clear hK K
          try simp only [Act.put, List.setIfInBounds_toArray, List.set_cons_zero, List.set_cons_succ]
          refine wpAnyH_done (by kernel_rfl) ?_ _
          go_wp2
          go_meet
          obtain ⟨k0, k1, k2, k3, k4⟩ := hHeld
          exact ⟨w4.heap.size, w5.heap.size, rfl, rfl, (fun i hi => by match i, hi with | 0, _ => go_simp | 1, _ => go_simp | 2, _ => go_simp | 3, _ => go_simp | 4, _ => go_simp | 5, _ => go_simp | 6, _ => go_simp), (fun i hi => by match i, hi with | 0, _ => go_simp | 1, _ => go_simp | 2, _ => go_simp | 3, _ => go_simp | 4, _ => go_simp | 5, _ => go_simp | 6, _ => go_simp), by first | omega | (simp; done) | (simp; omega), by first | omega | (simp; done) | (simp; omega), ⟨k1, k2, fun o => (k0.frozen (p := ⟨w.heap.size, o, none⟩) h2).trans (P2.out.fr o), Nat.lt_of_lt_of_le h2 k0.size⟩, ⟨k3, k4, fun o => (k0.frozen (p := ⟨w.heap.size + 1, o, none⟩) h3).trans (Q2.out.fr o), Nat.lt_of_lt_of_le h3 k0.size⟩, D2.out.trans (k0.mono D2.out.size)⟩
        · go_simp
          refine hK.out _ _ (K0.out _ (by go_grown)) (fun hHeld => ?_)
          clear hK K
          try simp only [Act.put, List.setIfInBounds_toArray, List.set_cons_zero, List.set_cons_succ]
          replace A8 := Lib.hid (A8.out.alloc (.cells #[.bool false, .bool false, .bool false, .bool false, .bool false, .bool false, .bool false] 53))
          have A9 := Lib.hid (Arr7.new ((w4).alloc (.cells #[.bool false, .bool false, .bool false, .bool false, .bool false, .bool false, .bool false] 53)) _ (show (((w4).alloc (.cells #[.bool false, .bool false, .bool false, .bool false, .bool false, .bool false, .bool false] 53))).heap.size = w4.heap.size + 1 by simp))
          refine wpAnyH_ready (rs := [7]) (by kernel_rfl) (by simp) ?_
          refine (AllReadyH.cons rfl (fun K hK => ?_) AllReadyH.nil)
          go_simp
          refine (HO.out _ _ _ _ _).mono ?_
          rintro e w5 ⟨rfl, hb5⟩
          have hB := hHeld.1.trans (hb5.mono hHeld.1.size)
          have hz5 := hB.size
          replace A8 := Lib.hid (A8.out.below hb5)
          try clear m80 m81 m82 m83 m84 m85 m86 n8 l8
          obtain ⟨m80, m81, m82, m83, m84, m85, m86, n8, l8⟩ := A8.out
          replace A9 := Lib.hid (A9.out.below hb5)
          try clear m90 m91 m92 m93 m94 m95 m96 n9 l9
          obtain ⟨m90, m91, m92, m93, m94, m95, m96, n9, l9⟩ := A9.out
          go_wp2_with fail
          refine hK.out _ _ (K0.out _ hB) (fun hHeld => ?_)
          clear hK K
          try simp only [Act.put, List.setIfInBounds_toArray, List.set_cons_zero, List.set_cons_succ]
          refine wpAnyH_ready (rs := [10]) (by kernel_rfl) (by simp) ?_
          refine (AllReadyH.cons rfl (fun K hK => ?_) AllReadyH.nil)
          go_simp
          refine hK.out _ _ (K0.out _ (by go_grown)) (fun hHeld => ?_)
          clear hK K
          try simp only [Act.put, List.setIfInBounds_toArray, List.set_cons_zero, List.set_cons_succ]
          refine wpAnyH_ready (rs := [11]) (by kernel_rfl) (by simp) ?_
          refine (AllReadyH.cons rfl (fun K hK => ?_) AllReadyH.nil)
          go_simp
          refine hK.out _ _ (K0.out _ (by go_grown)) (fun hHeld => ?_)
          clear hK K
          try simp only [Act.put, List.setIfInBounds_toArray, List.set_cons_zero, List.set_cons_succ]
          refine wpAnyH_done (by kernel_rfl) ?_ _
          go_wp2
          go_meet
          obtain ⟨k0, k1, k2, k3, k4⟩ := hHeld
          exact ⟨w4.heap.size, w4.heap.size + 1, rfl, rfl, (fun i hi => by match i, hi with | 0, _ => go_simp | 1, _ => go_simp | 2, _ => go_simp | 3, _ => go_simp | 4, _ => go_simp | 5, _ => go_simp | 6, _ => go_simp), (fun i hi => by match i, hi with | 0, _ => go_simp | 1, _ => go_simp | 2, _ => go_simp | 3, _ => go_simp | 4, _ => go_simp | 5, _ => go_simp | 6, _ => go_simp), by first | omega | (simp; done) | (simp; omega), by first | omega | (simp; done) | (simp; omega), ⟨k1, k2, fun o => (k0.frozen (p := ⟨w.heap.size, o, none⟩) h2).trans (P2.out.fr o), Nat.lt_of_lt_of_le h2 k0.size⟩, ⟨k3, k4, fun o => (k0.frozen (p := ⟨w.heap.size + 1, o, none⟩) h3).trans (Q2.out.fr o), Nat.lt_of_lt_of_le h3 k0.size⟩, D2.out.trans (k0.mono D2.out.size)⟩
      · go_simp
        refine hK.out _ _ (K0.out _ (by go_grown)) (fun hHeld => ?_)
        clear hK K
        try simp only [Act.put, List.setIfInBounds_toArray, List.set_cons_zero, List.set_cons_succ]
        have A9 := Lib.hid (Arr7.new (w4) _ (show ((w4)).heap.size = w4.heap.size by simp))
        refine wpAnyH_ready (rs := [7, 8]) (by kernel_rfl) (by simp) ?_
        refine (AllReadyH.cons rfl (fun K hK => ?_) (AllReadyH.cons rfl (fun K hK => ?_) AllReadyH.nil))
        · go_simp
          refine (HO.out _ _ _ _ _).mono ?_
          rintro e w5 ⟨rfl, hb5⟩
          have hB := hHeld.1.trans (hb5.mono hHeld.1.size)
          have hz5 := hB.size
          replace A9 := Lib.hid (A9.out.below hb5)
          try clear m90 m91 m92 m93 m94 m95 m96 n9 l9
          obtain ⟨m90, m91, m92, m93, m94, m95, m96, n9, l9⟩ := A9.out
          go_wp2_with fail
          refine hK.out _ _ (K0.out _ hB) (fun hHeld => ?_)
          clear hK K
          try simp only [Act.put, List.setIfInBounds_toArray, List.set_cons_zero, List.set_cons_succ]
          refine wpAnyH_ready (rs := [8]) (by kernel_rfl) (by simp) ?_
          refine (AllReadyH.cons rfl (fun K hK => ?_) AllReadyH.nil)
          go_simp
          refine hK.out _ _ (K0.out _ (by go_grown)) (fun hHeld => ?_)
          clear hK K
          try simp only [Act.put, List.setIfInBounds_toArray, List.set_cons_zero, List.set_cons_succ]
          replace A9 := Lib.hid (A9.out.alloc (.cells #[.bool false, .bool false, .bool false, .bool false, .bool false, .bool false, .bool false] 53))
          have ne1 : w4.heap.size ≠ w5.heap.size := by have := l9; omega
          have ne2 : w5.heap.size ≠ w4.heap.size := by have := l9; omega
          have A8 := Lib.hid (Arr7.new (w5) _ (show ((w5)).heap.size = w5.heap.size by simp))
          refine wpAnyH_ready (rs := [10]) (by kernel_rfl) (by simp) ?_
          refine (AllReadyH.cons rfl (fun K hK => ?_) AllReadyH.nil)
          go_simp
          refine hK.out _ _ (K0.out _ (by go_grown)) (fun hHeld => ?_)
          clear hK K
          try simp only [Act.put, List.setIfInBounds_toArray, List.set_cons_zero, List.set_cons_succ]
          refine wpAnyH_ready (rs := [11]) (by kernel_rfl) (by simp) ?_
          refine (AllReadyH.cons rfl (fun K hK => ?_) AllReadyH.nil)
          go_simp
          refine hK.out _ _ (K0.out _ (by go_grown)) (fun hHeld => ?_)
          clear hK K
          try simp only [Act.put, List.setIfInBounds_toArray, List.set_cons_zero, List.set_cons_succ]
          refine wpAnyH_done (by kernel_rfl) ?_ _
          go_wp2
          go_meet
          obtain ⟨k0, k1, k2, k3, k4⟩ := hHeld
          exact ⟨w5.heap.size, w4.heap.size, rfl, rfl, (fun i hi => by match i, hi with | 0, _ => go_simp | 1, _ => go_simp | 2, _ => go_simp | 3, _ => go_simp | 4, _ => go_simp | 5, _ => go_simp | 6, _ => go_simp), (fun i hi => by match i, hi with | 0, _ => go_simp | 1, _ => go_simp | 2, _ => go_simp | 3, _ => go_simp | 4, _ => go_simp | 5, _ => go_simp | 6, _ => go_simp), by first | omega | (simp; done) | (simp; omega), by first | omega | (simp; done) | (simp; omega), ⟨k1, k2, fun o => (k0.frozen (p := ⟨w.heap.size, o, none⟩) h2).trans (P2.out.fr o), Nat.lt_of_lt_of_le h2 k0.size⟩, ⟨k3, k4, fun o => (k0.frozen (p := ⟨w.heap.size + 1, o, none⟩) h3).trans (Q2.out.fr o), Nat.lt_of_lt_of_le h3 k0.size⟩, D2.out.trans (k0.mono D2.out.size)⟩
        · go_simp
          refine hK.out _ _ (K0.out _ (by go_grown)) (fun hHeld => ?_)
          clear hK K
          try simp only [Act.put, List.setIfInBounds_toArray, List.set_cons_zero, List.set_cons_succ]
          replace A9 := Lib.hid (A9.out.alloc (.cells #[.bool false, .bool false, .bool false, .bool false, .bool false, .bool false, .bool false] 53))
          have A8 := Lib.hid (Arr7.new ((w4).alloc (.cells #[.bool false, .bool false, .bool false, .bool false, .bool false, .bool false, .bool false] 53)) _ (show (((w4).alloc (.cells #[.bool false, .bool false, .bool false, .bool false, .bool false, .bool false, .bool false] 53))).heap.size = w4.heap.size + 1 by simp))
          refine wpAnyH_ready (rs := [7]) (by kernel_rfl) (by simp) ?_
          refine (AllReadyH.cons rfl (fun K hK => ?_) AllReadyH.nil)
          go_simp
          refine (HO.out _ _ _ _ _).mono ?_
          rintro e w5 ⟨rfl, hb5⟩
          have hB := hHeld.1.trans (hb5.mono hHeld.1.size)
          have hz5 := hB.size
          replace A8 := Lib.hid (A8.out.below hb5)
          try clear m80 m81 m82 m83 m84 m85 m86 n8 l8
          obtain ⟨m80, m81, m82, m83, m84, m85, m86, n8, l8⟩ := A8.out
          replace A9 := Lib.hid (A9.out.below hb5)
          try clear m90 m91 m92 m93 m94 m95 m96 n9 l9
          obtain ⟨m90, m91, m92, m93, m94, m95, m96, n9, l9⟩ := A9.out
          go_wp2_with fail
          refine hK.out _ _ (K0.out _ hB) (fun hHeld => ?_)
          clear hK K
          try simp only [Act.put, List.setIfInBounds_toArray, List.set_cons_zero, List.set_cons_succ]
          refine wpAnyH_ready (rs := [10]) (by kernel_rfl) (by simp) ?_
          refine (AllReadyH.cons rfl (fun K hK => ?_) AllReadyH.nil)
          go_simp
          refine hK.out _ _ (K0.out _ (by go_grown)) (fun hHeld => ?_)
          clear hK K
          try simp only [Act.put, List.setIfInBounds_toArray, List.set_cons_zero, List.set_cons_succ]
          refine wpAnyH_ready (rs := [11]) (by kernel_rfl) (by simp) ?_
          refine (AllReadyH.cons rfl (fun K hK => ?_) AllReadyH.nil)
          go_simp
          refine hK.out _ _ (K0.out _ (by go_grown)) (fun hHeld => ?_)
          clear hK K
          try simp only [Act.put, List.setIfInBounds_toArray, List.set_cons_zero, List.set_cons_succ]
          refine wpAnyH_done (by kernel_rfl) ?_ _
          go_wp2
          go_meet
          obtain ⟨k0, k1, k2, k3, k4⟩ := hHeld
          exact ⟨w4.heap.size + 1, w4.heap.size, rfl, rfl, (fun i hi => by match i, hi with | 0, _ => go_simp | 1, _ => go_simp | 2, _ => go_simp | 3, _ => go_simp | 4, _ => go_simp | 5, _ => go_simp | 6, _ => go_simp), (fun i hi => by match i, hi with | 0, _ => go_simp | 1, _ => go_simp | 2, _ => go_simp | 3, _ => go_simp | 4, _ => go_simp | 5, _ => go_simp | 6, _ => go_simp), by first | omega | (simp; done) | (simp; omega), by first | omega | (simp; done) | (simp; omega), ⟨k1, k2, fun o => (k0.frozen (p := ⟨w.heap.size, o, none⟩) h2).trans (P2.out.fr o), Nat.lt_of_lt_of_le h2 k0.size⟩, ⟨k3, k4, fun o => (k0.frozen (p := ⟨w.heap.size + 1, o, none⟩) h3).trans (Q2.out.fr o), Nat.lt_of_lt_of_le h3 k0.size⟩, D2.out.trans (k0.mono D2.out.size)⟩
    · go_simp
      refine hK.out _ _ (K0.out _ (by go_grown)) (fun hHeld => ?_)
      clear hK K
      try simp only [Act.put, List.setIfInBounds_toArray, List.set_cons_zero, List.set_cons_succ]
      have A8 := Lib.hid (Arr7.new (w2.drew) _ (show ((w2.drew)).heap.size = w2.heap.size by simp))
      refine wpAnyH_ready (rs := [3, 9]) (by kernel_rfl) (by simp) ?_
      refine (AllReadyH.cons rfl (fun K hK => ?_) (AllReadyH.cons rfl (fun K hK => ?_) AllReadyH.nil))
      · go_simp
        refine (HO.out _ _ _ _ _).mono ?_
        rintro e w4 ⟨rfl, hb4⟩
        have hB := hHeld.1.trans (hb4.mono hHeld.1.size)
        have hz4 := hB.size
        replace A8 := Lib.hid (A8.out.below hb4)
        try clear m80 m81 m82 m83 m84 m85 m86 n8 l8
        obtain ⟨m80, m81, m82, m83, m84, m85, m86, n8, l8⟩ := A8.out
        go_wp2_with fail
        refine hK.out _ _ (K0.out _ hB) (fun hHeld => ?_)
        clear hK K
        try simp only [Act.put, List.setIfInBounds_toArray, List.set_cons_zero, List.set_cons_succ]
        refine wpAnyH_ready (rs := [7, 9]) (by kernel_rfl) (by simp) ?_
        refine (AllReadyH.cons rfl (fun K hK => ?_) (AllReadyH.cons rfl (fun K hK => ?_) AllReadyH.nil))
        · go_simp
          refine (HO.out _ _ _ _ _).mono ?_
          rintro e w5 ⟨rfl, hb5⟩
          have hB := hHeld.1.trans (hb5.mono hHeld.1.size)
          have hz5 := hB.size
          replace A8 := Lib.hid (A8.out.below hb5)
          try clear m80 m81 m82 m83 m84 m85 m86 n8 l8
          obtain ⟨m80, m81, m82, m83, m84, m85, m86, n8, l8⟩ := A8.out
          go_wp2_with fail
          refine hK.out _ _ (K0.out _ hB) (fun hHeld => ?_)
          clear hK K
          try simp only [Act.put, List.setIfInBounds_toArray, List.set_cons_zero, List.set_cons_succ]
          refine wpAnyH_ready (rs := [9]) (by kernel_rfl) (by simp) ?_
          refine (AllReadyH.cons rfl (fun K hK => ?_) AllReadyH.nil)
          go_simp
          refine hK.out _ _ (K0.out _ (by go_grown)) (fun hHeld => ?_)
          clear hK K
          try simp only [Act.put, List.setIfInBounds_toArray, List.set_cons_zero, List.set_cons_succ]
          replace A8 := Lib.hid (A8.out.alloc (.cells #[.bool false, .bool false, .bool false, .bool false, .bool false, .bool false, .bool false] 53))
          have ne1 : w2.heap.size ≠ w5.heap.size := by have := l8; omega
          have ne2 : w5.heap.size ≠ w2.heap.size := by have := l8; omega
          have A9 := Lib.hid (Arr7.new (w5) _ (show ((w5)).heap.size = w5.heap.size by simp))
          refine wpAnyH_ready (rs := [10]) (by kernel_rfl) (by simp) ?_
          refine (AllReadyH.cons rfl (fun K hK => ?_) AllReadyH.nil)
          go_simp
          refine hK.out _ _ (K0.out _ (by go_grown)) (fun hHeld => ?_)
          clear hK K
          try simp only [Act.put, List.setIfInBounds_toArray, List.set_cons_zero, List.set_cons_succ]
          refine wpAnyH_ready (rs := [11]) (by kernel_rfl) (by simp) ?_
          refine (AllReadyH.cons rfl (fun K hK => ?_) AllReadyH.nil)
          go_simp
          refine hK.out _ _ (K0.out _ (by go_grown)) (fun hHeld => ?_)
          clear hK K
          try simp only [Act.put, List.setIfInBounds_toArray, List.set_cons_zero, List.set_cons_succ]
          refine wpAnyH_done (by kernel_rfl) ?_ _
          go_wp2
          go_meet
          obtain ⟨k0, k1, k2, k3, k4⟩ := hHeld
          exact ⟨w2.heap.size, w5.heap.size, rfl, rfl, (fun i hi => by match i, hi with | 0, _ => go_simp | 1, _ => go_simp | 2, _ => go_simp | 3, _ => go_simp | 4, _ => go_simp | 5, _ => go_simp | 6, _ => go_simp), (fun i hi => by match i, hi with | 0, _ => go_simp | 1, _ => go_simp | 2, _ => go_simp | 3, _ => go_simp | 4, _ => go_simp | 5, _ => go_simp | 6, _ => go_simp), by first | omega | (simp; done) | (simp; omega), by first | omega | (simp; done) | (simp; omega), ⟨k1, k2, fun o => (k0.frozen (p := ⟨w.heap.size, o, none⟩) h2).trans (P2.out.fr o), Nat.lt_of_lt_of_le h2 k0.size⟩, ⟨k3, k4, fun o => (k0.frozen (p := ⟨w.heap.size + 1, o, none⟩) h3).trans (Q2.out.fr o), Nat.lt_of_lt_of_le h3 k0.size⟩, D2.out.trans (k0.mono D2.out.size)⟩
        · go_simp
          refine hK.out _ _ (K0.out _ (by go_grown)) (fun hHeld => ?_)
          clear hK K
          try simp only [Act.put, List.setIfInBounds_toArray, List.set_cons_zero, List.set_cons_succ]
          replace A8 := Lib.hid (A8.out.alloc (.cells #[.bool false, .bool false, .bool false, .bool false, .bool false, .bool false, .bool false] 53))
          have ne1 : w2.heap.size ≠ w4.heap.size := by have := l8; omega
          have ne2 : w4.heap.size ≠ w2.heap.size := by have := l8; omega
          have A9 := Lib.hid (Arr7.new (w4) _ (show ((w4)).heap.size = w4.heap.size by simp))
          refine wpAnyH_ready (rs := [7]) (by kernel_rfl) (by simp) ?_
          refine (AllReadyH.cons rfl (fun K hK => ?_) AllReadyH.nil)
          go_simp
          refine (HO.out _ _ _ _ _).mono ?_
          rintro e w5 ⟨rfl, hb5⟩
          have hB := hHeld.1.trans (hb5.mono hHeld.1.size)
          have hz5 := hB.size
          replace A8 := Lib.hid (A8.out.below hb5)
          try clear m80 m81 m82 m83 m84 m85 m86 n8 l8
          obtain ⟨m80, m81, m82, m83, m84, m85, m86, n8, l8⟩ := A8.out
          replace A9 := Lib.hid (A9.out.below hb5)
          try clear m90 m91 m92 m93 m94 m95 m96 n9 l9
          obtain ⟨m90, m91, m92, m93, m94, m95, m96, n9, l9⟩ := A9.out
          go_wp2_with fail
          refine hK.out _ _ (K0.out _ hB) (fun hHeld => ?_)
          clear hK K
          try simp only [Act.put, List.setIfInBounds_toArray, List.set_cons_zero, List.set_cons_succ]
          refine wpAnyH_ready (rs := [10]) (by kernel_rfl) (by simp) ?_
          refine (AllReadyH.cons rfl (fun K hK => ?_) AllReadyH.nil)
          go_simp
          refine hK.out _ _ (K0.out _ (by go_grown)) (fun hHeld => ?_)
          clear hK K
          try simp only [Act.put, List.setIfInBounds_toArray, List.set_cons_zero, List.set_cons_succ]
          refine wpAnyH_ready (rs := [11]) (by kernel_rfl) (by simp) ?_
          refine (AllReadyH.cons rfl (fun K hK => ?_) AllReadyH.nil)
          go_simp
          refine hK.out _ _ (K0.out _ (by go_grown)) (fun hHeld => ?_)
          clear hK K
          try simp only [Act.put, List.setIfInBounds_toArray, List.set_cons_zero, List.set_cons_succ]
          refine wpAnyH_done (by kernel_rfl) ?_ _
          go_wp2
          go_meet
          obtain ⟨k0, k1, k2, k3, k4⟩ := hHeld
          exact ⟨w2.heap.size, w4.heap.size, rfl, rfl, (fun i hi => by match i, hi with | 0, _ => go_simp | 1, _ => go_simp | 2, _ => go_simp | 3, _ => go_simp | 4, _ => go_simp | 5, _ => go_simp | 6, _ => go_simp), (fun i hi => by match i, hi with | 0, _ => go_simp | 1, _ => go_simp | 2, _ => go_simp | 3, _ => go_simp | 4, _ => go_simp | 5, _ => go_simp | 6, _ => go_simp), by first | omega | (simp; done) | (simp; omega), by first | omega | (simp; done) | (simp; omega), ⟨k1, k2, fun o => (k0.frozen (p := ⟨w.heap.size, o, none⟩) h2).trans (P2.out.fr o), Nat.lt_of_lt_of_le h2 k0.size⟩, ⟨k3, k4, fun o => (k0.frozen (p := ⟨w.heap.size + 1, o, none⟩) h3).trans (Q2.out.fr o), Nat.lt_of_lt_of_le h3 k0.size⟩, D2.out.trans (k0.mono D2.out.size)⟩
      · go_simp
        refine hK.out _ _ (K0.out _ (by go_grown)) (fun hHeld => ?_)
        clear hK K
        try simp only [Act.put, List.setIfInBounds_toArray, List.set_cons_zero, List.set_cons_succ]
        replace A8 := Lib.hid (A8.out.alloc (.cells #[.bool false, .bool false, .bool false, .bool false, .bool false, .bool false, .bool false] 53))
        have A9 := Lib.hid (Arr7.new ((w2.drew).alloc (.cells #[.bool false, .bool false, .bool false, .bool false, .bool false, .bool false, .bool false] 53)) _ (show (((w2.drew).alloc (.cells #[.bool false, .bool false, .bool false, .bool false, .bool false, .bool false, .bool false] 53))).heap.size = w2.heap.size + 1 by simp))
        refine wpAnyH_ready (rs := [3]) (by kernel_rfl) (by simp) ?_
        refine (AllReadyH.cons rfl (fun K hK => ?_) AllReadyH.nil)
        go_simp
        refine (HO.out _ _ _ _ _).mono ?_
        rintro e w4 ⟨rfl, hb4⟩
        have hB := hHeld.1.trans (hb4.mono hHeld.1.size)
        have hz4 := hB.size
        replace A8 := Lib.hid (A8.out.below hb4)
        try clear m80 m81 m82 m83 m84 m85 m86 n8 l8
        obtain ⟨m80, m81, m82, m83, m84, m85, m86, n8, l8⟩ := A8.out
        replace A9 := Lib.hid (A9.out.below hb4)
        try clear m90 m91 m92 m93 m94 m95 m96 n9 l9
        obtain ⟨m90, m91, m92, m93, m94, m95, m96, n9, l9⟩ := A9.out
        go_wp2_with fail
        refine hK.out _ _ (K0.out _ hB) (fun hHeld => ?_)
        clear hK K
        try simp only [Act.put, List.setIfInBounds_toArray, List.set_cons_zero, List.set_cons_succ]
        refine wpAnyH_ready (rs := [7]) (by kernel_rfl) (by simp) ?_
        refine (AllReadyH.cons rfl (fun K hK => ?_) AllReadyH.nil)
        go_simp
        refine (HO.out _ _ _ _ _).mono ?_
        rintro e w5 ⟨rfl, hb5⟩
        have hB := hHeld.1.trans (hb5.mono hHeld.1.size)
        have hz5 := hB.size
        replace A8 := Lib.hid (A8.out.below hb5)
        try clear m80 m81 m82 m83 m84 m85 m86 n8 l8
        obtain ⟨m80, m81, m82, m83, m84, m85, m86, n8, l8⟩ := A8.out
        replace A9 := Lib.hid (A9.out.below hb5)
        try clear m90 m91 m92 m93 m94 m95 m96 n9 l9
        obtain ⟨m90, m91, m92, m93, m94, m95, m96, n9, l9⟩ := A9.out
        go_wp2_with fail
        refine hK.out _ _ (K0.out _ hB) (fun hHeld => ?_)
        clear hK K
        try simp only [Act.put, List.setIfInBounds_toArray, List.set_cons_zero, List.set_cons_succ]
        refine wpAnyH_ready (rs := [10]) (by kernel_rfl) (by simp) ?_
        refine (AllReadyH.cons rfl (fun K hK => ?_) AllReadyH.nil)
        go_simp
        refine hK.out _ _ (K0.out _ (by go_grown)) (fun hHeld => ?_)
        clear hK K
        try simp only [Act.put, List.setIfInBounds_toArray, List.set_cons_zero, List.set_cons_succ]
        refine wpAnyH_ready (rs := [11]) (by kernel_rfl) (by simp) ?_
        refine (AllReadyH.cons rfl (fun K hK => ?_) AllReadyH.nil)
        go_simp
        refine hK.out _ _ (K0.out _ (by go_grown)) (fun hHeld => ?_)
        clear hK K
        try simp only [Act.put, List.setIfInBounds_toArray, List.set_cons_zero, List.set_cons_succ]
        refine wpAnyH_done (by kernel_rfl) ?_ _
        go_wp2
        go_meet
        obtain ⟨k0, k1, k2, k3, k4⟩ := hHeld
        exact ⟨w2.heap.size, w2.heap.size + 1, rfl, rfl, (fun i hi => by match i, hi with | 0, _ => go_simp | 1, _ => go_simp | 2, _ => go_simp | 3, _ => go_simp | 4, _ => go_simp | 5, _ => go_simp | 6, _ => go_simp), (fun i hi => by match i, hi with | 0, _ => go_simp | 1, _ => go_simp | 2, _ => go_simp | 3, _ => go_simp | 4, _ => go_simp | 5, _ => go_simp | 6, _ => go_simp), by first | omega | (simp; done) | (simp; omega), by first | omega | (simp; done) | (simp; omega), ⟨k1, k2, fun o => (k0.frozen (p := ⟨w.heap.size, o, none⟩) h2).trans (P2.out.fr o), Nat.lt_of_lt_of_le h2 k0.size⟩, ⟨k3, k4, fun o => (k0.frozen (p := ⟨w.heap.size + 1, o, none⟩) h3).trans (Q2.out.fr o), Nat.lt_of_lt_of_le h3 k0.size⟩, D2.out.trans (k0.mono D2.out.size)⟩
    · go_simp
      refine hK.out _ _ (K0.out _ (by go_grown)) (fun hHeld => ?_)
      clear hK K
      try simp only [Act.put, List.setIfInBounds_toArray, List.set_cons_zero, List.set_cons_succ]
      have A9 := Lib.hid (Arr7.new (w2.drew) _ (show ((w2.drew)).heap.size = w2.heap.size by simp))
      refine wpAnyH_ready (rs := [3, 8]) (by kernel_rfl) (by simp) ?_
      refine (AllReadyH.cons rfl (fun K hK => ?_) (AllReadyH.cons rfl (fun K hK => ?_) AllReadyH.nil))
      · go_simp
        refine (HO.out _ _ _ _ _).mono ?_
        rintro e w4 ⟨rfl, hb4⟩
        have hB := hHeld.1.trans (hb4.mono hHeld.1.size)
        have hz4 := hB.size
        replace A9 := Lib.hid (A9.out.below hb4)
        try clear m90 m91 m92 m93 m94 m95 m96 n9 l9
        obtain ⟨m90, m91, m92, m93, m94, m95, m96, n9, l9⟩ := A9.out
        go_wp2_with fail
        refine hK.out _ _ (K0.out _ hB) (fun hHeld => ?_)
        clear hK K
        try simp only [Act.put, List.setIfInBounds_toArray, List.set_cons_zero, List.set_cons_succ]
        refine wpAnyH_ready (rs := [7, 8]) (by kernel_rfl) (by simp) ?_
        refine (AllReadyH.cons rfl (fun K hK => ?_) (AllReadyH.cons rfl (fun K hK => ?_) AllReadyH.nil))
        · go_simp
          refine (HO.out _ _ _ _ _).mono ?_
          rintro e w5 ⟨rfl, hb5⟩
          have hB := hHeld.1.trans (hb5.mono hHeld.1.size)
          have hz5 := hB.size
          replace A9 := Lib.hid (A9.out.below hb5)
          try clear m90 m91 m92 m93 m94 m95 m96 n9 l9
          obtain ⟨m90, m91, m92, m93, m94, m95, m96, n9, l9⟩ := A9.out
          go_wp2_with fail
          refine hK.out _ _ (K0.out _ hB) (fun hHeld => ?_)
          clear hK K
          try simp only [Act.put, List.setIfInBounds_toArray, List.set_cons_zero, List.set_cons_succ]
          refine wpAnyH_ready (rs := [8]) (by kernel_rfl) (by simp) ?_
          refine (AllReadyH.cons rfl (fun K hK => ?_) AllReadyH.nil)
          go_simp
          refine hK.out _ _ (K0.out _ (by go_grown)) (fun hHeld => ?_)
          clear hK K
          try simp only [Act.put, List.setIfInBounds_toArray, List.set_cons_zero, List.set_cons_succ]
          replace A9 := Lib.hid (A9.out.alloc (.cells #[.bool false, .bool false, .bool false, .bool false, .bool false, .bool false, .bool false] 53))
          have ne1 : w2.heap.size ≠ w5.heap.size := by have := l9; omega
          have ne2 : w5.heap.size ≠ w2.heap.size := by have := l9; omega
          have A8 := Lib.hid (Arr7.new (w5) _ (show ((w5)).heap.size = w5.heap.size by simp))
          refine wpAnyH_ready (rs := [10]) (by kernel_rfl) (by simp) ?_
          refine (AllReadyH.cons rfl (fun K hK => ?_) AllReadyH.nil)
          go_simp
          refine hK.out _ _ (K0.out _ (by go_grown)) (fun hHeld => ?_)
          clear hK K
          try simp only [Act.put, List.setIfInBounds_toArray, List.set_cons_zero, List.set_cons_succ]
          refine wpAnyH_ready (rs := [11]) (by kernel_rfl) (by simp) ?_
          refine (AllReadyH.cons rfl (fun K hK => ?_) AllReadyH.nil)
          go_simp
          refine hK.out _ _ (K0.out _ (by go_grown)) (fun hHeld => ?_)
          clear hK K
          try simp only [Act.put, List.setIfInBounds_toArray, List.set_cons_zero, List.set_cons_succ]
          refine wpAnyH_done (by kernel_rfl) ?_ _
          go_wp2
          go_meet
          obtain ⟨k0, k1, k2, k3, k4⟩ := hHeld
          exact ⟨w5.heap.size, w2.heap.size, rfl, rfl, (fun i hi => by match i, hi with | 0, _ => go_simp | 1, _ => go_simp | 2, _ => go_simp | 3, _ => go_simp | 4, _ => go_simp | 5, _ => go_simp | 6, _ => go_simp), (fun i hi => by match i, hi with | 0, _ => go_simp | 1, _ => go_simp | 2, _ => go_simp | 3, _ => go_simp | 4, _ => go_simp | 5, _ => go_simp | 6, _ => go_simp), by first | omega | (simp; done) | (simp; omega), by first | omega | (simp; done) | (simp; omega), ⟨k1, k2, fun o => (k0.frozen (p := ⟨w.heap.size, o, none⟩) h2).trans (P2.out.fr o), Nat.lt_of_lt_of_le h2 k0.size⟩, ⟨k3, k4, fun o => (k0.frozen (p := ⟨w.heap.size + 1, o, none⟩) h3).trans (Q2.out.fr o), Nat.lt_of_lt_of_le h3 k0.size⟩, D2.out.trans (k0.mono D2.out.size)⟩
        · go_simp
          refine hK.out _ _ (K0.out _ (by go_grown)) (fun hHeld => ?_)
          clear hK K
          try simp only [Act.put, List.setIfInBounds_toArray, List.set_cons_zero, List.set_cons_succ]
          replace A9 := Lib.hid (A9.out.alloc (.cells #[.bool false, .bool false, .bool false, .bool false, .bool false, .bool false, .bool false] 53))
          have ne1 : w2.heap.size ≠ w4.heap.size := by have := l9; omega
          have ne2 : w4.heap.size ≠ w2.heap.size := by have := l9; omega
          have A8 := Lib.hid (Arr7.new (w4) _ (show ((w4)).heap.size = w4.heap.size by simp))
          refine wpAnyH_ready (rs := [7]) (by kernel_rfl) (by simp) ?_
          refine (AllReadyH.cons rfl (fun K hK => ?_) AllReadyH.nil)
          go_simp
          refine (HO.out _ _ _ _ _).mono ?_
          rintro e w5 ⟨rfl, hb5⟩
          have hB := hHeld.1.trans (hb5.mono hHeld.1.size)
          have hz5 := hB.size
          replace A8 := Lib.hid (A8.out.below hb5)
          try clear m80 m81 m82 m83 m84 m85 m86 n8 l8
          obtain ⟨m80, m81, m82, m83, m84, m85, m86, n8, l8⟩ := A8.out
          replace A9 := Lib.hid (A9.out.below hb5)
          try clear m90 m91 m92 m93 m94 m95 m96 n9 l9
          obtain ⟨m90, m91, m92, m93, m94, m95, m96, n9, l9⟩ := A9.out
          go_wp2_with fail
          refine hK.out _ _ (K0.out _ hB) (fun hHeld => ?_)
          clear hK K
          try simp only [Act.put, List.setIfInBounds_toArray, List.set_cons_zero, List.set_cons_succ]
          refine wpAnyH_ready (rs := [10]) (by kernel_rfl) (by simp) ?_
          refine (AllReadyH.cons rfl (fun K hK => ?_) AllReadyH.nil)
          go_simp
          refine hK.out _ _ (K0.out _ (by go_grown)) (fun hHeld => ?_)
          clear hK K
          try simp only [Act.put, List.setIfInBounds_toArray, List.set_cons_zero, List.set_cons_succ]
          refine wpAnyH_ready (rs := [11]) (by kernel_rfl) (by simp) ?_
          refine (AllReadyH.cons rfl (fun K hK => ?_) AllReadyH.nil)
          go_simp
          refine hK.out _ _ (K0.out _ (by go_grown)) (fun hHeld => ?_)
          clear hK K
          try simp only [Act.put, List.setIfInBounds_toArray, List.set_cons_zero, List.set_cons_succ]
          refine wpAnyH_done (by kernel_rfl) ?_ _
          go_wp2
          go_meet
          obtain ⟨k0, k1, k2, k3, k4⟩ := hHeld
          exact ⟨w4.heap.size, w2.heap.size, rfl, rfl, (fun i hi => by match i, hi with | 0, _ => go_simp | 1, _ => go_simp | 2, _ => go_simp | 3, _ => go_simp | 4, _ => go_simp | 5, _ => go_simp | 6, _ => go_simp), (fun i hi => by match i, hi with | 0, _ => go_simp | 1, _ => go_simp | 2, _ => go_simp | 3, _ => go_simp | 4, _ => go_simp | 5, _ => go_simp | 6, _ => go_simp), by first | omega | (simp; done) | (simp; omega), by first | omega | (simp; done) | (simp; omega), ⟨k1, k2, fun o => (k0.frozen (p := ⟨w.heap.size, o, none⟩) h2).trans (P2.out.fr o), Nat.lt_of_lt_of_le h2 k0.size⟩, ⟨k3, k4, fun o => (k0.frozen (p := ⟨w.heap.size + 1, o, none⟩) h3).trans (Q2.out.fr o), Nat.lt_of_lt_of_le h3 k0.size⟩, D2.out.trans (k0.mono D2.out.size)⟩
      · go_simp
        refine hK.out _ _ (K0.out _ (by go_grown)) (fun hHeld => ?_)
        clear hK K
        try simp only [Act.put, List.setIfInBounds_toArray, List.set_cons_zero, List.set_cons_succ]
        replace A9 := Lib.hid (A9.out.alloc (.cells #[.bool false, .bool false, .bool false, .bool false, .bool false, .bool false, .bool false] 53))
        have A8 := Lib.hid (Arr7.new ((w2.drew).alloc (.cells #[.bool false, .bool false, .bool false, .bool false, .bool false, .bool false, .bool false] 53)) _ (show (((w2.drew).alloc (.cells #[.bool false, .bool false, .bool false, .bool false, .bool false, .bool false, .bool false] 53))).heap.size = w2.heap.size + 1 by simp))
        refine wpAnyH_ready (rs := [3]) (by kernel_rfl) (by simp) ?_
        refine (AllReadyH.cons rfl (fun K hK => ?_) AllReadyH.nil)
        go_simp
        refine (HO.out _ _ _ _ _).mono ?_
        rintro e w4 ⟨rfl, hb4⟩
        have hB := hHeld.1.trans (hb4.mono hHeld.1.size)
        have hz4 := hB.size
        replace A8 := Lib.hid (A8.out.below hb4)
        try clear m80 m81 m82 m83 m84 m85 m86 n8 l8
        obtain ⟨m80, m81, m82, m83, m84, m85, m86, n8, l8⟩ := A8.out
        replace A9 := Lib.hid (A9.out.below hb4)
        try clear m90 m91 m92 m93 m94 m95 m96 n9 l9
        obtain ⟨m90, m91, m92, m93, m94, m95, m96, n9, l9⟩ := A9.out
        go_wp2_with fail
        refine hK.out _ _ (K0.out _ hB) (fun hHeld => ?_)
        clear hK K
        try simp only [Act.put, List.setIfInBounds_toArray, List.set_cons_zero, List.set_cons_succ]
        refine wpAnyH_ready (rs := [7]) (by kernel_rfl) (by simp) ?_
        refine (AllReadyH.cons rfl (fun K hK => ?_) AllReadyH.nil)
        go_simp
        refine (HO.out _ _ _ _ _).mono ?_
        rintro e w5 ⟨rfl, hb5⟩
        have hB := hHeld.1.trans (hb5.mono hHeld.1.size)
        have hz5 := hB.size
        replace A8 := Lib.hid (A8.out.below hb5)
        try clear m80 m81 m82 m83 m84 m85 m86 n8 l8
        obtain ⟨m80, m81, m82, m83, m84, m85, m86, n8, l8⟩ := A8.out
        replace A9 := Lib.hid (A9.out.below hb5)
        try clear m90 m91 m92 m93 m94 m95 m96 n9 l9
        obtain ⟨m90, m91, m92, m93, m94, m95, m96, n9, l9⟩ := A9.out
        go_wp2_with fail
        refine hK.out _ _ (K0.out _ hB) (fun hHeld => ?_)
        clear hK K
        try simp only [Act.put, List.setIfInBounds_toArray, List.set_cons_zero, List.set_cons_succ]
        refine wpAnyH_ready (rs := [10]) (by kernel_rfl) (by simp) ?_
        refine (AllReadyH.cons rfl (fun K hK => ?_) AllReadyH.nil)
        go_simp
        refine hK.out _ _ (K0.out _ (by go_grown)) (fun hHeld => ?_)
        clear hK K
        try simp only [Act.put, List.setIfInBounds_toArray, List.set_cons_zero, List.set_cons_succ]
        refine wpAnyH_ready (rs := [11]) (by kernel_rfl) (by simp) ?_
        refine (AllReadyH.cons rfl (fun K hK => ?_) AllReadyH.nil)
        go_simp
        refine hK.out _ _ (K0.out _ (by go_grown)) (fun hHeld => ?_)
        clear hK K
        try simp only [Act.put, List.setIfInBounds_toArray, List.set_cons_zero, List.set_cons_succ]
        refine wpAnyH_done (by kernel_rfl) ?_ _
        go_wp2
        go_meet
        obtain ⟨k0, k1, k2, k3, k4⟩ := hHeld
        exact ⟨w2.heap.size + 1, w2.heap.size, rfl, rfl, (fun i hi => by match i, hi with | 0, _ => go_simp | 1, _ => go_simp | 2, _ => go_simp | 3, _ => go_simp | 4, _ => go_simp | 5, _ => go_simp | 6, _ => go_simp), (fun i hi => by match i, hi with | 0, _ => go_simp | 1, _ => go_simp | 2, _ => go_simp | 3, _ => go_simp | 4, _ => go_simp | 5, _ => go_simp | 6, _ => go_simp), by first | omega | (simp; done) | (simp; omega), by first | omega | (simp; done) | (simp; omega), ⟨k1, k2, fun o => (k0.frozen (p := ⟨w.heap.size, o, none⟩) h2).trans (P2.out.fr o), Nat.lt_of_lt_of_le h2 k0.size⟩, ⟨k3, k4, fun o => (k0.frozen (p := ⟨w.heap.size + 1, o, none⟩) h3).trans (Q2.out.fr o), Nat.lt_of_lt_of_le h3 k0.size⟩, D2.out.trans (k0.mono D2.out.size)⟩
  case rest =>
  obtain ⟨g1, g2, rfl, rfl, hr1, hr2, hl1, hl2, hp, hq, hb⟩ := hcut
  obtain ⟨w6, rfl⟩ : ∃ w6 : World, w6 = wc := ⟨_, rfl⟩
  have HR1 := Lib.hid hr1
  have HR2 := Lib.hid hr2
  have P6 := Lib.hid hp
  have Q6 := Lib.hid hq
  have D6 := Lib.hid hb
  clear hr1 hr2 hp hq hb P2 Q2 D2 D1 R1 R2 R3 HO eh v1 v2
  go_wp2
  go_loop [14, 74] (fun n i => ∃ k : Nat, k ≤ 7 ∧ i = .int .i64 k ∧ n = .int .i64 (cntR R k)) (fun _ i => 7 - (intOf i).toNat)
  case atStart => exact ⟨0, by omega, rfl, by rw [cnt_zero hR1 hR2]⟩
  case round =>
    obtain ⟨k, hk, rfl, rfl⟩ := hrel
    have hbd := cnt_bd R k
    obtain ⟨hbd1, hbd2⟩ := hbd
    by_cases hlt : k < 7
    · have m0 := HR1.out k hlt
      have m1 := HR2.out k hlt
      rw [T1.out k hlt] at m0
      rw [T2.out k hlt] at m1
      have k0 : (0 : Int) ≤ (k : Int) := by omega
      have k1 : (k : Int) < 7 := by omega
      by_cases hA : R = (k : Int) + 1
      · have HE := Lib.hid (cnt_a hlt hA)
        rw [decide_eq_true hA] at m0
        have e1 : (R != (k : Int) + 1) = false := by simp; omega
        by_cases hB : 14 - R = (k : Int) + 1
        · rw [decide_eq_true hB] at m1
          have e2 : decide ((k : Int) < 6) = false := by simp; omega
          clear hA hB
          go_wp2
          exact ⟨⟨k + 1, by omega, by go_num, by rw [HE.out]⟩, by simp [intOf]; omega⟩
        · rw [decide_eq_false hB] at m1
          clear hA hB
          go_wp2
          exact ⟨⟨k + 1, by omega, by go_num, by rw [HE.out]⟩, by simp [intOf]; omega⟩
      · rw [decide_eq_false hA] at m0
        by_cases hB : 14 - R = (k : Int) + 1
        · have HE := Lib.hid (cnt_b (show k < 6 by omega) (show R = 13 - (k : Int) by omega))
          rw [decide_eq_true hB] at m1
          have e2 : decide ((k : Int) < 6) = true := by simp; omega
          have e3 : (R != 13 - (k : Int)) = false := by simp; omega
          clear hA hB
          go_wp2
          exact ⟨⟨k + 1, by omega, by go_num, by rw [HE.out]⟩, by simp [intOf]; omega⟩
        · have HE := Lib.hid (cnt_n hlt hA (by omega) hR1)
          rw [decide_eq_false hB] at m1
          clear hA hB
          go_wp2
          exact ⟨⟨k + 1, by omega, by go_num, by rw [HE.out]⟩, by simp [intOf]; omega⟩
    · obtain rfl : k = 7 := by omega
      have hend := cnt_end hR1 hR2
      rw [hend]
      clear hbd1 hbd2 hend HR1 HR2 T1 T2 hl1 hl2 hlt hk
      obtain ⟨p0, p1, p2, p3⟩ := P6.out
      obtain ⟨q0, q1, q2, q3⟩ := Q6.out
      obtain ⟨mm, hmm⟩ : ∃ mm, max b d = mm := ⟨_, rfl⟩
      have hm1 : 0 ≤ mm ∧ mm ≤ 1099511627776 ∧ b ≤ mm ∧ d ≤ mm := by omega
      obtain ⟨hm1, hm2, hm3, hm4⟩ := hm1
      obtain ⟨sh, hsh⟩ : ∃ sh, t.tmod (1099511627776 - mm + 1) = sh := ⟨_, rfl⟩
      have hsh2 : t % (1099511627776 - mm + 1) = sh := by rw [← hsh, Int.tmod_eq_emod_of_nonneg ht]
      have hs1 : 0 ≤ sh := by rw [← hsh]; exact Int.tmod_nonneg _ ht
      have hs2 : sh < 1099511627776 - mm + 1 := by rw [← hsh]; exact Int.tmod_lt_of_pos _ (by omega)
      clear hsh
      go_upto_region 24 with fail
      rw [hsh2]
      have HMM := Lib.hid (show a + sh < b + sh ∧ b + sh ≤ 1099511627776 ∧ c + sh < d + sh ∧ d + sh ≤ 1099511627776 by omega)
      have u1 : IntKind.u64.wrap (a + sh) = a + sh := IntWalk.u64_in _ (by omega)
      have u2 : IntKind.u64.wrap (b + sh) = b + sh := IntWalk.u64_in _ (by omega)
      have u3 : IntKind.u64.wrap (c + sh) = c + sh := IntWalk.u64_in _ (by omega)
      have u4 : IntKind.u64.wrap (d + sh) = d + sh := IntWalk.u64_in _ (by omega)
      have r9 := Relation_any (a + sh) (b + sh) (c + sh) (d + sh)
      have y1 := may_mk HMM.out.1 HMM.out.2.1
      have y2 := may_mk HMM.out.2.2.1 HMM.out.2.2.2
      rw [(rel_yes (show bothB (a + sh) (b + sh) (c + sh) (d + sh) = true by simp [bothB, y1, y2])).1, (rel_yes (show bothB (a + sh) (b + sh) (c + sh) (d + sh) = true by simp [bothB, y1, y2])).2, SH.out sh] at r9
      have R9 := Lib.hid r9
      clear r9 y1 y2 hmm hsh2
      have z2 := p3
      have z3 := q3
      clear p0 p1 p2 p3 q0 q1 q2 q3
      have K0 := Lib.hid (fun wk (hb : Below w6.heap.size w6 wk) => (⟨hb, (P6.out.below hb).c0, (P6.out.below hb).c1, (Q6.out.below hb).c0, (Q6.out.below hb).c1⟩ : Below w6.heap.size w6 wk ∧ wk.cell? ⟨w.heap.size, 0, none⟩ = some (.int .u64 a) ∧ wk.cell? ⟨w.heap.size, 1, none⟩ = some (.int .u64 b) ∧ wk.cell? ⟨w.heap.size + 1, 0, none⟩ = some (.int .u64 c) ∧ wk.cell? ⟨w.heap.size + 1, 1, none⟩ = some (.int .u64 d)))
      refine wp_region_held_drew (S := (fun wk => Below w6.heap.size w6 wk ∧ wk.cell? ⟨w.heap.size, 0, none⟩ = some (.int .u64 a) ∧ wk.cell? ⟨w.heap.size, 1, none⟩ = some (.int .u64 b) ∧ wk.cell? ⟨w.heap.size + 1, 0, none⟩ = some (.int .u64 c) ∧ wk.cell? ⟨w.heap.size + 1, 1, none⟩ = some (.int .u64 d))) (by kernel_rfl) (K0.out _ (Below.refl _ _).drew) (fun hHeld => ?_)
      refine take_in (i := 0) (v := ?_) (some 111) rfl rfl (by kernel_rfl) (by kernel_rfl) (by kernel_rfl) (fun _ _ _ h => h) (Or.inl ⟨by rfl, ?_⟩) (by assumption) ?_
      rotate_left
      · (intro w hSw; (try dsimp only at hSw); (try go_split_ands); go_simp; try with_reducible rfl)
      try simp only [Act.put, List.setIfInBounds_toArray, List.set_cons_zero, List.set_cons_succ]
      refine take_in (i := 1) (v := ?_) (some 112) rfl rfl (by kernel_rfl) (by kernel_rfl) (by kernel_rfl) (fun _ _ _ h => h) (Or.inl ⟨by rfl, ?_⟩) (by assumption) ?_
      rotate_left
      · (intro w hSw; (try dsimp only at hSw); (try go_split_ands); go_simp; try with_reducible rfl)
      try simp only [Act.put, List.setIfInBounds_toArray, List.set_cons_zero, List.set_cons_succ]
      refine take_in (i := 2) (v := ?_) (some 113) rfl rfl (by kernel_rfl) (by kernel_rfl) (by kernel_rfl) (fun _ _ _ h => h) (Or.inl ⟨by rfl, ?_⟩) (by assumption) ?_
      rotate_left
      · (intro w hSw; (try dsimp only at hSw); (try go_split_ands); go_simp; try with_reducible rfl)
      try simp only [Act.put, List.setIfInBounds_toArray, List.set_cons_zero, List.set_cons_succ]
      refine take_in (i := 3) (v := ?_) (some 114) rfl rfl (by kernel_rfl) (by kernel_rfl) (by kernel_rfl) (fun _ _ _ h => h) (Or.inl ⟨by rfl, ?_⟩) (by assumption) ?_
      rotate_left
      · (intro w hSw; (try dsimp only at hSw); (try go_split_ands); go_simp; try with_reducible rfl)
      try simp only [Act.put, List.setIfInBounds_toArray, List.set_cons_zero, List.set_cons_succ]
      refine take_in (i := 4) (v := ?_) (some 115) rfl rfl (by kernel_rfl) (by kernel_rfl) (by kernel_rfl) (fun _ _ _ h => h) (Or.inl ⟨by rfl, ?_⟩) (by assumption) ?_
      rotate_left
      · (intro w hSw; (try dsimp only at hSw); (try go_split_ands); go_simp; try with_reducible rfl)
      try simp only [Act.put, List.setIfInBounds_toArray, List.set_cons_zero, List.set_cons_succ]
      refine take_in (i := 5) (v := ?_) (some 116) rfl rfl (by kernel_rfl) (by kernel_rfl) (by kernel_rfl) (fun _ _ _ h => h) (Or.inl ⟨by rfl, ?_⟩) (by assumption) ?_
      rotate_left
      · (intro w hSw; (try dsimp only at hSw); (try go_split_ands); go_simp; try with_reducible rfl)
      try simp only [Act.put, List.setIfInBounds_toArray, List.set_cons_zero, List.set_cons_succ]
      refine take_in (i := 6) (v := ?_) (some 117) rfl rfl (by kernel_rfl) (by kernel_rfl) (by kernel_rfl) (fun _ _ _ h => h) (Or.inl ⟨by rfl, ?_⟩) (by assumption) ?_
      rotate_left
      · (intro w hSw; (try dsimp only at hSw); (try go_split_ands); go_simp; try with_reducible rfl)
      try simp only [Act.put, List.setIfInBounds_toArray, List.set_cons_zero, List.set_cons_succ]
      refine take_in (i := 7) (v := ?_) (some 118) rfl rfl (by kernel_rfl) (by kernel_rfl) (by kernel_rfl) (fun _ _ _ h => h) (Or.inl ⟨by rfl, ?_⟩) (by assumption) ?_
      rotate_left
      · (intro w hSw; (try dsimp only at hSw); (try go_split_ands); go_simp; try with_reducible rfl)
      try simp only [Act.put, List.setIfInBounds_toArray, List.set_cons_zero, List.set_cons_succ]
      refine take_in (i := 9) (v := ?_) (some 120) rfl rfl (by kernel_rfl) (by kernel_rfl) (by kernel_rfl) (fun _ _ _ h => h) (Or.inl ⟨by rfl, ?_⟩) (by assumption) ?_
      rotate_left
      · (intro w hSw; (try dsimp only at hSw); (try go_split_ands); go_simp; try with_reducible rfl)
      try simp only [Act.put, List.setIfInBounds_toArray, List.set_cons_zero, List.set_cons_succ]
      refine take_in (i := 10) (v := ?_) (some 121) rfl rfl (by kernel_rfl) (by kernel_rfl) (by kernel_rfl) (fun _ _ _ h => h) (Or.inl ⟨by rfl, ?_⟩) (by assumption) ?_
      rotate_left
      · (intro w hSw; (try dsimp only at hSw); (try go_split_ands); go_simp; try with_reducible rfl)
      try simp only [Act.put, List.setIfInBounds_toArray, List.set_cons_zero, List.set_cons_succ]
      refine take_in (i := 11) (v := ?_) (some 122) rfl rfl (by kernel_rfl) (by kernel_rfl) (by kernel_rfl) (fun _ _ _ h => h) (Or.inl ⟨by rfl, ?_⟩) (by assumption) ?_
      rotate_left
      · (intro w hSw; (try dsimp only at hSw); (try go_split_ands); go_simp; try with_reducible rfl)
      try simp only [Act.put, List.setIfInBounds_toArray, List.set_cons_zero, List.set_cons_succ]
      refine take_in (i := 12) (v := ?_) (some 123) rfl rfl (by kernel_rfl) (by kernel_rfl) (by kernel_rfl) (fun _ _ _ h => h) (Or.inl ⟨by rfl, ?_⟩) (by assumption) ?_
      rotate_left
      · (intro w hSw; (try dsimp only at hSw); (try go_split_ands); go_simp; try with_reducible rfl)
      try simp only [Act.put, List.setIfInBounds_toArray, List.set_cons_zero, List.set_cons_succ]
      refine take_in (i := 13) (v := ?_) (some 124) rfl rfl (by kernel_rfl) (by kernel_rfl) (by kernel_rfl) (fun _ _ _ h => h) (Or.inl ⟨by rfl, ?_⟩) (by assumption) ?_
      rotate_left
      · (intro w hSw; (try dsimp only at hSw); (try go_split_ands); go_simp; try with_reducible rfl)
      try simp only [Act.put, List.setIfInBounds_toArray, List.set_cons_zero, List.set_cons_succ]
      refine take_in (i := 14) (v := ?_) (some 125) rfl rfl (by kernel_rfl) (by kernel_rfl) (by kernel_rfl) (fun _ _ _ h => h) (Or.inl ⟨by rfl, ?_⟩) (by assumption) ?_
      rotate_left
      · (intro w hSw; (try dsimp only at hSw); (try go_split_ands); go_simp; try with_reducible rfl)
      try simp only [Act.put, List.setIfInBounds_toArray, List.set_cons_zero, List.set_cons_succ]
      refine take_in (i := 15) (v := ?_) (some 126) rfl rfl (by kernel_rfl) (by kernel_rfl) (by kernel_rfl) (fun _ _ _ h => h) (Or.inl ⟨by rfl, ?_⟩) (by assumption) ?_
      rotate_left
      · (intro w hSw; (try dsimp only at hSw); (try go_split_ands); go_simp; try with_reducible rfl)
      try simp only [Act.put, List.setIfInBounds_toArray, List.set_cons_zero, List.set_cons_succ]
      refine take_in (i := 16) (v := ?_) (some 127) rfl rfl (by kernel_rfl) (by kernel_rfl) (by kernel_rfl) (fun _ _ _ h => h) (Or.inl ⟨by rfl, ?_⟩) (by assumption) ?_
      rotate_left
      · (intro w hSw; (try dsimp only at hSw); (try go_split_ands); go_simp; try with_reducible rfl)
      try simp only [Act.put, List.setIfInBounds_toArray, List.set_cons_zero, List.set_cons_succ]
      refine wpAnyH_ready (rs := [8]) (by kernel_rfl) (by simp) ?_
      refine AllReadyH.cons rfl (fun K hK => ?_) AllReadyH.nil
      go_simp
      refine (PA.out _ _ _).mono ?_
      rintro e a1 ⟨rfl, p1⟩
      have hB := hHeld.1.trans (p1.mono hHeld.1.size)
      go_wp2_with fail
      refine hK.out _ _ (K0.out _ hB) (fun hHeld => ?_)
      clear hK K
      try simp only [Act.put, List.setIfInBounds_toArray, List.set_cons_zero, List.set_cons_succ]
      refine wpAnyH_ready (rs := [17]) (by kernel_rfl) (by simp) ?_
      refine AllReadyH.cons rfl (fun K hK => ?_) AllReadyH.nil
      go_simp
      refine (PA.out _ _ _).mono ?_
      rintro e a2 ⟨rfl, p2⟩
      have hB := hHeld.1.trans (p2.mono hHeld.1.size)
      go_wp2_with fail
      refine hK.out _ _ (K0.out _ hB) (fun hHeld => ?_)
      clear hK K
      try simp only [Act.put, List.setIfInBounds_toArray, List.set_cons_zero, List.set_cons_succ]
      refine wpAnyH_ready (rs := [18]) (by kernel_rfl) (by simp) ?_
      refine AllReadyH.cons rfl (fun K hK => ?_) AllReadyH.nil
      go_simp
      refine (R9.out _).mono ?_
      rintro e a3 ⟨rfl, p3⟩
      have hB := hHeld.1.trans (p3.mono hHeld.1.size)
      go_wp2_with fail
      refine hK.out _ _ (K0.out _ hB) (fun hHeld => ?_)
      clear hK K
      try simp only [Act.put, List.setIfInBounds_toArray, List.set_cons_zero, List.set_cons_succ]
      refine take_in (i := 19) (v := ?_) (some 110) rfl rfl (by kernel_rfl) (by kernel_rfl) (by kernel_rfl) (fun _ _ _ h => h) (Or.inl ⟨by rfl, ?_⟩) (by assumption) ?_
      rotate_left
      · (intro w hSw; (try dsimp only at hSw); (try go_split_ands); go_simp; try with_reducible rfl)
      try simp only [Act.put, List.setIfInBounds_toArray, List.set_cons_zero, List.set_cons_succ]
      refine take_in (i := 20) (v := ?_) (some 130) rfl rfl (by kernel_rfl) (by kernel_rfl) (by kernel_rfl) (fun _ _ _ h => h) (Or.inl ⟨by rfl, ?_⟩) (by assumption) ?_
      rotate_left
      · (intro w hSw; (try dsimp only at hSw); (try go_split_ands); go_simp; try with_reducible rfl)
      try simp only [Act.put, List.setIfInBounds_toArray, List.set_cons_zero, List.set_cons_succ]
      refine take_in (i := 21) (v := ?_) (some 131) rfl rfl (by kernel_rfl) (by kernel_rfl) (by kernel_rfl) (fun _ _ _ h => h) (Or.inl ⟨by rfl, ?_⟩) (by assumption) ?_
      rotate_left
      · (intro w hSw; (try dsimp only at hSw); (try go_split_ands); go_simp; try with_reducible rfl)
      try simp only [Act.put, List.setIfInBounds_toArray, List.set_cons_zero, List.set_cons_succ]
      refine take_in (i := 22) (v := ?_) (some 20) rfl rfl (by kernel_rfl) (by kernel_rfl) (by kernel_rfl) (fun _ _ _ h => h) (Or.inl ⟨by rfl, ?_⟩) (by assumption) ?_
      rotate_left
      · (intro w hSw; (try dsimp only at hSw); (try go_split_ands); go_simp; try with_reducible rfl)
      try simp only [Act.put, List.setIfInBounds_toArray, List.set_cons_zero, List.set_cons_succ]
      refine take_in (i := 23) (v := ?_) (some 21) rfl rfl (by kernel_rfl) (by kernel_rfl) (by kernel_rfl) (fun _ _ _ h => h) (Or.inl ⟨by rfl, ?_⟩) (by assumption) ?_
      rotate_left
      · (intro w hSw; (try dsimp only at hSw); (try go_split_ands); go_simp; try with_reducible rfl)
      try simp only [Act.put, List.setIfInBounds_toArray, List.set_cons_zero, List.set_cons_succ]
      refine wpAnyH_done (by kernel_rfl) ?_ _
      have D7 := Lib.hid (D6.out.trans (hHeld.1.mono D6.out.size))
      clear hHeld u1 u2 u3 u4
      go_wp2_with fail
      refine (AW.out _).mono ?_
      rintro e w8 ⟨rfl, hb8⟩
      go_wp2
      go_ret
      exact ⟨rfl, D7.out.trans (hb8.mono D7.out.size)⟩
end Go.Proofs.Ytbdlmidkkdmkpaa
