/- The reading of one period. -/
import Derived.Test.YtgjahnidjcfbiaaGreatDoorJ13
namespace Go.Proofs.YtgjahnidjcfbiaaGreatDoor
open Go.RowKit Go.Shelf Go.Lib
open Iset (nf has NF Res Wide textL cutAt readEndL readPL Reads Parsed)
theorem readPL_eq {l1 x y z r : List UInt8} {f2 f3 : Bool} (h2 : cutAt 44 l1 = (x, y, f2)) (h3 : cutAt 41 y = (z, r, f3)) :
    readPL (91 :: l1) = if f2 = true ∧ f3 = true then (match readEndL x, readEndL z with | some a, some b => some ((a, b), r) | _, _ => none) else none := by
  rw [readPL]
  simp only [if_true, h2, h3]
  by_cases h : f2 = true ∧ f3 = true
  · rw [if_pos h, if_pos h]
    cases readEndL x <;> cases readEndL z <;> rfl
  · rw [if_neg h, if_neg h]
theorem readPL_open {l : List UInt8} (h : ¬ ∃ m, l = 91 :: m) : readPL l = none := by
  match l with
  | [] => rfl
  | x :: m =>
    rw [readPL]
    by_cases hx : x = 91
    · subst hx
      exact absurd ⟨m, rfl⟩ h
    · rw [if_neg hx]
/-- What a reading of a period gives. -/
def PerBy (s : ByteArray) (w : World) (e : Ending) (w' : World) : Prop :=
  ∃ (n m : Int) (r : ByteArray) (f : Bool), e = .returned (.tuple #[.agg #[.int .u64 n, .int .u64 m], .string r, .bool f]) ∧ readPL s.data.toList = (if f = true then some ((n, m), r.data.toList) else none) ∧ Below w.heap.size w w'
/-- All of it, of what the calls answered. -/
theorem per_all {s a x y z r : ByteArray} {f1 f2 f3 f4 f5 : Bool} {n m : Int} (h1 : (f1 = true → ∃ l, s.data.toList = 91 :: l ∧ a.data.toList = l) ∧ (f1 = false → ¬ ∃ l, s.data.toList = 91 :: l)) (h2 : cutAt 44 a.data.toList = (x.data.toList, y.data.toList, f2)) (h3 : cutAt 41 y.data.toList = (z.data.toList, r.data.toList, f3))
    (h4 : readEndL x.data.toList = (if f4 = true then some n else none)) (h5 : readEndL z.data.toList = (if f5 = true then some m else none)) :
    readPL s.data.toList = (if (f1 && f2 && f3 && f4 && f5) = true then some ((n, m), r.data.toList) else none) := by
  cases f1
  · rw [readPL_open (h1.2 rfl)]
    simp
  · obtain ⟨l, hl, ha⟩ := h1.1 rfl
    rw [hl, ← ha, readPL_eq h2 h3, h4, h5]
    cases f2 <;> cases f3 <;> cases f4 <;> cases f5 <;> simp
theorem BoxO.set0 {w : World} {g : Nat} {p q : Int} (h : BoxO w g p q) (n : Int) : BoxO (w.setCell ⟨g, 0, none⟩ (.int .u64 n)) g n q := by
  unfold BoxO at *
  rw [heap_setCell_same w g 0 _ _ _ h]
  rfl
theorem BoxO.set1 {w : World} {g : Nat} {p q : Int} (h : BoxO w g p q) (n : Int) : BoxO (w.setCell ⟨g, 1, none⟩ (.int .u64 n)) g p n := by
  unfold BoxO at *
  rw [heap_setCell_same w g 1 _ _ _ h]
  rfl
set_option maxRecDepth 100000 in
set_option maxHeartbeats 4000000 in
theorem Per_any (s : ByteArray) (w : World) (hs : s.size ≤ 140737488355328) (henv : Env w) : Calls Tryz.prog 45 #[.string s] w (PerBy s w) := by
  have H1 := Lib.hid (Pre_any s)
  have H2 := Lib.hid (fun (t : ByteArray) (c : UInt8) => Cut_any t c)
  have H3 := Lib.hid (fun (t : ByteArray) (w' : World) (ht : t.size ≤ 140737488355328) (hb : Below w.heap.size w w') => End_any t w' ht (henv.below hb))
  have HP := Lib.hid (fun (a x y z r : ByteArray) (f1 f2 f3 f4 f5 : Bool) (n m : Int) => per_all (s := s) (a := a) (x := x) (y := y) (z := z) (r := r) (f1 := f1) (f2 := f2) (f3 := f3) (f4 := f4) (f5 := f5) (n := n) (m := m))
  clear henv
  go_enter Tryz.func45, Tryz.ntmps45
  go_wp2_with fail
  refine (H1.out _ hs).mono ?_
  rintro e w1 ⟨a, f1, rfl, h1, ha, rfl⟩
  have R1 := Lib.hid h1
  clear h1
  go_wp2_with fail
  refine (H2.out _ 44 _ (by omega)).mono ?_
  rintro e w2 ⟨x, y, f2, rfl, h2, hx, hy, q2, rfl⟩
  have R2 := Lib.hid h2
  clear h2
  go_wp2_with fail
  refine (H2.out _ 41 _ (by omega)).mono ?_
  rintro e w3 ⟨z, r, f3, rfl, h3, hz, hr, q3, rfl⟩
  have R3 := Lib.hid h3
  clear h3
  obtain ⟨W, hW⟩ : ∃ W, ((w.alloc (.cells #[.int .u64 0, .int .u64 0] 29)).drewN q2).drewN q3 = W := ⟨_, rfl⟩
  have X0 := Lib.hid (show BoxO W w.heap.size 0 0 by rw [← hW]; exact ((BoxO.new w 0 0).below (bel_drewN _ (Below.refl _ _))).below (bel_drewN _ (Below.refl _ _)))
  have B0 := Lib.hid (show Below w.heap.size w W by rw [← hW]; exact bel_drewN _ (bel_drewN _ ((Below.refl _ _).alloc (Nat.le_refl _) _)))
  obtain ⟨g, hg⟩ : ∃ g, w.heap.size = g := ⟨_, rfl⟩
  have HG := Lib.hid hg
  rw [hg] at X0
  try rw [hW]
  clear hW
  go_wp2_with fail
  try rw [hg]
  clear hg
  refine (H3.out x _ (by omega) B0.out).mono ?_
  rintro e w4 ⟨n, f4, rfl, h4, hb4⟩
  have R4 := Lib.hid h4
  have X1 := Lib.hid (X0.out.below hb4)
  have B1 := Lib.hid (B0.out.trans (hb4.mono B0.out.size))
  clear h4 hb4
  obtain ⟨x0, x1, x2, x3⟩ := X1.out.box
  go_wp2_with fail
  clear x0 x1 x2 x3
  have X2 := Lib.hid (X1.out.set0 n)
  have B2 := Lib.hid (B1.out.setCell (p := ⟨g, 0, none⟩) (by rw [HG.out]; exact Nat.le_refl _) (.int .u64 n))
  clear X1 B1 B0 X0
  generalize w4.setCell ⟨g, 0, none⟩ (.int .u64 n) = w5 at *
  refine (H3.out z _ (by omega) B2.out).mono ?_
  rintro e w6 ⟨m, f5, rfl, h5, hb6⟩
  have R5 := Lib.hid h5
  have X3 := Lib.hid (X2.out.below hb6)
  have B3 := Lib.hid (B2.out.trans (hb6.mono B2.out.size))
  clear h5 hb6 X2 B2
  obtain ⟨x0, x1, x2, x3⟩ := X3.out.box
  go_upto_region 7 with fail
  clear x0 x1 x2 x3
  have X4 := Lib.hid (X3.out.set1 m)
  have B4 := Lib.hid (B3.out.setCell (p := ⟨g, 1, none⟩) (by rw [HG.out]; exact Nat.le_refl _) (.int .u64 m))
  clear X3 B3
  generalize w6.setCell ⟨g, 1, none⟩ (.int .u64 m) = w7 at *
  have HF := Lib.hid (HP.out a x y z r f1 f2 f3 f4 f5 n m R1.out R2.out R3.out R4.out R5.out)
  obtain ⟨x0, x1, x2, x3⟩ := X4.out.box
  clear HP R1 R2 R3 R4 R5 H1 H2 H3
  have hle : w.heap.size ≤ g := by rw [HG.out]; exact Nat.le_refl _
  have HB := Lib.hid ((B4.out.setCell (p := ⟨g, 0, none⟩) hle (.int .u64 n)).setCell (p := ⟨g, 1, none⟩) hle (.int .u64 m))
  obtain ⟨y0, y1, y2, y3⟩ := ((X4.out.set0 n).set1 m).box
  clear hle
  cases f1
  · go_wp2
    exact bodyPost_ret (v := .tuple #[.agg #[.int .u64 n, .int .u64 m], .string r, .bool false]) (by simp [results, Tryz.results45, go_sem, y0, y1]) rfl ⟨n, m, r, false, rfl, HF.out, HB.out⟩
  · skip
    cases f2
    · go_wp2
      exact bodyPost_ret (v := .tuple #[.agg #[.int .u64 n, .int .u64 m], .string r, .bool false]) (by simp [results, Tryz.results45, go_sem, y0, y1]) rfl ⟨n, m, r, false, rfl, HF.out, HB.out⟩
    · skip
      cases f3
      · go_wp2
        exact bodyPost_ret (v := .tuple #[.agg #[.int .u64 n, .int .u64 m], .string r, .bool false]) (by simp [results, Tryz.results45, go_sem, y0, y1]) rfl ⟨n, m, r, false, rfl, HF.out, HB.out⟩
      · skip
        cases f4
        · go_wp2
          exact bodyPost_ret (v := .tuple #[.agg #[.int .u64 n, .int .u64 m], .string r, .bool false]) (by simp [results, Tryz.results45, go_sem, y0, y1]) rfl ⟨n, m, r, false, rfl, HF.out, HB.out⟩
        · skip
          cases f5
          · go_wp2
            exact bodyPost_ret (v := .tuple #[.agg #[.int .u64 n, .int .u64 m], .string r, .bool false]) (by simp [results, Tryz.results45, go_sem, y0, y1]) rfl ⟨n, m, r, false, rfl, HF.out, HB.out⟩
          · go_wp2
            exact bodyPost_ret (v := .tuple #[.agg #[.int .u64 n, .int .u64 m], .string r, .bool true]) (by simp [results, Tryz.results45, go_sem, y0, y1]) rfl ⟨n, m, r, true, rfl, HF.out, HB.out⟩
end Go.Proofs.YtgjahnidjcfbiaaGreatDoor
