/- Put: a frame, laid. -/
import Derived.Test.YtbmhgmigcgeooaaDoorB1
namespace Go.Proofs.YtbmhgmigcgeooaaDoor
open Go.RowKit
set_option maxRecDepth 100000 in
theorem Put_no (k : Int) (A : Option Addr) (n c : Nat) (w : World) (hn : n ≤ 140737488355328) (hr : refE k n ≠ 0) :
    Calls Tryd.prog 8 #[.agg #[.int .i64 k, .slice A n c]] w fun e w' => e = .returned (.tuple #[.slice none 0 0, .int .i64 (refE k n : Nat)]) ∧ Below w.heap.size w w' := by
  obtain ⟨W, hW⟩ : ∃ W, w.alloc (.cells #[.int .i64 k, .slice A n c] 27) = W := ⟨_, rfl⟩
  have b0 : Below w.heap.size w W := by rw [← hW]; exact (Below.refl _ _).alloc (Nat.le_refl _) _
  have f0 : FBox W w.heap.size k A n c := by rw [← hW]; exact FBox.new w k A n c
  have c1 := f0.c0
  have c2 := f0.c1
  clear f0
  have B0 := Lib.hid b0
  have C := Lib.hid (refused_any k A n c W hn)
  have t1 : ((refE k n : Nat) : Int) ≠ 0 := by omega
  clear b0 hr
  generalize refE k n = z at *
  go_enter Tryd.func8, Tryd.ntmps8
  go_upto_region 1 with fail
  try rw [hW]
  clear hW
  go_wp2_with (first
    | (go_at_call 22; ((with_reducible refine (C.out).mono ?_); rintro e w1 ⟨rfl, hb1⟩; have B1 := Lib.hid hb1; clear hb1 c1 c2))
    | fail)
  go_ret2
  exact ⟨rfl, B0.out.trans (B1.out.mono B0.out.size)⟩
theorem FBox.alloc {w : World} {g : Nat} {k : Int} {A : Option Addr} {n c : Nat} (h : FBox w g k A n c) (o : Obj) : FBox (w.alloc o) g k A n c := h.below ((Below.refl _ _).alloc (Nat.le_refl _) _)
theorem FBox.grown {w w' : World} {g : Nat} {k : Int} {A : Option Addr} {n c : Nat} {row : Option Nat} (h : FBox w g k A n c) (hg : w.grownBy w' row) (hne : row ≠ some g) : FBox w' g k A n c := (hg.block g h.lt (fun e => hne e.symm)).trans h
theorem MarkN (A : Option Addr) (l : List UInt8) (n cap : Nat) (w : World) (h : Env w) (hA : At w A l) (hz : A = none → cap = 0) (hm : l.length + 4 ≤ 140737488355328) (hn : l.length = n) :
    Calls Tryd.prog 23 #[.slice A n cap] w (Gives w (markL l)) := by
  subst hn
  exact Mark_any A l cap w h hA hz hm
theorem ownsRow_down {w : World} {base base' : Nat} {e : TypeId} {size : Nat} {v : Value} {n : Nat} {xs : List Value} (h : w.ownsRow base e size v n xs) (hb : base' ≤ base) : w.ownsRow base' e size v n xs := by
  refine ⟨h.1, ?_⟩
  rcases h.2 with hn | ⟨g, cap, cur, hv, hge, rest⟩
  · exact .inl hn
  · exact .inr ⟨g, cap, cur, hv, Nat.le_trans hb hge, rest⟩
theorem at_three {w : World} {v0 v1 v2 : Value} {l : List UInt8} (h : cellsB l = [v0, v1, v2]) : At (w.alloc (.cells #[v0, v1, v2] 5)) (some ⟨w.heap.size, 0, none⟩) l := at_new w _ _ (by rw [h])
/-- Three bytes ahead of a body. -/
def headB (f : Fr) : List UInt8 := [UInt8.ofNat f.k, UInt8.ofNat (f.l.length / 256), UInt8.ofNat (f.l.length % 256)]
theorem headL_parts (f : Fr) : headL f = headB f ++ f.l := rfl
theorem cells_headB {f : Fr} (h : f.ok) : cellsB (headB f) = [.int .u8 (f.k : Int), .int .u8 ((f.l.length : Int) / 256), .int .u8 ((f.l.length : Int) % 256)] := by
  obtain ⟨h1, h2, h3⟩ := h
  have e1 : f.k % 256 = f.k := by omega
  have e2 : f.l.length / 256 % 256 = f.l.length / 256 := by omega
  have e3 : f.l.length % 256 % 256 = f.l.length % 256 := by omega
  simp only [cellsB, headB, List.map_cons, List.map_nil, bv, byte_ofNat, e1, e2, e3, Int.natCast_ediv, Int.natCast_emod]
  rfl
set_option maxRecDepth 100000 in
set_option maxHeartbeats 1000000 in
theorem Put_ok (f : Fr) (h : f.ok) (A : Option Addr) (c : Nat) (w : World) (hE : Env w) (hA : At w A f.l) (hz : A = none → c = 0) :
    Calls Tryd.prog 8 #[.agg #[.int .i64 (f.k : Int), .slice A f.l.length c]] w fun e w' => ∃ g c', e = .returned (.tuple #[.slice (some ⟨g, 0, none⟩) (putL f).length c', .int .i64 0]) ∧ w'.ownsRow w.heap.size 5 1 (.slice (some ⟨g, 0, none⟩) (putL f).length c') (putL f).length (cellsB (putL f)) ∧ Below w.heap.size w w' := by
  obtain ⟨i0, hi, hz0, hz1, hz2⟩ := info_parts info8
  obtain ⟨W, hW⟩ : ∃ W, w.alloc (.cells #[.int .i64 (f.k : Int), .slice A f.l.length c] 27) = W := ⟨_, rfl⟩
  have b0 : Below w.heap.size w W := by rw [← hW]; exact (Below.refl _ _).alloc (Nat.le_refl _) _
  have f0 : FBox W w.heap.size (f.k : Int) A f.l.length c := by rw [← hW]; exact FBox.new w _ A _ c
  have c1 := f0.c0
  have c2 := f0.c1
  have F0 := Lib.hid f0
  have B0 := Lib.hid b0
  obtain ⟨k1, k2, n1⟩ := h
  have C := Lib.hid (refused_any (f.k : Int) A f.l.length c W (by omega))
  rw [show refE (f.k : Int) f.l.length = 0 by rw [refE, if_pos (by omega), if_neg (by omega)]] at C
  have HS := Lib.hid (cells_headB (f := f) ⟨k1, k2, n1⟩)
  have HA := Lib.hid hA
  have HZ : Hid (A = none → f.l.length = 0 ∧ c = 0) := Lib.hid fun e => ⟨by subst e; rw [hA.none_nil]; rfl, hz e⟩
  have HE := Lib.hid hE
  have HB : Hid (i0.bytes * (f.l.length + 3) ≤ 281474976710656) := by rw [hz2]; show _ ≤ _; omega
  have HM : Hid (f.l.length + 3 ≤ maxLen) := by show _ ≤ _; unfold maxLen; omega
  have hln := Lib.hid (headL_length f)
  have hpp := Lib.hid (headL_parts f)
  clear f0 b0 hE hA hz
  generalize hL : f.l = l at *
  generalize hK : f.k = k at *
  have HLK := Lib.hid (And.intro hL hK)
  clear hL hK
  go_enter Tryd.func8, Tryd.ntmps8
  go_upto_region 1 with fail
  try rw [hW]
  clear hW
  go_upto_region 5 with (first
    | (go_at_call 22; ((with_reducible refine (C.out).mono ?_); rintro e w1 ⟨rfl, hb1⟩; have B1 := Lib.hid (B0.out.trans (hb1.mono B0.out.size)); have F1 := Lib.hid (F0.out.below hb1); have d1 := F1.out.c0; have d2 := F1.out.c1; have s0 := B0.out.size; have s1 := B1.out.size; clear hb1 c1 c2))
    | fail)
  go_wp2_with (first
    | (at_make; refine wpList_make_own _ rfl _ _ _ rfl w.heap.size 5 i0 _ 1 Tryd.underlying22 hi hz0 hz1 .i64 .i64 _ (l.length + 3) rfl rfl (by omega) HB.out HM.out (by omega) ?_; intro w2 hown2 hg2; have B2 := Lib.hid (B1.out.grown hg2 s1 (by simp)); have O2 := Lib.hid hown2; have F2 := Lib.hid (F1.out.below ((Below.refl _ _).grown hg2 (Nat.le_refl _) (by simp))); clear d1 d2; have d1 := F2.out.c0; have d2 := F2.out.c1; clear hown2 hg2)
    | (at_builtin; refine wpList_append_fits_any _ rfl _ _ _ rfl w.heap.size 5 i0 1 Tryd.underlying22 hi hz1 w1.heap.size 0 (l.length + 3) [] rfl (O2.out.alloc _) _ 3 3 (cellsB (headB f)) rfl rfl (fun h => by cases h) (fun ad h => At.cells (h ▸ at_three HS.out)) (cellsB_one _) (by omega) ?_; intro w3 hown3 hg3; have s2 := B2.out.size; have B3 := Lib.hid ((B2.out.alloc s2 _).grown hg3 (by simp; omega) (by simp; omega)); have O3 := Lib.hid hown3; have F3 := Lib.hid ((F2.out.alloc _).grown hg3 (by have := F1.out.lt; have := F0.out.lt; simp; omega)); clear d1 d2; have d1 := F3.out.c0; have d2 := F3.out.c1; clear hown3 hg3)
    | (at_builtin; refine wpList_append_fits_any _ rfl _ _ _ rfl w.heap.size 5 i0 1 Tryd.underlying22 hi hz1 w1.heap.size 3 (l.length + 3) (cellsB (headB f)) rfl (by have h2 := O3.out; rw [Nat.zero_add, List.nil_append] at h2; exact h2) A l.length c (cellsB l) rfl (by rw [cellsB_length]; omega) HZ.out (fun ad h => At.cells (w := w3) (h ▸ HA.out.below (B3.out))) (cellsB_one l) (by omega) ?_; intro w4 hown4 hg4; have s3 := B3.out.size; have B4 := Lib.hid (B3.out.grown hg4 s3 (by simp; omega)); have O4 : Hid (At w4 (some ⟨w1.heap.size, 0, none⟩) (headL f)) := Lib.hid (by rw [hpp.out]; rw [← cellsB_append] at hown4; exact own_at (acc := headB f ++ l) hown4); clear hown4 hg4 d1 d2)
    | (go_at_call 23; ((with_reducible refine (MarkN _ (headL f) _ _ _ (HE.out.below B4.out) O4.out (fun h => by cases h) (by rw [hln.out]; omega) (by rw [hln.out]; omega)).mono ?_); rintro e w5 ⟨c5, rfl, ho5, hb5⟩; have O5 := Lib.hid ho5; have B5 := Lib.hid (B4.out.trans (hb5.mono B4.out.size)); clear ho5 hb5))
    | fail)
  go_ret2
  refine ⟨w4.heap.size, c5, ?_, ?_, B5.out⟩
  · rw [putL]; rfl
  · rw [putL]; exact ownsRow_down O5.out B4.out.size
end Go.Proofs.YtbmhgmigcgeooaaDoor
