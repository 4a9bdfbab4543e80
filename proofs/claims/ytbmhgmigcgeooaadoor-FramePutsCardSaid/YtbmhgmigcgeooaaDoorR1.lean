/- The document's Put. -/
import Derived.Test.YtbmhgmigcgeooaaDoorH2
namespace Go.Proofs.YtbmhgmigcgeooaaDoor
open Go.RowKit
/-- A block of two cells, whatever its type. -/
theorem Box2.alloc' {w : World} {g : Nat} {x y : Value} (h : Box2 w g x y) (o : Obj) : Box2 (w.alloc o) g x y := h.below ((Below.refl _ _).alloc (Nat.le_refl _) _)
set_option maxRecDepth 100000 in
theorem rPut_no (k : Int) (A : Option Addr) (n c : Nat) (w : World) (hn : n ≤ 140737488355328) (hr : refE k n ≠ 0) :
    Calls Tryd.prog 9 #[.agg #[.int .i64 k, .slice A n c]] w fun e w' => e = .returned (.tuple #[.slice none 0 0, .int .i64 (refE k n : Nat)]) ∧ Below w.heap.size w w' := by
  have HB := Lib.hid ((Below.refl w.heap.size w).alloc (Nat.le_refl _) (.cells #[.int .i64 k, .slice A n c] 30))
  by_cases hk : 1 ≤ k ∧ k ≤ 3
  · obtain ⟨h1, h2⟩ := hk
    have h3 : 2048 < n := by
      refine Nat.lt_of_not_le fun h => hr ?_
      rw [refE, if_pos ⟨h1, h2⟩, if_neg (by omega)]
    have H : Hid (refE k n = 3) := Lib.hid (by rw [refE, if_pos ⟨h1, h2⟩, if_pos h3])
    clear hr
    go_enter Tryd.func9, Tryd.ntmps9
    go_wp2
    go_ret2
    exact ⟨by rw [H.out]; rfl, HB.out⟩
  · have H : Hid (refE k n = 1) := Lib.hid (by rw [refE, if_neg hk])
    clear hr
    by_cases h1 : k < 1
    · go_enter Tryd.func9, Tryd.ntmps9
      go_wp2
      go_ret2
      exact ⟨by rw [H.out]; rfl, HB.out⟩
    · have h2 : 3 < k := by omega
      clear hk
      go_enter Tryd.func9, Tryd.ntmps9
      go_wp2
      go_ret2
      exact ⟨by rw [H.out]; rfl, HB.out⟩
set_option maxRecDepth 100000 in
set_option maxHeartbeats 1000000 in
theorem rPut_ok (f : Fr) (h : f.ok) (A : Option Addr) (c : Nat) (w : World) (hA : At w A f.l) (hz : A = none → c = 0) :
    Calls Tryd.prog 9 #[.agg #[.int .i64 (f.k : Int), .slice A f.l.length c]] w fun e w' => ∃ v, e = .returned (.tuple #[v, .int .i64 0]) ∧ Own1 w.heap.size w' v (putL f) ∧ Below w.heap.size w w' := by
  obtain ⟨W, hW⟩ : ∃ W, w.alloc (.cells #[.int .i64 (f.k : Int), .slice A f.l.length c] 30) = W := ⟨_, rfl⟩
  have b0 : Below w.heap.size w W := by rw [← hW]; exact (Below.refl _ _).alloc (Nat.le_refl _) _
  have f0 : Box2 W w.heap.size (.int .i64 (f.k : Int)) (.slice A f.l.length c) := by rw [← hW]; exact Box2.new w _ _ _
  have c1 := f0.c0
  have c2 := f0.c1
  have B0 := Lib.hid b0
  obtain ⟨k1, k2, n1⟩ := h
  have HS := Lib.hid (cells_headB (f := f) ⟨k1, k2, n1⟩)
  have HA := Lib.hid hA
  have HZ := Lib.hid hz
  have hln := Lib.hid (headL_length f)
  have hpp := Lib.hid (headL_parts f)
  have HOe : Hid (Own1 w.heap.size (W.alloc (.cells #[.int .u8 (f.k : Int), .int .u8 ((f.l.length : Int) / 256), .int .u8 ((f.l.length : Int) % 256)] 5)) (.slice (some ⟨W.heap.size, 0, none⟩) 3 3) (headB f)) := Lib.hid (by
    refine ⟨by rw [cellsB_length]; rfl, .inr ⟨W.heap.size, 3, _, rfl, b0.size, heap_alloc_new W _, Nat.le_refl _, by decide, rfl, ?_⟩⟩
    rw [HS.out]
    rfl)
  have HLt := Lib.hid f0.lt
  clear f0 b0 hA hz
  generalize hL : f.l = l at *
  generalize hK : f.k = k at *
  clear hL hK
  go_enter Tryd.func9, Tryd.ntmps9
  go_upto_region 1 with fail
  try rw [hW]
  clear hW
  go_upto_region 6 with fail
  clear c1
  have hlt := HLt.out
  go_wp2_with (first
    | (at_builtin; refine wpList_app _ rfl (.tmp 31) (.tmp 33) rfl w.heap.size (.slice (some ⟨W.heap.size, 0, none⟩) 3 3) (headB f) rfl HOe.out A l.length c l rfl (HA.out.below (B0.out.alloc B0.out.size _)) HZ.out rfl (by show 3 + l.length ≤ _; omega) (by have := B0.out.size; simp; omega) w (B0.out.alloc B0.out.size _) ?_; intro v4 w4 ho4 hb4 _ _; have B4 := Lib.hid hb4; rw [← hpp.out] at ho4; obtain ⟨A4, c4, rfl, z4, p4, l4, a4⟩ := Own1.plain ho4; have M := Lib.hid (refMark_any A4 (headL f) (headL f).length c4 w4 a4 z4 (by rw [hln.out]; omega) rfl); clear ho4 hb4 z4 p4 l4 a4)
    | (go_at_call 24; ((with_reducible refine (M.out).mono ?_); rintro e5 w5 ⟨v5, rfl, ho5, hb5⟩; have O5 := Lib.hid ho5; have B5 := Lib.hid (B4.out.trans (hb5.mono B4.out.size)); clear ho5 hb5))
    | fail)
  go_ret2
  exact ⟨v5, rfl, ownsRow_down O5.out B4.out.size, B5.out⟩
end Go.Proofs.YtbmhgmigcgeooaaDoor
