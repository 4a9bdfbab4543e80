/- The small functions of package frame: kinds, sizes, what is refused, Put. -/
import Derived.Test.YtbmhgmigcgeooaaDoorP4
import Derived.Test.YtbmhgmigcgeooaaDoorA1
import Derived.Lib.SlBytesConst
namespace Go.Proofs.YtbmhgmigcgeooaaDoor
open Go.RowKit
/-- May this be a kind? -/
def mayK (k : Int) : Bool := decide (1 ≤ k ∧ k ≤ 3)
theorem mayK_yes {k : Int} (h1 : 1 ≤ k) (h2 : k ≤ 3) : mayK k = true := decide_eq_true ⟨h1, h2⟩
theorem mayK_no {k : Int} (h : ¬ (1 ≤ k ∧ k ≤ 3)) : mayK k = false := decide_eq_false h
theorem mayKind_any (k : Int) (w : World) : Calls Tryd.prog 29 #[.int .i64 k] w fun e w' => e = .returned (.bool (mayK k)) ∧ w = w' := by
  by_cases h1 : 1 ≤ k
  · by_cases h2 : k ≤ 3
    · have H := Lib.hid (mayK_yes h1 h2)
      have t1 : decide (1 ≤ k) = true := decide_eq_true h1
      have t2 : decide (k ≤ 3) = true := decide_eq_true h2
      go_enter Tryd.func29, Tryd.ntmps29
      go_wp2
      go_ret
      exact ⟨by rw [H.out]; rfl, rfl⟩
    · have H := Lib.hid (mayK_no (k := k) (by omega))
      have t1 : decide (1 ≤ k) = true := decide_eq_true h1
      have t2 : decide (k ≤ 3) = false := decide_eq_false h2
      go_enter Tryd.func29, Tryd.ntmps29
      go_wp2
      go_ret
      exact ⟨by rw [H.out]; rfl, rfl⟩
  · have H := Lib.hid (mayK_no (k := k) (by omega))
    have t1 : decide (1 ≤ k) = false := decide_eq_false h1
    go_enter Tryd.func29, Tryd.ntmps29
    go_wp2
    go_ret
    exact ⟨by rw [H.out]; rfl, rfl⟩
theorem encodedSize_any (n : Nat) (w : World) (h : n ≤ 140737488355328) : Calls Tryd.prog 25 #[.int .i64 (n : Int)] w fun e w' => e = .returned (.int .i64 ((n + 7 : Nat) : Int)) ∧ w = w' := by
  go_enter Tryd.func25, Tryd.ntmps25
  go_wp2
  go_ret
  exact ⟨ret1 (by omega), rfl⟩
/-- What is refused. -/
def refE (k : Int) (n : Nat) : Nat := if 1 ≤ k ∧ k ≤ 3 then (if 2048 < n then 3 else 0) else 1
def frV (k : Int) (A : Option Addr) (n c : Nat) : Value := .agg #[.int .i64 k, .slice A n c]
set_option maxRecDepth 100000 in
theorem refused_any (k : Int) (A : Option Addr) (n c : Nat) (w : World) (hn : n ≤ 140737488355328) :
    Calls Tryd.prog 22 #[.agg #[.int .i64 k, .slice A n c]] w fun e w' => e = .returned (.int .i64 (refE k n : Nat)) ∧ Below w.heap.size w w' := by
  have C := Lib.hid (mayKind_any k)
  have HB := Lib.hid ((Below.refl w.heap.size w).alloc (Nat.le_refl _) (.cells #[.int .i64 k, .slice A n c] 27))
  by_cases hk : 1 ≤ k ∧ k ≤ 3
  · have t1 : mayK k = true := mayK_yes hk.1 hk.2
    rw [t1] at C
    by_cases h2 : 2048 < n
    · have H : Hid (refE k n = 3) := Lib.hid (by rw [refE, if_pos hk, if_pos h2])
      clear hk t1
      go_enter Tryd.func22, Tryd.ntmps22
      go_wp2_with (first
        | (go_at_call 29; ((with_reducible refine (C.out _).mono ?_); rintro e w' ⟨rfl, rfl⟩))
        | fail)
      go_ret
      exact ⟨by rw [H.out]; rfl, HB.out⟩
    · have H : Hid (refE k n = 0) := Lib.hid (by rw [refE, if_pos hk, if_neg h2])
      clear hk t1
      go_enter Tryd.func22, Tryd.ntmps22
      go_wp2_with (first
        | (go_at_call 29; ((with_reducible refine (C.out _).mono ?_); rintro e w' ⟨rfl, rfl⟩))
        | fail)
      go_ret
      exact ⟨by rw [H.out]; rfl, HB.out⟩
  · have t1 : mayK k = false := mayK_no hk
    rw [t1] at C
    have H : Hid (refE k n = 1) := Lib.hid (by rw [refE, if_neg hk])
    clear hk t1
    go_enter Tryd.func22, Tryd.ntmps22
    go_wp2_with (first
      | (go_at_call 29; ((with_reducible refine (C.out _).mono ?_); rintro e w' ⟨rfl, rfl⟩))
      | fail)
    go_ret
    exact ⟨by rw [H.out]; rfl, HB.out⟩
/-- Size. -/
def sizeV (k : Int) (n : Nat) : Nat := if refE k n = 0 then n + 7 else 0
/-- A block that holds a frame. -/
def FBox (w : World) (g : Nat) (k : Int) (A : Option Addr) (n c : Nat) : Prop := w.heap[g]? = some (.cells #[.int .i64 k, .slice A n c] 27 (0, 0))
theorem FBox.new (w : World) (k : Int) (A : Option Addr) (n c : Nat) : FBox (w.alloc (.cells #[.int .i64 k, .slice A n c] 27)) w.heap.size k A n c := heap_alloc_new w _
theorem FBox.c0 {w : World} {g : Nat} {k : Int} {A : Option Addr} {n c : Nat} (h : FBox w g k A n c) : w.cell? ⟨g, 0, none⟩ = some (.int .i64 k) := by simp [World.cell?, show w.heap[g]? = _ from h]
theorem FBox.c1 {w : World} {g : Nat} {k : Int} {A : Option Addr} {n c : Nat} (h : FBox w g k A n c) : w.cell? ⟨g, 1, none⟩ = some (.slice A n c) := by simp [World.cell?, show w.heap[g]? = _ from h]
theorem FBox.lt {w : World} {g : Nat} {k : Int} {A : Option Addr} {n c : Nat} (h : FBox w g k A n c) : g < w.heap.size := (Array.getElem?_eq_some_iff.1 h).1
theorem FBox.below {w w' : World} {g : Nat} {k : Int} {A : Option Addr} {n c : Nat} (h : FBox w g k A n c) (hb : Below w.heap.size w w') : FBox w' g k A n c := (hb.block g h.lt).trans h
theorem Size_any (k : Int) (A : Option Addr) (n c : Nat) (w : World) (hn : n ≤ 140737488355328) :
    Calls Tryd.prog 12 #[.agg #[.int .i64 k, .slice A n c]] w fun e w' => e = .returned (.int .i64 (sizeV k n : Nat)) ∧ Below w.heap.size w w' := by
  obtain ⟨W, hW⟩ : ∃ W, w.alloc (.cells #[.int .i64 k, .slice A n c] 27) = W := ⟨_, rfl⟩
  have b0 : Below w.heap.size w W := by rw [← hW]; exact (Below.refl _ _).alloc (Nat.le_refl _) _
  have f0 : FBox W w.heap.size k A n c := by rw [← hW]; exact FBox.new w k A n c
  have c1 := f0.c0
  have c2 := f0.c1
  have F0 := Lib.hid f0
  clear f0
  have B0 := Lib.hid b0
  have C := Lib.hid (refused_any k A n c W hn)
  have CE := Lib.hid (fun W' => encodedSize_any n W' hn)
  by_cases hr : refE k n = 0
  · have H : Hid (sizeV k n = n + 7) := Lib.hid (by rw [sizeV, if_pos hr])
    rw [hr] at C
    clear b0 hr
    go_enter Tryd.func12, Tryd.ntmps12
    go_upto_region 1 with fail
    try rw [hW]
    clear hW
    go_wp2_with (first
      | (go_at_call 22; ((with_reducible refine (C.out).mono ?_); rintro e w1 ⟨rfl, hb1⟩; have B1 := Lib.hid hb1; have d1 := (F0.out.below hb1).c0; have d2 := (F0.out.below hb1).c1; clear hb1 c1 c2))
      | (go_at_call 25; ((with_reducible refine (CE.out _).mono ?_); rintro e w' ⟨rfl, rfl⟩))
      | fail)
    go_ret
    exact ⟨by rw [H.out]; exact ret1 (a := (n : Int) + 7) (by omega), B0.out.trans (B1.out.mono B0.out.size)⟩
  · have H : Hid (sizeV k n = 0) := Lib.hid (by rw [sizeV, if_neg hr])
    have t1 : ((refE k n : Nat) : Int) ≠ 0 := by omega
    clear b0 hr
    go_enter Tryd.func12, Tryd.ntmps12
    go_upto_region 1 with fail
    try rw [hW]
    clear hW
    go_wp2_with (first
      | (go_at_call 22; ((with_reducible refine (C.out).mono ?_); rintro e w1 ⟨rfl, hb1⟩; have B1 := Lib.hid hb1; have d1 := (F0.out.below hb1).c0; have d2 := (F0.out.below hb1).c1; clear hb1 c1 c2))
      | (go_at_call 25; ((with_reducible refine (CE.out _).mono ?_); rintro e w' ⟨rfl, rfl⟩))
      | fail)
    go_ret
    exact ⟨by rw [H.out]; rfl, B0.out.trans (B1.out.mono B0.out.size)⟩
end Go.Proofs.YtbmhgmigcgeooaaDoor
