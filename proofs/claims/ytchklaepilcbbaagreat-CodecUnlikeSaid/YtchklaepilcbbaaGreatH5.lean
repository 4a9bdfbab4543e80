/- Equality and less of numbers, in plain numbers; Truth, number, notANumber, sameNumber, for every value. -/
import Derived.Test.YtchklaepilcbbaaGreatH2
import Derived.Lib.UnsafeStr
import Derived.Lib.BufferWrite
import Derived.Laws.MakeOwn
namespace Go.Proofs.YtchklaepilcbbaaGreat
open Go.RowKit
/-- A number's worth, exactly, in units of the least place. -/
def numVal (k n : Int) (f : Nat) : Int := if k = 2 then n * unitF else valF f
def nanK (k : Int) (f : Nat) : Bool := decide (k = 3) && isNaNF f
def sameB (k n : Int) (f : Nat) (k' n' : Int) (f' : Nat) : Bool := !nanK k f && !nanK k' f' && decide (numVal k n f = numVal k' n' f')
def lessB (k n : Int) (f : Nat) (k' n' : Int) (f' : Nat) : Bool := !nanK k f && !nanK k' f' && decide (numVal k n f < numVal k' n' f')
theorem order_eq (a b : Nat) (ha : a < 18446744073709551616) (hb : b < 18446744073709551616) :
    (FloatKind.f64.format.order a b == some Ordering.eq) = (!isNaNF a && !isNaNF b && decide (valF a = valF b)) := by
  show (Ieee.double.order a b == some Ordering.eq) = _
  cases na : isNaNF a
  · cases nb : isNaNF b
    · rw [Go.Proofs.YtchklaepilcbbaaGreat.order_any a b ha hb (num_bound a na) (num_bound b nb)]
      have v1 := valF_lt a b
      have v2 := valF_lt b a
      have e : (compare (keyF a) (keyF b) = Ordering.eq) ↔ keyF a = keyF b := by
        show compareOfLessAndEq _ _ = _ ↔ _
        unfold compareOfLessAndEq
        by_cases p : keyF a < keyF b
        · rw [if_pos p]; simp; omega
        · rw [if_neg p]
          by_cases q : keyF a = keyF b
          · simp [q]
          · simp [q]
      rw [Bool.eq_iff_iff]
      simp only [Bool.not_false, Bool.true_and, decide_eq_true_eq, beq_iff_eq, Option.some.injEq, e]
      omega
    · rw [Go.Proofs.YtchklaepilcbbaaGreat.order_nan' a b (by simpa [isNaNF] using nb)]
      rfl
  · rw [Go.Proofs.YtchklaepilcbbaaGreat.order_nan a b (by simpa [isNaNF] using na)]
    rfl
theorem cmpZ_eq (x y : Int) : (cmpZ x y == 0) = decide (x = y) := by
  rw [Bool.eq_iff_iff]
  simp only [beq_iff_eq, decide_eq_true_eq]
  unfold cmpZ
  repeat' split
  all_goals omega
theorem mixed_eq (n : Int) (f : Nat) : (mixedF n f == 0) = (!isNaNF f && decide (n * unitF = valF f)) := by
  unfold mixedF
  cases p : isNaNF f
  · rw [if_neg (by simp), cmpZ_eq]; simp
  · rw [if_pos rfl]; rfl
theorem same_ff (n n' : Int) (f f' : Nat) (hf : f < 18446744073709551616) (hf' : f' < 18446744073709551616) : sameB 3 n f 3 n' f' = (FloatKind.f64.format.order f f' == some Ordering.eq) := by
  rw [order_eq f f' hf hf']; simp [sameB, nanK, numVal]
theorem same_fi (n n' : Int) (f f' : Nat) : sameB 3 n f 2 n' f' = (mixedF n' f == 0) := by
  rw [mixed_eq]; simp [sameB, nanK, numVal, eq_comm]
theorem same_if (n n' : Int) (f f' : Nat) : sameB 2 n f 3 n' f' = (mixedF n f' == 0) := by
  rw [mixed_eq]; simp [sameB, nanK, numVal]
theorem same_ii (n n' : Int) (f f' : Nat) : sameB 2 n f 2 n' f' = (n == n') := by
  rw [Bool.eq_iff_iff]
  simp only [sameB, nanK, numVal, if_true, beq_iff_eq, show ((2 : Int) = 3) = False by simp, decide_false, Bool.false_and, Bool.not_false, Bool.true_and, decide_eq_true_eq]
  constructor
  · exact fun h => Int.eq_of_mul_eq_mul_right (by have := unitF_pos; omega) h
  · exact fun h => by rw [h]
/-- A number's place against its worth. -/
theorem key_val (k n k' n' : Int) (f f' : Nat) (hk : k = 2 ∨ k = 3) (hk' : k' = 2 ∨ k' = 3) (a : nanK k f = false) (b : nanK k' f' = false) (h : numVal k n f ≠ numVal k' n' f') :
    cmpI (numKey k n f) (numKey k' n' f') < 0 ↔ numVal k n f < numVal k' n' f' := by
  have lt : cmpI (numKey k n f) (numKey k' n' f') < 0 ↔ numKey k n f < numKey k' n' f' := by
    unfold cmpI; repeat' split
    all_goals omega
  rw [lt]
  have r : ∀ (k n : Int) (f : Nat), (k = 2 ∨ k = 3) → nanK k f = false → 4 * numVal k n f ≤ numKey k n f ∧ numKey k n f ≤ 4 * numVal k n f + 2 := by
    intro k n f hk a
    rcases hk with rfl | rfl
    · rw [numKey_int]; unfold numVal; rw [if_pos rfl]; omega
    · rw [numKey_float n f (by simpa [nanK] using a)]; unfold numVal; rw [if_neg (by omega)]; split <;> omega
  have r1 := r k n f hk a
  have r2 := r k' n' f' hk' b
  omega
theorem less_cmp (k n k' n' : Int) (b b' : Bool) (f f' : Nat) (s s' : ByteArray) (hk : k = 2 ∨ k = 3) (hk' : k' = 2 ∨ k' = 3) :
    lessB k n f k' n' f' = (!nanK k f && !nanK k' f' && !sameB k n f k' n' f' && decide (cmpK (keyV k b n f s) (keyV k' b' n' f' s') < 0)) := by
  cases a : nanK k f
  · cases c : nanK k' f'
    · have e : cmpK (keyV k b n f s) (keyV k' b' n' f' s') = cmpI (numKey k n f) (numKey k' n' f') := by
        rcases hk with rfl | rfl <;> rcases hk' with rfl | rfl
        · exact cmpK_num (x := keyV 2 b n f s) (y := keyV 2 b' n' f' s') rfl rfl rfl
        · exact cmpK_num (x := keyV 2 b n f s) (y := keyV 3 b' n' f' s') rfl rfl rfl
        · exact cmpK_num (x := keyV 3 b n f s) (y := keyV 2 b' n' f' s') rfl rfl rfl
        · exact cmpK_num (x := keyV 3 b n f s) (y := keyV 3 b' n' f' s') rfl rfl rfl
      rw [e]
      by_cases q : numVal k n f = numVal k' n' f'
      · simp [lessB, sameB, a, c, q]
      · have v := key_val k n k' n' f f' hk hk' a c q
        simp [lessB, sameB, a, c, q, v]
    · simp [lessB, c]
  · simp [lessB, a]
set_option maxRecDepth 100000 in
theorem Truth_any (b : Bool) (w : World) : Calls Tryz.prog 54 #[.bool b] w fun e w' => e = .returned (vagg 1 b 0 0 ⟨#[]⟩) ∧ Below w.heap.size w w' := by
  have hsf := store_float
  go_enter Tryz.func54, Tryz.ntmps54
  go_wp2
  go_returns
  exact ⟨rfl, (Below.refl _ _).alloc (Nat.le_refl _) _⟩
end Go.Proofs.YtchklaepilcbbaaGreat

namespace Go.Proofs.YtchklaepilcbbaaGreat
open Go.RowKit
/-- What three boxes hold, wherever the walk has come to. -/
def Three (w wc : World) (A B C : Array Value) : Prop :=
  Below w.heap.size w wc ∧ w.heap.size + 3 ≤ wc.heap.size ∧ (∀ j, wc.cell? ⟨w.heap.size, j, none⟩ = A[j]?) ∧ (∀ j, wc.cell? ⟨w.heap.size + 1, j, none⟩ = B[j]?) ∧ (∀ j, wc.cell? ⟨w.heap.size + 2, j, none⟩ = C[j]?)
theorem Three.step {w wc wd : World} {A B C : Array Value} (h : Three w wc A B C) (hb : Below wc.heap.size wc wd) : Three w wd A B C := by
  obtain ⟨h1, h2, h3, h4, h5⟩ := h
  have c := (bcell hb).1
  have s := hb.size
  exact ⟨h1.trans (hb.mono h1.size), by omega, fun j => (c _ j (by omega)).trans (h3 j), fun j => (c _ j (by omega)).trans (h4 j), fun j => (c _ j (by omega)).trans (h5 j)⟩
theorem Three.below {w wc : World} {A B C : Array Value} (h : Three w wc A B C) : Below w.heap.size w wc := h.1
theorem Three.drew {w wc : World} {A B C : Array Value} (h : Three w wc A B C) : Three w wc.drew A B C := ⟨h.1.drew, h.2⟩
theorem Three.on {w wc wd : World} {A B C : Array Value} (hb : Below wc.heap.size wc wd) (h1 : Below w.heap.size w wc) (h2 : w.heap.size + 3 ≤ wc.heap.size) (h3 : ∀ j, wc.cell? ⟨w.heap.size, j, none⟩ = A[j]?) (h4 : ∀ j, wc.cell? ⟨w.heap.size + 1, j, none⟩ = B[j]?) (h5 : ∀ j, wc.cell? ⟨w.heap.size + 2, j, none⟩ = C[j]?) : Three w wd A B C :=
  Three.step ⟨h1, h2, h3, h4, h5⟩ hb
theorem Three.start (w : World) (A B C : Array Value) (t u v : TypeId) : Three w (((w.alloc (.cells A t)).alloc (.cells B u)).alloc (.cells C v)) A B C := by
  refine ⟨(below2 w _ _ 0).alloc (by simp; omega) _, by simp, fun j => ?_, fun j => ?_, fun j => ?_⟩
  · rw [World.cell?_alloc_lt _ _ _ (by simp; omega), World.cell?_alloc_lt _ _ _ (by simp)]
    exact cell_of_row _ _ _ _ _ _ (heap_alloc_new w _)
  · rw [World.cell?_alloc_lt _ _ _ (by simp)]
    exact cell_of_row _ _ _ _ _ _ (by have := heap_alloc_new (w.alloc (.cells A t)) (.cells B u); simpa using this)
  · exact cell_of_row _ _ _ _ _ _ (by have := heap_alloc_new ((w.alloc (.cells A t)).alloc (.cells B u)) (.cells C v); simpa using this)
/-- The same, and the third may be written. -/
def Res (w wc : World) (A B C : Array Value) : Prop := Three w wc A B C ∧ ∀ j, wc.frozen? ⟨w.heap.size + 2, j, none⟩ = false
theorem Res.step {w wc wd : World} {A B C : Array Value} (h : Res w wc A B C) (hb : Below wc.heap.size wc wd) : Res w wd A B C :=
  ⟨h.1.step hb, fun j => ((bcell hb).2 _ j (by have := h.1.2.1; omega)).trans (h.2 j)⟩
theorem Res.below {w wc : World} {A B C : Array Value} (h : Res w wc A B C) : Below w.heap.size w wc := h.1.1
theorem Res.start (w : World) (A B C : Array Value) (t u v : TypeId) : Res w (((w.alloc (.cells A t)).alloc (.cells B u)).alloc (.cells C v)) A B C := by
  refine ⟨Three.start w A B C t u v, fun j => ?_⟩
  have h := heap_alloc_new ((w.alloc (.cells A t)).alloc (.cells B u)) (.cells C v)
  have e : ((w.alloc (.cells A t)).alloc (.cells B u)).heap.size = w.heap.size + 2 := by simp
  rw [e] at h
  unfold World.frozen?
  simp only []
  rw [h]
  simp
end Go.Proofs.YtchklaepilcbbaaGreat

namespace Go.Proofs.YtchklaepilcbbaaGreat
open Go.RowKit
/-- Five cells of one block, written. -/
theorem set5 (W : World) (g : Nat) (x0 x1 x2 x3 x4 : Value) (C : Array Value) (hC : C.size = 5) (hc : ∀ j, W.cell? ⟨g, j, none⟩ = C[j]?) :
    (((((W.setCell ⟨g, 0, none⟩ x0).setCell ⟨g, 1, none⟩ x1).setCell ⟨g, 2, none⟩ x2).setCell ⟨g, 3, none⟩ x3).setCell ⟨g, 4, none⟩ x4).cell? ⟨g, 0, none⟩ = some x0 ∧
    (((((W.setCell ⟨g, 0, none⟩ x0).setCell ⟨g, 1, none⟩ x1).setCell ⟨g, 2, none⟩ x2).setCell ⟨g, 3, none⟩ x3).setCell ⟨g, 4, none⟩ x4).cell? ⟨g, 1, none⟩ = some x1 ∧
    (((((W.setCell ⟨g, 0, none⟩ x0).setCell ⟨g, 1, none⟩ x1).setCell ⟨g, 2, none⟩ x2).setCell ⟨g, 3, none⟩ x3).setCell ⟨g, 4, none⟩ x4).cell? ⟨g, 2, none⟩ = some x2 ∧
    (((((W.setCell ⟨g, 0, none⟩ x0).setCell ⟨g, 1, none⟩ x1).setCell ⟨g, 2, none⟩ x2).setCell ⟨g, 3, none⟩ x3).setCell ⟨g, 4, none⟩ x4).cell? ⟨g, 3, none⟩ = some x3 ∧
    (((((W.setCell ⟨g, 0, none⟩ x0).setCell ⟨g, 1, none⟩ x1).setCell ⟨g, 2, none⟩ x2).setCell ⟨g, 3, none⟩ x3).setCell ⟨g, 4, none⟩ x4).cell? ⟨g, 4, none⟩ = some x4 := by
  have o : ∀ (w : World) (i j : Nat) (x : Value), i ≠ j → (w.setCell ⟨g, i, none⟩ x).cell? ⟨g, j, none⟩ = w.cell? ⟨g, j, none⟩ := fun w i j x h => World.cell?_setCell_other _ _ _ _ (by intro e; simp only [Addr.mk.injEq] at e; omega)
  have k : ∀ j, j < 5 → ∃ u, W.cell? ⟨g, j, none⟩ = some u := fun j hj => ⟨C[j], by rw [hc]; exact Array.getElem?_eq_getElem (by omega)⟩
  obtain ⟨u0, k0⟩ := k 0 (by omega)
  obtain ⟨u1, k1⟩ := k 1 (by omega)
  obtain ⟨u2, k2⟩ := k 2 (by omega)
  obtain ⟨u3, k3⟩ := k 3 (by omega)
  obtain ⟨u4, k4⟩ := k 4 (by omega)
  refine ⟨?_, ?_, ?_, ?_, ?_⟩
  · rw [o _ 4 0 _ (by omega), o _ 3 0 _ (by omega), o _ 2 0 _ (by omega), o _ 1 0 _ (by omega)]
    exact World.cell?_setCell_same _ _ _ k0
  · rw [o _ 4 1 _ (by omega), o _ 3 1 _ (by omega), o _ 2 1 _ (by omega)]
    exact World.cell?_setCell_same _ _ _ (by rw [o _ 0 1 _ (by omega)]; exact k1)
  · rw [o _ 4 2 _ (by omega), o _ 3 2 _ (by omega)]
    exact World.cell?_setCell_same _ _ _ (by rw [o _ 1 2 _ (by omega), o _ 0 2 _ (by omega)]; exact k2)
  · rw [o _ 4 3 _ (by omega)]
    exact World.cell?_setCell_same _ _ _ (by rw [o _ 2 3 _ (by omega), o _ 1 3 _ (by omega), o _ 0 3 _ (by omega)]; exact k3)
  · exact World.cell?_setCell_same _ _ _ (by rw [o _ 3 4 _ (by omega), o _ 2 4 _ (by omega), o _ 1 4 _ (by omega), o _ 0 4 _ (by omega)]; exact k4)
theorem set5_below {w W : World} (g : Nat) (x0 x1 x2 x3 x4 : Value) (hg : w.heap.size ≤ g) (h : Below w.heap.size w W) :
    Below w.heap.size w (((((W.setCell ⟨g, 0, none⟩ x0).setCell ⟨g, 1, none⟩ x1).setCell ⟨g, 2, none⟩ x2).setCell ⟨g, 3, none⟩ x3).setCell ⟨g, 4, none⟩ x4) :=
  ((((h.setCell (p := ⟨g, 0, none⟩) hg _).setCell (p := ⟨g, 1, none⟩) hg _).setCell (p := ⟨g, 2, none⟩) hg _).setCell (p := ⟨g, 3, none⟩) hg _).setCell (p := ⟨g, 4, none⟩) hg _
abbrev nullV : Value := vagg 0 false 0 0 ⟨#[]⟩
abbrev truthV (b : Bool) : Value := vagg 1 b 0 0 ⟨#[]⟩
end Go.Proofs.YtchklaepilcbbaaGreat

namespace Go.Proofs.YtchklaepilcbbaaGreat
open Go.RowKit
theorem uint8_info : (Tryz.prog.info? 5).map (fun i => (i.zero, i.size, i.bytes)) = some (some (.int .u8 0), 1, 1) := by kernel_rfl
set_option maxRecDepth 100000 in
set_option maxHeartbeats 2000000 in
theorem strClone_any (s : ByteArray) (w : World) (h0 : 0 < s.size) (h1 : s.size ≤ 1000) :
    Calls Tryz.prog 136 #[.string s] w fun e w' => e = .returned (.string s) ∧ Below w.heap.size w w' := by
  obtain ⟨i0, hi, hz0, hz1, hz2⟩ := info_parts uint8_info
  have hinfo : (Tryz.prog.info? 5).map (·.size) = some 1 := by rw [hi]; simp [hz1]
  have hco : Tryz.prog.cellsOf 5 = 1 := by kernel_rfl
  obtain ⟨M, hM⟩ : ∃ M, M = madeCells (Value.int .u8 0).cells (((s.size : Nat) : Int).toNat * i0.size) := ⟨_, rfl⟩
  have hMs : M.size = s.size := by rw [hM, size_madeCells, hz1]; simp
  have hmk : ∀ W : World, (Instr.makeSlice 25 (.int .i64 (s.size : Int)) (.int .i64 (s.size : Int))).run Tryz.prog W = .ok (.slice (some ⟨W.heap.size, 0, none⟩) s.size s.size) (W.alloc (.cells M 5)) := fun W => by
    have h := run_make (P := Tryz.prog) W 25 5 i0 (.int .u8 0) Tryz.underlying25 hi hz0 .i64 .i64 (s.size : Int) (s.size : Int) (by omega) (by omega) (by rw [hz2]; omega) (by omega)
    rw [← hM] at h
    simpa using h
  clear hM
  have hcp := Lib.run_copy_row_string (P := Tryz.prog) (w.alloc (.cells M 5)) 25 9 3 5 w.heap.size 0 s.size s.size s M 5 Tryz.underlying25 hinfo (heap_alloc_new w _) (Nat.le_refl _) (by omega)
  obtain ⟨Y, hY⟩ : ∃ Y, Y = (M.toList.take 0 ++ Lib.byteCells s.data.toList ++ M.toList.drop (0 + s.size)).toArray := ⟨_, rfl⟩
  rw [← hY] at hcp
  have hYl : Y.toList = Lib.byteCells s.data.toList := by
    rw [hY, List.toList_toArray, List.take_zero, List.nil_append, List.drop_of_length_le (by rw [Array.length_toList]; omega), List.append_nil]
  have hYs : Y.size = s.size := by rw [← Array.length_toList, hYl, Lib.byteCells_length, ← Lib.size_eq]
  have hgY : ((w.alloc (.cells M 5)).setRow w.heap.size Y).heap[w.heap.size]? = some (.cells Y 5 (0, 0)) := setRow_heap _ _ M _ 5 (0, 0) (heap_alloc_new w _)
  have hne : s.data.toList ≠ [] := fun e => by
    have h := Lib.size_eq s
    rw [e, List.length_nil] at h
    omega
  have hUS := Lib.run_unsafeString_row (P := Tryz.prog) ((w.alloc (.cells M 5)).setRow w.heap.size Y) 178 3 9 5 Tryz.underlying178 hco w.heap.size Y.size (by unfold World.shape?; rw [hgY]) s.data.toList hne (by rw [← Lib.size_eq]; omega) (by rw [← Lib.size_eq]; omega)
    (fun j x hx => Lib.cells_of_row hgY Y.size j _ (by rw [List.take_of_length_le (by rw [Array.length_toList]; exact Nat.le_refl _), hYl]; simp [Lib.byteCells, hx]))
  rw [← Lib.size_eq] at hUS
  clear hY
  have t0 : ((s.size : Int) == 0) = false := beq_eq_false_iff_ne.2 (by omega)
  go_enter Tryz.func136, Tryz.ntmps136
  go_wp2
  go_ret
  have hb1 : Below w.heap.size w (w.alloc (.cells M 5)) := (Below.refl _ w).alloc (Nat.le_refl _) _
  have hb2 : Below w.heap.size (w.alloc (.cells M 5)) ((w.alloc (.cells M 5)).setRow w.heap.size Y) := ⟨rfl, rfl, rfl, by simp, fun k hk => setRow_other _ _ _ _ (by omega)⟩
  exact ⟨rfl, Lib.below_freeze (hb1.trans hb2) (p := ⟨w.heap.size, 0, none⟩) (Nat.le_refl _) _⟩
theorem frozen_new (w : World) (C : Array Value) (t : TypeId) (j : Nat) : (w.alloc (.cells C t)).frozen? ⟨w.heap.size, j, none⟩ = false := by
  have h := heap_alloc_new w (.cells C t)
  unfold World.frozen?
  simp only []
  rw [h]
  simp
set_option maxRecDepth 100000 in
theorem Word_any' (s : ByteArray) (w : World) (h0 : 0 < s.size) (h1 : s.size ≤ 1000) :
    Calls Tryz.prog 55 #[.string s] w fun e w' => e = .returned (vagg 4 false 0 0 s) ∧ Below w.heap.size w w' := by
  have C := Lib.hid (fun w => strClone_any s w h0 h1)
  have hsf := store_float
  go_enter Tryz.func55, Tryz.ntmps55
  go_wp2_with (first | (go_at_call 136; ((with_reducible refine (C.out _).mono ?_); rintro e w1 ⟨rfl, hb⟩; have hbc : ∀ j, w1.cell? ⟨w.heap.size, j, none⟩ = #[Value.int .i64 0, .bool false, .int .i64 0, .float .f64 0, .string ⟨#[]⟩][j]? := (fun j => ((bcell hb).1 _ j (by simp)).trans (cell_of_row _ _ _ _ _ _ (heap_alloc_new w _))); have hbf : ∀ j, w1.frozen? ⟨w.heap.size, j, none⟩ = false := (fun j => ((bcell hb).2 _ j (by simp)).trans (frozen_new w _ _ j)))) | go_in)
  obtain ⟨s0, s1, s2, s3, s4⟩ := set5 w1 w.heap.size (.int .i64 4) (.bool false) (.int .i64 0) (.float .f64 0) (.string s) _ rfl hbc
  refine bodyPost_ret (v := vagg 4 false 0 0 s) (by simp [results, Tryz.results55, go_sem, s0, s1, s2, s3, s4]) rfl ?_
  exact ⟨rfl, set5_below _ _ _ _ _ _ (Nat.le_refl _) (((Below.refl _ _).alloc (Nat.le_refl _) _).trans (hb.mono (by simp)))⟩
end Go.Proofs.YtchklaepilcbbaaGreat
