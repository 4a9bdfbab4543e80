/- A reader: what it holds, how a step moves it; Left, takeByte. -/
import Derived.Test.YtokgpifelinonaaB4
import Derived.Test.YtokgpifelinonaaQ1
namespace Go.Proofs.Ytokgpifelinonaa
open Go.RowKit
theorem below_drewN' {B : Nat} {a w : World} (h : Below B a w) (n : Nat) : Below B a (w.drewN n) := ⟨h.os, h.tape, h.output, h.size, h.block⟩
/-- The reader in block g: its bytes l, of which those from k on remain. -/
def Rd (w : World) (g k : Nat) (A : Option Addr) (c : Nat) (l : List UInt8) : Prop :=
  w.heap[g]? = some (.cells #[.slice A l.length c, .int .i64 k, .bool true] 67 (0, 0)) ∧ (k ≤ l.length ∧ l.length ≤ 140737488355328 ∧ l.length ≤ c ∧ c ≤ maxLen) ∧
  (0 < l.length → ∃ b off, A = some ⟨b, off, none⟩ ∧ b < w.heap.size ∧ b ≠ g ∧ ∀ i, i < l.length → w.cell? ⟨b, off + i, none⟩ = some (bv (l.getD i 0)))
/-- A step has moved the reader in block g to k; all else that lay there is as it was. -/
def Moved (w : World) (g k : Nat) (w' : World) : Prop := Below w.heap.size (w.setCell ⟨g, 1, none⟩ (.int .i64 k)) w'
theorem lt_heap {w : World} {g : Nat} {o : Obj} (h : w.heap[g]? = some o) : g < w.heap.size := (Array.getElem?_eq_some_iff.1 h).1
section
variable {w w' w'' : World} {g k j : Nat} {A : Option Addr} {c : Nat} {l : List UInt8}
theorem Rd.lt (h : Rd w g k A c l) : g < w.heap.size := lt_heap h.1
theorem Rd.c0 (h : Rd w g k A c l) : w.cell? ⟨g, 0, none⟩ = some (.slice A l.length c) := by simpa using cell_of_row w g 0 _ _ _ h.1
theorem Rd.c1 (h : Rd w g k A c l) : w.cell? ⟨g, 1, none⟩ = some (.int .i64 k) := by simpa using cell_of_row w g 1 _ _ _ h.1
theorem Rd.c2 (h : Rd w g k A c l) : w.cell? ⟨g, 2, none⟩ = some (.bool true) := by simpa using cell_of_row w g 2 _ _ _ h.1
theorem Rd.f1 (h : Rd w g k A c l) : w.frozen? ⟨g, 1, none⟩ = false := by
  have e := h.1
  unfold World.frozen?
  simp only []
  rw [e]
  simp
theorem Rd.at_ (h : Rd w g k A c l) {i : Nat} (hi : i < l.length) : ∃ b off, A = some ⟨b, off, none⟩ ∧ b < w.heap.size ∧ b ≠ g ∧ w.cell? ⟨b, off + i, none⟩ = some (bv (l.getD i 0)) := by
  obtain ⟨b, off, e, h1, h2, h3⟩ := h.2.2 (by omega)
  exact ⟨b, off, e, h1, h2, h3 i hi⟩
theorem Rd.below (h : Rd w g k A c l) (hb : Below w.heap.size w w') : Rd w' g k A c l := by
  obtain ⟨h1, h2, h3⟩ := h
  refine ⟨(hb.block g (lt_heap h1)).trans h1, h2, fun h0 => ?_⟩
  obtain ⟨b, off, e, hl, hn, hc⟩ := h3 h0
  have := hb.size
  exact ⟨b, off, e, by omega, hn, fun i hi => (hb.cell (p := ⟨b, off + i, none⟩) hl).trans (hc i hi)⟩
theorem Rd.set (h : Rd w g k A c l) (hj : j ≤ l.length) : Rd (w.setCell ⟨g, 1, none⟩ (.int .i64 j)) g j A c l := by
  obtain ⟨h1, h2, h3⟩ := h
  refine ⟨?_, ⟨hj, h2.2⟩, fun h0 => ?_⟩
  · simp [World.setCell, Array.getElem?_modify, h1]
  · obtain ⟨b, off, e, hl, hn, hc⟩ := h3 h0
    refine ⟨b, off, e, by simpa [World.setCell] using hl, hn, fun i hi => ?_⟩
    rw [World.cell?_setCell_other _ _ _ _ (fun e => hn (congrArg Addr.block e).symm)]
    exact hc i hi
theorem Rd.moved (h : Rd w g k A c l) (hm : Moved w g j w') (hj : j ≤ l.length) : Rd w' g j A c l :=
  (h.set hj).below (by rw [show (w.setCell ⟨g, 1, none⟩ (.int .i64 j)).heap.size = w.heap.size by simp [World.setCell]]; exact hm)
theorem Moved.size (h : Moved w g j w') : w.heap.size ≤ w'.heap.size := by have := Below.size h; simpa [World.setCell] using this
theorem Moved.far (h : Moved w g j w') {b : Nat} (hb : b < w.heap.size) (hn : b ≠ g) : w'.heap[b]? = w.heap[b]? :=
  (Below.block h b hb).trans (Below.heap_setCell _ _ _ _ (by simpa using hn))
theorem Moved.os (h : Moved w g j w') : w'.os = w.os ∧ w'.tape = w.tape ∧ w'.output = w.output := by
  have h' : Below w.heap.size (w.setCell ⟨g, 1, none⟩ (.int .i64 j)) w' := h
  exact ⟨h'.os, h'.tape, h'.output⟩
/-- Two steps, one behind the other. -/
theorem Moved.trans {j' : Nat} (h : Moved w g j w') (h' : Moved w' g j' w'') : Moved w g j' w'' := by
  have hs := Moved.size h
  have hs' := Moved.size h'
  refine ⟨(Moved.os h').1.trans (Moved.os h).1, (Moved.os h').2.1.trans (Moved.os h).2.1, (Moved.os h').2.2.trans (Moved.os h).2.2, by simpa [World.setCell] using Nat.le_trans hs hs', fun b hb => ?_⟩
  by_cases e : b = g
  · subst e
    rw [Below.block h' b (by omega)]
    have e1 := Below.block h b hb
    simp only [World.setCell, Array.getElem?_modify, if_true] at e1 ⊢
    rw [e1]
    cases w.heap[b]? with
    | none => rfl
    | some o =>
      cases o <;> simp
  · rw [Moved.far h' (by omega) e, Moved.far h hb e, Below.heap_setCell _ _ _ _ (by simpa using e)]
/-- A step behind which the reader stands where it stood. -/
theorem Moved.stay (h : Rd w g k A c l) (hb : Below w.heap.size w w') : Moved w g k w' := by
  refine ⟨hb.os, hb.tape, hb.output, by simpa [World.setCell] using hb.size, fun b hb' => ?_⟩
  rw [hb.block b hb']
  by_cases e : b = g
  · subst e
    simp [World.setCell, Array.getElem?_modify, h.1]
  · rw [Below.heap_setCell _ _ _ _ (by simpa using e)]
theorem Moved.then (h : Moved w g j w') (hb : Below w'.heap.size w' w'') : Moved w g j w'' := Below.trans h (hb.mono (Moved.size h))
theorem Moved.after (hb : Below w.heap.size w w') (hg : g < w.heap.size) (h : Moved w' g j w'') : Moved w g j w'' := by
  have hs := hb.size
  have hs' := Moved.size h
  refine ⟨(Moved.os h).1.trans hb.os, (Moved.os h).2.1.trans hb.tape, (Moved.os h).2.2.trans hb.output, by simpa [World.setCell] using Nat.le_trans hs hs', fun b hb' => ?_⟩
  rw [Below.block h b (by omega)]
  by_cases e : b = g
  · subst e
    simp [World.setCell, Array.getElem?_modify, hb.block b hb']
  · rw [Below.heap_setCell _ _ _ _ (by simpa using e), Below.heap_setCell _ _ _ _ (by simpa using e), hb.block b hb']
end
set_option maxRecDepth 100000 in
set_option maxHeartbeats 1000000 in
theorem Left_nil (w : World) : Calls Try.prog 18 #[.pointer none] w fun e w' => e = .returned (.int .i64 0) ∧ w = w' := by
  go_enter Try.func18, Try.ntmps18
  go_wp2
  go_ret
  exact ⟨rfl, rfl⟩
set_option maxRecDepth 100000 in
set_option maxHeartbeats 1000000 in
theorem Left_any (g k c : Nat) (A : Option Addr) (l : List UInt8) (w : World) (h : Rd w g k A c l) :
    Calls Try.prog 18 #[.pointer (some ⟨g, 0, none⟩)] w fun e w' => e = .returned (.int .i64 ((l.length - k : Nat) : Int)) ∧ ∃ n, w' = w.drewN n := by
  have h0 := h.c0
  have h1 := h.c1
  obtain ⟨hk, hl, _, _⟩ := h.2.1
  have hs : IntKind.i64.wrap ((l.length : Int) - k) = ((l.length - k : Nat) : Int) := by rw [IntWalk.i64_in _ (by omega)]; omega
  have HK := Lib.hid hk
  clear h hk hl
  go_enter Try.func18, Try.ntmps18
  go_wp2
  go_quiet (fail)
  go_wp2
  go_ret
  exact ⟨rfl, _, rfl⟩
theorem quiet_r {P : Program} {f : FuncId} {args : Array Value} {w : World} {v : Value} (h : Calls P f args w fun e w' => e = .returned v ∧ ∃ n, w' = w.drewN n) : Calls P f args w fun e w' => e = .returned v ∧ Below w.heap.size w w' :=
  h.mono fun _ _ ⟨he, _, hn⟩ => ⟨he, by rw [hn]; exact below_drewN' (Below.refl _ _) _⟩
set_option maxRecDepth 100000 in
set_option maxHeartbeats 1000000 in
theorem takeByte_end (g k c : Nat) (A : Option Addr) (l : List UInt8) (w : World) (h : Rd w g k A c l) (hk : k = l.length) :
    Calls Try.prog 40 #[.pointer (some ⟨g, 0, none⟩)] w fun e w' => e = .returned (.tuple #[.int .u8 0, .int .i64 4]) ∧ Moved w g k w' := by
  have C := Lib.hid (quiet_r (Left_any g k c A l w h))
  rw [show l.length - k = 0 by omega] at C
  have H := Lib.hid h
  clear h hk
  go_enter Try.func40, Try.ntmps40
  go_wp2_with (go_at_call 18; ((with_reducible refine (C.out).mono ?_); rintro e w1 ⟨rfl, hb⟩; have B1 := Lib.hid hb; clear hb))
  go_ret2
  exact ⟨rfl, Moved.stay H.out B1.out⟩
set_option maxRecDepth 100000 in
set_option maxHeartbeats 1000000 in
theorem takeByte_more (g k c : Nat) (A : Option Addr) (l : List UInt8) (w : World) (h : Rd w g k A c l) (hk : k < l.length) :
    Calls Try.prog 40 #[.pointer (some ⟨g, 0, none⟩)] w fun e w' => e = .returned (.tuple #[.int .u8 ((l.getD k 0).toNat : Int), .int .i64 0]) ∧ Moved w g (k + 1) w' := by
  have C := Lib.hid (quiet_r (Left_any g k c A l w h))
  obtain ⟨x, hx⟩ : ∃ x : Int, x = ((l.getD k 0).toNat : Int) := ⟨_, rfl⟩
  rw [← hx]
  have hne : (((l.length - k : Nat) : Int) == 0) = false := by simp; omega
  have H := Lib.hid h
  have KL := Lib.hid hk
  have HX := Lib.hid hx
  clear h hk hx
  go_enter Try.func40, Try.ntmps40
  go_wp2_with (go_at_call 18; ((with_reducible refine (C.out).mono ?_); rintro e w1 ⟨rfl, hb⟩; have B1 := Lib.hid hb; clear hb))
  have hr1 := H.out.below B1.out
  have H1 := Lib.hid hr1
  have h0 := hr1.c0
  have h1 := hr1.c1
  have hf := hr1.f1
  obtain ⟨b, off, rfl, hbl, hbn, hcell⟩ := hr1.at_ KL.out
  rw [show bv (l.getD k 0) = .int .u8 x by rw [HX.out]; rfl] at hcell
  have i0 : (0 : Int) ≤ (k : Int) := by omega
  have i1 : (k : Int) < (l.length : Int) := by have := KL.out; omega
  have hm := hr1.2.1.2.1
  clear hr1 hbl hbn hne
  go_quiet (fail)
  go_wp2
  go_ret2
  exact ⟨rfl, Moved.after (below_drewN' B1.out nq) H.out.lt (Below.refl _ _)⟩
end Go.Proofs.Ytokgpifelinonaa
