/- Both readers side by side: a step of one keeps the other. -/
import Derived.Test.YtokgpifelinonaaR13
namespace Go.Proofs.Ytokgpifelinonaa
open Go.RowKit
set_option maxRecDepth 100000 in
theorem Bits_same (v : Nat) (w : World) : Calls Try.prog 13 #[.float .f64 v, .float .f64 v] w fun e w' => e = .returned (.bool true) ∧ w = w' := by
  have hfb := call_Float64bits
  go_enter Try.func13, Try.ntmps13
  go_wp2
  go_ret
  exact ⟨rfl, rfl⟩
/-- In the reader's block lies no byte. -/
theorem Rd.no_byte {w : World} {g k c o : Nat} {A : Option Addr} {l : List UInt8} {x : UInt8} (h : Rd w g k A c l) : w.cell? ⟨g, o, none⟩ ≠ some (bv x) := by
  intro e
  rw [cell_of_row w g o _ _ _ h.1] at e
  match o, e with
  | 0, e => simp [bv] at e
  | 1, e => simp [bv] at e
  | 2, e => simp [bv] at e
  | o + 3, e => simp at e
theorem Moved.cell {w w' : World} {g j : Nat} (h : Moved w g j w') {b o : Nat} (hb : b < w.heap.size) (hn : b ≠ g) : w'.cell? ⟨b, o, none⟩ = w.cell? ⟨b, o, none⟩ := by
  have h1 := Below.cell h (p := ⟨b, o, none⟩) (by simpa [World.setCell] using hb)
  rw [h1, World.cell?_setCell_other _ _ _ _ (fun e => hn (congrArg Addr.block e).symm)]
theorem Moved.frozen {w w' : World} {g j : Nat} (h : Moved w g j w') {b o : Nat} (hb : b < w.heap.size) : w'.frozen? ⟨b, o, none⟩ = w.frozen? ⟨b, o, none⟩ := by
  have h1 := Below.frozen h (p := ⟨b, o, none⟩) (by simpa [World.setCell] using hb)
  rw [h1, World.frozen?_setCell]
/-- A step of the program's reader keeps the document's. -/
theorem Qd.moved {w w' : World} {Q g k j c : Nat} {A : Option Addr} {l L : List UInt8} (h : Qd w Q L) (hr : Rd w g k A c l) (hne : Q ≠ g) (hm : Moved w g j w') : Qd w' Q L := by
  obtain ⟨B, d, hc, hlc, hz, hcells⟩ := h.some_
  refine ⟨Nat.lt_of_lt_of_le h.lt hm.size, (hm.frozen h.lt).trans h.free, ⟨B, d, (hm.cell h.lt hne).trans hc, hlc, hz, fun h0 => ?_⟩, h.short⟩
  obtain ⟨b, off, h1, h2, h3, h4⟩ := hcells h0
  have hbg : b ≠ g := fun e => by
    have := h4 0 h0
    rw [e] at this
    exact hr.no_byte this
  exact ⟨b, off, h1, h2, Nat.lt_of_lt_of_le h3 hm.size, fun i hi => (hm.cell h3 hbg).trans (h4 i hi)⟩
/-- A step of the document's reader keeps the program's. -/
theorem Rd.kept {w w' : World} {Q g k c : Nat} {A : Option Addr} {l L : List UInt8} (hr : Rd w g k A c l) (h : Qd w Q L) (hne : Q ≠ g) (hs : QSt w Q w') : Rd w' g k A c l := by
  rcases hs with rfl | ⟨v, rfl⟩
  · exact hr
  · obtain ⟨B, d, hc, _⟩ := h.some_
    refine ⟨by rw [Below.heap_setCell _ _ _ _ (by simpa using hne.symm)]; exact hr.1, hr.2.1, fun h0 => ?_⟩
    obtain ⟨b, off, h1, h2, h3, h4⟩ := hr.2.2 h0
    refine ⟨b, off, h1, by simpa [World.setCell] using h2, h3, fun i hi => ?_⟩
    by_cases e : b = Q ∧ off + i = 0
    · obtain ⟨rfl, e2⟩ := e
      have := h4 i hi
      rw [e2, hc] at this
      simp [bv] at this
    · rw [World.cell?_setCell_other _ _ _ _ (fun he => e ⟨(congrArg Addr.block he).symm, (congrArg Addr.off he).symm⟩)]
      exact h4 i hi
theorem Below.qst {B Q : Nat} {w0 w w' : World} (h : Below B w0 w) (hB : B ≤ Q) (hs : QSt w Q w') : Below B w0 w' := by
  rcases hs with rfl | ⟨v, rfl⟩
  · exact h
  · refine ⟨h.os, h.tape, h.output, by simpa [World.setCell] using h.size, fun b hb => ?_⟩
    rw [Below.heap_setCell _ _ _ _ (by simp; omega)]
    exact h.block b hb
theorem Below.moved {B g j : Nat} {w0 w w' : World} (h : Below B w0 w) (hB : B ≤ g) (hBs : B ≤ w.heap.size) (hm : Moved w g j w') : Below B w0 w' := by
  refine ⟨(Moved.os hm).1.trans h.os, (Moved.os hm).2.1.trans h.tape, (Moved.os hm).2.2.trans h.output, Nat.le_trans h.size (Moved.size hm), fun b hb => ?_⟩
  rw [Moved.far hm (by omega) (by omega)]
  exact h.block b hb
/-- Both readers, k bytes on. -/
structure Both (w0 w : World) (g Q : Nat) (P : Option Addr) (c : Nat) (L : List UInt8) (k : Nat) : Prop where
  rd : Rd w g k P c L
  qd : Qd w Q (L.drop k)
  ne : Q ≠ g
  geg : w0.heap.size ≤ g
  geq : w0.heap.size ≤ Q
  below : Below w0.heap.size w0 w
  le : k ≤ L.length
theorem Both.go {w0 w w1 w2 : World} {g Q c k m : Nat} {P : Option Addr} {L : List UInt8} (h : Both w0 w g Q P c L k) (hk : k + m ≤ L.length) (hm : Moved w g (k + m) w1) (hq : Qd w2 Q ((L.drop k).drop m)) (hs : QSt w1 Q w2) : Both w0 w2 g Q P c L (k + m) := by
  have hr1 := h.rd.moved hm hk
  have hq1 := h.qd.moved h.rd h.ne hm
  refine ⟨hr1.kept hq1 h.ne hs, by rwa [List.drop_drop] at hq, h.ne, h.geg, h.geq, Below.qst (Below.moved h.below h.geg (Nat.le_trans h.geg (Nat.le_of_lt h.rd.lt)) hm) h.geq hs, hk⟩
theorem Both.over {w0 w w' : World} {g Q c k : Nat} {P : Option Addr} {L : List UInt8} (h : Both w0 w g Q P c L k) (hb : Below w.heap.size w w') : Both w0 w' g Q P c L k :=
  ⟨h.rd.below hb, h.qd.below hb, h.ne, h.geg, h.geq, h.below.trans (hb.mono (Nat.le_trans h.geg (Nat.le_of_lt h.rd.lt))), h.le⟩
end Go.Proofs.Ytokgpifelinonaa
