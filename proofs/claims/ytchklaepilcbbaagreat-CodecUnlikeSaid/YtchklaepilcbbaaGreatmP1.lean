/- The reader of parts: a source in memory, and what each of its steps tells and leaves. -/
import Derived.Test.YtchklaepilcbbaaGreatmY2
import Derived.Test.YtchklaepilcbbaaGreatmY4
namespace Go.Proofs.YtchklaepilcbbaaGreat
open Go.RowKit
/-- A source in block s, whose reader lies in block g: it has come to k in the bytes l; bad: it has failed. -/
structure Src (w : World) (s g : Nat) (A : Option Addr) (c : Nat) (l : List UInt8) (k : Nat) (bad : Bool) : Prop where
  box : w.heap[s]? = some (.cells #[.pointer (some ⟨g, 0, none⟩), .bool bad] 120 (0, 0))
  ne : s ≠ g
  rd : Rd w g k A c l
/-- All but the blocks s and g is as it was. -/
structure Far (s g : Nat) (w w' : World) : Prop where
  os : w'.os = w.os
  tape : w'.tape = w.tape
  output : w'.output = w.output
  size : w.heap.size ≤ w'.heap.size
  block : ∀ b, b < w.heap.size → b ≠ s → b ≠ g → w'.heap[b]? = w.heap[b]?
section
variable {w w' w'' : World} {s g k j c : Nat} {A : Option Addr} {l : List UInt8} {bad bad' : Bool}
theorem Far.refl (s g : Nat) (w : World) : Far s g w w := ⟨rfl, rfl, rfl, Nat.le_refl _, fun _ _ _ _ => rfl⟩
theorem Far.trans (h : Far s g w w') (h' : Far s g w' w'') : Far s g w w'' :=
  ⟨h'.os.trans h.os, h'.tape.trans h.tape, h'.output.trans h.output, Nat.le_trans h.size h'.size, fun b hb h1 h2 => (h'.block b (Nat.lt_of_lt_of_le hb h.size) h1 h2).trans (h.block b hb h1 h2)⟩
theorem Far.of (hb : Below w.heap.size w w') : Far s g w w' := ⟨hb.os, hb.tape, hb.output, hb.size, fun b h _ _ => hb.block b h⟩
theorem Far.moved (hm : Moved w g j w') : Far s g w w' :=
  ⟨(Moved.os hm).1, (Moved.os hm).2.1, (Moved.os hm).2.2, Moved.size hm, fun _ hb _ h2 => Moved.far hm hb h2⟩
/-- What lies below both blocks is as it was. -/
theorem Far.below {B : Nat} (h : Far s g w w') (hs : B ≤ s) (hg : B ≤ g) (hB : B ≤ w.heap.size) : Below B w w' :=
  ⟨h.os, h.tape, h.output, h.size, fun b hb => h.block b (Nat.lt_of_lt_of_le hb hB) (by omega) (by omega)⟩
theorem Bx.far {b : Nat} {C : Array Value} (h : Bx w b C) (hf : Far s g w w') (h1 : b ≠ s) (h2 : b ≠ g) : Bx w' b C := by
  have e := hf.block b h.lt h1 h2
  exact ⟨Nat.lt_of_lt_of_le h.lt hf.size, fun j => (World.cell?_of_block (a := ⟨b, j, none⟩) e).trans (h.c j), fun j => (World.frozen?_of_block (a := ⟨b, j, none⟩) e).trans (h.fr j)⟩
theorem Src.lt (h : Src w s g A c l k bad) : s < w.heap.size := lt_heap h.box
theorem Src.ltg (h : Src w s g A c l k bad) : g < w.heap.size := h.rd.lt
theorem Src.c0 (h : Src w s g A c l k bad) : w.cell? ⟨s, 0, none⟩ = some (.pointer (some ⟨g, 0, none⟩)) := by simpa using cell_of_row w s 0 _ _ _ h.box
theorem Src.c1 (h : Src w s g A c l k bad) : w.cell? ⟨s, 1, none⟩ = some (.bool bad) := by simpa using cell_of_row w s 1 _ _ _ h.box
theorem Src.f1 (h : Src w s g A c l k bad) : w.frozen? ⟨s, 1, none⟩ = false := by
  unfold World.frozen?
  simp only []
  rw [h.box]
  simp
theorem Src.below (h : Src w s g A c l k bad) (hb : Below w.heap.size w w') : Src w' s g A c l k bad := ⟨(hb.block s h.lt).trans h.box, h.ne, h.rd.below hb⟩
theorem Src.moved (h : Src w s g A c l k bad) (hm : Moved w g j w') (hj : j ≤ l.length) : Src w' s g A c l j bad :=
  ⟨(Moved.far hm h.lt h.ne).trans h.box, h.ne, h.rd.moved hm hj⟩
theorem block_setCell (w : World) (p : Addr) (v : Value) (b : Nat) (hb : b ≠ p.block) : (w.setCell p v).heap[b]? = w.heap[b]? := by
  simp [World.setCell, Array.getElem?_modify, Ne.symm hb]
theorem Rd.other (h : Rd w g k A c l) {s : Nat} {v : Value} (hs : s ≠ g) (hA : ∀ b off, A = some ⟨b, off, none⟩ → 0 < l.length → b ≠ s) : Rd (w.setCell ⟨s, 1, none⟩ v) g k A c l := by
  obtain ⟨h1, h2, h3⟩ := h
  refine ⟨(block_setCell _ _ _ _ (Ne.symm hs)).trans h1, h2, fun h0 => ?_⟩
  obtain ⟨b, off, e, hl, hn, hc⟩ := h3 h0
  refine ⟨b, off, e, by simpa [World.setCell] using hl, hn, fun i hi => ?_⟩
  rw [World.cell?_setCell_other _ _ _ _ (fun e' => hA b off e h0 (congrArg Addr.block e').symm)]
  exact hc i hi
end
end Go.Proofs.YtchklaepilcbbaaGreat
