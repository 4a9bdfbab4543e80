/- Forms laid one behind the other: what each call of package wire gives back, onto any bytes; boxes of one value, one operation. -/
import Derived.Test.YtchklaepilcbbaaGreatH4
import Derived.Test.YtchklaepilcbbaaGreatmY3
import Derived.Test.YtchklaepilcbbaaGreatmY2
namespace Go.Proofs.YtchklaepilcbbaaGreat
open Go.RowKit
/-- A slice that holds these bytes. -/
def GS (w : World) (v : Value) (l : List UInt8) : Prop := ∃ A c, v = .slice A l.length c ∧ At w A l ∧ (A = none → c = 0)
/-- What has been laid since w0: the bytes l, in memory of one's own; all that lay at w0 stays. -/
structure St (w0 w : World) (v : Value) (l : List UInt8) : Prop where
  own : Own1 w0.heap.size w v l
  bel : Below w0.heap.size w0 w
section
variable {w0 w w' : World} {v : Value} {l : List UInt8}
theorem GS.nil (w : World) : GS w (.slice none 0 0) [] := ⟨none, 0, rfl, fun h => absurd h (Nat.lt_irrefl 0), fun _ => rfl⟩
theorem GS.below (h : GS w v l) (hb : Below w.heap.size w w') : GS w' v l := by
  obtain ⟨A, c, e, hA, hz⟩ := h
  exact ⟨A, c, e, hA.below hb, hz⟩
theorem Own1.gs {base : Nat} (h : Own1 base w v l) : GS w v l := by
  rcases h.2 with ⟨rfl, h0⟩ | ⟨g, cap, cur, rfl, _⟩
  · exact ⟨none, 0, by rw [h0], fun e => absurd e (by omega), fun _ => rfl⟩
  · exact ⟨_, _, rfl, own_at h, fun e => by cases e⟩
theorem Own1.mono {base base' : Nat} (h : Own1 base w v l) (hb : base' ≤ base) : Own1 base' w v l := by
  refine ⟨h.1, ?_⟩
  rcases h.2 with h0 | ⟨g, cap, cur, h1, h2, h3⟩
  · exact .inl h0
  · exact .inr ⟨g, cap, cur, h1, Nat.le_trans hb h2, h3⟩
theorem Own1.below {base : Nat} (h : Own1 base w v l) (hb : Below w.heap.size w w') : Own1 base w' v l := by
  refine ⟨h.1, ?_⟩
  rcases h.2 with h0 | ⟨g, cap, cur, h1, h2, h3, h4⟩
  · exact .inl h0
  · exact .inr ⟨g, cap, cur, h1, h2, (hb.block g (lt_heap h3)).trans h3, h4⟩
theorem Own1.nil (base : Nat) (w : World) : Own1 base w (.slice none 0 0) [] := World.ownsRow_nil w base _ 1
theorem St.gs (h : St w0 w v l) : GS w v l := h.own.gs
theorem St.next (h : St w0 w v l) (hb : Below w.heap.size w w') : St w0 w' v l := ⟨h.own.below hb, h.bel.trans (hb.mono h.bel.size)⟩
theorem St.of {w1 : World} (hb : Below w0.heap.size w0 w) (h : St w w1 v l) : St w0 w1 v l := ⟨h.own.mono hb.size, hb.trans (h.bel.mono hb.size)⟩
theorem Gives.st {e : Ending} (hb : Below w0.heap.size w0 w) (h : Gives w l e w') : ∃ v, e = .returned v ∧ St w0 w' v l := by
  obtain ⟨cap, rfl, ho, hb'⟩ := h
  exact ⟨_, rfl, Own1.mono ho hb.size, hb.trans (hb'.mono hb.size)⟩
theorem NumS (n : Nat) (hb : Below w0.heap.size w0 w) (hn : n < 2 ^ 64) (h : GS w v l) (hm : l.length + 9 ≤ 140737488355328) :
    Calls Tryz.prog 86 #[v, .int .u64 n] w fun e w' => ∃ u, e = .returned u ∧ St w0 w' u (l ++ encNum n) := by
  obtain ⟨A, c, rfl, hA, hz⟩ := h
  exact (Num_any A l c n w hn hA hz hm).mono fun _ _ g => g.st hb
theorem IntS (n : Int) (hb : Below w0.heap.size w0 w) (hn : fits n) (h : GS w v l) (hm : l.length + 9 ≤ 140737488355328) :
    Calls Tryz.prog 83 #[v, .int .i64 n] w fun e w' => ∃ u, e = .returned u ∧ St w0 w' u (l ++ encInt n) := by
  obtain ⟨A, c, rfl, hA, hz⟩ := h
  exact (Int_any A l c n w hn hA hz hm).mono fun _ _ g => g.st hb
theorem TextS (s : ByteArray) (hb : Below w0.heap.size w0 w) (h : GS w v l) (hs : s.size ≤ 40) (hm : l.length + 100 ≤ 140737488355328) :
    Calls Tryz.prog 85 #[v, .string s] w fun e w' => ∃ u, e = .returned u ∧ St w0 w' u (l ++ encStr s) := by
  obtain ⟨A, c, rfl, hA, hz⟩ := h
  have := (escT_length s.data.toList).2
  exact (Text_any A l c s w hA hz (by unfold encText; simp at this ⊢; omega)).mono fun _ _ g => g.st hb
theorem ByteS (c : UInt8) (x : Int) (hx : (c.toNat : Int) = x) (hb : Below w0.heap.size w0 w) (h : GS w v l) (hm : l.length + 9 ≤ 140737488355328) :
    Calls Tryz.prog 81 #[v, .int .u8 x] w fun e w' => ∃ u, e = .returned u ∧ St w0 w' u (l ++ [c]) := by
  subst hx
  obtain ⟨A, d, rfl, hA, hz⟩ := h
  exact (Byte_any A l d c w hA hz (by omega)).mono fun _ _ g => g.st hb
theorem FloatS (f : Nat) (hb : Below w0.heap.size w0 w) (hf : f < 18446744073709551616) (hc : canonF f = f) (h : GS w v l) (hm : l.length + 9 ≤ 140737488355328) :
    Calls Tryz.prog 84 #[v, .float .f64 f] w fun e w' => ∃ u, e = .returned (.tuple #[u, .int .i64 0]) ∧ St w0 w' u (l ++ encFloat f) := by
  obtain ⟨A, c, rfl, hA, hz⟩ := h
  refine (Float_yes A l c f w hf hc hA hz hm).mono fun _ _ g => ?_
  obtain ⟨cap, rfl, ho, hb'⟩ := g
  exact ⟨_, rfl, Own1.mono ho hb.size, hb.trans (hb'.mono hb.size)⟩
end
/-- A box that holds these cells. -/
structure Bx (w : World) (g : Nat) (A : Array Value) : Prop where
  lt : g < w.heap.size
  c : ∀ j, w.cell? ⟨g, j, none⟩ = A[j]?
  fr : ∀ j, w.frozen? ⟨g, j, none⟩ = false
theorem Bx.below {w w' : World} {g : Nat} {A : Array Value} (h : Bx w g A) (hb : Below w.heap.size w w') : Bx w' g A :=
  ⟨Nat.lt_of_lt_of_le h.lt hb.size, fun j => (hb.cell (p := ⟨g, j, none⟩) h.lt).trans (h.c j), fun j => (hb.frozen (p := ⟨g, j, none⟩) h.lt).trans (h.fr j)⟩
theorem Bx.new (w : World) (A : Array Value) (t : TypeId) : Bx (w.alloc (.cells A t)) w.heap.size A := by
  refine ⟨by simp, fun j => cell_of_row _ _ _ _ _ _ (heap_alloc_new w _), fun j => ?_⟩
  have h := heap_alloc_new w (.cells A t)
  unfold World.frozen?
  simp only []
  rw [h]
  simp
/-- A value, an operation as the program has them. -/
abbrev VP.cells (v : VP) : Array Value := #[.int .i64 v.k, .bool v.b, .int .i64 v.n, .float .f64 v.f, .string v.s]
abbrev VP.val (v : VP) : Value := .agg v.cells
abbrev OP.cells (o : OP) : Array Value := #[.int .i64 o.kind, .bool o.edge, .int .u64 o.id, .string o.label, .int .u64 o.fr, .int .u64 o.til, .string o.key, .int .i64 o.v.k, .bool o.v.b, .int .i64 o.v.n, .float .f64 o.v.f, .string o.v.s, .int .u64 o.pf, .int .u64 o.pt]
abbrev OP.val (o : OP) : Value := .agg o.cells
end Go.Proofs.YtchklaepilcbbaaGreat
