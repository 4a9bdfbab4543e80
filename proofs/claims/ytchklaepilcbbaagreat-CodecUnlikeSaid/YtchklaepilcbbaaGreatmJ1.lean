/- Operations in a slice: where they lie; a slice of the call's own that holds them; append onto it. -/
import Derived.Test.YtchklaepilcbbaaGreatmY9
import Derived.Test.YtchklaepilcbbaaGreatmJ0
namespace Go.Proofs.YtchklaepilcbbaaGreat
open Go.RowKit
def cellsO (l : List OP) : List Value := l.flatMap fun o => o.cells.toList
theorem cellsO_length (l : List OP) : (cellsO l).length = l.length * 14 := by
  induction l with
  | nil => rfl
  | cons x l ih => simp only [cellsO, List.flatMap_cons, List.length_append, List.length_cons, List.length_nil] at *; omega
theorem cellsO_append (a b : List OP) : cellsO (a ++ b) = cellsO a ++ cellsO b := by simp [cellsO]
theorem cellsO_one (o : OP) : cellsO [o] = o.cells.toList := by simp [cellsO]
theorem op_len (o : OP) : o.cells.toList.length = 14 := rfl
theorem cellsO_get (l : List OP) (i : Nat) (h : i < l.length) (j : Nat) (hj : j < 14) : (cellsO l)[i * 14 + j]? = (l[i].cells.toList)[j]? := by
  induction l generalizing i with
  | nil => simp at h
  | cons x l ih =>
    have e : cellsO (x :: l) = x.cells.toList ++ cellsO l := by simp [cellsO]
    rw [e]
    cases i with
    | zero => rw [Nat.zero_mul, Nat.zero_add, List.getElem?_append_left (by rw [op_len]; exact hj)]; rfl
    | succ i =>
      rw [List.getElem?_append_right (by rw [op_len]; omega), op_len, show (i + 1) * 14 + j - 14 = i * 14 + j by omega]
      exact ih i (by simpa using h)
/-- Where the operations of a slice lie. -/
def OAt (w : World) (A : Option Addr) (l : List OP) : Prop := 0 < l.length → ∃ b off, A = some ⟨b, off, none⟩ ∧ b < w.heap.size ∧ ∀ i (h : i < l.length), w.rangeAt b (off + i * 14) (l[i].cells.toList)
/-- A slice that holds these operations. -/
def SO (w : World) (v : Value) (l : List OP) : Prop := ∃ A c, v = .slice A l.length c ∧ OAt w A l ∧ l.length ≤ 9223372036854775807
theorem OAt.below {w w' : World} {A : Option Addr} {l : List OP} (h : OAt w A l) (hb : Below w.heap.size w w') : OAt w' A l := fun h0 => by
  obtain ⟨g, off, e, hl, hc⟩ := h h0
  exact ⟨g, off, e, Nat.lt_of_lt_of_le hl hb.size, fun i hi j v hv => (hb.cell (p := ⟨g, off + i * 14 + j, none⟩) hl).trans (hc i hi j v hv)⟩
theorem SO.below {w w' : World} {v : Value} {l : List OP} (h : SO w v l) (hb : Below w.heap.size w w') : SO w' v l := by
  obtain ⟨A, c, e, hA, hm⟩ := h
  exact ⟨A, c, e, hA.below hb, hm⟩
theorem SO.nil (w : World) : SO w (.slice none 0 0) [] := ⟨none, 0, rfl, fun h => absurd h (Nat.lt_irrefl 0), by simp⟩
/-- A slice that the call owns holds these operations. -/
def OwnO (base : Nat) (w : World) (v : Value) (l : List OP) : Prop := w.ownsRow base 43 14 v l.length (cellsO l)
theorem OwnO.nil (base : Nat) (w : World) : OwnO base w (.slice none 0 0) [] := World.ownsRow_nil w base _ 14
theorem OwnO.below {base : Nat} {w w' : World} {v : Value} {l : List OP} (h : OwnO base w v l) (hb : Below w.heap.size w w') : OwnO base w' v l := by
  refine ⟨h.1, ?_⟩
  rcases h.2 with h0 | ⟨g, cap, cur, h1, h2, h3, h4⟩
  · exact .inl h0
  · exact .inr ⟨g, cap, cur, h1, h2, (hb.block g (lt_heap h3)).trans h3, h4⟩
theorem OwnO.mono {base base' : Nat} {w : World} {v : Value} {l : List OP} (h : OwnO base w v l) (hb : base' ≤ base) : OwnO base' w v l := by
  refine ⟨h.1, ?_⟩
  rcases h.2 with h0 | ⟨g, cap, cur, h1, h2, h3⟩
  · exact .inl h0
  · exact .inr ⟨g, cap, cur, h1, Nat.le_trans hb h2, h3⟩
theorem OwnO.so {base : Nat} {w : World} {v : Value} {l : List OP} (h : OwnO base w v l) : SO w v l := by
  rcases h.2 with ⟨rfl, h0⟩ | ⟨g, cap, cur, rfl, hb, hg, hn, hm, hs, ht⟩
  · obtain rfl : l = [] := List.eq_nil_of_length_eq_zero h0
    exact SO.nil _
  · refine ⟨_, cap, rfl, fun h0 => ⟨g, 0, rfl, lt_heap hg, fun i hi j v hv => ?_⟩, by unfold maxLen at hm; omega⟩
    have hj : j < 14 := by
      have := (List.getElem?_eq_some_iff.1 hv).1
      rwa [op_len] at this
    have c0 := cellsO_get l i hi j hj
    rw [← ht, List.getElem?_take_of_lt (by omega), Array.getElem?_toList] at c0
    rw [Nat.zero_add, cell_of_row w g (i * 14 + j) cur _ _ hg, c0, hv]
theorem infoO : (Tryz.prog.info? 43).map (fun i => (i.zero, i.size, i.bytes)) = some (some (.agg #[.int .i64 0, .bool false, .int .u64 0, .string ⟨#[]⟩, .int .u64 0, .int .u64 0, .string ⟨#[]⟩, .int .i64 0, .bool false, .int .i64 0, .float .f64 0, .string ⟨#[]⟩, .int .u64 0, .int .u64 0]), 14, 136) := by kernel_rfl
end Go.Proofs.YtchklaepilcbbaaGreat
