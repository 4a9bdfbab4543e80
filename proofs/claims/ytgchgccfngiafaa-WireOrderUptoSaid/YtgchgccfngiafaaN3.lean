/- Boxes and forms, for WireOrder. -/
import Derived.Test.YtgchgccfngiafaaN2
import Derived.Test.YtgchgccfngiafaaM5
import Derived.Test.YtgchgccfngiafaaB19
namespace Go.Proofs.Ytgchgccfngiafaa
open Go.RowKit
/-- What the boxes hold, wherever the walk has come to. -/
def Bx (w wc : World) (X Y : Array Value) (PA QA : Nat) (pv qv : Value) : Prop :=
  Below w.heap.size w wc ∧ w.heap.size + 2 ≤ wc.heap.size ∧ PA < wc.heap.size ∧ QA < wc.heap.size ∧ (∀ j, wc.cell? ⟨w.heap.size, j, none⟩ = X[j]?) ∧ (∀ j, wc.cell? ⟨w.heap.size + 1, j, none⟩ = Y[j]?) ∧
    wc.cell? ⟨PA, 0, none⟩ = some pv ∧ wc.cell? ⟨QA, 0, none⟩ = some qv
theorem Bx.step {w wc wd : World} {X Y : Array Value} {PA QA : Nat} {pv qv : Value} (h : Bx w wc X Y PA QA pv qv) (hb : Below wc.heap.size wc wd) : Bx w wd X Y PA QA pv qv := by
  obtain ⟨h1, h2, h3, h4, h5, h6, h7, h8⟩ := h
  have s := hb.size
  exact ⟨h1.trans (hb.mono h1.size), by omega, by omega, by omega, fun j => (hb.cell (p := ⟨w.heap.size, j, none⟩) (by show w.heap.size < _; omega)).trans (h5 j), fun j => (hb.cell (p := ⟨w.heap.size + 1, j, none⟩) (by show w.heap.size + 1 < _; omega)).trans (h6 j),
    (hb.cell (p := ⟨PA, 0, none⟩) h3).trans h7, (hb.cell (p := ⟨QA, 0, none⟩) h4).trans h8⟩
theorem boxes2 (w : World) (A B C : Array Value) (t u v : TypeId) : (∀ j, (((w.alloc (.cells A t)).alloc (.cells B u)).alloc (.cells C v)).cell? ⟨w.heap.size, j, none⟩ = A[j]?) ∧ (∀ j, (((w.alloc (.cells A t)).alloc (.cells B u)).alloc (.cells C v)).cell? ⟨w.heap.size + 1, j, none⟩ = B[j]?) ∧
    (∀ j, (((w.alloc (.cells A t)).alloc (.cells B u)).alloc (.cells C v)).cell? ⟨w.heap.size + 2, j, none⟩ = C[j]?) := by
  refine ⟨fun j => ?_, fun j => ?_, fun j => ?_⟩
  · rw [World.cell?_alloc_lt _ _ _ (by simp; omega), World.cell?_alloc_lt _ _ _ (by simp)]
    exact cell_of_row _ _ _ _ _ _ (heap_alloc_new w _)
  · rw [World.cell?_alloc_lt _ _ _ (by simp)]
    exact cell_of_row _ _ _ _ _ _ (by have := heap_alloc_new (w.alloc (.cells A t)) (.cells B u); simpa using this)
  · exact cell_of_row _ _ _ _ _ _ (by have := heap_alloc_new ((w.alloc (.cells A t)).alloc (.cells B u)) (.cells C v); simpa using this)
theorem two_new (W : World) (d e : Value) (t : TypeId) : ((W.alloc (.cells #[d] t)).alloc (.cells #[e] t)).drew.cell? ⟨W.heap.size, 0, none⟩ = some d ∧ ((W.alloc (.cells #[d] t)).alloc (.cells #[e] t)).drew.cell? ⟨W.heap.size + 1, 0, none⟩ = some e := by
  constructor
  · show ((W.alloc (.cells #[d] t)).alloc (.cells #[e] t)).cell? _ = _
    rw [World.cell?_alloc_lt _ _ _ (by simp)]
    exact cell_of_row _ _ _ _ _ _ (heap_alloc_new W _)
  · show ((W.alloc (.cells #[d] t)).alloc (.cells #[e] t)).cell? _ = _
    have h := heap_alloc_new (W.alloc (.cells #[d] t)) (.cells #[e] t)
    rw [show (W.alloc (.cells #[d] t)).heap.size = W.heap.size + 1 by simp] at h
    exact cell_of_row _ _ _ _ _ _ h
theorem Bx.start (w : World) (A B C : Array Value) (d e : Value) (t u v r : TypeId) :
    Bx w (((((w.alloc (.cells A t)).alloc (.cells B u)).alloc (.cells C v)).alloc (.cells #[d] r)).alloc (.cells #[e] r)).drew A B (w.heap.size + 1 + 1 + 1) (w.heap.size + 1 + 1 + 1 + 1) d e := by
  obtain ⟨h1, h2, _⟩ := boxes2 w A B C t u v
  have b3 : Below w.heap.size w (((w.alloc (.cells A t)).alloc (.cells B u)).alloc (.cells C v)) := (((Below.refl _ _).alloc (Nat.le_refl _) _).alloc (by simp) _).alloc (by simp; omega) _
  have s3 : (((w.alloc (.cells A t)).alloc (.cells B u)).alloc (.cells C v)).heap.size = w.heap.size + 1 + 1 + 1 := by simp
  generalize ((w.alloc (.cells A t)).alloc (.cells B u)).alloc (.cells C v) = W at *
  obtain ⟨c1, c2⟩ := two_new W d e r
  have b5 : Below W.heap.size W ((W.alloc (.cells #[d] r)).alloc (.cells #[e] r)).drew := (((Below.refl _ _).alloc (Nat.le_refl _) _).alloc (by simp) _).drew
  rw [s3] at c1 c2
  refine ⟨ch1 b3 b5, ?_, ?_, ?_, fun j => (b5.cell (p := ⟨w.heap.size, j, none⟩) (by show w.heap.size < _; omega)).trans (h1 j), fun j => (b5.cell (p := ⟨w.heap.size + 1, j, none⟩) (by show w.heap.size + 1 < _; omega)).trans (h2 j), c1, c2⟩ <;>
    (show _ ≤ ((W.alloc (.cells #[d] r)).alloc (.cells #[e] r)).heap.size; simp; omega)
theorem Bx.swap {w wc : World} {X Y : Array Value} {PA QA : Nat} {pv qv : Value} (h : Bx w wc X Y PA QA pv qv) : Bx w wc X Y QA PA qv pv := by
  obtain ⟨h1, h2, h3, h4, h5, h6, h7, h8⟩ := h
  exact ⟨h1, h2, h4, h3, h5, h6, h8, h7⟩
theorem canon_canon (x : Nat) : canonF (canonF x) = canonF x := by
  by_cases h : isNaNF x = true
  · have e : canonF x = 9221120237041090561 := by unfold canonF; rw [if_pos h]
    rw [e]; decide
  · have e : canonF x = x := by unfold canonF; rw [if_neg h]
    rw [e, e]
theorem canon_lt (x : Nat) (hx : x < 18446744073709551616) : canonF x < 18446744073709551616 := by unfold canonF; split <;> omega
/-- What a form is given as. -/
def GivesO (w : World) (l : List UInt8) (e : Ending) (w' : World) : Prop := ∃ c, e = .returned (.slice (some ⟨w.heap.size, 0, none⟩) l.length c) ∧ At w' (some ⟨w.heap.size, 0, none⟩) l ∧ Below w.heap.size w w'
theorem GivesO.of {w w' : World} {l : List UInt8} {e : Ending} (h : Gives w l e w') : GivesO w l e w' := by
  obtain ⟨c, h1, h2, h3⟩ := h
  exact ⟨c, h1, own_at h2, h3⟩
theorem NumO (n : Nat) (w : World) (hn : n < 2 ^ 64) : Calls Try.prog 12 #[.slice none 0 0, .int .u64 n] w (GivesO w (encNum n)) := (NumN n w hn).mono fun _ _ h => .of h
theorem IntO (n : Int) (w : World) (hn : fits n) : Calls Try.prog 13 #[.slice none 0 0, .int .i64 n] w (GivesO w (encInt n)) := (IntN n w hn).mono fun _ _ h => .of h
theorem count_le (l : List UInt8) : Lib.countByte l 0 ≤ l.length := by
  unfold Lib.countByte
  first | exact List.length_filter_le _ _ | exact List.countP_le_length | exact List.count_le_length
theorem esc_le (l : List UInt8) : (escT l).length ≤ 2 * l.length := by
  have := escT_count l
  have h2 := count_le l
  omega
theorem FloatO (x : Nat) (w : World) (hx : x < 18446744073709551616) : Calls Try.prog 10 #[.slice none 0 0, .float .f64 (canonF x)] w fun e w' =>
    ∃ c, e = .returned (.tuple #[.slice (some ⟨w.heap.size, 0, none⟩) (encFloat (canonF x)).length c, .int .i64 0]) ∧ At w' (some ⟨w.heap.size, 0, none⟩) (encFloat (canonF x)) ∧ Below w.heap.size w w' :=
  (FloatN (canonF x) w (canon_lt x hx) (canon_canon x)).mono fun _ _ ⟨c, h1, h2, h3⟩ => ⟨c, h1, own_at h2, h3⟩
theorem bel {w w' : World} {α : Prop} (h : α ∧ w = w') : α ∧ Below w.heap.size w w' := by obtain ⟨h1, rfl⟩ := h; exact ⟨h1, Below.refl _ _⟩
theorem len_num (n : Nat) (h : n < 2 ^ 64) : (encNum n).length ≤ 9 := by
  have := nlen_8 n h
  simp [encNum, digs_length]; omega
theorem len_int (z : Int) (h : fits z) : (encInt z).length ≤ 9 := by
  have h1 := h.1
  have h2 := h.2
  unfold encInt
  split
  · have := nlen_8 z.toNat (by omega)
    simp [digs_length]; omega
  · have := nlen_8 (-(z + 1)).toNat (by omega)
    simp [digs_length, flip8_length]; omega
theorem len_text (s : ByteArray) : (encText s.data.toList).length ≤ 2 * s.size + 2 := by
  have := esc_le s.data.toList
  have e : s.data.toList.length = s.size := by simp
  simp only [encText, List.length_append, List.length_cons, List.length_nil]
  omega
theorem TextO (s : ByteArray) (w : World) (h : s.size ≤ 4194304) : Calls Try.prog 14 #[.slice none 0 0, .string s] w (GivesO w (encText s.data.toList)) :=
  (TextN s w (by
    have := len_text s
    omega)).mono fun _ _ h => .of h

end Go.Proofs.Ytgchgccfngiafaa
