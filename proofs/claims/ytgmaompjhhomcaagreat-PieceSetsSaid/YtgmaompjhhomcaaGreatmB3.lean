/- Values and pieces in memory; slices of pieces; what a call says; settable, clone, follows. -/
import Derived.Test.YtgmaompjhhomcaaGreatmB2
import Derived.Test.YtgmaompjhhomcaaGreatmG22
import Derived.Test.YtgmaompjhhomcaaGreatmG23
import Derived.Test.YtgmaompjhhomcaaGreatmJ1
import Derived.Deep.MidRow
namespace Go.Proofs.YtgmaompjhhomcaaGreat
open Go.RowKit
/-- A value: its kind, and its four other fields. -/
structure VP where
  k : Int
  b : Bool
  n : Int
  f : Nat
  s : ByteArray
theorem VP.eq {x y : VP} (h1 : x.k = y.k) (h2 : x.b = y.b) (h3 : x.n = y.n) (h4 : x.f = y.f) (h5 : x.s = y.s) : x = y := by
  cases x; cases y; simp only at h1 h2 h3 h4 h5; subst h1 h2 h3 h4 h5; rfl
/-- The value that is nothing. -/
def VP.none : VP := ⟨0, false, 0, 0, ByteArray.empty⟩
def VP.may (v : VP) : Prop := MayV v.k v.b v.n v.f v.s
def VP.wide (v : VP) : Prop := WideV v.k v.n v.f v.s
abbrev VP.cells (v : VP) : Array Value := #[.int .i64 v.k, .bool v.b, .int .i64 v.n, .float .f64 v.f, .string v.s]
abbrev VP.val (v : VP) : Value := .agg v.cells
abbrev Pie := Pl.PC VP
abbrev Pie.cells (x : Pie) : Array Value := #[.int .u64 x.a, .int .u64 x.b, .int .i64 x.v.k, .bool x.v.b, .int .i64 x.v.n, .float .f64 x.v.f, .string x.v.s]
abbrev Pie.val (x : Pie) : Value := .agg (Pie.cells x)
theorem may_none {v : VP} (h : v.may) (hk : v.k = 0) : v = VP.none := by
  unfold VP.may MayV at h
  rw [hk] at h
  simp at h
  exact VP.eq hk h.1 h.2.1 h.2.2.1 h.2.2.2
theorem none_may : VP.none.may := by unfold VP.may MayV VP.none; simp
theorem none_wide : VP.none.wide := by unfold VP.wide WideV VP.none fits; simp
/-- What a property may be set to; what it may be. -/
def setP (v : VP) : Prop := v.may ∧ v.k ≠ 5 ∧ v.k ≠ 6
def okV (v : VP) : Prop := v.wide ∧ v.may ∧ v.k ≠ 0 ∧ v.k ≠ 5 ∧ v.k ≠ 6
theorem none_ok : ¬ okV VP.none := fun h => h.2.2.1 rfl
theorem okV.set {v : VP} (h : okV v) : setP v := ⟨h.2.1, h.2.2.2⟩
theorem set_ok {v : VP} (h : setP v) (hw : v.wide) (hk : v.k ≠ 0) : okV v := ⟨hw, h.1, hk, h.2⟩
/-- The order of two values. -/
def ordV (x y : VP) : Int := cmpK (keyV x.k x.b x.n x.f x.s) (keyV y.k y.b y.n y.f y.s)
theorem ordV_zero {x y : VP} (mx : x.may) (my : y.may) (hx : x.wide) (hy : y.wide) : (ordV x y == 0) = true ↔ x = y := by
  unfold ordV
  rw [beq_iff_eq, good_cmpK.zero]
  constructor
  · intro h
    obtain ⟨h1, h2, h3, h4, h5⟩ := key_inj _ _ _ _ _ _ _ _ _ _ mx my hx.2.2.1 hy.2.2.1 h
    exact VP.eq h1 h2 h3 h4 h5
  · rintro rfl; rfl
theorem lt_heap {w : World} {g : Nat} {o : Obj} (h : w.heap[g]? = some o) : g < w.heap.size := (Array.getElem?_eq_some_iff.1 h).1
theorem bel_drewN {B : Nat} {a w : World} (n : Nat) (h : Below B a w) : Below B a (w.drewN n) := ⟨h.os, h.tape, h.output, h.size, h.block⟩
/-- A call that tells whether P. -/
def Says (P : Prop) (w : World) (e : Ending) (w' : World) : Prop := ∃ c : Bool, e = .returned (.bool c) ∧ (c = true ↔ P) ∧ Below w.heap.size w w'
/-- A box that holds these cells. -/
structure Bx (w : World) (g : Nat) (A : Array Value) : Prop where
  lt : g < w.heap.size
  c : ∀ j, w.cell? ⟨g, j, none⟩ = A[j]?
  fr : ∀ j, w.frozen? ⟨g, j, none⟩ = false
theorem Bx.below {w w' : World} {g : Nat} {A : Array Value} (h : Bx w g A) (hb : Below w.heap.size w w') : Bx w' g A :=
  ⟨Nat.lt_of_lt_of_le h.lt hb.size, fun j => (hb.cell (p := ⟨g, j, none⟩) h.lt).trans (h.c j), fun j => (hb.frozen (p := ⟨g, j, none⟩) h.lt).trans (h.fr j)⟩
theorem Bx.new (w : World) (A : Array Value) (t : TypeId) : Bx (w.alloc (.cells A t)) w.heap.size A := by
  refine ⟨by simp, fun j => cell_of_row _ _ _ _ _ _ (heap_alloc_new w _), fun j => ?_⟩
  have h := heap_alloc_new w (.cells A t)
  unfold World.frozen?
  simp only []
  rw [h]
  simp
theorem al1 {w w1 : World} {A : Array Value} {t : TypeId} (h : Below (w.alloc (.cells A t)).heap.size (w.alloc (.cells A t)) w1) : Below w.heap.size w w1 :=
  ((Below.refl _ _).alloc (Nat.le_refl _) _).trans (h.mono (by simp))
/-! Slices of pieces. -/
def cellsL (l : List Pie) : List Value := l.flatMap fun x => (Pie.cells x).toList
theorem pie_len (x : Pie) : (Pie.cells x).toList.length = 7 := rfl
theorem cellsL_length (l : List Pie) : (cellsL l).length = l.length * 7 := by
  induction l with
  | nil => rfl
  | cons x l ih =>
    have e : cellsL (x :: l) = (Pie.cells x).toList ++ cellsL l := by simp [cellsL]
    rw [e, List.length_append, pie_len, ih, List.length_cons]
    omega
theorem cellsL_append (a b : List Pie) : cellsL (a ++ b) = cellsL a ++ cellsL b := by simp [cellsL]
theorem cellsL_one (x : Pie) : cellsL [x] = (Pie.cells x).toList := by simp [cellsL]
theorem cellsL_get (l : List Pie) (i : Nat) (h : i < l.length) (j : Nat) (hj : j < 7) : (cellsL l)[i * 7 + j]? = ((Pie.cells l[i]).toList)[j]? := by
  induction l generalizing i with
  | nil => simp at h
  | cons x l ih =>
    have e : cellsL (x :: l) = (Pie.cells x).toList ++ cellsL l := by simp [cellsL]
    rw [e]
    cases i with
    | zero => rw [Nat.zero_mul, Nat.zero_add, List.getElem?_append_left (by rw [pie_len]; exact hj)]; rfl
    | succ i =>
      rw [List.getElem?_append_right (by rw [pie_len]; omega), pie_len, show (i + 1) * 7 + j - 7 = i * 7 + j by omega]
      exact ih i (by simpa using h)
/-- Where the pieces of a slice lie. -/
def LAt (w : World) (A : Option Addr) (l : List Pie) : Prop := 0 < l.length → ∃ b off, A = some ⟨b, off, none⟩ ∧ b < w.heap.size ∧ ∀ i (h : i < l.length), w.rangeAt b (off + i * 7) ((Pie.cells l[i]).toList)
/-- A slice that holds these pieces. -/
def SL (w : World) (v : Value) (l : List Pie) : Prop := ∃ A c, v = .slice A l.length c ∧ LAt w A l ∧ l.length ≤ 9223372036854775807
theorem LAt.below {w w' : World} {A : Option Addr} {l : List Pie} (h : LAt w A l) (hb : Below w.heap.size w w') : LAt w' A l := fun h0 => by
  obtain ⟨g, off, e, hl, hc⟩ := h h0
  exact ⟨g, off, e, Nat.lt_of_lt_of_le hl hb.size, fun i hi j v hv => (hb.cell (p := ⟨g, off + i * 7 + j, none⟩) hl).trans (hc i hi j v hv)⟩
theorem SL.below {w w' : World} {v : Value} {l : List Pie} (h : SL w v l) (hb : Below w.heap.size w w') : SL w' v l := by
  obtain ⟨A, c, e, hA, hm⟩ := h
  exact ⟨A, c, e, hA.below hb, hm⟩
theorem SL.nil (w : World) : SL w (.slice none 0 0) [] := ⟨none, 0, rfl, fun h => absurd h (Nat.lt_irrefl 0), by simp⟩
/-- A slice that the call owns holds these pieces. -/
def OwnL (base : Nat) (w : World) (v : Value) (l : List Pie) : Prop := w.ownsRow base 43 7 v l.length (cellsL l)
theorem OwnL.nil (base : Nat) (w : World) : OwnL base w (.slice none 0 0) [] := World.ownsRow_nil w base _ 7
theorem OwnL.below {base : Nat} {w w' : World} {v : Value} {l : List Pie} (h : OwnL base w v l) (hb : Below w.heap.size w w') : OwnL base w' v l := by
  refine ⟨h.1, ?_⟩
  rcases h.2 with h0 | ⟨g, cap, cur, h1, h2, h3, h4⟩
  · exact .inl h0
  · exact .inr ⟨g, cap, cur, h1, h2, (hb.block g (lt_heap h3)).trans h3, h4⟩
theorem OwnL.mono {base base' : Nat} {w : World} {v : Value} {l : List Pie} (h : OwnL base w v l) (hb : base' ≤ base) : OwnL base' w v l := by
  refine ⟨h.1, ?_⟩
  rcases h.2 with h0 | ⟨g, cap, cur, h1, h2, h3⟩
  · exact .inl h0
  · exact .inr ⟨g, cap, cur, h1, Nat.le_trans hb h2, h3⟩
theorem OwnL.at {base : Nat} {w : World} {v : Value} {l : List Pie} (h : OwnL base w v l) : SL w v l := by
  rcases h.2 with ⟨rfl, h0⟩ | ⟨g, cap, cur, rfl, hb, hg, hn, hm, hs, ht⟩
  · obtain rfl : l = [] := List.eq_nil_of_length_eq_zero h0
    exact SL.nil _
  · refine ⟨_, cap, rfl, fun h0 => ⟨g, 0, rfl, lt_heap hg, fun i hi j v hv => ?_⟩, by unfold maxLen at hm; omega⟩
    have hj : j < 7 := by
      have := (List.getElem?_eq_some_iff.1 hv).1
      rwa [pie_len] at this
    have c0 := cellsL_get l i hi j hj
    rw [← ht, List.getElem?_take_of_lt (by omega), Array.getElem?_toList] at c0
    rw [Nat.zero_add, cell_of_row w g (i * 7 + j) cur _ _ hg, c0, hv]
theorem infoL : (Tryz.prog.info? 43).map (fun i => (i.zero, i.size, i.bytes)) = some (some (.agg #[.int .u64 0, .int .u64 0, .int .i64 0, .bool false, .int .i64 0, .float .f64 0, .string ⟨#[]⟩]), 7, 64) := by kernel_rfl
theorem rowL : (Tryz.prog.info? 43).map (·.size) = some 7 := by kernel_rfl
section
set_option maxRecDepth 100000
set_option maxHeartbeats 2000000
theorem valMay_any (v : VP) (hw : v.wide) (w : World) : Calls Tryz.prog 83 #[v.val] w (Says v.may w) :=
  (May_any v.k v.b v.n v.f v.s w hw.2.2.1).mono fun _ _ ⟨e, hb⟩ => ⟨_, e, by unfold mayB; exact decide_eq_true_iff, hb⟩
theorem valSame_any (x y : VP) (hx : x.wide) (hy : y.wide) (mx : x.may) (my : y.may) (w : World) : Calls Tryz.prog 35 #[x.val, y.val] w (Says (x = y) w) :=
  (Same_any x.k x.n y.k y.n x.b y.b x.f y.f x.s y.s w hx hy mx my).mono fun _ _ ⟨e, hb⟩ => ⟨_, e, ordV_zero mx my hx hy, hb⟩
theorem settable_any (v : VP) (hw : v.wide) (w : World) : Calls Tryz.prog 59 #[v.val] w (Says (setP v) w) := by
  have CM := Lib.hid (fun W => valMay_any v hw W)
  have HP : Hid (∀ c : Bool, (c = true ↔ v.may) → ((c && (v.k != 5) && (v.k != 6)) = true ↔ setP v)) := Lib.hid fun c h => by
    unfold setP
    rw [← h]; simp [and_assoc]
  have hsf := store_float
  obtain ⟨k, b, n, f, s⟩ := v
  simp only at HP
  clear hw
  go_enter Tryz.func59, Tryz.ntmps59
  go_upto_region 1 with fail
  go_wp2_with (go_at_call 83; (with_reducible refine (CM.out _).mono ?_); rintro e w1 ⟨c, rfl, hc, hb⟩; obtain ⟨hc1, hf1⟩ := bcell hb; have HS := Lib.hid (HP.out c hc); have B1 := Lib.hid hb; clear hc; cases c)
  all_goals
    go_ret
    refine ⟨_, rfl, ?_, al1 B1.out⟩
    have hh := HS.out; first | (simpa using hh) | (simp_all; done)
end
end Go.Proofs.YtgmaompjhhomcaaGreat

