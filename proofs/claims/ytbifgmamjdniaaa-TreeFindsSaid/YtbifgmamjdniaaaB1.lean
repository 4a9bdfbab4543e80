/- Nodes and trees in memory; worlds in which some blocks may have changed; depth, lean. -/
import Derived.Test.YtbifgmamjdniaaaP4
import Derived.Test.YtbifgmamjdniaaaA1
namespace Go.Proofs.Ytbifgmamjdniaaa
open Go.RowKit
open Itree (E T dep endT bs ord sz nodes lean rotL rotR bal ins del hasT first AVL Srt eachL over)
/-- An entry as a value. -/
abbrev ent (e : E) : Value := .agg #[.agg #[.int .u64 e.a, .int .u64 e.b], .int .u64 e.n]
/-- Memory as it was, but for these blocks. -/
structure But (S : List Nat) (w w' : World) : Prop where
  os : w'.os = w.os
  tape : w'.tape = w.tape
  output : w'.output = w.output
  size : w.heap.size ≤ w'.heap.size
  block : ∀ k, k < w.heap.size → k ∉ S → w'.heap[k]? = w.heap[k]?
theorem But.refl (S : List Nat) (w : World) : But S w w := ⟨rfl, rfl, rfl, Nat.le_refl _, fun _ _ _ => rfl⟩
theorem But.of_below {S : List Nat} {w w' : World} (h : Below w.heap.size w w') : But S w w' := ⟨h.os, h.tape, h.output, h.size, fun k hk _ => h.block k hk⟩
theorem But.trans {S S' : List Nat} {a b c : World} (h : But S a b) (k : But S' b c) (hs : ∀ x ∈ S', x ∈ S ∨ a.heap.size ≤ x) : But S a c :=
  ⟨k.os.trans h.os, k.tape.trans h.tape, k.output.trans h.output, Nat.le_trans h.size k.size, fun i hi hn => (k.block i (Nat.lt_of_lt_of_le hi h.size) (fun hm => by
    rcases hs i hm with h1 | h1
    · exact hn h1
    · omega)).trans (h.block i hi hn)⟩
theorem But.on {S : List Nat} {a b c : World} (h : But S a b) (k : Below b.heap.size b c) : But S a c := h.trans (But.of_below (S := []) k) (by simp)
theorem But.sub {S S' : List Nat} {a b : World} (h : But S a b) (hs : ∀ x ∈ S, x ∈ S') : But S' a b := ⟨h.os, h.tape, h.output, h.size, fun k hk hn => h.block k hk fun hm => hn (hs k hm)⟩
theorem But.below {S : List Nat} {B : Nat} {a b : World} (h : But S a b) (hS : ∀ x ∈ S, B ≤ x) (hB : B ≤ a.heap.size) : Below B a b :=
  ⟨h.os, h.tape, h.output, h.size, fun k hk => h.block k (Nat.lt_of_lt_of_le hk hB) fun hm => by have := hS k hm; omega⟩
theorem But.set {S : List Nat} {a b : World} (h : But S a b) {p : Addr} (hp : p.block ∈ S) (u : Value) : But S a (b.setCell p u) :=
  h.trans (S' := [p.block]) ⟨rfl, rfl, rfl, by simp [World.setCell], fun k _ hn => Below.heap_setCell _ _ _ _ (by simpa using hn)⟩ (by simpa using .inl hp)
theorem But.drew {S : List Nat} {a b : World} (h : But S a b) : But S a b.drew := ⟨h.os, h.tape, h.output, h.size, h.block⟩
theorem But.alloc {S : List Nat} {a b : World} (h : But S a b) (o : Obj) : But S a (b.alloc o) := h.on ((Below.refl _ _).alloc (Nat.le_refl _) o)
theorem But.cell {S : List Nat} {a b : World} (h : But S a b) (k o : Nat) (hk : k < a.heap.size) (hn : k ∉ S) : b.cell? ⟨k, o, none⟩ = a.cell? ⟨k, o, none⟩ := World.cell?_of_block (w := a) (h.block k hk hn)
theorem But.frozen {S : List Nat} {a b : World} (h : But S a b) (k o : Nat) (hk : k < a.heap.size) (hn : k ∉ S) : b.frozen? ⟨k, o, none⟩ = a.frozen? ⟨k, o, none⟩ := World.frozen?_of_block (w := a) (h.block k hk hn)
/-- A node in memory. -/
structure NodeAt (w : World) (k : Nat) (e : E) (l r : Option Addr) (lv en : Int) : Prop where
  c0 : w.cell? ⟨k, 0, none⟩ = some (.int .u64 e.a)
  c1 : w.cell? ⟨k, 1, none⟩ = some (.int .u64 e.b)
  c2 : w.cell? ⟨k, 2, none⟩ = some (.int .u64 e.n)
  c3 : w.cell? ⟨k, 3, none⟩ = some (.pointer l)
  c4 : w.cell? ⟨k, 4, none⟩ = some (.pointer r)
  c5 : w.cell? ⟨k, 5, none⟩ = some (.int .i64 lv)
  c6 : w.cell? ⟨k, 6, none⟩ = some (.int .u64 en)
  fr : ∀ o, w.frozen? ⟨k, o, none⟩ = false
  lt : k < w.heap.size
theorem NodeAt.but {S : List Nat} {w w' : World} {k : Nat} {e : E} {l r : Option Addr} {lv en : Int} (h : NodeAt w k e l r lv en) (hb : But S w w') (hn : k ∉ S) : NodeAt w' k e l r lv en :=
  ⟨(hb.cell k 0 h.lt hn).trans h.c0, (hb.cell k 1 h.lt hn).trans h.c1, (hb.cell k 2 h.lt hn).trans h.c2, (hb.cell k 3 h.lt hn).trans h.c3, (hb.cell k 4 h.lt hn).trans h.c4, (hb.cell k 5 h.lt hn).trans h.c5, (hb.cell k 6 h.lt hn).trans h.c6, fun o => (hb.frozen k o h.lt hn).trans (h.fr o), Nat.lt_of_lt_of_le h.lt hb.size⟩
theorem NodeAt.below {w w' : World} {k : Nat} {e : E} {l r : Option Addr} {lv en : Int} (h : NodeAt w k e l r lv en) (hb : Below w.heap.size w w') : NodeAt w' k e l r lv en :=
  h.but (But.of_below (S := []) hb) (by simp)
theorem cell_other {w : World} {k i j : Nat} {v : Value} (h : i ≠ j) : (w.setCell ⟨k, i, none⟩ v).cell? ⟨k, j, none⟩ = w.cell? ⟨k, j, none⟩ :=
  World.cell?_setCell_other _ _ _ _ (by intro e; exact h (congrArg Addr.off e))
theorem NodeAt.set3 {w : World} {k : Nat} {e : E} {l r : Option Addr} {lv en : Int} (h : NodeAt w k e l r lv en) (p : Option Addr) : NodeAt (w.setCell ⟨k, 3, none⟩ (.pointer p)) k e p r lv en :=
  ⟨(cell_other (by decide)).trans h.c0, (cell_other (by decide)).trans h.c1, (cell_other (by decide)).trans h.c2, World.cell?_setCell_same _ _ _ h.c3, (cell_other (by decide)).trans h.c4, (cell_other (by decide)).trans h.c5, (cell_other (by decide)).trans h.c6, fun o => (World.frozen?_setCell _ _ _ _).trans (h.fr o), by simpa [World.setCell] using h.lt⟩
theorem NodeAt.set4 {w : World} {k : Nat} {e : E} {l r : Option Addr} {lv en : Int} (h : NodeAt w k e l r lv en) (p : Option Addr) : NodeAt (w.setCell ⟨k, 4, none⟩ (.pointer p)) k e l p lv en :=
  ⟨(cell_other (by decide)).trans h.c0, (cell_other (by decide)).trans h.c1, (cell_other (by decide)).trans h.c2, (cell_other (by decide)).trans h.c3, World.cell?_setCell_same _ _ _ h.c4, (cell_other (by decide)).trans h.c5, (cell_other (by decide)).trans h.c6, fun o => (World.frozen?_setCell _ _ _ _).trans (h.fr o), by simpa [World.setCell] using h.lt⟩
theorem NodeAt.set5 {w : World} {k : Nat} {e : E} {l r : Option Addr} {lv en : Int} (h : NodeAt w k e l r lv en) (x : Int) : NodeAt (w.setCell ⟨k, 5, none⟩ (.int .i64 x)) k e l r x en :=
  ⟨(cell_other (by decide)).trans h.c0, (cell_other (by decide)).trans h.c1, (cell_other (by decide)).trans h.c2, (cell_other (by decide)).trans h.c3, (cell_other (by decide)).trans h.c4, World.cell?_setCell_same _ _ _ h.c5, (cell_other (by decide)).trans h.c6, fun o => (World.frozen?_setCell _ _ _ _).trans (h.fr o), by simpa [World.setCell] using h.lt⟩
theorem NodeAt.set6 {w : World} {k : Nat} {e : E} {l r : Option Addr} {lv en : Int} (h : NodeAt w k e l r lv en) (x : Int) : NodeAt (w.setCell ⟨k, 6, none⟩ (.int .u64 x)) k e l r lv x :=
  ⟨(cell_other (by decide)).trans h.c0, (cell_other (by decide)).trans h.c1, (cell_other (by decide)).trans h.c2, (cell_other (by decide)).trans h.c3, (cell_other (by decide)).trans h.c4, (cell_other (by decide)).trans h.c5, World.cell?_setCell_same _ _ _ h.c6, fun o => (World.frozen?_setCell _ _ _ _).trans (h.fr o), by simpa [World.setCell] using h.lt⟩
theorem NodeAt.setE {w : World} {k : Nat} {e : E} {l r : Option Addr} {lv en : Int} (h : NodeAt w k e l r lv en) (f : E) : NodeAt (((w.setCell ⟨k, 0, none⟩ (.int .u64 f.a)).setCell ⟨k, 1, none⟩ (.int .u64 f.b)).setCell ⟨k, 2, none⟩ (.int .u64 f.n)) k f l r lv en := by
  have o (i j : Nat) (v : Value) (w : World) (h : i ≠ j) : (w.setCell ⟨k, i, none⟩ v).cell? ⟨k, j, none⟩ = w.cell? ⟨k, j, none⟩ := cell_other h
  have d0 : ((w.setCell ⟨k, 0, none⟩ (.int .u64 f.a))).cell? ⟨k, 0, none⟩ = some (.int .u64 f.a) := World.cell?_setCell_same _ _ _ h.c0
  have d1 : ((w.setCell ⟨k, 0, none⟩ (.int .u64 f.a)).setCell ⟨k, 1, none⟩ (.int .u64 f.b)).cell? ⟨k, 1, none⟩ = some (.int .u64 f.b) := World.cell?_setCell_same _ _ _ ((o 0 1 _ _ (by decide)).trans h.c1)
  have d2 : (((w.setCell ⟨k, 0, none⟩ (.int .u64 f.a)).setCell ⟨k, 1, none⟩ (.int .u64 f.b)).setCell ⟨k, 2, none⟩ (.int .u64 f.n)).cell? ⟨k, 2, none⟩ = some (.int .u64 f.n) := World.cell?_setCell_same _ _ _ ((o 1 2 _ _ (by decide)).trans ((o 0 2 _ _ (by decide)).trans h.c2))
  refine ⟨(o 2 0 _ _ (by decide)).trans ((o 1 0 _ _ (by decide)).trans d0), (o 2 1 _ _ (by decide)).trans d1, d2, ?_, ?_, ?_, ?_, fun x => by simpa [World.frozen?_setCell] using h.fr x, by simpa [World.setCell] using h.lt⟩
  · rw [o 2 3 _ _ (by decide), o 1 3 _ _ (by decide), o 0 3 _ _ (by decide)]; exact h.c3
  · rw [o 2 4 _ _ (by decide), o 1 4 _ _ (by decide), o 0 4 _ _ (by decide)]; exact h.c4
  · rw [o 2 5 _ _ (by decide), o 1 5 _ _ (by decide), o 0 5 _ _ (by decide)]; exact h.c5
  · rw [o 2 6 _ _ (by decide), o 1 6 _ _ (by decide), o 0 6 _ _ (by decide)]; exact h.c6
theorem node_new (w : World) (e : E) (l r : Option Addr) (lv en : Int) : NodeAt (w.alloc (.cells #[.int .u64 e.a, .int .u64 e.b, .int .u64 e.n, .pointer l, .pointer r, .int .i64 lv, .int .u64 en] 86)) w.heap.size e l r lv en := by
  refine ⟨?_, ?_, ?_, ?_, ?_, ?_, ?_, fun o => ?_, by simp⟩ <;> go_simp
/-- Where a tree's root lies. -/
def ptr : T → Option Addr
  | .leaf => none
  | .node k _ _ _ => some ⟨k, 0, none⟩
/-- A tree in memory. -/
def IsT (w : World) : T → Prop
  | .leaf => True
  | .node k e l r => NodeAt w k e (ptr l) (ptr r) (dep (.node k e l r)) (endT (.node k e l r)) ∧ IsT w l ∧ IsT w r
theorem IsT.but {S : List Nat} {w w' : World} {t : T} (h : IsT w t) (hb : But S w w') (hn : ∀ k ∈ bs t, k ∉ S) : IsT w' t := by
  induction t with
  | leaf => trivial
  | node k e l r ih1 ih2 =>
    rw [Itree.bs_node] at hn
    exact ⟨h.1.but hb (hn k (by simp)), ih1 h.2.1 (fun x hx => hn x (by simp [hx])), ih2 h.2.2 (fun x hx => hn x (by simp [hx]))⟩
theorem IsT.below {w w' : World} {t : T} (h : IsT w t) (hb : Below w.heap.size w w') : IsT w' t := h.but (But.of_below (S := []) hb) (by simp)
theorem IsT.lt {w : World} {t : T} (h : IsT w t) : ∀ k ∈ bs t, k < w.heap.size := by
  induction t with
  | leaf => simp [Itree.bs_leaf]
  | node k e l r ih1 ih2 =>
    intro x hx
    rw [Itree.bs_node, List.mem_append, List.mem_cons] at hx
    rcases hx with hx | rfl | hx
    · exact ih1 h.2.1 x hx
    · exact h.1.lt
    · exact ih2 h.2.2 x hx
theorem depth_any (t : T) (w : World) (h : IsT w t) : Calls Try.prog 44 #[.pointer (ptr t)] w fun e w' => e = .returned (.int .i64 (dep t)) ∧ w = w' := by
  cases t with
  | leaf =>
    show Calls _ _ #[.pointer none] w _
    go_enter Try.func44, Try.ntmps44
    go_wp2
    go_ret
    exact ⟨rfl, rfl⟩
  | node k e l r =>
    have c5 := h.1.c5
    generalize (dep (.node k e l r) : Int) = d at *
    show Calls _ _ #[.pointer (some ⟨k, 0, none⟩)] w _
    clear h
    go_enter Try.func44, Try.ntmps44
    go_wp2
    go_ret
    exact ⟨rfl, rfl⟩
set_option maxRecDepth 100000 in
set_option maxHeartbeats 1000000 in
theorem lean_any (k : Nat) (e : E) (l r : T) (lv en : Int) (w : World) (hn : NodeAt w k e (ptr l) (ptr r) lv en) (hl : IsT w l) (hr : IsT w r) (h1 : dep l ≤ 1000000) (h2 : dep r ≤ 1000000) :
    Calls Try.prog 56 #[.pointer (some ⟨k, 0, none⟩)] w fun e w' => e = .returned (.int .i64 ((dep l : Int) - (dep r : Int))) ∧ Below w.heap.size w w' := by
  have H1 : ∀ w', Below w.heap.size w w' → Calls Try.prog 44 #[.pointer (ptr l)] w' fun e w'' => e = .returned (.int .i64 (dep l)) ∧ w' = w'' := fun w' hb => depth_any l w' (hl.below hb)
  have H2 : ∀ w', Below w.heap.size w w' → Calls Try.prog 44 #[.pointer (ptr r)] w' fun e w'' => e = .returned (.int .i64 (dep r)) ∧ w' = w'' := fun w' hb => depth_any r w' (hr.below hb)
  clear hl hr
  have K := Lib.hid (fun w' (hb : Below w.heap.size w w') => (⟨hb, (hn.below hb).c3, (hn.below hb).c4⟩ : Below w.heap.size w w' ∧ w'.cell? ⟨k, 3, none⟩ = some (.pointer (ptr l)) ∧ w'.cell? ⟨k, 4, none⟩ = some (.pointer (ptr r))))
  clear hn
  generalize ptr l = pl at *
  generalize ptr r = pr at *
  have hw : IntKind.i64.wrap ((dep l : Int) - dep r) = (dep l : Int) - dep r := by rw [IntKind.wrap_i64]; omega
  generalize (dep l : Int) = dl at *
  generalize (dep r : Int) = dr at *
  have G1 := Lib.hid H1
  have G2 := Lib.hid H2
  clear H1 H2
  have K1 := K.out w (Below.refl _ _)
  obtain ⟨_, k3, k4⟩ := K1
  go_enter Try.func56, Try.ntmps56
  go_upto_region 1 with fail
  go_region_held3 (fun w' => Below w.heap.size w w' ∧ w'.cell? ⟨k, 3, none⟩ = some (.pointer pl) ∧ w'.cell? ⟨k, 4, none⟩ = some (.pointer pr)) (first | exact K.out _ (Below.refl _ _) | exact K.out _ (Below.refl _ _).drew | fail) (first
    | (go_at_call 44; (first
      | ((with_reducible refine (G1.out _ ?_).mono ?_); (first | exact Below.refl _ _ | exact (Below.refl _ _).drew | fail); rintro e w1 ⟨rfl, rfl⟩)
      | ((with_reducible refine (G2.out _ ?_).mono ?_); (first | exact Below.refl _ _ | exact (Below.refl _ _).drew | fail); rintro e w1 ⟨rfl, rfl⟩)
      | fail))
    | fail)
  all_goals (go_wp2; go_ret; exact ⟨rfl, (Below.refl _ _).drew⟩)
end Go.Proofs.Ytbifgmamjdniaaa
