/- What WireLays's walk stands on: rows of bytes of the call's own, rows that are turned while all else stays. -/
import Derived.Test.YtokgpifelinonaaR4
import Derived.Test.YtokgpifelinonaaK1
namespace Go.Proofs.Ytokgpifelinonaa
open Go.RowKit
/-- A block, and the bytes in it. -/
structure Mine (w : World) (b : Nat) (l : List UInt8) : Prop where
  lt : b < w.heap.size
  cell : ∀ i, i < l.length → w.cell? ⟨b, i, none⟩ = some (bv (l.getD i 0))
  free : ∀ i, w.frozen? ⟨b, i, none⟩ = false
section
variable {b : Nat} {w w' : World} {l : List UInt8}
theorem Mine.at_ (h : Mine w b l) : At w (some ⟨b, 0, none⟩) l := fun _ => ⟨b, 0, rfl, h.lt, fun i hi => by rw [Nat.zero_add]; exact h.cell i hi⟩
theorem Mine.below (h : Mine w b l) (hb : Below w.heap.size w w') : Mine w' b l :=
  ⟨Nat.lt_of_lt_of_le h.lt hb.size, fun i hi => (hb.cell (p := ⟨b, i, none⟩) h.lt).trans (h.cell i hi), fun i => (hb.frozen (p := ⟨b, i, none⟩) h.lt).trans (h.free i)⟩
theorem set_bytes (h : Mine w b l) (q : Nat) (v : UInt8) : Mine (w.setCell ⟨b, q, none⟩ (bv v)) b (l.set q v) := by
  refine ⟨by simpa [World.setCell] using h.lt, fun i hi => ?_, fun i => by rw [World.frozen?_setCell]; exact h.free i⟩
  rw [List.length_set] at hi
  by_cases e : i = q
  · subst e
    rw [World.cell?_setCell_same _ _ _ (h.cell i hi)]
    simp [List.getD, hi]
  · rw [World.cell?_setCell_other _ _ _ _ (fun he => e (by injection he with _ h2; exact h2.symm)), h.cell i hi]
    congr 2
    rw [List.getD, List.getD, List.getElem?_set, if_neg (fun he => e he.symm)]
end
theorem own_mine {w : World} {base g n cap : Nat} {l : List UInt8} (h : w.ownsRow base 5 1 (.slice (some ⟨g, 0, none⟩) n cap) n (cellsB l)) : Mine w g l := by
  rcases h.2 with ⟨h1, _⟩ | ⟨g', cap', cur, hv, hge, hh, hr⟩
  · cases h1
  · injection hv with hP
    injection hP with hP
    injection hP with hP
    subst hP
    have hlt : g < w.heap.size := (Array.getElem?_eq_some_iff.1 hh).1
    refine ⟨hlt, fun i hi => ?_, fun i => ?_⟩
    · have hc := h.cells (g := g) rfl i (bv (l.getD i 0)) (by simp [cellsB, List.getD, hi])
      rw [add_plain, Nat.zero_add] at hc
      exact hc
    · unfold World.frozen?
      simp only []
      rw [hh]
      simp
/-- All that lay there stays, but in some blocks. -/
def Fl (W wr : World) (B : Nat → Prop) : Prop := wr.os = W.os ∧ wr.tape = W.tape ∧ wr.output = W.output ∧ W.heap.size ≤ wr.heap.size ∧ ∀ k, k < W.heap.size → ¬ B k → wr.heap[k]? = W.heap[k]?
section
variable {W wr : World} {B : Nat → Prop}
theorem Fl.refl (W : World) (B : Nat → Prop) : Fl W W B := ⟨rfl, rfl, rfl, Nat.le_refl _, fun _ _ _ => rfl⟩
theorem Fl.weaken {B' : Nat → Prop} (h : Fl W wr B) (hB : ∀ k, B k → B' k) : Fl W wr B' := ⟨h.1, h.2.1, h.2.2.1, h.2.2.2.1, fun k hk hn => h.2.2.2.2 k hk fun hb => hn (hB k hb)⟩
theorem Fl.set (h : Fl W wr B) {b : Nat} (hb : B b) (q : Nat) (v : Value) : Fl W (wr.setCell ⟨b, q, none⟩ v) B :=
  ⟨h.1, h.2.1, h.2.2.1, by simpa [World.setCell] using h.2.2.2.1, fun k hk hn => (Below.heap_setCell _ _ _ _ (fun e => hn (by have e' : k = b := e; rw [e']; exact hb))).trans (h.2.2.2.2 k hk hn)⟩
theorem Fl.drew (h : Fl W wr B) : Fl W wr.drew B := h
theorem Fl.cell (h : Fl W wr B) {k j : Nat} (hk : k < W.heap.size) (hn : ¬ B k) : wr.cell? ⟨k, j, none⟩ = W.cell? ⟨k, j, none⟩ := World.cell?_of_block (h.2.2.2.2 k hk hn)
theorem Fl.frozen (h : Fl W wr B) {k j : Nat} (hk : k < W.heap.size) (hn : ¬ B k) : wr.frozen? ⟨k, j, none⟩ = W.frozen? ⟨k, j, none⟩ := World.frozen?_of_block (h.2.2.2.2 k hk hn)
theorem Fl.at_ (h : Fl W wr B) {A : Option Addr} {l : List UInt8} (hA : At W A l) (hn : ∀ b off, A = some ⟨b, off, none⟩ → ¬ B b) : At wr A l := fun h0 => by
  obtain ⟨b, off, e, hl, hc⟩ := hA h0
  exact ⟨b, off, e, Nat.lt_of_lt_of_le hl h.2.2.2.1, fun i hi => (h.cell hl (hn b off e)).trans (hc i hi)⟩
theorem Fl.mine (h : Fl W wr B) {b : Nat} {l : List UInt8} (hm : Mine W b l) (hn : ¬ B b) : Mine wr b l :=
  ⟨Nat.lt_of_lt_of_le hm.lt h.2.2.2.1, fun i hi => (h.cell hm.lt hn).trans (hm.cell i hi), fun i => (h.frozen hm.lt hn).trans (hm.free i)⟩
theorem Fl.below (h : Fl W wr B) {base : Nat} {w : World} (hB : ∀ k, B k → base ≤ k) (hb : Below base w W) (hs : base ≤ w.heap.size) : Below base w wr :=
  hb.trans ⟨h.1, h.2.1, h.2.2.1, h.2.2.2.1, fun k hk => h.2.2.2.2 k (by have := hb.size; omega) fun hBk => by have := hB k hBk; omega⟩
end
/-- Five rows and their five neighbours, as two slices of slices hold them. -/
structure Rows5 (W : World) (G H : Nat) (Ds : Nat → Option Addr) (ds cs : Nat → Nat) (Es : Nat → Option Addr) (es : Nat → Nat) (Ls : Nat → List UInt8) : Prop where
  gl : G < W.heap.size
  hl : H < W.heap.size
  gc : ∀ k, k < 5 → W.cell? ⟨G, k, none⟩ = some (.slice (Ds k) (Ls k).length (cs k))
  hc : ∀ k, k < 5 → W.cell? ⟨H, k, none⟩ = some (.slice (Es k) (Ls k).length (es k))
  dm : ∀ k, k < 5 → (Ds k = none ∧ Ls k = []) ∨ (Ds k = some ⟨ds k, 0, none⟩ ∧ Mine W (ds k) (Ls k))
  ea : ∀ k, k < 5 → At W (Es k) (Ls k)
  ne : ∀ k, k < 5 → ∀ b off, Es k = some ⟨b, off, none⟩ → ∀ j, j < 5 → b ≠ ds j
  gn : ∀ j, j < 5 → G ≠ ds j
  hn : ∀ j, j < 5 → H ≠ ds j
  dd : ∀ j k, j < 5 → k < 5 → j ≠ k → ds j ≠ ds k
  ll : ∀ k, k < 5 → (Ls k).length ≤ 140737488355328
/-- The rows before the i-th have been turned. -/
def Upto (ds : Nat → Nat) (i : Nat) : Nat → Prop := fun b => ∃ j, j < i ∧ b = ds j
section
variable {W wr : World} {G H : Nat} {Ds Es : Nat → Option Addr} {ds cs es : Nat → Nat} {Ls : Nat → List UInt8} {i : Nat}
theorem Rows5.g (h : Rows5 W G H Ds ds cs Es es Ls) (hf : Fl W wr (Upto ds i)) (hi : i ≤ 5) {k : Nat} (hk : k < 5) : wr.cell? ⟨G, k, none⟩ = some (.slice (Ds k) (Ls k).length (cs k)) :=
  (hf.cell h.gl (fun ⟨j, hj, e⟩ => h.gn j (by omega) e)).trans (h.gc k hk)
theorem Rows5.h (h : Rows5 W G H Ds ds cs Es es Ls) (hf : Fl W wr (Upto ds i)) (hi : i ≤ 5) {k : Nat} (hk : k < 5) : wr.cell? ⟨H, k, none⟩ = some (.slice (Es k) (Ls k).length (es k)) :=
  (hf.cell h.hl (fun ⟨j, hj, e⟩ => h.hn j (by omega) e)).trans (h.hc k hk)
theorem Rows5.e (h : Rows5 W G H Ds ds cs Es es Ls) (hf : Fl W wr (Upto ds i)) (hi : i ≤ 5) {k : Nat} (hk : k < 5) : At wr (Es k) (Ls k) :=
  hf.at_ (h.ea k hk) (fun b off e ⟨j, hj, hb⟩ => h.ne k hk b off e j (by omega) hb)
theorem Rows5.d (h : Rows5 W G H Ds ds cs Es es Ls) (hf : Fl W wr (Upto ds i)) (hi : i < 5) : (Ds i = none ∧ Ls i = []) ∨ (Ds i = some ⟨ds i, 0, none⟩ ∧ Mine wr (ds i) (Ls i)) :=
  (h.dm i hi).imp id fun ⟨e, hm⟩ => ⟨e, hf.mine hm (fun ⟨j, hj, hb⟩ => h.dd i j hi (by omega) (by omega) hb)⟩
theorem Rows5.dat (h : Rows5 W G H Ds ds cs Es es Ls) (hf : Fl W wr (Upto ds i)) (hi : i < 5) : At wr (Ds i) (Ls i) := by
  rcases h.d hf hi with ⟨e, e2⟩ | ⟨e, hm⟩
  · rw [e, e2]; exact at_nil _ _
  · rw [e]; exact hm.at_
end
/-- What a row that is being turned holds. -/
def Turning (W wr : World) (ds : Nat → Nat) (i n : Nat) (D : Option Addr) : Prop := Fl W wr (Upto ds (i + 1)) ∧ ((D = none ∧ n = 0) ∨ (D = some ⟨ds i, 0, none⟩ ∧ ∃ L : List UInt8, L.length = n ∧ Mine wr (ds i) L))
theorem bx8 (x y : UInt8) : bits .xor .u8 (x.toNat : Int) (y.toNat : Int) = ((x ^^^ y).toNat : Int) := by
  rw [u8_xor_nat _ _ x.toNat_lt y.toNat_lt, UInt8.toNat_xor]
theorem flip_val (x : UInt8) : bits .xor .u8 (x.toNat : Int) 255 = ((x ^^^ 255).toNat : Int) := bx8 x 255
theorem Turning.set {W wr : World} {ds : Nat → Nat} {i n : Nat} {D : Option Addr} (h : Turning W wr ds i n D) (hD : D = some ⟨ds i, 0, none⟩) (j : Nat) (v : UInt8) : Turning W (wr.setCell ⟨ds i, j, none⟩ (bv v)) ds i n D := by
  obtain ⟨h1, h2⟩ := h
  rcases h2 with ⟨e, _⟩ | ⟨_, L, hL, hm⟩
  · rw [hD] at e; cases e
  · exact ⟨h1.set ⟨i, Nat.lt_succ_self _, rfl⟩ _ _, .inr ⟨hD, _, (List.length_set ..).trans hL, set_bytes hm j v⟩⟩
theorem Turning.cell {W wr : World} {ds : Nat → Nat} {i n j : Nat} {D : Option Addr} (h : Turning W wr ds i n D) (hj : j < n) : D = some ⟨ds i, 0, none⟩ ∧ ∃ x : UInt8, wr.cell? ⟨ds i, j, none⟩ = some (.int .u8 (x.toNat : Int)) ∧ wr.frozen? ⟨ds i, j, none⟩ = false := by
  rcases h.2 with ⟨_, e⟩ | ⟨e, L, hL, hm⟩
  · omega
  · exact ⟨e, L.getD j 0, hm.cell j (by omega), hm.free j⟩
/-- What a form's call of the program's gives back. -/
def Lays (gs : Nat) (L : List UInt8) (wk : World) (e : Ending) (w' : World) : Prop := ∃ c, e = .returned (.slice (some ⟨gs, 0, none⟩) L.length c) ∧ Mine w' gs L ∧ Below wk.heap.size wk w'
theorem Lays.of {wk w' : World} {L : List UInt8} {e : Ending} {gs : Nat} (h : Gives wk L e w') (hs : wk.heap.size = gs) : Lays gs L wk e w' := by
  subst hs
  obtain ⟨c, h1, h2, h3⟩ := h
  exact ⟨c, h1, own_mine h2, h3⟩
/-- Where a slice that a call made lies. -/
def Fresh (A : Option Addr) (n : Nat) (w' : World) : Prop := ∀ b off, A = some ⟨b, off, none⟩ → n ≤ b ∧ b < w'.heap.size
theorem Own1.fresh {base n c : Nat} {w : World} {A : Option Addr} {l : List UInt8} (h : Own1 base w (.slice A n c) l) : Fresh A base w := by
  rintro b off rfl
  rcases h.2 with ⟨h1, _⟩ | ⟨g', cap', cur, hv, hge, hh, hr⟩
  · cases h1
  · injection hv with hP
    injection hP with hP
    injection hP with hP
    subst hP
    exact ⟨hge, (Array.getElem?_eq_some_iff.1 hh).1⟩
def TellsA (L : List UInt8) (wk : World) (e : Ending) (w' : World) : Prop := ∃ A c, e = .returned (.slice A L.length c) ∧ At w' A L ∧ Fresh A wk.heap.size w' ∧ Below wk.heap.size wk w'
theorem TellsA.of {wk w' : World} {L : List UInt8} {e : Ending} (h : Tells wk L e w') : TellsA L wk e w' := by
  obtain ⟨v, h1, h2, h3⟩ := h
  obtain ⟨A, c, rfl, _, _, hA⟩ := h2.at
  exact ⟨A, c, h1, hA, h2.fresh, h3⟩
/-- A float's form, or none; the error's number. -/
def flL (f : Nat) (l : List UInt8) : List UInt8 := if canonF f = f then l ++ encFloat f else []
def flE (f : Nat) : Nat := if canonF f = f then 0 else 1
def LaysF (gs f : Nat) (l : List UInt8) (wk : World) (e : Ending) (w' : World) : Prop :=
  ∃ D c, e = .returned (.tuple #[.slice D (flL f l).length c, .int .i64 (flE f : Nat)]) ∧ ((D = none ∧ flL f l = []) ∨ (D = some ⟨gs, 0, none⟩ ∧ Mine w' gs (flL f l))) ∧ Below wk.heap.size wk w'
theorem Float_lays (A : Option Addr) (l : List UInt8) (cap f gs : Nat) (w : World) (hf : f < 18446744073709551616) (hA : At w A l) (hz : A = none → cap = 0) (hm : l.length + 9 ≤ 140737488355328) (hs : w.heap.size = gs) :
    Calls Try.prog 20 #[.slice A l.length cap, .float .f64 f] w (LaysF gs f l w) := by
  subst hs
  by_cases h : canonF f = f
  · refine (Float_yes A l cap f w hf h hA hz hm).mono ?_
    rintro e w' ⟨c, rfl, ho, hb⟩
    unfold LaysF flL flE
    rw [if_pos h, if_pos h]
    exact ⟨_, c, rfl, .inr ⟨rfl, own_mine ho⟩, hb⟩
  · refine (Float_no A l cap f w hf h).mono ?_
    rintro e w' ⟨rfl, rfl⟩
    unfold LaysF flL flE
    rw [if_neg h, if_neg h]
    exact ⟨none, 0, rfl, .inl ⟨rfl, rfl⟩, Below.refl _ _⟩
def TellsFA (f : Nat) (l : List UInt8) (wk : World) (e : Ending) (w' : World) : Prop :=
  ∃ A c, e = .returned (.tuple #[.slice A (flL f l).length c, .int .i64 (flE f : Nat)]) ∧ At w' A (flL f l) ∧ Fresh A wk.heap.size w' ∧ Below wk.heap.size wk w'
end Go.Proofs.Ytokgpifelinonaa
