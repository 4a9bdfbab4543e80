/- Worlds in which some blocks may have changed; where the lists of slices lie. -/
import Derived.Test.YtgjahnidjcfbiaaGreatDoorK6
import Derived.Test.YtgjahnidjcfbiaaGreatDoorJ19
import Derived.Test.YtgjahnidjcfbiaaGreatDoorJ21
namespace Go.Proofs.YtgjahnidjcfbiaaGreatDoor
open Go.RowKit Go.Shelf Go.Lib
open Iset (nf has NF Res Wide KL opOr opAnd opLess opNot)
/-- Memory as it was, but for the blocks from lo up to hi. -/
structure Left (lo hi : Nat) (w w' : World) : Prop where
  below : Below lo w w'
  above : ∀ k, hi ≤ k → k < w.heap.size → w'.heap[k]? = w.heap[k]?
theorem Left.refl (lo hi : Nat) (w : World) : Left lo hi w w := ⟨Below.refl _ _, fun _ _ _ => rfl⟩
theorem Left.more {lo hi hi' : Nat} {w w' : World} (h : Left lo hi w w') (e : hi ≤ hi') : Left lo hi' w w' := ⟨h.below, fun k a b => h.above k (by omega) b⟩
theorem Left.trans {lo hi : Nat} {a b c : World} (h : Left lo hi a b) (k : Left lo hi b c) : Left lo hi a c :=
  ⟨h.below.trans k.below, fun i hi hl => (k.above i hi (Nat.lt_of_lt_of_le hl h.below.size)).trans (h.above i hi hl)⟩
theorem Left.on {lo hi : Nat} {a b c : World} (h : Left lo hi a b) (k : Below b.heap.size b c) (hl : lo ≤ a.heap.size) : Left lo hi a c :=
  h.trans ⟨k.mono (Nat.le_trans hl h.below.size), fun i _ h2 => k.block i h2⟩
theorem Left.set {lo hi : Nat} {a b : World} (h : Left lo hi a b) {p : Addr} (h1 : lo ≤ p.block) (h2 : p.block < hi) (u : Value) : Left lo hi a (b.setCell p u) :=
  h.trans ⟨(Below.refl _ _).setCell h1 u, fun k hk _ => Below.heap_setCell _ _ _ _ (by omega)⟩
theorem Left.drew {lo hi : Nat} {a b : World} (h : Left lo hi a b) : Left lo hi a b.drew := ⟨h.below.drew, h.above⟩
theorem Left.cell {lo hi : Nat} {w w' : World} (h : Left lo hi w w') (g o : Nat) (hg : g < w.heap.size) (hr : g < lo ∨ hi ≤ g) : w'.cell? ⟨g, o, none⟩ = w.cell? ⟨g, o, none⟩ := by
  have e : w'.heap[g]? = w.heap[g]? := by
    rcases hr with hr | hr
    · exact h.below.block g hr
    · exact h.above g hr hg
  unfold World.cell?
  rw [e]
theorem Left.frozen {lo hi : Nat} {w w' : World} (h : Left lo hi w w') (g o : Nat) (hg : g < w.heap.size) (hr : g < lo ∨ hi ≤ g) : w'.frozen? ⟨g, o, none⟩ = w.frozen? ⟨g, o, none⟩ := by
  have e : w'.heap[g]? = w.heap[g]? := by
    rcases hr with hr | hr
    · exact h.below.block g hr
    · exact h.above g hr hg
  unfold World.frozen?
  rw [e]
/-- A slice of these periods in the blocks from lo up to hi. -/
def Lies (w : World) (v : Value) (L : List (Int × Int)) (lo hi : Nat) : Prop := ∃ A c, v = .slice A L.length c ∧ (A = none → c = 0) ∧ (0 < L.length → ∃ b off, A = some ⟨b, off, none⟩ ∧ lo ≤ b ∧ b < hi ∧ b < w.heap.size ∧ (∀ o, w.frozen? ⟨b, o, none⟩ = false) ∧ ∀ i (h : i < L.length), w.cell? ⟨b, off + i * 2, none⟩ = some (.int .u64 (L[i].1)) ∧ w.cell? ⟨b, off + i * 2 + 1, none⟩ = some (.int .u64 (L[i].2)))
theorem Lies.of {base : Nat} {w : World} {v : Value} {L : List (Int × Int)} (h : OwnP base w v L) : Lies w v L base w.heap.size := by
  obtain ⟨A, c, e, k, z⟩ := h.isZ
  refine ⟨A, c, e, z, fun h0 => ?_⟩
  obtain ⟨g, c2, e2, h1, h2, h3, h4⟩ := h.form h0
  rw [e] at e2
  injection e2 with e2 _ _
  exact ⟨g, 0, e2, h1, h2, h2, h3, fun i hi => by rw [Nat.zero_add]; exact h4 i hi⟩
theorem Lies.zero {base : Nat} {w : World} {v : Value} {L : List (Int × Int)} (h : OwnP base w v L) : Lies w v L 0 w.heap.size := by
  obtain ⟨A, c, e, z, k⟩ := Lies.of h
  exact ⟨A, c, e, z, fun h0 => by obtain ⟨b, off, h1, h2, h3, h4⟩ := k h0; exact ⟨b, off, h1, Nat.zero_le _, h3, h4⟩⟩
theorem Lies.isZ {w : World} {v : Value} {L : List (Int × Int)} {lo hi : Nat} (h : Lies w v L lo hi) : IsZ w v L := by
  obtain ⟨A, c, e, z, k⟩ := h
  exact ⟨A, c, e, fun h0 => by obtain ⟨b, off, h1, _, _, h4, _, h5⟩ := k h0; exact ⟨b, off, h1, h4, h5⟩, z⟩
theorem Lies.below {w w' : World} {v : Value} {L : List (Int × Int)} {lo hi : Nat} (h : Lies w v L lo hi) (hb : Below w.heap.size w w') : Lies w' v L lo hi := by
  obtain ⟨A, c, e, z, k⟩ := h
  refine ⟨A, c, e, z, fun h0 => ?_⟩
  obtain ⟨b, off, h1, h2, h3, h4, h6, h5⟩ := k h0
  exact ⟨b, off, h1, h2, h3, Nat.lt_of_lt_of_le h4 hb.size, fun o => (hb.frozen (p := ⟨b, o, none⟩) h4).trans (h6 o), fun i hi => ⟨(hb.cell (p := ⟨b, off + i * 2, none⟩) h4).trans (h5 i hi).1, (hb.cell (p := ⟨b, off + i * 2 + 1, none⟩) h4).trans (h5 i hi).2⟩⟩
theorem Lies.left {w w' : World} {v : Value} {L : List (Int × Int)} {lo hi a b : Nat} (h : Lies w v L lo hi) (hb : Left a b w w') (hr : hi ≤ a ∨ b ≤ lo) : Lies w' v L lo hi := by
  obtain ⟨A, c, e, z, k⟩ := h
  refine ⟨A, c, e, z, fun h0 => ?_⟩
  obtain ⟨g, off, h1, h2, h3, h4, h6, h5⟩ := k h0
  have hg : g < a ∨ b ≤ g := by omega
  exact ⟨g, off, h1, h2, h3, Nat.lt_of_lt_of_le h4 hb.below.size, fun o => (hb.frozen g o h4 hg).trans (h6 o), fun i hi => ⟨(hb.cell g _ h4 hg).trans (h5 i hi).1, (hb.cell g _ h4 hg).trans (h5 i hi).2⟩⟩
theorem Lies.more {w : World} {v : Value} {L : List (Int × Int)} {lo hi a b : Nat} (h : Lies w v L lo hi) (h1 : a ≤ lo) (h2 : hi ≤ b) : Lies w v L a b := by
  obtain ⟨A, c, e, z, k⟩ := h
  exact ⟨A, c, e, z, fun h0 => by obtain ⟨b, off, e1, e2, e3, e4⟩ := k h0; exact ⟨b, off, e1, by omega, by omega, e4⟩⟩
/-- One list told and wanted, three bounds each: five of them. -/
def five {α : Type} (a b c d e : α) (i : Nat) : α := match i with
  | 0 => a
  | 1 => b
  | 2 => c
  | 3 => d
  | _ => e
end Go.Proofs.YtgjahnidjcfbiaaGreatDoor
