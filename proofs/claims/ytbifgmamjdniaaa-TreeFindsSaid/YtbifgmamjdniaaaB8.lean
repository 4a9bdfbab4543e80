/- The first entry of a tree. -/
import Derived.Test.YtbifgmamjdniaaaB7
namespace Go.Proofs.Ytbifgmamjdniaaa
open Go.RowKit
open Itree (E T dep endT bs ord sz nodes lean rotL rotR bal ins del hasT first AVL Srt eachL over)
theorem EBox.set3 {w : World} {k : Nat} {e : E} (h : EBox w k e) (f : E) : EBox (((w.setCell ⟨k, 0, none⟩ (.int .u64 f.a)).setCell ⟨k, 1, none⟩ (.int .u64 f.b)).setCell ⟨k, 2, none⟩ (.int .u64 f.n)) k f := by
  have o (i j : Nat) (v : Value) (w : World) (h : i ≠ j) : (w.setCell ⟨k, i, none⟩ v).cell? ⟨k, j, none⟩ = w.cell? ⟨k, j, none⟩ := cell_other h
  have d0 : ((w.setCell ⟨k, 0, none⟩ (.int .u64 f.a))).cell? ⟨k, 0, none⟩ = some (.int .u64 f.a) := World.cell?_setCell_same _ _ _ h.c0
  have d1 : ((w.setCell ⟨k, 0, none⟩ (.int .u64 f.a)).setCell ⟨k, 1, none⟩ (.int .u64 f.b)).cell? ⟨k, 1, none⟩ = some (.int .u64 f.b) := World.cell?_setCell_same _ _ _ ((o 0 1 _ _ (by decide)).trans h.c1)
  have d2 : (((w.setCell ⟨k, 0, none⟩ (.int .u64 f.a)).setCell ⟨k, 1, none⟩ (.int .u64 f.b)).setCell ⟨k, 2, none⟩ (.int .u64 f.n)).cell? ⟨k, 2, none⟩ = some (.int .u64 f.n) := World.cell?_setCell_same _ _ _ ((o 1 2 _ _ (by decide)).trans ((o 0 2 _ _ (by decide)).trans h.c2))
  exact ⟨(o 2 0 _ _ (by decide)).trans ((o 1 0 _ _ (by decide)).trans d0), (o 2 1 _ _ (by decide)).trans d1, d2, fun x => by simpa [World.frozen?_setCell] using h.fr x, by simpa [World.setCell] using h.lt⟩
set_option maxRecDepth 100000 in
set_option maxHeartbeats 1000000 in
theorem first_any (k : Nat) (e : E) (l r : T) (w : World) (h : IsT w (.node k e l r)) :
    Calls Try.prog 50 #[.pointer (some ⟨k, 0, none⟩)] w fun e' w' => e' = .returned (entV (first (.node k e l r))) ∧ Below w.heap.size w w' := by
  obtain ⟨W, hW⟩ : ∃ W, w.alloc (.cells #[.int .u64 0, .int .u64 0, .int .u64 0] 53) = W := ⟨_, rfl⟩
  have BW : Below w.heap.size w W := by rw [← hW]; exact (Below.refl w.heap.size w).alloc (Nat.le_refl _) _
  have HB0 := Lib.hid (show EBox W w.heap.size ⟨0, 0, 0⟩ by rw [← hW]; exact ebox_new w ⟨0, 0, 0⟩ _)
  have HI := Lib.hid (h.below BW)
  clear h
  obtain ⟨f, hf⟩ : ∃ f, first (.node k e l r) = f := ⟨_, rfl⟩
  rw [hf]
  have HF := Lib.hid hf
  clear hf
  have HBW := Lib.hid BW
  clear BW
  go_enter Try.func50, Try.ntmps50
  go_wp2
  try rw [hW]
  clear hW
  go_loopg [0] (sz (.node k e l r)) (fun n p wr => W = wr ∧ ∃ (k' : Nat) (e' : E) (l' r' : T), sz (.node k' e' l' r') = n ∧ p = .pointer (some ⟨k', 0, none⟩) ∧ IsT W (.node k' e' l' r') ∧ first (.node k' e' l' r') = f)
  case atStart => exact ⟨rfl, k, e, l, r, rfl, rfl, HI.out, HF.out⟩
  case round =>
    obtain ⟨rfl, k', e', l', r', hn, rfl, hi, hf⟩ := hrel
    have c0 := hi.1.c0
    have c1 := hi.1.c1
    have c2 := hi.1.c2
    have c3 := hi.1.c3
    cases l' with
    | leaf =>
      have hfe : e' = f := by rw [← hf]; rfl
      subst hfe
      simp only [ptr] at c3
      have b0 := HB0.out.c0
      have b1 := HB0.out.c1
      have b2 := HB0.out.c2
      have bf := HB0.out.fr
      have e0 := EBox.set3 HB0.out e'
      obtain ⟨V, hV⟩ : ∃ V, ((W.setCell ⟨w.heap.size, 0, none⟩ (.int .u64 e'.a)).setCell ⟨w.heap.size, 1, none⟩ (.int .u64 e'.b)).setCell ⟨w.heap.size, 2, none⟩ (.int .u64 e'.n) = V := ⟨_, rfl⟩
      have hlast : Below w.heap.size w V := by
        rw [← hV]
        exact ((HBW.out.setCell (p := ⟨w.heap.size, 0, none⟩) (Nat.le_refl _) _).setCell (p := ⟨w.heap.size, 1, none⟩) (Nat.le_refl _) _).setCell (p := ⟨w.heap.size, 2, none⟩) (Nat.le_refl _) _
      rw [hV] at e0
      clear hi hf hn
      have HL := Lib.hid hlast
      clear hlast
      go_wp2
      try rw [hV]
      have v0 := e0.c0
      have v1 := e0.c1
      have v2 := e0.c2
      refine bodyPost_ret (v := entV e') (by simp [results, Try.results50, go_sem, v0, v1, v2]) rfl ⟨rfl, HL.out⟩
    | node k2 e2 l2 r2 =>
      simp only [ptr] at c3
      have A := Lib.hid (And.intro hn (And.intro hi hf))
      clear hi hf hn
      go_wp2
      go_roundg (sz (.node k2 e2 l2 r2))
      case measure =>
        have hn := A.out.1
        rw [Itree.sz_node] at hn
        omega
      case rel => exact ⟨rfl, k2, e2, l2, r2, rfl, rfl, A.out.2.1.2.1, by rw [← A.out.2.2]; rfl⟩
end Go.Proofs.Ytbifgmamjdniaaa
