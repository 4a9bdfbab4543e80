/- Three boxes: what they hold, wherever the walk has come to. -/
import Derived.Test.YtbpakmiopmgmbaaGreatDoorV6
namespace Go.Proofs.YtbpakmiopmgmbaaGreatDoor
open Go.RowKit
/-- What three boxes hold, wherever the walk has come to. -/
def Three (w wc : World) (A B C : Array Value) : Prop :=
  Below w.heap.size w wc ∧ w.heap.size + 3 ≤ wc.heap.size ∧ (∀ j, wc.cell? ⟨w.heap.size, j, none⟩ = A[j]?) ∧ (∀ j, wc.cell? ⟨w.heap.size + 1, j, none⟩ = B[j]?) ∧ (∀ j, wc.cell? ⟨w.heap.size + 2, j, none⟩ = C[j]?)
theorem Three.step {w wc wd : World} {A B C : Array Value} (h : Three w wc A B C) (hb : Below wc.heap.size wc wd) : Three w wd A B C := by
  obtain ⟨h1, h2, h3, h4, h5⟩ := h
  have c := (bcell hb).1
  have s := hb.size
  exact ⟨h1.trans (hb.mono h1.size), by omega, fun j => (c _ j (by omega)).trans (h3 j), fun j => (c _ j (by omega)).trans (h4 j), fun j => (c _ j (by omega)).trans (h5 j)⟩
theorem Three.below {w wc : World} {A B C : Array Value} (h : Three w wc A B C) : Below w.heap.size w wc := h.1
theorem Three.drew {w wc : World} {A B C : Array Value} (h : Three w wc A B C) : Three w wc.drew A B C := ⟨h.1.drew, h.2⟩
theorem Three.on {w wc wd : World} {A B C : Array Value} (hb : Below wc.heap.size wc wd) (h1 : Below w.heap.size w wc) (h2 : w.heap.size + 3 ≤ wc.heap.size) (h3 : ∀ j, wc.cell? ⟨w.heap.size, j, none⟩ = A[j]?) (h4 : ∀ j, wc.cell? ⟨w.heap.size + 1, j, none⟩ = B[j]?) (h5 : ∀ j, wc.cell? ⟨w.heap.size + 2, j, none⟩ = C[j]?) : Three w wd A B C :=
  Three.step ⟨h1, h2, h3, h4, h5⟩ hb
theorem Three.start (w : World) (A B C : Array Value) (t u v : TypeId) : Three w (((w.alloc (.cells A t)).alloc (.cells B u)).alloc (.cells C v)) A B C := by
  refine ⟨(below2 w _ _ 0).alloc (by simp; omega) _, by simp, fun j => ?_, fun j => ?_, fun j => ?_⟩
  · rw [World.cell?_alloc_lt _ _ _ (by simp; omega), World.cell?_alloc_lt _ _ _ (by simp)]
    exact cell_of_row _ _ _ _ _ _ (heap_alloc_new w _)
  · rw [World.cell?_alloc_lt _ _ _ (by simp)]
    exact cell_of_row _ _ _ _ _ _ (by have := heap_alloc_new (w.alloc (.cells A t)) (.cells B u); simpa using this)
  · exact cell_of_row _ _ _ _ _ _ (by have := heap_alloc_new ((w.alloc (.cells A t)).alloc (.cells B u)) (.cells C v); simpa using this)
/-- The same, and the third may be written. -/
def Res (w wc : World) (A B C : Array Value) : Prop := Three w wc A B C ∧ ∀ j, wc.frozen? ⟨w.heap.size + 2, j, none⟩ = false
theorem Res.step {w wc wd : World} {A B C : Array Value} (h : Res w wc A B C) (hb : Below wc.heap.size wc wd) : Res w wd A B C :=
  ⟨h.1.step hb, fun j => ((bcell hb).2 _ j (by have := h.1.2.1; omega)).trans (h.2 j)⟩
theorem Res.below {w wc : World} {A B C : Array Value} (h : Res w wc A B C) : Below w.heap.size w wc := h.1.1
theorem Res.start (w : World) (A B C : Array Value) (t u v : TypeId) : Res w (((w.alloc (.cells A t)).alloc (.cells B u)).alloc (.cells C v)) A B C := by
  refine ⟨Three.start w A B C t u v, fun j => ?_⟩
  have h := heap_alloc_new ((w.alloc (.cells A t)).alloc (.cells B u)) (.cells C v)
  have e : ((w.alloc (.cells A t)).alloc (.cells B u)).heap.size = w.heap.size + 2 := by simp
  rw [e] at h
  unfold World.frozen?
  simp only []
  rw [h]
  simp
end Go.Proofs.YtbpakmiopmgmbaaGreatDoor
