/- What the walk through the test of being awake needs: value.Parse at one example, four boxes, infinity. -/
import Derived.Test.YtbpakmiopmgmbaaGreatDoorT9
import Derived.Test.YtbpakmiopmgmbaaGreatDoorT10
import Derived.Test.YtbpakmiopmgmbaaGreatDoorT11
import Derived.Test.YtbpakmiopmgmbaaGreatDoorT13
namespace Go.Proofs.YtbpakmiopmgmbaaGreatDoor
open Go.RowKit
set_option maxRecDepth 100000 in
set_option maxHeartbeats 1000000 in
theorem Parse_A (w : World) :
    Calls Tryz.prog 25 #[.string ⟨#[34, 92, 120, 52, 49, 34]⟩] w fun e w' => e = .returned (.tuple #[vagg 0 false 0 0 ⟨#[]⟩, .int .i64 5]) ∧ Below w.heap.size w w' := by
  have O := Lib.hid (One.start w #[.int .i64 0, .bool false, .int .i64 0, .float .f64 0, .string ⟨#[]⟩] 24)
  have hsf := store_float
  go_enter Tryz.func25, Tryz.ntmps25
  go_wp2_with (first | (go_at_call 41; ((with_reducible refine (read_A _).mono ?_); rintro e w1 ⟨rfl, hb⟩; replace O := Lib.hid (O.out.step hb); clear hb)) | (go_at_call 24; ((with_reducible refine (Text_A _).mono ?_); rintro e w2 ⟨rfl, hb⟩; replace O := Lib.hid ((O.out.step ((Below.refl _ _).alloc (Nat.le_refl _) _)).step hb); clear hb; obtain ⟨_, _, x1, x2⟩ := O.out)))
  obtain ⟨s0, s1, s2, s3, s4⟩ := set5 w2 w.heap.size (.int .i64 0) (.bool false) (.int .i64 0) (.float .f64 0) (.string ⟨#[]⟩) _ rfl x1
  refine bodyPost_ret (v := .tuple #[vagg 0 false 0 0 ⟨#[]⟩, .int .i64 5]) (by simp [results, Tryz.results25, go_sem, s0, s1, s2, s3, s4]) rfl ?_
  exact ⟨rfl, set5_below _ _ _ _ _ _ (Nat.le_refl _) O.out.below⟩
/-- What four boxes hold, wherever the walk has come to. -/
def Four (w wc : World) (g1 g2 g3 g4 : Nat) (A B C D : Array Value) : Prop :=
  Below w.heap.size w wc ∧ g1 < wc.heap.size ∧ g2 < wc.heap.size ∧ g3 < wc.heap.size ∧ g4 < wc.heap.size ∧ (∀ j, wc.cell? ⟨g1, j, none⟩ = A[j]?) ∧ (∀ j, wc.cell? ⟨g2, j, none⟩ = B[j]?) ∧ (∀ j, wc.cell? ⟨g3, j, none⟩ = C[j]?) ∧ (∀ j, wc.cell? ⟨g4, j, none⟩ = D[j]?)
theorem Four.on {w wc wd : World} {g1 g2 g3 g4 : Nat} {A B C D : Array Value} (hb : Below wc.heap.size wc wd) (h1 : Below w.heap.size w wc) (k1 : g1 < wc.heap.size) (k2 : g2 < wc.heap.size) (k3 : g3 < wc.heap.size) (k4 : g4 < wc.heap.size)
    (c1 : ∀ j, wc.cell? ⟨g1, j, none⟩ = A[j]?) (c2 : ∀ j, wc.cell? ⟨g2, j, none⟩ = B[j]?) (c3 : ∀ j, wc.cell? ⟨g3, j, none⟩ = C[j]?) (c4 : ∀ j, wc.cell? ⟨g4, j, none⟩ = D[j]?) : Four w wd g1 g2 g3 g4 A B C D := by
  have s := hb.size
  have c := (bcell hb).1
  exact ⟨h1.trans (hb.mono h1.size), by omega, by omega, by omega, by omega, fun j => (c _ j k1).trans (c1 j), fun j => (c _ j k2).trans (c2 j), fun j => (c _ j k3).trans (c3 j), fun j => (c _ j k4).trans (c4 j)⟩
theorem Four.step {w wc wd : World} {g1 g2 g3 g4 : Nat} {A B C D : Array Value} (h : Four w wc g1 g2 g3 g4 A B C D) (hb : Below wc.heap.size wc wd) : Four w wd g1 g2 g3 g4 A B C D := by
  obtain ⟨h1, k1, k2, k3, k4, c1, c2, c3, c4⟩ := h
  exact Four.on hb h1 k1 k2 k3 k4 c1 c2 c3 c4
theorem Four.drew {w wc : World} {g1 g2 g3 g4 : Nat} {A B C D : Array Value} (h : Four w wc g1 g2 g3 g4 A B C D) : Four w wc.drew g1 g2 g3 g4 A B C D := ⟨h.1.drew, h.2⟩
theorem Four.below {w wc : World} {g1 g2 g3 g4 : Nat} {A B C D : Array Value} (h : Four w wc g1 g2 g3 g4 A B C D) : Below w.heap.size w wc := h.1
theorem two_new (w : World) (A B : Array Value) (t u : TypeId) : (∀ j, ((w.alloc (.cells A t)).alloc (.cells B u)).cell? ⟨w.heap.size, j, none⟩ = A[j]?) ∧ (∀ j, ((w.alloc (.cells A t)).alloc (.cells B u)).cell? ⟨w.heap.size + 1, j, none⟩ = B[j]?) := by
  refine ⟨fun j => ?_, fun j => ?_⟩
  · rw [World.cell?_alloc_lt _ _ _ (by simp)]
    exact cell_of_row _ _ _ _ _ _ (heap_alloc_new w _)
  · exact cell_of_row _ _ _ _ _ _ (by have := heap_alloc_new (w.alloc (.cells A t)) (.cells B u); simpa using this)
theorem Four.make {w wa wb wd : World} {A B C D : Array Value} {t u v x : TypeId} (h1 : Below w.heap.size w wa) (h2 : Below ((wa.alloc (.cells A t)).alloc (.cells B u)).heap.size ((wa.alloc (.cells A t)).alloc (.cells B u)) wb) (hd : wd = (wb.alloc (.cells C v)).alloc (.cells D x)) :
    Four w wd wa.heap.size (wa.heap.size + 1) wb.heap.size (wb.heap.size + 1) A B C D := by
  subst hd
  obtain ⟨a1, a2⟩ := two_new wa A B t u
  obtain ⟨b1, b2⟩ := two_new wb C D v x
  have s1 := h1.size
  have s2 := h2.size
  simp only [World.size_alloc] at s2
  have c := (bcell h2).1
  simp only [World.size_alloc] at c
  have o : ∀ b j, b < wb.heap.size → ((wb.alloc (.cells C v)).alloc (.cells D x)).cell? ⟨b, j, none⟩ = wb.cell? ⟨b, j, none⟩ := fun b j hb => by
    rw [World.cell?_alloc_lt _ _ _ (by simp; omega), World.cell?_alloc_lt _ _ _ hb]
  refine ⟨?_, by simp; omega, by simp; omega, by simp; omega, by simp, fun j => ?_, fun j => ?_, b1, b2⟩
  · exact ((((h1.alloc s1 _).alloc (by simp; omega) _).trans (h2.mono (by simp; omega))).alloc (by omega) _).alloc (by simp; omega) _
  · rw [o _ _ (by omega), c _ _ (by omega)]; exact a1 j
  · rw [o _ _ (by omega), c _ _ (by omega)]; exact a2 j
theorem Inf_b (w : World) : Calls Tryz.prog 22 #[.int .i64 1] w fun e w' => e = .returned (.float .f64 9218868437227405312) ∧ Below w.heap.size w w' :=
  (Inf_c w).mono fun _ _ h => ⟨h.1, h.2 ▸ Below.refl _ _⟩
end Go.Proofs.YtbpakmiopmgmbaaGreatDoor
