/- NumParts, walked: for every slice of whole numbers and every place it answers true. -/
import Derived.Test.YtbpakmiopmgmbaaGreatDoorS2
import Derived.Test.YtbpakmiopmgmbaaGreatDoorQ1
import Derived.Laws.AppendOwn
import Derived.Laws.AppendOwnNone
import Derived.Deep.AppendLies
namespace Go.Proofs.YtbpakmiopmgmbaaGreatDoor
open Go.RowKit
theorem own_empty (w : World) (e : TypeId) : (w.alloc (.cells #[] e)).ownsRow w.heap.size e 1 (.slice (some ⟨w.heap.size, 0, none⟩) 0 0) 0 [] :=
  ⟨by simp, .inr ⟨w.heap.size, 0, #[], rfl, Nat.le_refl _, heap_alloc_new w _, Nat.le_refl _, by unfold maxLen; omega, by simp, by simp⟩⟩
theorem own_end (w w1 : World) (o : Obj) (e : TypeId) (v : Value) (n : Nat) (xs : List Value) {c : Nat} (hown : w1.ownsRow w.heap.size e 1 v (0 + n) ([] ++ xs))
    (hg : (w.alloc o).grownBy w1 (Value.slice (some ⟨w.heap.size, 0, none⟩) 0 c).ownBlock) (hn : v ≠ .slice none 0 0) :
    ∃ g c, v = .slice (some ⟨g, 0, none⟩) n c ∧ w1.ownsRow w.heap.size e 1 v n xs ∧ Below w.heap.size w w1 := by
  rw [Nat.zero_add, List.nil_append] at hown
  have hb : Below w.heap.size w w1 := ((Below.refl _ _).alloc (Nat.le_refl _) o).grown hg (by simp) (fun k hk => by simp [Value.ownBlock] at hk; omega)
  rcases hown.2 with ⟨h, _⟩ | ⟨g, cap, _, h, _⟩
  · exact absurd h hn
  · exact ⟨g, cap, h, hown, hb⟩
theorem ints_one (l : List Int) (u : Value) (h : u ∈ l.map (Value.int .i64)) : u.oneCell' = true := by
  obtain ⟨n, _, rfl⟩ := List.mem_map.1 h
  rfl
theorem src_drop (w : World) (ad : Addr) (l : List Int) (k : Nat) (o : Obj) (hc : CellsAt w (some ad) l) : ∀ j u, ((l.drop k).map (Value.int .i64))[j]? = some u → (w.alloc o).cell? ((ad.add k).add j) = some u := by
  intro j u hu
  have hj : j < (l.drop k).length := by
    have := (List.getElem?_eq_some_iff.1 hu).1
    simpa using this
  simp only [List.length_drop] at hj
  obtain ⟨b, off, e, hb, hcell⟩ := hc (by omega)
  obtain rfl := Option.some.inj e
  have e2 : ((⟨b, off, none⟩ : Addr).add k).add j = ⟨b, off + (k + j), none⟩ := by
    unfold Addr.add
    by_cases h1 : k = 0 <;> by_cases h2 : j = 0 <;> simp [h1, h2, Nat.add_assoc]
  rw [e2, World.cell?_alloc_lt _ _ _ hb, hcell (k + j) (by omega)]
  simp only [List.getElem?_map, List.getElem?_drop, List.getElem?_eq_getElem (show k + j < l.length by omega), Option.map_some, Option.some.injEq] at hu
  rw [← hu]
  simp [List.getD, show k + j < l.length by omega]
theorem src_take (w : World) (ad : Addr) (l : List Int) (k : Nat) (hc : CellsAt w (some ad) l) : ∀ j u, ((l.take k).map (Value.int .i64))[j]? = some u → w.cell? (ad.add j) = some u := by
  intro j u hu
  have hj : j < (l.take k).length := by
    have := (List.getElem?_eq_some_iff.1 hu).1
    simpa using this
  simp only [List.length_take] at hj
  obtain ⟨b, off, e, hb, hcell⟩ := hc (by omega)
  obtain rfl := Option.some.inj e
  have e2 : (⟨b, off, none⟩ : Addr).add j = ⟨b, off + j, none⟩ := by
    unfold Addr.add
    by_cases h2 : j = 0 <;> simp [h2]
  rw [e2, hcell j (by omega)]
  simp only [List.getElem?_map, List.getElem?_take, List.getElem?_eq_getElem (show j < l.length by omega)] at hu
  rw [if_pos (by omega)] at hu
  simp at hu
  rw [← hu]
  simp [List.getD, show j < l.length by omega]
theorem own_cells (w : World) (e : TypeId) (g c : Nat) (zs : List Int) {B : Nat} (h : w.ownsRow B e 1 (.slice (some ⟨g, 0, none⟩) zs.length c) zs.length (zs.map (Value.int .i64))) : CellsAt w (some ⟨g, 0, none⟩) zs := fun h0 => by
  obtain ⟨g', cap, hv, _, hlt⟩ := h.form h0
  have e1 : g = g' := by simpa using (Value.slice.inj hv).1
  subst e1
  refine ⟨g, 0, rfl, hlt, fun i hi => ?_⟩
  have hu : (zs.map (Value.int .i64))[i]? = some (.int .i64 (zs.getD i 0)) := by simp [List.getD, hi]
  have t := h.cells (g := g) rfl i _ hu
  rw [← t]
  unfold Addr.add
  by_cases h2 : i = 0 <;> simp [h2]
theorem cells_drop (w : World) (ad : Addr) (l : List Int) (k : Nat) (hc : CellsAt w (some ad) l) : CellsAt w (some (ad.add k)) (l.drop k) := fun h0 => by
  simp only [List.length_drop] at h0
  obtain ⟨b, off, e, hb, hcell⟩ := hc (by omega)
  obtain rfl := Option.some.inj e
  refine ⟨b, off + k, ?_, hb, fun i hi => ?_⟩
  · unfold Addr.add
    by_cases h2 : k = 0 <;> simp [h2]
  · simp only [List.length_drop] at hi
    rw [Nat.add_assoc, hcell (k + i) (by omega)]
    simp [List.getD, show k + i < l.length by omega]
theorem int64_info : (Tryz.prog.info? 2).map (fun i => (i.zero, i.size, i.bytes)) = some (some (.int .i64 0), 1, 8) := by kernel_rfl
end Go.Proofs.YtbpakmiopmgmbaaGreatDoor
