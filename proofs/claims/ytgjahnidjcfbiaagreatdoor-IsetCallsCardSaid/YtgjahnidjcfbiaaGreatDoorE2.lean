/- Arguments opened once more: slices of periods (nil ones have no room), slices of words. -/
import Derived.Test.YtgjahnidjcfbiaaGreatDoorE1
import Derived.Test.YtgjahnidjcfbiaaGreatDoorJ22
namespace Go.Proofs.YtgjahnidjcfbiaaGreatDoor
open Go.ChangeShapes Go.WideShapes Go.ChangeAt Go.RowKit
section
variable {H : Type} {enc : TypeId × Value → H} {W : World} {base : Nat} {held : Bool} {v : Value} {d : DataW H} {p : List MemPlace}
set_option maxRecDepth 100000 in
theorem open_pers2 {sp : Nat → Bool} {r : Reach} {b0 : Nat} (hv : Value.okWide Tryz.prog W r b0 22 v) (h : DataW.Trod enc Tryz.prog W base sp held 22 v d p) :
    ∃ A c, ∃ l : List (Int × Int), v = .slice A l.length c ∧ PAt W A l ∧ (A = none → c = 0) ∧ l.length ≤ c ∧ Iset.Wide l ∧ (l.length = 0 ∨ ∃ elems spare, d = .slice elems spare ∧ elems.length = l.length) := by
  obtain ⟨x0, x1, x2, rfl⟩ := okWide_slice Tryz.underlying22 hv
  obtain ⟨fuel, hf⟩ := h
  rcases DataW.trod_slice Tryz.underlying22 hf with ⟨e, _⟩ | ⟨a, len, cap, elems, rest, n, _, e, hx, _, hlc, _, hlen, hg, _, _⟩
  · simp [Value.cells] at e
    obtain ⟨rfl, rfl, rfl⟩ := e
    exact ⟨none, 0, [], rfl, fun h0 => absurd h0 (by simp), fun _ => rfl, Nat.le_refl _, fun p hp => by simp at hp, .inl rfl⟩
  · simp [Value.cells] at e
    obtain ⟨rfl, rfl, rfl⟩ := e
    have hC : Tryz.prog.cellsOf 29 = 2 := by kernel_rfl
    rw [hC] at hg
    have k1 : Tryz.prog.cellsOf 23 = 1 := by kernel_rfl
    have each : ∀ i, ∃ q : Int × Int, i < x1 → W.cell? (a.add (i * 2)) = some (.int .u64 q.1) ∧ W.cell? ((a.add (i * 2)).add 1) = some (.int .u64 q.2) ∧ 0 ≤ q.1 ∧ 0 ≤ q.2 := fun i => by
      by_cases hi : i < x1
      · have h1 := hg i hi
        rw [List.getElem?_eq_getElem (by omega), Option.bind_eq_some_iff] at h1
        obtain ⟨cs, hcs, ht⟩ := h1
        obtain ⟨_, hl, hcell⟩ := World.cells?_some hcs
        match cs, hl, hcell, ht with
        | [c0, c1], _, hcell, ht =>
          obtain ⟨xs, n', _, _, _, hlen', hg'⟩ := DataW.trod_struct Tryz.underlying29 ht
          match xs, hlen', hg' with
          | [y0, y1], _, hg' =>
            have g0 : DataW.trod enc Tryz.prog W base sp held n' 23 (([c0, c1].drop 0).take (Tryz.prog.cellsOf 23)) = some y0 := hg' 0 _ rfl
            have g1 : DataW.trod enc Tryz.prog W base sp held n' 23 (([c0, c1].drop 1).take (Tryz.prog.cellsOf 23)) = some y1 := hg' 1 _ rfl
            rw [k1] at g0 g1
            obtain ⟨z0, e0, _, w0⟩ := DataW.trod_int Tryz.underlying23 g0
            obtain ⟨z1, e1, _, w1⟩ := DataW.trod_int Tryz.underlying23 g1
            simp at e0 e1
            subst e0 e1
            have d0 := hcell 0 (by omega)
            have d1 := hcell 1 (by omega)
            exact ⟨(z0, z1), fun _ => ⟨by simpa [Addr.add] using d0, by simpa using d1, (word_fits w0).1, (word_fits w1).1⟩⟩
      · exact ⟨(0, 0), fun h => absurd h hi⟩
    obtain ⟨f, each⟩ : ∃ f : Nat → Int × Int, ∀ i, i < x1 → W.cell? (a.add (i * 2)) = some (.int .u64 (f i).1) ∧ W.cell? ((a.add (i * 2)).add 1) = some (.int .u64 (f i).2) ∧ 0 ≤ (f i).1 ∧ 0 ≤ (f i).2 := ⟨fun i => Classical.choose (each i), fun i => Classical.choose_spec (each i)⟩
    have hlen2 : ((List.range x1).map f).length = x1 := by simp
    refine ⟨some a, x2, (List.range x1).map f, by rw [hlen2], fun h0 => ?_, (fun h => by cases h), by rw [hlen2]; exact hlc, fun q hq => ?_, .inr ⟨_, _, (Prod.mk.inj hx).1, by rw [hlen2, List.length_map, hlen]⟩⟩
    · rw [hlen2] at h0
      obtain ⟨f0, _⟩ := each 0 h0
      obtain ⟨b, off, spot⟩ := a
      have hspot : spot = none := by simpa [Addr.add] using World.cell?_spot f0
      subst hspot
      have hlt : b < W.heap.size := by
        rw [add_plain] at f0
        exact World.block_lt_of_cell? W _ f0
      refine ⟨b, off, rfl, hlt, fun i hi => ?_⟩
      rw [hlen2] at hi
      obtain ⟨f0, f1, _⟩ := each i hi
      rw [add_plain] at f0
      rw [add_plain, add_plain] at f1
      rw [List.getElem_map, List.getElem_range]
      exact ⟨f0, f1⟩
    · rw [List.mem_map] at hq
      obtain ⟨i, hi, rfl⟩ := hq
      obtain ⟨_, _, f2, f3⟩ := each i (List.mem_range.1 hi)
      exact ⟨f2, f3⟩
set_option maxRecDepth 100000 in
theorem open_words {r : Reach} {b0 : Nat} (hv : Value.okWide Tryz.prog W r b0 48 v) (h : DataW.Trod enc Tryz.prog W base (fun _ => true) held 48 v d p) :
    ∃ A c, ∃ l : List Int, v = .slice A l.length c ∧ UAt W A l ∧ (A = none → c = 0) ∧ l.length ≤ c ∧ (∀ z ∈ l, 0 ≤ z) := by
  obtain ⟨a0, len, cap, rfl⟩ := okWide_slice Tryz.underlying48 hv
  obtain ⟨fuel, hf⟩ := h
  rcases open_ints Tryz.underlying48 Tryz.underlying23 (by kernel_rfl) hf with ⟨hcs, _⟩ | ⟨a, len', cap', zs, hcs, _, hl, hm, hz, hx, hcell, hwz⟩
  · simp [Value.cells] at hcs
    obtain ⟨rfl, rfl, rfl⟩ := hcs
    exact ⟨none, 0, [], rfl, fun h0 => absurd h0 (Nat.lt_irrefl 0), fun _ => rfl, Nat.le_refl _, fun z hz => by simp at hz⟩
  · simp [Value.cells] at hcs
    obtain ⟨rfl, rfl, rfl⟩ := hcs
    simp only [if_true] at hz
    have hlen : (zs.take len).length = len := by rw [List.length_take]; omega
    refine ⟨some a, cap, zs.take len, by rw [hlen], fun h0 => ?_, (fun h => by cases h), by omega, fun z hz => ?_⟩
    · rw [hlen] at h0
      obtain ⟨b, off, spot⟩ := a
      have hspot : spot = none := by simpa [Addr.add] using World.cell?_spot (hcell 0 (by omega))
      subst hspot
      have hcell' : ∀ i, i < zs.length → W.cell? ⟨b, off + i, none⟩ = some (.int .u64 (zs.getD i 0)) := fun i hi => by rw [← add_plain]; exact hcell i hi
      have hlt : b < W.heap.size := World.block_lt_of_cell? W _ (hcell' 0 (by omega))
      refine ⟨b, off, rfl, hlt, fun i hi => ?_⟩
      rw [hlen] at hi
      rw [hcell' i (by omega), List.getElem_take]
      simp [List.getD, show i < zs.length by omega]
    · exact (word_fits (hwz z (List.mem_of_mem_take hz))).1
end
end Go.Proofs.YtgjahnidjcfbiaaGreatDoor
