/- TreeFinds' arguments, opened. -/
import Derived.Test.YtbifgmamjdniaaaE1
import Derived.Test.YtbifgmamjdniaaaM5
namespace Go.Proofs.Ytbifgmamjdniaaa
open Go.ChangeShapes Go.WideShapes Go.ChangeAt Go.RowKit
open Itree (E)
section
variable {H : Type} {enc : TypeId × Value → H} {W : World} {base : Nat} {held : Bool} {v : Value} {d : DataW H} {p : List MemPlace}
set_option maxRecDepth 100000 in
theorem open_pairs {sp : Nat → Bool} {r : Reach} {b0 : Nat} (hv : Value.okWide Try.prog W r b0 49 v) (h : DataW.Trod enc Try.prog W base sp held 49 v d p) : ∃ B n c f, v = .slice B n c ∧ PAt2 W B n f := by
  obtain ⟨x0, x1, x2, rfl⟩ := okWide_slice Try.underlying49 hv
  obtain ⟨fuel, hf⟩ := h
  rcases DataW.trod_slice Try.underlying49 hf with ⟨e, _⟩ | ⟨a, len, cap, elems, rest, n, _, e, _, _, _, _, hlen, hg, _, _⟩
  · simp [Value.cells] at e
    obtain ⟨rfl, rfl, rfl⟩ := e
    exact ⟨none, 0, 0, fun _ => (0, 0), rfl, fun h0 => absurd h0 (by simp)⟩
  · simp [Value.cells] at e
    obtain ⟨rfl, rfl, rfl⟩ := e
    have hC : Try.prog.cellsOf 32 = 2 := by kernel_rfl
    rw [hC] at hg
    have k1 : Try.prog.cellsOf 30 = 1 := by kernel_rfl
    have each : ∀ i, ∃ q : Int × Int, i < x1 → W.cell? (a.add (i * 2)) = some (.int .u64 q.1) ∧ W.cell? ((a.add (i * 2)).add 1) = some (.int .u64 q.2) ∧ (0 ≤ q.1 ∧ q.1 ≤ 18446744073709551615) ∧ (0 ≤ q.2 ∧ q.2 ≤ 18446744073709551615) := fun i => by
      by_cases hi : i < x1
      · have h1 := hg i hi
        rw [List.getElem?_eq_getElem (by omega), Option.bind_eq_some_iff] at h1
        obtain ⟨cs, hcs, ht⟩ := h1
        obtain ⟨_, hl, hcell⟩ := World.cells?_some hcs
        match cs, hl, hcell, ht with
        | [c0, c1], _, hcell, ht =>
          obtain ⟨xs, n', _, _, _, hlen', hg'⟩ := DataW.trod_struct Try.underlying32 ht
          match xs, hlen', hg' with
          | [y0, y1], _, hg' =>
            have g0 : DataW.trod enc Try.prog W base sp held n' 30 (([c0, c1].drop 0).take (Try.prog.cellsOf 30)) = some y0 := hg' 0 _ rfl
            have g1 : DataW.trod enc Try.prog W base sp held n' 30 (([c0, c1].drop 1).take (Try.prog.cellsOf 30)) = some y1 := hg' 1 _ rfl
            rw [k1] at g0 g1
            obtain ⟨z0, e0, _, w0⟩ := DataW.trod_int Try.underlying30 g0
            obtain ⟨z1, e1, _, w1⟩ := DataW.trod_int Try.underlying30 g1
            simp at e0 e1
            subst e0 e1
            have d0 := hcell 0 (by omega)
            have d1 := hcell 1 (by omega)
            exact ⟨(z0, z1), fun _ => ⟨by simpa [Addr.add] using d0, by simpa using d1, word_fits w0, word_fits w1⟩⟩
      · exact ⟨(0, 0), fun h => absurd h hi⟩
    obtain ⟨f, each⟩ : ∃ f : Nat → Int × Int, ∀ i, i < x1 → W.cell? (a.add (i * 2)) = some (.int .u64 (f i).1) ∧ W.cell? ((a.add (i * 2)).add 1) = some (.int .u64 (f i).2) ∧ (0 ≤ (f i).1 ∧ (f i).1 ≤ 18446744073709551615) ∧ (0 ≤ (f i).2 ∧ (f i).2 ≤ 18446744073709551615) := ⟨fun i => Classical.choose (each i), fun i => Classical.choose_spec (each i)⟩
    refine ⟨some a, x1, x2, f, rfl, fun h0 => ?_⟩
    obtain ⟨f0, _⟩ := each 0 h0
    obtain ⟨b, off, spot⟩ := a
    have hspot : spot = none := by simpa [Addr.add] using World.cell?_spot f0
    subst hspot
    have add_plain' : ∀ b off j : Nat, (⟨b, off, none⟩ : Addr).add j = ⟨b, off + j, none⟩ := fun b off j => by unfold Addr.add; split <;> simp_all
    have hlt : b < W.heap.size := by
      rw [add_plain'] at f0
      exact World.block_lt_of_cell? W _ f0
    refine ⟨b, off, rfl, hlt, fun i hi => ?_⟩
    obtain ⟨f0, f1, f4⟩ := each i hi
    rw [add_plain'] at f0
    rw [add_plain', add_plain'] at f1
    exact ⟨f0, f1, f4⟩
set_option maxRecDepth 100000 in
theorem open_gone {sp : Nat → Bool} {r : Reach} {b0 : Nat} (hv : Value.okWide Try.prog W r b0 50 v) (h : DataW.Trod enc Try.prog W base sp held 50 v d p) : ∃ B n c f, v = .slice B n c ∧ BAt W B n f ∧ (n = 0 ∨ ∃ elems spare, d = .slice elems spare ∧ elems.length = n) := by
  obtain ⟨x0, x1, x2, rfl⟩ := okWide_slice Try.underlying50 hv
  obtain ⟨fuel, hf⟩ := h
  rcases DataW.trod_slice Try.underlying50 hf with ⟨e, _⟩ | ⟨a, len, cap, elems, rest, n, _, e, hx, _, _, _, hlen, hg, _, _⟩
  · simp [Value.cells] at e
    obtain ⟨rfl, rfl, rfl⟩ := e
    exact ⟨none, 0, 0, fun _ => false, rfl, fun h0 => absurd h0 (by simp), .inl rfl⟩
  · simp [Value.cells] at e
    obtain ⟨rfl, rfl, rfl⟩ := e
    have hC : Try.prog.cellsOf 4 = 1 := by kernel_rfl
    rw [hC] at hg
    have each : ∀ i, ∃ q : Bool, i < x1 → W.cell? (a.add (i * 1)) = some (.bool q) := fun i => by
      by_cases hi : i < x1
      · have h1 := hg i hi
        rw [List.getElem?_eq_getElem (by omega), Option.bind_eq_some_iff] at h1
        obtain ⟨cs, hcs, ht⟩ := h1
        obtain ⟨_, hl, hcell⟩ := World.cells?_some hcs
        obtain ⟨q, e0, _⟩ := DataW.trod_bool Try.underlying4 ht
        subst e0
        have d0 := hcell 0 (by omega)
        exact ⟨q, fun _ => by simpa [Addr.add] using d0⟩
      · exact ⟨false, fun h => absurd h hi⟩
    obtain ⟨f, each⟩ : ∃ f : Nat → Bool, ∀ i, i < x1 → W.cell? (a.add (i * 1)) = some (.bool (f i)) := ⟨fun i => Classical.choose (each i), fun i => Classical.choose_spec (each i)⟩
    refine ⟨some a, x1, x2, f, rfl, fun h0 => ?_, .inr ⟨_, _, (Prod.mk.inj hx).1, by rw [List.length_map, hlen]⟩⟩
    have f0 := each 0 h0
    obtain ⟨b, off, spot⟩ := a
    have hspot : spot = none := by simpa [Addr.add] using World.cell?_spot f0
    subst hspot
    have add_plain' : ∀ b off j : Nat, (⟨b, off, none⟩ : Addr).add j = ⟨b, off + j, none⟩ := fun b off j => by unfold Addr.add; split <;> simp_all
    have hlt : b < W.heap.size := by
      rw [add_plain'] at f0
      exact World.block_lt_of_cell? W _ f0
    refine ⟨b, off, rfl, hlt, fun i hi => ?_⟩
    have f0 := each i hi
    rw [add_plain', Nat.mul_one] at f0
    exact f0
end
theorem bytesBool : Try.prog.bytesOf 4 = 1 := by kernel_rfl
end Go.Proofs.Ytbifgmamjdniaaa
