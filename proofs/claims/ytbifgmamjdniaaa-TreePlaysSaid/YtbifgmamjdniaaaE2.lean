/- A slice of what is to be done, opened. -/
import Derived.Test.YtbifgmamjdniaaaE1
import Derived.Test.YtbifgmamjdniaaaR6
namespace Go.Proofs.Ytbifgmamjdniaaa
open Go.ChangeShapes Go.WideShapes Go.ChangeAt Go.RowKit
open Itree (E)
section
variable {H : Type} {enc : TypeId × Value → H} {W : World} {base : Nat} {held : Bool} {v : Value} {d : DataW H} {p : List MemPlace}
set_option maxRecDepth 100000 in
theorem open_acts {sp : Nat → Bool} {r : Reach} {b0 : Nat} (hv : Value.okWide Try.prog W r b0 22 v) (h : DataW.Trod enc Try.prog W base sp held 22 v d p) : ∃ B n c f, v = .slice B n c ∧ AAt W B n f := by
  obtain ⟨x0, x1, x2, rfl⟩ := okWide_slice Try.underlying22 hv
  obtain ⟨fuel, hf⟩ := h
  rcases DataW.trod_slice Try.underlying22 hf with ⟨e, _⟩ | ⟨a, len, cap, elems, rest, n, _, e, _, _, _, _, hlen, hg, _, _⟩
  · simp [Value.cells] at e
    obtain ⟨rfl, rfl, rfl⟩ := e
    exact ⟨none, 0, 0, fun _ => (0, ⟨0, 0, 0⟩), rfl, fun h0 => absurd h0 (by simp)⟩
  · simp [Value.cells] at e
    obtain ⟨rfl, rfl, rfl⟩ := e
    have hC : Try.prog.cellsOf 34 = 4 := by kernel_rfl
    rw [hC] at hg
    have k0 : Try.prog.cellsOf 3 = 1 := by kernel_rfl
    have k1 : Try.prog.cellsOf 30 = 1 := by kernel_rfl
    have k2 : Try.prog.cellsOf 32 = 2 := by kernel_rfl
    have each : ∀ i, ∃ q : Int × E, i < x1 → W.cell? (a.add (i * 4)) = some (.int .i64 q.1) ∧ W.cell? ((a.add (i * 4)).add 1) = some (.int .u64 q.2.a) ∧ W.cell? ((a.add (i * 4)).add 2) = some (.int .u64 q.2.b) ∧ W.cell? ((a.add (i * 4)).add 3) = some (.int .u64 q.2.n) ∧ 0 ≤ q.2.a ∧ 0 ≤ q.2.n ∧ q.2.n ≤ 18446744073709551615 := fun i => by
      by_cases hi : i < x1
      · have h1 := hg i hi
        rw [List.getElem?_eq_getElem (by omega), Option.bind_eq_some_iff] at h1
        obtain ⟨cs, hcs, ht⟩ := h1
        obtain ⟨_, hl, hcell⟩ := World.cells?_some hcs
        match cs, hl, hcell, ht with
        | [c0, c1, c2, c3], _, hcell, ht =>
          obtain ⟨xs, n', _, _, _, hlen', hg'⟩ := DataW.trod_struct Try.underlying34 ht
          match xs, hlen', hg' with
          | [y0, y1, y2], _, hg' =>
            have g0 : DataW.trod enc Try.prog W base sp held n' 3 (([c0, c1, c2, c3].drop 0).take (Try.prog.cellsOf 3)) = some y0 := hg' 0 _ rfl
            have g1 : DataW.trod enc Try.prog W base sp held n' 32 (([c0, c1, c2, c3].drop 1).take (Try.prog.cellsOf 32)) = some y1 := hg' 1 _ rfl
            have g2 : DataW.trod enc Try.prog W base sp held n' 30 (([c0, c1, c2, c3].drop 3).take (Try.prog.cellsOf 30)) = some y2 := hg' 2 _ rfl
            rw [k0] at g0
            rw [k1] at g2
            rw [k2] at g1
            have g1' : DataW.trod enc Try.prog W base sp held n' 32 [c1, c2] = some y1 := g1
            obtain ⟨us, n'', _, _, _, hlen'', hg''⟩ := DataW.trod_struct Try.underlying32 g1'
            match us, hlen'', hg'' with
            | [u0, u1], _, hg'' =>
              have f0 : DataW.trod enc Try.prog W base sp held n'' 30 (([c1, c2].drop 0).take (Try.prog.cellsOf 30)) = some u0 := hg'' 0 _ rfl
              have f1 : DataW.trod enc Try.prog W base sp held n'' 30 (([c1, c2].drop 1).take (Try.prog.cellsOf 30)) = some u1 := hg'' 1 _ rfl
              rw [k1] at f0 f1
              obtain ⟨z0, e0, _, _⟩ := DataW.trod_int Try.underlying3 g0
              obtain ⟨z1, e1, _, w1⟩ := DataW.trod_int Try.underlying30 f0
              obtain ⟨z2, e2, _, w2⟩ := DataW.trod_int Try.underlying30 f1
              obtain ⟨z3, e3, _, w3⟩ := DataW.trod_int Try.underlying30 g2
              simp at e0 e1 e2 e3
              subst e0 e1 e2 e3
              have d0 := hcell 0 (by omega)
              have d1 := hcell 1 (by omega)
              have d2 := hcell 2 (by omega)
              have d3 := hcell 3 (by omega)
              exact ⟨(z0, ⟨z1, z2, z3⟩), fun _ => ⟨by simpa [Addr.add] using d0, by simpa using d1, by simpa using d2, by simpa using d3, (word_fits w1).1, (word_fits w3).1, (word_fits w3).2⟩⟩
      · exact ⟨(0, ⟨0, 0, 0⟩), fun h => absurd h hi⟩
    obtain ⟨f, each⟩ : ∃ f : Nat → Int × E, ∀ i, i < x1 → W.cell? (a.add (i * 4)) = some (.int .i64 (f i).1) ∧ W.cell? ((a.add (i * 4)).add 1) = some (.int .u64 (f i).2.a) ∧ W.cell? ((a.add (i * 4)).add 2) = some (.int .u64 (f i).2.b) ∧ W.cell? ((a.add (i * 4)).add 3) = some (.int .u64 (f i).2.n) ∧ 0 ≤ (f i).2.a ∧ 0 ≤ (f i).2.n ∧ (f i).2.n ≤ 18446744073709551615 := ⟨fun i => Classical.choose (each i), fun i => Classical.choose_spec (each i)⟩
    refine ⟨some a, x1, x2, f, rfl, fun h0 => ?_⟩
    obtain ⟨f0, _⟩ := each 0 h0
    obtain ⟨b, off, spot⟩ := a
    have hspot : spot = none := by simpa [Addr.add] using World.cell?_spot f0
    subst hspot
    have hlt : b < W.heap.size := by
      rw [add_plain] at f0
      exact World.block_lt_of_cell? W _ f0
    refine ⟨b, off, rfl, hlt, fun i hi => ?_⟩
    obtain ⟨f0, f1, f2, f3, f4⟩ := each i hi
    rw [add_plain] at f0
    rw [add_plain, add_plain] at f1 f2 f3
    exact ⟨f0, f1, f2, f3, f4⟩
end
end Go.Proofs.Ytbifgmamjdniaaa
