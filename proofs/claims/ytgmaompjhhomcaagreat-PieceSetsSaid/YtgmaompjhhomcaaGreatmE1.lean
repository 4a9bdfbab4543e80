/- Arguments opened: puts, and slices of them; what the seat's program owns. -/
import Derived.Test.YtgmaompjhhomcaaGreatmG47
namespace Go.Proofs.YtgmaompjhhomcaaGreat
open Go.ChangeShapes Go.WideShapes Go.ChangeAt Go.RowKit
theorem piece_own : ownKnob Tryz.prog.godebug = none := by kernel_rfl
theorem piece_out : laidOutB Tryz.prog = true := by kernel_rfl
theorem u64_nat {x : Int} (h : (Lit.int .u64 x).wf = true) : ∃ n : Nat, x = (n : Int) ∧ n < 18446744073709551616 := by
  have : 0 ≤ x ∧ x ≤ 18446744073709551615 := by simpa [Lit.wf, IntKind.min, IntKind.max, IntKind.signed, IntKind.bits] using h
  exact ⟨x.toNat, by omega, by omega⟩
section
set_option maxRecDepth 100000
variable {H : Type} {enc : TypeId × Value → H} {W : World} {base b0 : Nat} {sp : Nat → Bool} {held : Bool} {r : Reach} {v : Value} {d : DataW H} {p : List MemPlace}
/-- The five cells of a value. -/
theorem trod_value {n : Nat} {x : DataW H × List MemPlace} {c0 c1 c2 c3 c4 : Value} (hf : DataW.trod enc Tryz.prog W base sp held n 28 [c0, c1, c2, c3, c4] = some x) :
    ∃ v : VP, [c0, c1, c2, c3, c4] = [.int .i64 v.k, .bool v.b, .int .i64 v.n, .float .f64 v.f, .string v.s] ∧ v.wide := by
  obtain ⟨xs, n, _, _, _, hlen, hg⟩ := DataW.trod_struct Tryz.underlying28 hf
  have k_bool : Tryz.prog.cellsOf 4 = 1 := by kernel_rfl
  have k_float64 : Tryz.prog.cellsOf 26 = 1 := by kernel_rfl
  have k_int : Tryz.prog.cellsOf 3 = 1 := by kernel_rfl
  have k_int64 : Tryz.prog.cellsOf 2 = 1 := by kernel_rfl
  have k_string : Tryz.prog.cellsOf 9 = 1 := by kernel_rfl
  match xs, hlen, hg with
  | [y0, y1, y2, y3, y4], _, hg =>
    have g0 : DataW.trod enc Tryz.prog W base sp held n 3 (([c0, c1, c2, c3, c4].drop 0).take (Tryz.prog.cellsOf 3)) = some y0 := hg 0 _ rfl
    rw [k_int] at g0
    have g1 : DataW.trod enc Tryz.prog W base sp held n 4 (([c0, c1, c2, c3, c4].drop 1).take (Tryz.prog.cellsOf 4)) = some y1 := hg 1 _ rfl
    rw [k_bool] at g1
    have g2 : DataW.trod enc Tryz.prog W base sp held n 2 (([c0, c1, c2, c3, c4].drop 2).take (Tryz.prog.cellsOf 2)) = some y2 := hg 2 _ rfl
    rw [k_int64] at g2
    have g3 : DataW.trod enc Tryz.prog W base sp held n 26 (([c0, c1, c2, c3, c4].drop 3).take (Tryz.prog.cellsOf 26)) = some y3 := hg 3 _ rfl
    rw [k_float64] at g3
    have g4 : DataW.trod enc Tryz.prog W base sp held n 9 (([c0, c1, c2, c3, c4].drop 4).take (Tryz.prog.cellsOf 9)) = some y4 := hg 4 _ rfl
    rw [k_string] at g4
    obtain ⟨z0, e0, _, w0⟩ := DataW.trod_int Tryz.underlying3 g0
    obtain ⟨z1, e1, _⟩ := DataW.trod_bool Tryz.underlying4 g1
    obtain ⟨z2, e2, _, w2⟩ := DataW.trod_int Tryz.underlying2 g2
    obtain ⟨z3, e3, w3⟩ := trod_float_any Tryz.underlying26 g3
    obtain ⟨z4, e4, _, w4⟩ := DataW.trod_string Tryz.underlying9 g4
    simp at e0 e1 e2 e3 e4
    subst e0 e1 e2 e3 e4
    exact ⟨⟨z0, z1, z2, z3, z4⟩, rfl, i64_fits w0, i64_fits w2, w3, w4⟩
theorem trod_period {n : Nat} {x : DataW H × List MemPlace} {c0 c1 : Value} (hf : DataW.trod enc Tryz.prog W base sp held n 25 [c0, c1] = some x) :
    ∃ a b : Nat, [c0, c1] = [.int .u64 (a : Int), .int .u64 (b : Int)] ∧ a < 18446744073709551616 ∧ b < 18446744073709551616 := by
  obtain ⟨xs, n, _, _, _, hlen, hg⟩ := DataW.trod_struct Tryz.underlying25 hf
  have k_uint64 : Tryz.prog.cellsOf 23 = 1 := by kernel_rfl
  match xs, hlen, hg with
  | [y0, y1], _, hg =>
    have g0 : DataW.trod enc Tryz.prog W base sp held n 23 (([c0, c1].drop 0).take (Tryz.prog.cellsOf 23)) = some y0 := hg 0 _ rfl
    rw [k_uint64] at g0
    have g1 : DataW.trod enc Tryz.prog W base sp held n 23 (([c0, c1].drop 1).take (Tryz.prog.cellsOf 23)) = some y1 := hg 1 _ rfl
    rw [k_uint64] at g1
    obtain ⟨z0, e0, _, w0⟩ := DataW.trod_int Tryz.underlying23 g0
    obtain ⟨z1, e1, _, w1⟩ := DataW.trod_int Tryz.underlying23 g1
    simp at e0 e1
    obtain ⟨n0, rfl, l0⟩ := u64_nat w0
    obtain ⟨n1, rfl, l1⟩ := u64_nat w1
    subst e0 e1
    exact ⟨n0, n1, rfl, l0, l1⟩
/-- The seven cells of a put. -/
theorem trod_put {n : Nat} {x : DataW H × List MemPlace} {c0 c1 c2 c3 c4 c5 c6 : Value} (hf : DataW.trod enc Tryz.prog W base sp held n 64 [c0, c1, c2, c3, c4, c5, c6] = some x) :
    ∃ o : Pie, [c0, c1, c2, c3, c4, c5, c6] = (Pie.cells o).toList ∧ o.v.wide ∧ 0 ≤ o.a ∧ 0 ≤ o.b := by
  obtain ⟨xs, n, _, _, _, hlen, hg⟩ := DataW.trod_struct Tryz.underlying64 hf
  have k_p : Tryz.prog.cellsOf 25 = 2 := by kernel_rfl
  have k_v : Tryz.prog.cellsOf 28 = 5 := by kernel_rfl
  match xs, hlen, hg with
  | [y0, y1], _, hg =>
    have g0 : DataW.trod enc Tryz.prog W base sp held n 25 (([c0, c1, c2, c3, c4, c5, c6].drop 0).take (Tryz.prog.cellsOf 25)) = some y0 := hg 0 _ rfl
    rw [k_p] at g0
    have g1 : DataW.trod enc Tryz.prog W base sp held n 28 (([c0, c1, c2, c3, c4, c5, c6].drop 2).take (Tryz.prog.cellsOf 28)) = some y1 := hg 1 _ rfl
    rw [k_v] at g1
    obtain ⟨a, b, e0, wa, wb⟩ := trod_period g0
    obtain ⟨z, e1, w1⟩ := trod_value g1
    simp at e0 e1
    obtain ⟨e00, e01⟩ := e0
    obtain ⟨e10, e11, e12, e13, e14⟩ := e1
    subst e00 e01 e10 e11 e12 e13 e14
    exact ⟨⟨a, b, z⟩, rfl, w1, by show (0 : Int) ≤ (a : Int); omega, by show (0 : Int) ≤ (b : Int); omega⟩
theorem open_put (hv : Value.okWide Tryz.prog W r b0 64 v) (h : DataW.Trod enc Tryz.prog W base sp held 64 v d p) : ∃ u : Pie, v = Pie.val u ∧ u.v.wide ∧ 0 ≤ u.a ∧ 0 ≤ u.b := by
  obtain ⟨cs, rfl, hsz⟩ := okWide_struct Tryz.underlying64 hv
  have hC : Tryz.prog.cellsOf 64 = 7 := by kernel_rfl
  obtain ⟨l⟩ := cs
  match l, hsz.trans hC with
  | [c0, c1, c2, c3, c4, c5, c6], _ =>
    obtain ⟨fuel, hf⟩ := h
    obtain ⟨u, e, hw⟩ := trod_put (c0 := c0) (c1 := c1) (c2 := c2) (c3 := c3) (c4 := c4) (c5 := c5) (c6 := c6) hf
    exact ⟨u, by rw [e], hw⟩
def goodIn (o : Pie) : Prop := o.v.wide ∧ 0 ≤ o.a ∧ 0 ≤ o.b
/-- The cells of a slice of puts. -/
theorem puts_in {n : Nat} {cs : List Value} {y : DataW H × List MemPlace} (hf : DataW.trod enc Tryz.prog W base sp held n 61 cs = some y) :
    ∃ (A : Option Addr) (c : Nat) (l : List Pie), cs = [.slice A l.length c] ∧ LAt W A l ∧ l.length ≤ 9223372036854775807 ∧ ∀ o ∈ l, goodIn o := by
  rcases DataW.trod_slice Tryz.underlying61 hf with ⟨e, _⟩ | ⟨a, len, cap, elems, rest, n, g1, e, g2, g3, g4, g5, hlen, hg, _, _⟩
  · exact ⟨none, 0, [], e, fun h0 => absurd h0 (by simp), by simp, fun o ho => by simp at ho⟩
  · have hC : Tryz.prog.cellsOf 64 = 7 := by kernel_rfl
    rw [hC] at hg
    have each : ∀ i, ∃ o : Pie, i < len → (∀ j u, (Pie.cells o).toList[j]? = some u → W.cell? ((a.add (i * 7)).add j) = some u) ∧ goodIn o := fun i => by
      by_cases hi : i < len
      · have h1 := hg i hi
        rw [List.getElem?_eq_getElem (by omega), Option.bind_eq_some_iff] at h1
        obtain ⟨cs, hcs, ht⟩ := h1
        obtain ⟨_, hl, hcell⟩ := World.cells?_some hcs
        match cs, hl, hcell, ht with
        | [c0, c1, c2, c3, c4, c5, c6], _, hcell, ht =>
          obtain ⟨o, e, hw⟩ := trod_put (c0 := c0) (c1 := c1) (c2 := c2) (c3 := c3) (c4 := c4) (c5 := c5) (c6 := c6) ht
          refine ⟨o, fun _ => ⟨fun j u hu => ?_, hw⟩⟩
          have hj : j < 7 := (List.getElem?_eq_some_iff.1 hu).1
          rw [hcell j hj, e]
          exact hu
      · exact ⟨⟨0, 0, VP.none⟩, fun h => absurd h hi⟩
    obtain ⟨f, each⟩ : ∃ f : Nat → Pie, ∀ i, i < len → (∀ j u, (Pie.cells (f i)).toList[j]? = some u → W.cell? ((a.add (i * 7)).add j) = some u) ∧ goodIn (f i) := ⟨fun i => Classical.choose (each i), fun i => Classical.choose_spec (each i)⟩
    have hlen2 : ((List.range len).map f).length = len := by simp
    refine ⟨some a, cap, (List.range len).map f, by rw [hlen2]; exact e, fun h0 => ?_, by rw [hlen2]; unfold maxLen at *; omega, fun o ho => ?_⟩
    · rw [hlen2] at h0
      obtain ⟨b, off, spot⟩ := a
      have f0 := (each 0 h0).1 0 (.int .u64 (f 0).a) rfl
      have hspot : spot = none := by simpa [Addr.add] using World.cell?_spot f0
      subst hspot
      have hlt : b < W.heap.size := by
        rw [add_plain, add_plain] at f0
        exact World.block_lt_of_cell? W _ f0
      refine ⟨b, off, rfl, hlt, fun i hi j u hu => ?_⟩
      rw [hlen2] at hi
      have := (each i hi).1 j u (by simpa using hu)
      rwa [add_plain, add_plain] at this
    · obtain ⟨i, hi, rfl⟩ := List.mem_map.1 ho
      exact (each i (List.mem_range.1 hi)).2
theorem open_puts (hv : Value.okWide Tryz.prog W r b0 61 v) (h : DataW.Trod enc Tryz.prog W base sp held 61 v d p) : ∃ l : List Pie, SL W v l ∧ ∀ o ∈ l, goodIn o := by
  obtain ⟨x0, x1, x2, rfl⟩ := okWide_slice Tryz.underlying61 hv
  obtain ⟨fuel, hf⟩ := h
  obtain ⟨A, c, l, e, h1, h2, h3⟩ := puts_in hf
  simp [Value.cells] at e
  obtain ⟨rfl, rfl, rfl⟩ := e
  exact ⟨l, ⟨_, _, rfl, h1, h2⟩, h3⟩
theorem open_u64 (hv : Value.okWide Tryz.prog W r b0 23 v) (h : DataW.Trod enc Tryz.prog W base sp held 23 v d p) : ∃ n : Nat, v = .int .u64 (n : Int) := by
  obtain ⟨fuel, hf⟩ := h
  obtain ⟨x, rfl⟩ := okWide_int Tryz.underlying23 hv
  obtain ⟨z, e, _, w⟩ := DataW.trod_int Tryz.underlying23 hf
  simp [Value.cells] at e
  subst e
  obtain ⟨n, rfl, _⟩ := u64_nat w
  exact ⟨n, rfl⟩
end
end Go.Proofs.YtgmaompjhhomcaaGreat

