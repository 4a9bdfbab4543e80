/- Arguments opened: an operation; what the seat's program owns. -/
import Derived.Test.YtchklaepilcbbaaGreatH1
import Derived.Test.YtchklaepilcbbaaGreatmY4
namespace Go.Proofs.YtchklaepilcbbaaGreat
open Go.ChangeShapes Go.WideShapes Go.ChangeAt Go.RowKit
theorem codec_own : ownKnob Tryz.prog.godebug = none := by kernel_rfl
theorem codec_out : laidOutB Tryz.prog = true := by kernel_rfl
theorem u64_nat {x : Int} (h : (Lit.int .u64 x).wf = true) : ∃ n : Nat, x = (n : Int) ∧ n < 18446744073709551616 := by
  have : 0 ≤ x ∧ x ≤ 18446744073709551615 := by simpa [Lit.wf, IntKind.min, IntKind.max, IntKind.signed, IntKind.bits] using h
  exact ⟨x.toNat, by omega, by omega⟩
section
set_option maxRecDepth 100000
variable {H : Type} {enc : TypeId × Value → H} {W : World} {base b0 : Nat} {sp : Nat → Bool} {held : Bool} {r : Reach} {v : Value} {d : DataW H} {p : List MemPlace}
/-- The five cells of a value. -/
theorem trod_value {n : Nat} {x : DataW H × List MemPlace} {c0 c1 c2 c3 c4 : Value} (hf : DataW.trod enc Tryz.prog W base sp held n 24 [c0, c1, c2, c3, c4] = some x) :
    ∃ v : VP, [c0, c1, c2, c3, c4] = [.int .i64 v.k, .bool v.b, .int .i64 v.n, .float .f64 v.f, .string v.s] ∧ v.wide := by
  obtain ⟨xs, n, _, _, _, hlen, hg⟩ := DataW.trod_struct Tryz.underlying24 hf
  have k_bool : Tryz.prog.cellsOf 4 = 1 := by kernel_rfl
  have k_float64 : Tryz.prog.cellsOf 22 = 1 := by kernel_rfl
  have k_int : Tryz.prog.cellsOf 3 = 1 := by kernel_rfl
  have k_int64 : Tryz.prog.cellsOf 2 = 1 := by kernel_rfl
  have k_string : Tryz.prog.cellsOf 9 = 1 := by kernel_rfl
  match xs, hlen, hg with
  | [y0, y1, y2, y3, y4], _, hg =>
    have g0 : DataW.trod enc Tryz.prog W base sp held n 3 (([c0, c1, c2, c3, c4].drop 0).take (Tryz.prog.cellsOf 3)) = some y0 := hg 0 _ rfl
    rw [k_int] at g0
    have g1 : DataW.trod enc Tryz.prog W base sp held n 4 (([c0, c1, c2, c3, c4].drop 1).take (Tryz.prog.cellsOf 4)) = some y1 := hg 1 _ rfl
    rw [k_bool] at g1
    have g2 : DataW.trod enc Tryz.prog W base sp held n 2 (([c0, c1, c2, c3, c4].drop 2).take (Tryz.prog.cellsOf 2)) = some y2 := hg 2 _ rfl
    rw [k_int64] at g2
    have g3 : DataW.trod enc Tryz.prog W base sp held n 22 (([c0, c1, c2, c3, c4].drop 3).take (Tryz.prog.cellsOf 22)) = some y3 := hg 3 _ rfl
    rw [k_float64] at g3
    have g4 : DataW.trod enc Tryz.prog W base sp held n 9 (([c0, c1, c2, c3, c4].drop 4).take (Tryz.prog.cellsOf 9)) = some y4 := hg 4 _ rfl
    rw [k_string] at g4
    obtain ⟨z0, e0, _, w0⟩ := DataW.trod_int Tryz.underlying3 g0
    obtain ⟨z1, e1, _⟩ := DataW.trod_bool Tryz.underlying4 g1
    obtain ⟨z2, e2, _, w2⟩ := DataW.trod_int Tryz.underlying2 g2
    obtain ⟨z3, e3, w3⟩ := trod_float_any Tryz.underlying22 g3
    obtain ⟨z4, e4, _, w4⟩ := DataW.trod_string Tryz.underlying9 g4
    simp at e0 e1 e2 e3 e4
    subst e0 e1 e2 e3 e4
    exact ⟨⟨z0, z1, z2, z3, z4⟩, rfl, i64_fits w0, i64_fits w2, w3, w4⟩
theorem trod_period {n : Nat} {x : DataW H × List MemPlace} {c0 c1 : Value} (hf : DataW.trod enc Tryz.prog W base sp held n 41 [c0, c1] = some x) :
    ∃ a b : Nat, [c0, c1] = [.int .u64 (a : Int), .int .u64 (b : Int)] ∧ a < 18446744073709551616 ∧ b < 18446744073709551616 := by
  obtain ⟨xs, n, _, _, _, hlen, hg⟩ := DataW.trod_struct Tryz.underlying41 hf
  have k_uint64 : Tryz.prog.cellsOf 39 = 1 := by kernel_rfl
  match xs, hlen, hg with
  | [y0, y1], _, hg =>
    have g0 : DataW.trod enc Tryz.prog W base sp held n 39 (([c0, c1].drop 0).take (Tryz.prog.cellsOf 39)) = some y0 := hg 0 _ rfl
    rw [k_uint64] at g0
    have g1 : DataW.trod enc Tryz.prog W base sp held n 39 (([c0, c1].drop 1).take (Tryz.prog.cellsOf 39)) = some y1 := hg 1 _ rfl
    rw [k_uint64] at g1
    obtain ⟨z0, e0, _, w0⟩ := DataW.trod_int Tryz.underlying39 g0
    obtain ⟨z1, e1, _, w1⟩ := DataW.trod_int Tryz.underlying39 g1
    simp at e0 e1
    obtain ⟨n0, rfl, l0⟩ := u64_nat w0
    obtain ⟨n1, rfl, l1⟩ := u64_nat w1
    subst e0 e1
    exact ⟨n0, n1, rfl, l0, l1⟩
/-- The fourteen cells of an operation. -/
theorem trod_op {n : Nat} {x : DataW H × List MemPlace} {c0 c1 c2 c3 c4 c5 c6 c7 c8 c9 c10 c11 c12 c13 : Value} (hf : DataW.trod enc Tryz.prog W base sp held n 43 [c0, c1, c2, c3, c4, c5, c6, c7, c8, c9, c10, c11, c12, c13] = some x) :
    ∃ o : OP, [c0, c1, c2, c3, c4, c5, c6, c7, c8, c9, c10, c11, c12, c13] = o.cells.toList ∧ o.wide := by
  obtain ⟨xs, n, _, _, _, hlen, hg⟩ := DataW.trod_struct Tryz.underlying43 hf
  have k_api_Period : Tryz.prog.cellsOf 41 = 2 := by kernel_rfl
  have k_api_Value : Tryz.prog.cellsOf 24 = 5 := by kernel_rfl
  have k_bool : Tryz.prog.cellsOf 4 = 1 := by kernel_rfl
  have k_int : Tryz.prog.cellsOf 3 = 1 := by kernel_rfl
  have k_string : Tryz.prog.cellsOf 9 = 1 := by kernel_rfl
  have k_uint64 : Tryz.prog.cellsOf 39 = 1 := by kernel_rfl
  match xs, hlen, hg with
  | [y0, y1, y2, y3, y4, y5, y6, y7, y8], _, hg =>
    have g0 : DataW.trod enc Tryz.prog W base sp held n 3 (([c0, c1, c2, c3, c4, c5, c6, c7, c8, c9, c10, c11, c12, c13].drop 0).take (Tryz.prog.cellsOf 3)) = some y0 := hg 0 _ rfl
    rw [k_int] at g0
    have g1 : DataW.trod enc Tryz.prog W base sp held n 4 (([c0, c1, c2, c3, c4, c5, c6, c7, c8, c9, c10, c11, c12, c13].drop 1).take (Tryz.prog.cellsOf 4)) = some y1 := hg 1 _ rfl
    rw [k_bool] at g1
    have g2 : DataW.trod enc Tryz.prog W base sp held n 39 (([c0, c1, c2, c3, c4, c5, c6, c7, c8, c9, c10, c11, c12, c13].drop 2).take (Tryz.prog.cellsOf 39)) = some y2 := hg 2 _ rfl
    rw [k_uint64] at g2
    have g3 : DataW.trod enc Tryz.prog W base sp held n 9 (([c0, c1, c2, c3, c4, c5, c6, c7, c8, c9, c10, c11, c12, c13].drop 3).take (Tryz.prog.cellsOf 9)) = some y3 := hg 3 _ rfl
    rw [k_string] at g3
    have g4 : DataW.trod enc Tryz.prog W base sp held n 39 (([c0, c1, c2, c3, c4, c5, c6, c7, c8, c9, c10, c11, c12, c13].drop 4).take (Tryz.prog.cellsOf 39)) = some y4 := hg 4 _ rfl
    rw [k_uint64] at g4
    have g5 : DataW.trod enc Tryz.prog W base sp held n 39 (([c0, c1, c2, c3, c4, c5, c6, c7, c8, c9, c10, c11, c12, c13].drop 5).take (Tryz.prog.cellsOf 39)) = some y5 := hg 5 _ rfl
    rw [k_uint64] at g5
    have g6 : DataW.trod enc Tryz.prog W base sp held n 9 (([c0, c1, c2, c3, c4, c5, c6, c7, c8, c9, c10, c11, c12, c13].drop 6).take (Tryz.prog.cellsOf 9)) = some y6 := hg 6 _ rfl
    rw [k_string] at g6
    have g7 : DataW.trod enc Tryz.prog W base sp held n 24 (([c0, c1, c2, c3, c4, c5, c6, c7, c8, c9, c10, c11, c12, c13].drop 7).take (Tryz.prog.cellsOf 24)) = some y7 := hg 7 _ rfl
    rw [k_api_Value] at g7
    have g8 : DataW.trod enc Tryz.prog W base sp held n 41 (([c0, c1, c2, c3, c4, c5, c6, c7, c8, c9, c10, c11, c12, c13].drop 12).take (Tryz.prog.cellsOf 41)) = some y8 := hg 8 _ rfl
    rw [k_api_Period] at g8
    obtain ⟨z0, e0, _, w0⟩ := DataW.trod_int Tryz.underlying3 g0
    obtain ⟨z1, e1, _⟩ := DataW.trod_bool Tryz.underlying4 g1
    obtain ⟨z2, e2, _, w2⟩ := DataW.trod_int Tryz.underlying39 g2
    obtain ⟨z3, e3, _, w3⟩ := DataW.trod_string Tryz.underlying9 g3
    obtain ⟨z4, e4, _, w4⟩ := DataW.trod_int Tryz.underlying39 g4
    obtain ⟨z5, e5, _, w5⟩ := DataW.trod_int Tryz.underlying39 g5
    obtain ⟨z6, e6, _, w6⟩ := DataW.trod_string Tryz.underlying9 g6
    obtain ⟨z7, e7, w7⟩ := trod_value g7
    obtain ⟨a, b, e8, wa, wb⟩ := trod_period g8
    simp at e0 e1 e2 e3 e4 e5 e6 e7 e8
    obtain ⟨n2, rfl, l2⟩ := u64_nat w2
    obtain ⟨n4, rfl, l4⟩ := u64_nat w4
    obtain ⟨n5, rfl, l5⟩ := u64_nat w5
    obtain ⟨e70, e71, e72, e73, e74⟩ := e7
    obtain ⟨e80, e81⟩ := e8
    subst e0 e1 e2 e3 e4 e5 e6 e70 e71 e72 e73 e74 e80 e81
    exact ⟨⟨z0, z1, n2, z3, n4, n5, z6, z7, a, b⟩, rfl, i64_fits w0, l2, w3, l4, l5, w6, w7, wa, wb⟩
theorem open_val (hv : Value.okWide Tryz.prog W r b0 24 v) (h : DataW.Trod enc Tryz.prog W base sp held 24 v d p) : ∃ u : VP, v = u.val ∧ u.wide := by
  obtain ⟨cs, rfl, hsz⟩ := okWide_struct Tryz.underlying24 hv
  have hC : Tryz.prog.cellsOf 24 = 5 := by kernel_rfl
  obtain ⟨l⟩ := cs
  match l, hsz.trans hC with
  | [c0, c1, c2, c3, c4], _ =>
    obtain ⟨fuel, hf⟩ := h
    obtain ⟨u, e, hw⟩ := trod_value (c0 := c0) (c1 := c1) (c2 := c2) (c3 := c3) (c4 := c4) hf
    exact ⟨u, by rw [e], hw⟩
theorem open_op (hv : Value.okWide Tryz.prog W r b0 43 v) (h : DataW.Trod enc Tryz.prog W base sp held 43 v d p) : ∃ o : OP, v = o.val ∧ o.wide := by
  obtain ⟨cs, rfl, hsz⟩ := okWide_struct Tryz.underlying43 hv
  have hC : Tryz.prog.cellsOf 43 = 14 := by kernel_rfl
  obtain ⟨l⟩ := cs
  match l, hsz.trans hC with
  | [c0, c1, c2, c3, c4, c5, c6, c7, c8, c9, c10, c11, c12, c13], _ =>
    obtain ⟨fuel, hf⟩ := h
    obtain ⟨u, e, hw⟩ := trod_op (c0 := c0) (c1 := c1) (c2 := c2) (c3 := c3) (c4 := c4) (c5 := c5) (c6 := c6) (c7 := c7) (c8 := c8) (c9 := c9) (c10 := c10) (c11 := c11) (c12 := c12) (c13 := c13) hf
    exact ⟨u, by rw [e], hw⟩
end
end Go.Proofs.YtchklaepilcbbaaGreat
