/- Arguments opened: periods, words, whole numbers. -/
import Derived.Test.YtbifgmamjdniaaaP1
import Derived.Test.YtbifgmamjdniaaaRows
import Derived.ProofKit
import Derived.Lib.SmallJoins
import Derived.Laws.Cover2
import Derived.Carry
import Derived.ChangeSlices
namespace Go.Proofs.Ytbifgmamjdniaaa
open Go.ChangeShapes Go.WideShapes Go.ChangeAt Go.RowKit
theorem per_own : ownKnob Try.prog.godebug = none := by kernel_rfl
theorem per_out : laidOutB Try.prog = true := by kernel_rfl
theorem word_fits {x : Int} (h : (Lit.int .u64 x).wf = true) : 0 ≤ x ∧ x ≤ 18446744073709551615 := by
  simpa [Lit.wf, IntKind.min, IntKind.max, IntKind.signed, IntKind.bits] using h
theorem int_fits {x : Int} (h : (Lit.int .i64 x).wf = true) : -9223372036854775808 ≤ x ∧ x ≤ 9223372036854775807 := by
  simpa [Lit.wf, IntKind.min, IntKind.max, IntKind.signed, IntKind.bits] using h
section
variable {H : Type} {enc : TypeId × Value → H} {W : World} {base b0 : Nat} {held : Bool} {r : Reach} {v : Value} {d : DataW H} {p : List MemPlace}
set_option maxRecDepth 100000 in
theorem open_per {sp : Nat → Bool} (hv : Value.okWide Try.prog W r b0 32 v) (h : DataW.Trod enc Try.prog W base sp held 32 v d p) :
    ∃ a b : Int, v = .agg #[.int .u64 a, .int .u64 b] ∧ (0 ≤ a ∧ a ≤ 18446744073709551615) ∧ (0 ≤ b ∧ b ≤ 18446744073709551615) := by
  obtain ⟨cs, rfl, hsz⟩ := okWide_struct Try.underlying32 hv
  have hC : Try.prog.cellsOf 32 = 2 := by kernel_rfl
  obtain ⟨l⟩ := cs
  match l, hsz.trans hC with
  | [c0, c1], _ =>
    obtain ⟨fuel, hf⟩ := h
    obtain ⟨xs, n, _, hx, _, hlen, hg⟩ := DataW.trod_struct Try.underlying32 hf
    have k0 : Try.prog.cellsOf 30 = 1 := by kernel_rfl
    match xs, hlen, hg, hx with
    | [y0, y1], _, hg, hx =>
      have g0 : DataW.trod enc Try.prog W base sp held n 30 (([c0, c1].drop 0).take (Try.prog.cellsOf 30)) = some y0 := hg 0 _ rfl
      have g1 : DataW.trod enc Try.prog W base sp held n 30 (([c0, c1].drop 1).take (Try.prog.cellsOf 30)) = some y1 := hg 1 _ rfl
      rw [k0] at g0 g1
      obtain ⟨z0, e0, _, w0⟩ := DataW.trod_int Try.underlying30 g0
      obtain ⟨z1, e1, _, w1⟩ := DataW.trod_int Try.underlying30 g1
      simp at e0 e1
      subst e0 e1
      exact ⟨z0, z1, rfl, word_fits w0, word_fits w1⟩
end
end Go.Proofs.Ytbifgmamjdniaaa
