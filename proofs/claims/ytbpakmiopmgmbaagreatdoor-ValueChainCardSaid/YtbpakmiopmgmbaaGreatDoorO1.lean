/- Arguments opened: what a value of each parameter's type is made of. -/
import Derived.Test.YtbpakmiopmgmbaaGreatDoorD1
import Derived.Test.YtbpakmiopmgmbaaGreatDoorA3
import Derived.Lib.SmallJoins
import Derived.Laws.Cover2
namespace Go.Proofs.YtbpakmiopmgmbaaGreatDoor
open Go.ChangeShapes Go.WideShapes Go.RowKit

theorem i64_fits {x : Int} (h : (Lit.int .i64 x).wf = true) : fits x := by
  unfold fits
  simpa [Lit.wf, IntKind.min, IntKind.max, IntKind.signed, IntKind.bits] using h
theorem u16_fits {x : Int} (h : (Lit.int .u16 x).wf = true) : 0 ≤ x ∧ x ≤ 65535 := by
  simpa [Lit.wf, IntKind.min, IntKind.max, IntKind.signed, IntKind.bits] using h
theorem f64_fits {b : Nat} (h : (Lit.float .f64 b).wf = true) : b < 18446744073709551616 := by
  simpa [Lit.wf] using h
theorem trod_float_any {H : Type} {enc : TypeId × Value → H} {P : Program} {W : World} {base : Nat} {sp : Nat → Bool} {held : Bool} {n : Nat} {t : TypeId} {cs : List Value} {x : DataW H × List MemPlace} (ht : P.underlying t = some (.float .f64))
    (h : DataW.trod enc P W base sp held n t cs = some x) : ∃ b : Nat, cs = [.float .f64 b] ∧ b < 18446744073709551616 := by
  cases n with
  | zero => simp [DataW.trod] at h
  | succ n =>
    unfold DataW.trod at h
    rw [ht] at h
    split at h
    all_goals first | (simp_all; done) | skip
    rename_i k k' b heq
    obtain rfl : FloatKind.f64 = k := by simpa using heq
    by_cases e : k' = FloatKind.f64 ∧ (Lit.float .f64 b).wf = true
    · obtain ⟨rfl, e2⟩ := e
      exact ⟨_, rfl, f64_fits e2⟩
    · rw [if_neg e] at h; cases h
/-- A value that came in: its five fields lie in their ranges. -/
def WideV (k n : Int) (f : Nat) (s : ByteArray) : Prop := fits k ∧ fits n ∧ f < 18446744073709551616 ∧ s.size ≤ maxLen
/-- Five numbers that came in. -/
def WideF (a b c : Nat) (n m : Int) : Prop := a < 18446744073709551616 ∧ b < 18446744073709551616 ∧ c < 18446744073709551616 ∧ fits n ∧ fits m
section
variable {H : Type} {enc : TypeId × Value → H} {W : World} {base b0 : Nat} {sp : Nat → Bool} {held : Bool} {r : Reach} {v : Value} {d : DataW H} {p : List MemPlace}
set_option maxRecDepth 100000 in
theorem open_value (hv : Value.okWide Tryz.prog W r b0 24 v) (h : DataW.Trod enc Tryz.prog W base sp held 24 v d p) :
    ∃ (k : Int) (b : Bool) (n : Int) (f : Nat) (s : ByteArray), v = .agg #[.int .i64 k, .bool b, .int .i64 n, .float .f64 f, .string s] ∧ WideV k n f s := by
  obtain ⟨cs, rfl, hsz⟩ := okWide_struct Tryz.underlying24 hv
  have hC : Tryz.prog.cellsOf 24 = 5 := by kernel_rfl
  obtain ⟨l⟩ := cs
  match l, hsz.trans hC with
  | [c0, c1, c2, c3, c4], _ =>
    obtain ⟨fuel, hf⟩ := h
    obtain ⟨xs, n, _, _, _, hlen, hg⟩ := DataW.trod_struct Tryz.underlying24 hf
    have k0 : Tryz.prog.cellsOf 3 = 1 := by kernel_rfl
    have k1 : Tryz.prog.cellsOf 4 = 1 := by kernel_rfl
    have k2 : Tryz.prog.cellsOf 2 = 1 := by kernel_rfl
    have k3 : Tryz.prog.cellsOf 22 = 1 := by kernel_rfl
    have k4 : Tryz.prog.cellsOf 9 = 1 := by kernel_rfl
    match xs, hlen, hg with
    | [y0, y1, y2, y3, y4], _, hg =>
      have g0 : DataW.trod enc Tryz.prog W base sp held n 3 (([c0, c1, c2, c3, c4].drop 0).take (Tryz.prog.cellsOf 3)) = some y0 := hg 0 _ rfl
      have g1 : DataW.trod enc Tryz.prog W base sp held n 4 (([c0, c1, c2, c3, c4].drop 1).take (Tryz.prog.cellsOf 4)) = some y1 := hg 1 _ rfl
      have g2 : DataW.trod enc Tryz.prog W base sp held n 2 (([c0, c1, c2, c3, c4].drop 2).take (Tryz.prog.cellsOf 2)) = some y2 := hg 2 _ rfl
      have g3 : DataW.trod enc Tryz.prog W base sp held n 22 (([c0, c1, c2, c3, c4].drop 3).take (Tryz.prog.cellsOf 22)) = some y3 := hg 3 _ rfl
      have g4 : DataW.trod enc Tryz.prog W base sp held n 9 (([c0, c1, c2, c3, c4].drop 4).take (Tryz.prog.cellsOf 9)) = some y4 := hg 4 _ rfl
      rw [k0] at g0
      rw [k1] at g1
      rw [k2] at g2
      rw [k3] at g3
      rw [k4] at g4
      obtain ⟨z0, e0, _, w0⟩ := DataW.trod_int Tryz.underlying3 g0
      obtain ⟨z1, e1, _⟩ := DataW.trod_bool Tryz.underlying4 g1
      obtain ⟨z2, e2, _, w2⟩ := DataW.trod_int Tryz.underlying2 g2
      obtain ⟨z3, e3, w3⟩ := trod_float_any Tryz.underlying22 g3
      obtain ⟨z4, e4, _, w4⟩ := DataW.trod_string Tryz.underlying9 g4
      simp at e0 e1 e2 e3 e4
      subst e0 e1 e2 e3 e4
      exact ⟨z0, z1, z2, z3, z4, rfl, i64_fits w0, i64_fits w2, w3, w4⟩
end
/-- Where the cells of a slice of whole numbers lie, and what they hold. -/
def CellsAt (w : World) (A : Option Addr) (zs : List Int) : Prop := 0 < zs.length → ∃ b off, A = some ⟨b, off, none⟩ ∧ b < w.heap.size ∧ ∀ i, i < zs.length → w.cell? ⟨b, off + i, none⟩ = some (.int .i64 (zs.getD i 0))
theorem CellsAt.below {w w' : World} {A : Option Addr} {zs : List Int} (h : CellsAt w A zs) (hb : Below w.heap.size w w') : CellsAt w' A zs := fun h0 => by
  obtain ⟨b, off, e, hl, hc⟩ := h h0
  have hs := hb.size
  exact ⟨b, off, e, by omega, fun i hi => (hb.cell (p := ⟨b, off + i, none⟩) hl).trans (hc i hi)⟩
/-- A slice of whole numbers that came in. -/
def WideS (w : World) (A : Option Addr) (cap : Nat) (zs : List Int) : Prop := zs.length ≤ cap ∧ cap ≤ maxLen ∧ (∀ n ∈ zs, fits n) ∧ CellsAt w A zs ∧ (A = none → cap = 0)
end Go.Proofs.YtbpakmiopmgmbaaGreatDoor
