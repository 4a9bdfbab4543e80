/- Small words for regions that draw their order. -/
/- Arguments opened: what a value of each parameter's type is made of. -/
/- num.Text(1.0) is 1.0, in every world whose tables are laid: a walk through strconv.FormatFloat. -/
/- num.Parse of 1e5 is the float 100000, in every world whose tables are laid: a walk through strconv.ParseFloat. -/
/- The statements' own test of being awake answers true, in every world whose tables are laid. -/
/- Whole numbers in two words of 64 bits, as the statement NumExact reckons with them. -/
import Derived.Test.YtgmaompjhhomcaaGreatmG10
import Derived.Deep.DeepCutAuto
import Derived.Deep.QuietTactic
import Derived.BigQuiet
import Derived.Deep.RegionHeld3
import Derived.Test.YtgmaompjhhomcaaGreatRows
import Derived.Lib.SmallJoins
import Derived.Laws.Cover2
import Derived.ProofKit
import Derived.Carry
import Derived.ChangeSlices
import Derived.Deep.Slices
import Derived.Test.YtgmaompjhhomcaaGreatmA4
namespace Go.Proofs.YtgmaompjhhomcaaGreat
open Go.RowKit
theorem quiet_l {P : Program} {f : FuncId} {args : Array Value} {w : World} {n : Nat} {v : Value}
    (h : Calls P f args (w.drewN n) fun e w' => e = .returned v ∧ w.drewN n = w') : Calls P f args (w.drewN n) fun e w' => e = .returned v ∧ ∃ m, w' = w.drewN m :=
  h.mono fun _ _ h => ⟨h.1, n, h.2.symm⟩
theorem quiet_l2 {P : Program} {f : FuncId} {args : Array Value} {w : World} {a n : Nat} {v : Value}
    (h : Calls P f args (w.drewN (a + n)) fun e w' => e = .returned v ∧ w.drewN (a + n) = w') : Calls P f args (w.drewN (a + n)) fun e w' => e = .returned v ∧ ∃ m, w' = (w.drewN a).drewN m :=
  h.mono fun _ _ h => ⟨h.1, n, by rw [← h.2, World.drewN_drewN]⟩
end Go.Proofs.YtgmaompjhhomcaaGreat

namespace Go.Proofs.YtgmaompjhhomcaaGreat
open Go.ChangeShapes Go.WideShapes Go.RowKit

theorem i64_fits {x : Int} (h : (Lit.int .i64 x).wf = true) : fits x := by
  unfold fits
  simpa [Lit.wf, IntKind.min, IntKind.max, IntKind.signed, IntKind.bits] using h
theorem u16_fits {x : Int} (h : (Lit.int .u16 x).wf = true) : 0 ≤ x ∧ x ≤ 65535 := by
  simpa [Lit.wf, IntKind.min, IntKind.max, IntKind.signed, IntKind.bits] using h
theorem f64_fits {b : Nat} (h : (Lit.float .f64 b).wf = true) : b < 18446744073709551616 := by
  simpa [Lit.wf] using h
theorem trod_float_any {H : Type} {enc : TypeId × Value → H} {P : Program} {W : World} {base : Nat} {sp : Nat → Bool} {held : Bool} {n : Nat} {t : TypeId} {cs : List Value} {x : DataW H × List MemPlace} (ht : P.underlying t = some (.float .f64))
    (h : DataW.trod enc P W base sp held n t cs = some x) : ∃ b : Nat, cs = [.float .f64 b] ∧ b < 18446744073709551616 := by
  cases n with
  | zero => simp [DataW.trod] at h
  | succ n =>
    unfold DataW.trod at h
    rw [ht] at h
    split at h
    all_goals first | (simp_all; done) | skip
    rename_i k k' b heq
    obtain rfl : FloatKind.f64 = k := by simpa using heq
    by_cases e : k' = FloatKind.f64 ∧ (Lit.float .f64 b).wf = true
    · obtain ⟨rfl, e2⟩ := e
      exact ⟨_, rfl, f64_fits e2⟩
    · rw [if_neg e] at h; cases h
/-- A value that came in: its five fields lie in their ranges. -/
def WideV (k n : Int) (f : Nat) (s : ByteArray) : Prop := fits k ∧ fits n ∧ f < 18446744073709551616 ∧ s.size ≤ maxLen
section
variable {H : Type} {enc : TypeId × Value → H} {W : World} {base b0 : Nat} {sp : Nat → Bool} {held : Bool} {r : Reach} {v : Value} {d : DataW H} {p : List MemPlace}
set_option maxRecDepth 100000 in
theorem open_value (hv : Value.okWide Tryz.prog W r b0 28 v) (h : DataW.Trod enc Tryz.prog W base sp held 28 v d p) :
    ∃ (k : Int) (b : Bool) (n : Int) (f : Nat) (s : ByteArray), v = .agg #[.int .i64 k, .bool b, .int .i64 n, .float .f64 f, .string s] ∧ WideV k n f s := by
  obtain ⟨cs, rfl, hsz⟩ := okWide_struct Tryz.underlying28 hv
  have hC : Tryz.prog.cellsOf 28 = 5 := by kernel_rfl
  obtain ⟨l⟩ := cs
  match l, hsz.trans hC with
  | [c0, c1, c2, c3, c4], _ =>
    obtain ⟨fuel, hf⟩ := h
    obtain ⟨xs, n, _, _, _, hlen, hg⟩ := DataW.trod_struct Tryz.underlying28 hf
    have k0 : Tryz.prog.cellsOf 3 = 1 := by kernel_rfl
    have k1 : Tryz.prog.cellsOf 4 = 1 := by kernel_rfl
    have k2 : Tryz.prog.cellsOf 2 = 1 := by kernel_rfl
    have k3 : Tryz.prog.cellsOf 26 = 1 := by kernel_rfl
    have k4 : Tryz.prog.cellsOf 9 = 1 := by kernel_rfl
    match xs, hlen, hg with
    | [y0, y1, y2, y3, y4], _, hg =>
      have g0 : DataW.trod enc Tryz.prog W base sp held n 3 (([c0, c1, c2, c3, c4].drop 0).take (Tryz.prog.cellsOf 3)) = some y0 := hg 0 _ rfl
      have g1 : DataW.trod enc Tryz.prog W base sp held n 4 (([c0, c1, c2, c3, c4].drop 1).take (Tryz.prog.cellsOf 4)) = some y1 := hg 1 _ rfl
      have g2 : DataW.trod enc Tryz.prog W base sp held n 2 (([c0, c1, c2, c3, c4].drop 2).take (Tryz.prog.cellsOf 2)) = some y2 := hg 2 _ rfl
      have g3 : DataW.trod enc Tryz.prog W base sp held n 26 (([c0, c1, c2, c3, c4].drop 3).take (Tryz.prog.cellsOf 26)) = some y3 := hg 3 _ rfl
      have g4 : DataW.trod enc Tryz.prog W base sp held n 9 (([c0, c1, c2, c3, c4].drop 4).take (Tryz.prog.cellsOf 9)) = some y4 := hg 4 _ rfl
      rw [k0] at g0
      rw [k1] at g1
      rw [k2] at g2
      rw [k3] at g3
      rw [k4] at g4
      obtain ⟨z0, e0, _, w0⟩ := DataW.trod_int Tryz.underlying3 g0
      obtain ⟨z1, e1, _⟩ := DataW.trod_bool Tryz.underlying4 g1
      obtain ⟨z2, e2, _, w2⟩ := DataW.trod_int Tryz.underlying2 g2
      obtain ⟨z3, e3, w3⟩ := trod_float_any Tryz.underlying26 g3
      obtain ⟨z4, e4, _, w4⟩ := DataW.trod_string Tryz.underlying9 g4
      simp at e0 e1 e2 e3 e4
      subst e0 e1 e2 e3 e4
      exact ⟨z0, z1, z2, z3, z4, rfl, i64_fits w0, i64_fits w2, w3, w4⟩
end
end Go.Proofs.YtgmaompjhhomcaaGreat

namespace Go.Proofs.YtgmaompjhhomcaaGreat
open Go.RowKit
set_option maxRecDepth 100000 in
set_option maxHeartbeats 1000000 in
theorem len64_a (w : World) :
    Calls Tryz.prog 186 #[.int .u64 1000000000000000] w fun e w' => e = .returned (.int .i64 50) ∧ w = w' := by
  obtain ⟨hw64, hand, hor, hiand⟩ := closedKit
  go_enter Tryz.func186, Tryz.ntmps186
  go_wp2
  go_ret
  exact ⟨by kernel_rfl, rfl⟩
set_option maxRecDepth 100000 in
set_option maxHeartbeats 1000000 in
theorem len64_b (w : World) :
    Calls Tryz.prog 186 #[.int .u64 4503599627370496] w fun e w' => e = .returned (.int .i64 53) ∧ w = w' := by
  obtain ⟨hw64, hand, hor, hiand⟩ := closedKit
  go_enter Tryz.func186, Tryz.ntmps186
  go_wp2
  go_ret
  exact ⟨by kernel_rfl, rfl⟩
theorem bytes1 (w : World) (b : Nat) (c : Int) (cap : Nat) (hc : w.cell? ⟨b, 0, none⟩ = some (.int .u8 c)) : (convert 106 9 (.slice (some ⟨b, 0, none⟩) 1 cap)).run Tryz.prog w = .ok (.string (strOfNums [c])) w := by
  refine run_convert_bytes_arg w 106 5 (by kernel_rfl) (by kernel_rfl) b 0 1 cap [c] rfl ?_ 9 (by kernel_rfl)
  intro i hi
  obtain rfl : i = 0 := by omega
  exact hc
end Go.Proofs.YtgmaompjhhomcaaGreat

namespace Go.Proofs.YtgmaompjhhomcaaGreat
open Go.RowKit
theorem below_bytes (w : World) (e : TypeId) (s : ByteArray) : Below w.heap.size w (Lib.bytesWorld w e s) :=
  ⟨rfl, rfl, rfl, by rw [Lib.bytesWorld_size]; omega, fun j hj => Lib.bytesWorld_at_old w e s j hj⟩
theorem cuts : (⟨#[101, 53]⟩ : ByteArray).extract 0 1 = ⟨#[101]⟩ ∧ (⟨#[101, 53]⟩ : ByteArray).extract 1 2 = ⟨#[53]⟩ ∧ (⟨#[49, 101, 53]⟩ : ByteArray).extract 0 1 = ⟨#[49]⟩ ∧ (⟨#[53]⟩ : ByteArray).extract 0 1 = ⟨#[53]⟩ ∧ (⟨#[49]⟩ : ByteArray).extract 0 1 = ⟨#[49]⟩ := by decide
end Go.Proofs.YtgmaompjhhomcaaGreat

namespace Go.Proofs.YtgmaompjhhomcaaGreat
open Go.RowKit

end Go.Proofs.YtgmaompjhhomcaaGreat

namespace Go.Proofs.YtgmaompjhhomcaaGreat
open Go.RowKit

/-- The low word, the high word, of a whole number's two's complement. -/
def W0 (z : Int) : Int := z % 18446744073709551616
def W1 (z : Int) : Int := z / 18446744073709551616 % 18446744073709551616
theorem W0_range (z : Int) : 0 ≤ W0 z ∧ W0 z < 18446744073709551616 := by unfold W0; omega
theorem W1_range (z : Int) : 0 ≤ W1 z ∧ W1 z < 18446744073709551616 := by unfold W1; omega
def fitB (z : Int) : Bool := decide (-9223372036854775808 ≤ z ∧ z ≤ 9223372036854775807)

theorem words_sum (x y : Int) : (W0 x + W0 y + 0) % 18446744073709551616 = W0 (x + y) ∧ (W1 x + W1 y + (W0 x + W0 y + 0) / 18446744073709551616) % 18446744073709551616 = W1 (x + y) := by
  unfold W0 W1; omega
theorem words_one (x : Int) : (W0 x + 1 + 0) % 18446744073709551616 = W0 (x + 1) ∧ (W1 x + 0 + (W0 x + 1 + 0) / 18446744073709551616) % 18446744073709551616 = W1 (x + 1) := by
  unfold W0 W1; omega
theorem tupW {a b c d : Int} {k l : IntKind} (h1 : a = c) (h2 : b = d) : Ending.returned (.tuple #[.int k a, .int l b]) = .returned (.tuple #[.int k c, .int l d]) := by rw [h1, h2]

theorem retB {a b : Bool} (h : a = b) : Ending.returned (.bool a) = .returned (.bool b) := by rw [h]
theorem fit_words (z : Int) (h0 : -170141183460469231731687303715884105728 ≤ z) (h1 : z < 170141183460469231731687303715884105728) : (W1 z == IntKind.u64.wrap (wrap64 (W0 z) / 9223372036854775808)) = fitB z := by
  rw [IntKind.wrap_u64]
  unfold wrap64 W0 W1 fitB
  rw [Bool.eq_iff_iff, beq_iff_eq, decide_eq_true_iff]
  have hz : z = z / 18446744073709551616 * 18446744073709551616 + z % 18446744073709551616 := by omega
  have hr0 : 0 ≤ z % 18446744073709551616 := by omega
  have hr1 : z % 18446744073709551616 < 18446744073709551616 := by omega
  generalize z / 18446744073709551616 = q at *
  generalize z % 18446744073709551616 = r at *
  by_cases hr : r < 9223372036854775808
  · have e : ((r + 9223372036854775808) % 18446744073709551616 - 9223372036854775808) / 9223372036854775808 = 0 := by omega
    rw [e]; omega
  · have e : ((r + 9223372036854775808) % 18446744073709551616 - 9223372036854775808) / 9223372036854775808 = -1 := by omega
    rw [e]; omega
end Go.Proofs.YtgmaompjhhomcaaGreat

