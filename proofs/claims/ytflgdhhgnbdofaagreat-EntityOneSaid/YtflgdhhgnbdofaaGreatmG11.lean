/- Small words for regions that draw their order. -/
/- Arguments opened: what a value of each parameter's type is made of. -/
/- num.Text(1.0) is 1.0, in every world whose tables are laid: a walk through strconv.FormatFloat. -/
/- num.Parse of 1e5 is the float 100000, in every world whose tables are laid: a walk through strconv.ParseFloat. -/
/- The statements' own test of being awake answers true, in every world whose tables are laid. -/
/- Whole numbers in two words of 64 bits, as the statement NumExact reckons with them. -/
/- The functions of package value that compare: which values may be, alike ones, the order, for every value. -/
/- The order of values: Compare, Same, for every two values that may be. -/
import Derived.Test.YtflgdhhgnbdofaaGreatmG7
import Derived.Deep.DeepCutAuto
import Derived.Deep.QuietTactic
import Derived.BigQuiet
import Derived.Deep.RegionHeld3
import Derived.Test.YtflgdhhgnbdofaaGreatRows
import Derived.Lib.SmallJoins
import Derived.Laws.Cover2
import Derived.ProofKit
import Derived.Carry
import Derived.ChangeSlices
import Derived.Deep.Slices
import Derived.Test.YtflgdhhgnbdofaaGreatmG10
import Derived.Shelf.Small.Strs
import Derived.Laws.EntriesVeiled
namespace Go.Proofs.YtflgdhhgnbdofaaGreat
open Go.RowKit
theorem quiet_l {P : Program} {f : FuncId} {args : Array Value} {w : World} {n : Nat} {v : Value}
    (h : Calls P f args (w.drewN n) fun e w' => e = .returned v ∧ w.drewN n = w') : Calls P f args (w.drewN n) fun e w' => e = .returned v ∧ ∃ m, w' = w.drewN m :=
  h.mono fun _ _ h => ⟨h.1, n, h.2.symm⟩
theorem quiet_l2 {P : Program} {f : FuncId} {args : Array Value} {w : World} {a n : Nat} {v : Value}
    (h : Calls P f args (w.drewN (a + n)) fun e w' => e = .returned v ∧ w.drewN (a + n) = w') : Calls P f args (w.drewN (a + n)) fun e w' => e = .returned v ∧ ∃ m, w' = (w.drewN a).drewN m :=
  h.mono fun _ _ h => ⟨h.1, n, by rw [← h.2, World.drewN_drewN]⟩
end Go.Proofs.YtflgdhhgnbdofaaGreat

namespace Go.Proofs.YtflgdhhgnbdofaaGreat
open Go.ChangeShapes Go.WideShapes Go.RowKit

theorem i64_fits {x : Int} (h : (Lit.int .i64 x).wf = true) : fits x := by
  unfold fits
  simpa [Lit.wf, IntKind.min, IntKind.max, IntKind.signed, IntKind.bits] using h
theorem u16_fits {x : Int} (h : (Lit.int .u16 x).wf = true) : 0 ≤ x ∧ x ≤ 65535 := by
  simpa [Lit.wf, IntKind.min, IntKind.max, IntKind.signed, IntKind.bits] using h
theorem f64_fits {b : Nat} (h : (Lit.float .f64 b).wf = true) : b < 18446744073709551616 := by
  simpa [Lit.wf] using h
theorem trod_float_any {H : Type} {enc : TypeId × Value → H} {P : Program} {W : World} {base : Nat} {sp : Nat → Bool} {held : Bool} {n : Nat} {t : TypeId} {cs : List Value} {x : DataW H × List MemPlace} (ht : P.underlying t = some (.float .f64))
    (h : DataW.trod enc P W base sp held n t cs = some x) : ∃ b : Nat, cs = [.float .f64 b] ∧ b < 18446744073709551616 := by
  cases n with
  | zero => simp [DataW.trod] at h
  | succ n =>
    unfold DataW.trod at h
    rw [ht] at h
    split at h
    all_goals first | (simp_all; done) | skip
    rename_i k k' b heq
    obtain rfl : FloatKind.f64 = k := by simpa using heq
    by_cases e : k' = FloatKind.f64 ∧ (Lit.float .f64 b).wf = true
    · obtain ⟨rfl, e2⟩ := e
      exact ⟨_, rfl, f64_fits e2⟩
    · rw [if_neg e] at h; cases h
/-- A value that came in: its five fields lie in their ranges. -/
def WideV (k n : Int) (f : Nat) (s : ByteArray) : Prop := fits k ∧ fits n ∧ f < 18446744073709551616 ∧ s.size ≤ maxLen
section
variable {H : Type} {enc : TypeId × Value → H} {W : World} {base b0 : Nat} {sp : Nat → Bool} {held : Bool} {r : Reach} {v : Value} {d : DataW H} {p : List MemPlace}
set_option maxRecDepth 100000 in
theorem open_value (hv : Value.okWide Tryz.prog W r b0 31 v) (h : DataW.Trod enc Tryz.prog W base sp held 31 v d p) :
    ∃ (k : Int) (b : Bool) (n : Int) (f : Nat) (s : ByteArray), v = .agg #[.int .i64 k, .bool b, .int .i64 n, .float .f64 f, .string s] ∧ WideV k n f s := by
  obtain ⟨cs, rfl, hsz⟩ := okWide_struct Tryz.underlying31 hv
  have hC : Tryz.prog.cellsOf 31 = 5 := by kernel_rfl
  obtain ⟨l⟩ := cs
  match l, hsz.trans hC with
  | [c0, c1, c2, c3, c4], _ =>
    obtain ⟨fuel, hf⟩ := h
    obtain ⟨xs, n, _, _, _, hlen, hg⟩ := DataW.trod_struct Tryz.underlying31 hf
    have k0 : Tryz.prog.cellsOf 3 = 1 := by kernel_rfl
    have k1 : Tryz.prog.cellsOf 4 = 1 := by kernel_rfl
    have k2 : Tryz.prog.cellsOf 2 = 1 := by kernel_rfl
    have k3 : Tryz.prog.cellsOf 29 = 1 := by kernel_rfl
    have k4 : Tryz.prog.cellsOf 9 = 1 := by kernel_rfl
    match xs, hlen, hg with
    | [y0, y1, y2, y3, y4], _, hg =>
      have g0 : DataW.trod enc Tryz.prog W base sp held n 3 (([c0, c1, c2, c3, c4].drop 0).take (Tryz.prog.cellsOf 3)) = some y0 := hg 0 _ rfl
      have g1 : DataW.trod enc Tryz.prog W base sp held n 4 (([c0, c1, c2, c3, c4].drop 1).take (Tryz.prog.cellsOf 4)) = some y1 := hg 1 _ rfl
      have g2 : DataW.trod enc Tryz.prog W base sp held n 2 (([c0, c1, c2, c3, c4].drop 2).take (Tryz.prog.cellsOf 2)) = some y2 := hg 2 _ rfl
      have g3 : DataW.trod enc Tryz.prog W base sp held n 29 (([c0, c1, c2, c3, c4].drop 3).take (Tryz.prog.cellsOf 29)) = some y3 := hg 3 _ rfl
      have g4 : DataW.trod enc Tryz.prog W base sp held n 9 (([c0, c1, c2, c3, c4].drop 4).take (Tryz.prog.cellsOf 9)) = some y4 := hg 4 _ rfl
      rw [k0] at g0
      rw [k1] at g1
      rw [k2] at g2
      rw [k3] at g3
      rw [k4] at g4
      obtain ⟨z0, e0, _, w0⟩ := DataW.trod_int Tryz.underlying3 g0
      obtain ⟨z1, e1, _⟩ := DataW.trod_bool Tryz.underlying4 g1
      obtain ⟨z2, e2, _, w2⟩ := DataW.trod_int Tryz.underlying2 g2
      obtain ⟨z3, e3, w3⟩ := trod_float_any Tryz.underlying29 g3
      obtain ⟨z4, e4, _, w4⟩ := DataW.trod_string Tryz.underlying9 g4
      simp at e0 e1 e2 e3 e4
      subst e0 e1 e2 e3 e4
      exact ⟨z0, z1, z2, z3, z4, rfl, i64_fits w0, i64_fits w2, w3, w4⟩
end
end Go.Proofs.YtflgdhhgnbdofaaGreat

namespace Go.Proofs.YtflgdhhgnbdofaaGreat
open Go.RowKit
set_option maxRecDepth 100000 in
set_option maxHeartbeats 1000000 in
theorem len64_a (w : World) :
    Calls Tryz.prog 193 #[.int .u64 1000000000000000] w fun e w' => e = .returned (.int .i64 50) ∧ w = w' := by
  obtain ⟨hw64, hand, hor, hiand⟩ := closedKit
  go_enter Tryz.func193, Tryz.ntmps193
  go_wp2
  go_ret
  exact ⟨by kernel_rfl, rfl⟩
set_option maxRecDepth 100000 in
set_option maxHeartbeats 1000000 in
theorem len64_b (w : World) :
    Calls Tryz.prog 193 #[.int .u64 4503599627370496] w fun e w' => e = .returned (.int .i64 53) ∧ w = w' := by
  obtain ⟨hw64, hand, hor, hiand⟩ := closedKit
  go_enter Tryz.func193, Tryz.ntmps193
  go_wp2
  go_ret
  exact ⟨by kernel_rfl, rfl⟩
theorem bytes1 (w : World) (b : Nat) (c : Int) (cap : Nat) (hc : w.cell? ⟨b, 0, none⟩ = some (.int .u8 c)) : (convert 75 9 (.slice (some ⟨b, 0, none⟩) 1 cap)).run Tryz.prog w = .ok (.string (strOfNums [c])) w := by
  refine run_convert_bytes_arg w 75 5 (by kernel_rfl) (by kernel_rfl) b 0 1 cap [c] rfl ?_ 9 (by kernel_rfl)
  intro i hi
  obtain rfl : i = 0 := by omega
  exact hc
end Go.Proofs.YtflgdhhgnbdofaaGreat

namespace Go.Proofs.YtflgdhhgnbdofaaGreat
open Go.RowKit
theorem below_bytes (w : World) (e : TypeId) (s : ByteArray) : Below w.heap.size w (Lib.bytesWorld w e s) :=
  ⟨rfl, rfl, rfl, by rw [Lib.bytesWorld_size]; omega, fun j hj => Lib.bytesWorld_at_old w e s j hj⟩
theorem cuts : (⟨#[101, 53]⟩ : ByteArray).extract 0 1 = ⟨#[101]⟩ ∧ (⟨#[101, 53]⟩ : ByteArray).extract 1 2 = ⟨#[53]⟩ ∧ (⟨#[49, 101, 53]⟩ : ByteArray).extract 0 1 = ⟨#[49]⟩ ∧ (⟨#[53]⟩ : ByteArray).extract 0 1 = ⟨#[53]⟩ ∧ (⟨#[49]⟩ : ByteArray).extract 0 1 = ⟨#[49]⟩ := by decide
end Go.Proofs.YtflgdhhgnbdofaaGreat

namespace Go.Proofs.YtflgdhhgnbdofaaGreat
open Go.RowKit

end Go.Proofs.YtflgdhhgnbdofaaGreat

namespace Go.Proofs.YtflgdhhgnbdofaaGreat
open Go.RowKit

/-- The low word, the high word, of a whole number's two's complement. -/
def W0 (z : Int) : Int := z % 18446744073709551616
def W1 (z : Int) : Int := z / 18446744073709551616 % 18446744073709551616
theorem W0_range (z : Int) : 0 ≤ W0 z ∧ W0 z < 18446744073709551616 := by unfold W0; omega
theorem W1_range (z : Int) : 0 ≤ W1 z ∧ W1 z < 18446744073709551616 := by unfold W1; omega
def fitB (z : Int) : Bool := decide (-9223372036854775808 ≤ z ∧ z ≤ 9223372036854775807)

theorem words_sum (x y : Int) : (W0 x + W0 y + 0) % 18446744073709551616 = W0 (x + y) ∧ (W1 x + W1 y + (W0 x + W0 y + 0) / 18446744073709551616) % 18446744073709551616 = W1 (x + y) := by
  unfold W0 W1; omega
theorem words_one (x : Int) : (W0 x + 1 + 0) % 18446744073709551616 = W0 (x + 1) ∧ (W1 x + 0 + (W0 x + 1 + 0) / 18446744073709551616) % 18446744073709551616 = W1 (x + 1) := by
  unfold W0 W1; omega
theorem tupW {a b c d : Int} {k l : IntKind} (h1 : a = c) (h2 : b = d) : Ending.returned (.tuple #[.int k a, .int l b]) = .returned (.tuple #[.int k c, .int l d]) := by rw [h1, h2]

theorem retB {a b : Bool} (h : a = b) : Ending.returned (.bool a) = .returned (.bool b) := by rw [h]
theorem fit_words (z : Int) (h0 : -170141183460469231731687303715884105728 ≤ z) (h1 : z < 170141183460469231731687303715884105728) : (W1 z == IntKind.u64.wrap (wrap64 (W0 z) / 9223372036854775808)) = fitB z := by
  rw [IntKind.wrap_u64]
  unfold wrap64 W0 W1 fitB
  rw [Bool.eq_iff_iff, beq_iff_eq, decide_eq_true_iff]
  have hz : z = z / 18446744073709551616 * 18446744073709551616 + z % 18446744073709551616 := by omega
  have hr0 : 0 ≤ z % 18446744073709551616 := by omega
  have hr1 : z % 18446744073709551616 < 18446744073709551616 := by omega
  generalize z / 18446744073709551616 = q at *
  generalize z % 18446744073709551616 = r at *
  by_cases hr : r < 9223372036854775808
  · have e : ((r + 9223372036854775808) % 18446744073709551616 - 9223372036854775808) / 9223372036854775808 = 0 := by omega
    rw [e]; omega
  · have e : ((r + 9223372036854775808) % 18446744073709551616 - 9223372036854775808) / 9223372036854775808 = -1 := by omega
    rw [e]; omega
end Go.Proofs.YtflgdhhgnbdofaaGreat

namespace Go.Proofs.YtflgdhhgnbdofaaGreat
open Go.RowKit

/-- A value as the program has it. -/
abbrev vagg (k : Int) (b : Bool) (n : Int) (f : Nat) (s : ByteArray) : Value := .agg #[.int .i64 k, .bool b, .int .i64 n, .float .f64 f, .string s]
set_option maxRecDepth 100000 in
theorem class_any (k : Int) (w : World) : Calls Tryz.prog 155 #[.int .i64 k] w fun e w' => e = .returned (.int .i64 (classK k)) ∧ w = w' := by
  unfold classK
  by_cases h : k = 3
  · subst h
    go_enter Tryz.func155, Tryz.ntmps155
    go_wp2
    go_ret
    exact ⟨rfl, rfl⟩
  · have hb : (k == 3) = false := by simp [h]
    rw [if_neg h]
    go_enter Tryz.func155, Tryz.ntmps155
    go_wp2
    go_ret
    exact ⟨rfl, rfl⟩
set_option maxRecDepth 100000 in
theorem known_any (k : Int) (w : World) (h0 : 0 ≤ k) (h1 : k ≤ 6) : Calls Tryz.prog 156 #[.int .i64 k] w fun e w' => e = .returned (.bool true) ∧ w = w' := by
  go_enter Tryz.func156, Tryz.ntmps156
  go_wp2
  go_ret
  exact ⟨rfl, rfl⟩
set_option maxRecDepth 100000 in
theorem CompareN_any (x y : Int) (w : World) : Calls Tryz.prog 154 #[.int .i64 x, .int .i64 y] w fun e w' => e = .returned (.int .i64 (cmpI x y)) ∧ w = w' := by
  obtain ⟨c, hc⟩ : ∃ c, c = cmpI x y := ⟨_, rfl⟩
  rw [← hc]
  unfold cmpI at hc
  by_cases p : x < y
  · have pb : decide (x < y) = true := by simp [p]
    rw [if_pos p] at hc
    subst hc
    go_enter Tryz.func154, Tryz.ntmps154
    go_wp2
    go_ret
    exact ⟨rfl, rfl⟩
  · have pb : decide (x < y) = false := by simp [p]
    rw [if_neg p] at hc
    by_cases q : y < x
    · have qb : decide (y < x) = true := by simp [q]
      rw [if_pos q] at hc
      subst hc
      clear p
      go_enter Tryz.func154, Tryz.ntmps154
      go_wp2
      go_ret
      exact ⟨rfl, rfl⟩
    · have qb : decide (y < x) = false := by simp [q]
      rw [if_neg q] at hc
      subst hc
      clear p q
      go_enter Tryz.func154, Tryz.ntmps154
      go_wp2
      go_ret
      exact ⟨rfl, rfl⟩
/-- Whether two values are the same in each field. -/
def likeV (k : Int) (b : Bool) (n : Int) (f : Nat) (s : ByteArray) (k' : Int) (b' : Bool) (n' : Int) (f' : Nat) (s' : ByteArray) : Bool := decide (k = k' ∧ b = b' ∧ n = n' ∧ f = f' ∧ s = s')
theorem like_no {k k' n n' : Int} {b b' : Bool} {f f' : Nat} {s s' : ByteArray} (h : ¬ (k = k' ∧ b = b' ∧ n = n' ∧ f = f' ∧ s = s')) : likeV k b n f s k' b' n' f' s' = false := by
  unfold likeV; simpa using h
theorem str_ne {s t : ByteArray} (h : ¬ s = t) : (s.toList == t.toList) = false := by
  rw [ByteArray.toList_eq, ByteArray.toList_eq, beq_eq_false_iff_ne]
  exact fun e => h (ByteArray.ext (Array.toList_inj.1 e))
theorem below2 (w : World) (o p : Obj) (m : Nat) : Below w.heap.size w (((w.alloc o).alloc p).drewN m) := below_drewN (((Below.refl _ _).alloc (Nat.le_refl _) o).alloc (by simp) p) m
set_option maxRecDepth 100000 in
set_option maxHeartbeats 1000000 in
theorem identical_any (k : Int) (b : Bool) (n : Int) (f : Nat) (s : ByteArray) (k' : Int) (b' : Bool) (n' : Int) (f' : Nat) (s' : ByteArray) (w : World) :
    Calls Tryz.prog 175 #[vagg k b n f s, vagg k' b' n' f' s'] w fun e w' => e = .returned (.bool (likeV k b n f s k' b' n' f' s')) ∧ Below w.heap.size w w' := by
  have hfb := call_Float64bits
  by_cases hk : k = k'
  · subst hk
    by_cases hb : b = b'
    · subst hb
      by_cases hn : n = n'
      · subst hn
        by_cases hs : s = s'
        · subst hs
          by_cases hf : f = f'
          · subst hf
            have HL : Hid (likeV k b n f s k b n f s = true) := by show likeV k b n f s k b n f s = true; unfold likeV; simp
            go_enter Tryz.func175, Tryz.ntmps175
            go_wp2
            go_quiet (fail)
            go_wp2
            go_ret
            exact ⟨retB HL.out.symm, below2 _ _ _ _⟩
          · have HL := Lib.hid (like_no (k := k) (k' := k) (n := n) (n' := n) (b := b) (b' := b) (f := f) (f' := f') (s := s) (s' := s) (by intro h; exact hf h.2.2.2.1))
            have t1 : ((f : Int) == (f' : Int)) = false := by simp; omega
            clear hf
            go_enter Tryz.func175, Tryz.ntmps175
            go_wp2
            go_quiet (fail)
            go_wp2
            go_ret
            exact ⟨retB HL.out.symm, below2 _ _ _ _⟩
        · have HL := Lib.hid (like_no (k := k) (k' := k) (n := n) (n' := n) (b := b) (b' := b) (f := f) (f' := f') (s := s) (s' := s') (by intro h; exact hs h.2.2.2.2))
          have t1 : (s.toList == s'.toList) = false := str_ne hs
          clear hs
          go_enter Tryz.func175, Tryz.ntmps175
          go_wp2
          go_quiet (fail)
          go_wp2
          go_ret
          exact ⟨retB HL.out.symm, below2 _ _ _ _⟩
      · have HL := Lib.hid (like_no (k := k) (k' := k) (n := n) (n' := n') (b := b) (b' := b) (f := f) (f' := f') (s := s) (s' := s') (by intro h; exact hn h.2.2.1))
        have t1 : (n == n') = false := by simp [hn]
        clear hn
        go_enter Tryz.func175, Tryz.ntmps175
        go_wp2
        go_quiet (fail)
        go_wp2
        go_ret
        exact ⟨retB HL.out.symm, below2 _ _ _ _⟩
    · have HL := Lib.hid (like_no (k := k) (k' := k) (n := n) (n' := n') (b := b) (b' := b') (f := f) (f' := f') (s := s) (s' := s') (by intro h; exact hb h.2.1))
      have t1 : (b == b') = false := by simpa using hb
      clear hb
      go_enter Tryz.func175, Tryz.ntmps175
      go_wp2
      go_quiet (fail)
      go_wp2
      go_ret
      exact ⟨retB HL.out.symm, below2 _ _ _ _⟩
  · have HL := Lib.hid (like_no (k := k) (k' := k') (n := n) (n' := n') (b := b) (b' := b') (f := f) (f' := f') (s := s) (s' := s') (by intro h; exact hk h.1))
    have t1 : (k == k') = false := by simp [hk]
    clear hk
    go_enter Tryz.func175, Tryz.ntmps175
    go_wp2
    go_quiet (fail)
    go_wp2
    go_ret
    exact ⟨retB HL.out.symm, below2 _ _ _ _⟩
set_option maxRecDepth 100000 in
set_option maxHeartbeats 1000000 in
theorem Like_any (k : Int) (b : Bool) (n : Int) (f : Nat) (s : ByteArray) (k' : Int) (b' : Bool) (n' : Int) (f' : Nat) (s' : ByteArray) (w : World) :
    Calls Tryz.prog 59 #[vagg k b n f s, vagg k' b' n' f' s'] w fun e w' => e = .returned (.bool (likeV k b n f s k' b' n' f' s')) ∧ Below w.heap.size w w' := by
  have hfb := call_Float64bits
  by_cases hk : k = k'
  · subst hk
    by_cases hb : b = b'
    · subst hb
      by_cases hn : n = n'
      · subst hn
        by_cases hf : f = f'
        · subst hf
          by_cases hs : s = s'
          · subst hs
            have HL : Hid (likeV k b n f s k b n f s = true) := by show likeV k b n f s k b n f s = true; unfold likeV; simp
            go_enter Tryz.func59, Tryz.ntmps59
            go_wp2
            go_quiet (fail)
            go_wp2
            go_ret
            exact ⟨retB HL.out.symm, below2 _ _ _ _⟩
          · have HL := Lib.hid (like_no (k := k) (k' := k) (n := n) (n' := n) (b := b) (b' := b) (f := f) (f' := f) (s := s) (s' := s') (by intro h; exact hs h.2.2.2.2))
            have t1 : (s.toList == s'.toList) = false := str_ne hs
            clear hs
            go_enter Tryz.func59, Tryz.ntmps59
            go_wp2
            go_quiet (fail)
            go_wp2
            go_ret
            exact ⟨retB HL.out.symm, below2 _ _ _ _⟩
        · have HL := Lib.hid (like_no (k := k) (k' := k) (n := n) (n' := n) (b := b) (b' := b) (f := f) (f' := f') (s := s) (s' := s') (by intro h; exact hf h.2.2.2.1))
          have t1 : ((f : Int) == (f' : Int)) = false := by simp; omega
          clear hf
          go_enter Tryz.func59, Tryz.ntmps59
          go_wp2
          go_quiet (fail)
          go_wp2
          go_ret
          exact ⟨retB HL.out.symm, below2 _ _ _ _⟩
      · have HL := Lib.hid (like_no (k := k) (k' := k) (n := n) (n' := n') (b := b) (b' := b) (f := f) (f' := f') (s := s) (s' := s') (by intro h; exact hn h.2.2.1))
        have t1 : (n == n') = false := by simp [hn]
        clear hn
        go_enter Tryz.func59, Tryz.ntmps59
        go_wp2
        go_quiet (fail)
        go_wp2
        go_ret
        exact ⟨retB HL.out.symm, below2 _ _ _ _⟩
    · have HL := Lib.hid (like_no (k := k) (k' := k) (n := n) (n' := n') (b := b) (b' := b') (f := f) (f' := f') (s := s) (s' := s') (by intro h; exact hb h.2.1))
      have t1 : (b == b') = false := by simpa using hb
      clear hb
      go_enter Tryz.func59, Tryz.ntmps59
      go_wp2
      go_quiet (fail)
      go_wp2
      go_ret
      exact ⟨retB HL.out.symm, below2 _ _ _ _⟩
  · have HL := Lib.hid (like_no (k := k) (k' := k') (n := n) (n' := n') (b := b) (b' := b') (f := f) (f' := f') (s := s) (s' := s') (by intro h; exact hk h.1))
    have t1 : (k == k') = false := by simp [hk]
    clear hk
    go_enter Tryz.func59, Tryz.ntmps59
    go_wp2
    go_quiet (fail)
    go_wp2
    go_ret
    exact ⟨retB HL.out.symm, below2 _ _ _ _⟩
end Go.Proofs.YtflgdhhgnbdofaaGreat

namespace Go.Proofs.YtflgdhhgnbdofaaGreat
open Go.RowKit
theorem call_cmpstring (a b : ByteArray) (w : World) : (callFunc 236 #[.string a, .string b]).run Tryz.prog w = .ok (.value (.int .i64 (Lib.compareBytes a.data.toList b.data.toList))) w := by
  rw [run_callFunc_extern Tryz.func236 (by kernel_rfl) (by kernel_rfl) (by kernel_rfl) (e := Extern.BytealgCompare.compare) (by kernel_rfl), Lib.run_compareString]
  rfl
set_option maxRecDepth 100000 in
theorem CompareS_any (a b : ByteArray) (w : World) : Calls Tryz.prog 203 #[.string a, .string b] w fun e w' => e = .returned (.int .i64 (Lib.compareBytes a.data.toList b.data.toList)) ∧ w = w' := by
  have hc := call_cmpstring
  go_enter Tryz.func203, Tryz.ntmps203
  go_wp2
  go_ret
  exact ⟨rfl, rfl⟩
theorem CompareI' (x y : Int) (w : World) : Calls Tryz.prog 227 #[.int .i64 x, .int .i64 y] w fun e w' => e = .returned (.int .i64 (cmpI x y)) ∧ w = w' := CompareI x y w
set_option maxRecDepth 100000 in
theorem nums_any (k n k' n' : Int) (b b' : Bool) (f f' : Nat) (s s' : ByteArray) (w : World) :
    Calls Tryz.prog 204 #[vagg k b n f s, vagg k' b' n' f' s'] w fun e w' => e = .returned (.int .i64 (cmpI n n')) ∧ Below w.heap.size w w' := by
  go_enter Tryz.func204, Tryz.ntmps204
  go_wp2_with (go_at_call 227; ((with_reducible refine (CompareI' _ _ _).mono ?_); rintro e w' ⟨rfl, rfl⟩))
  go_ret
  exact ⟨rfl, below2 _ _ _ 0⟩
set_option maxRecDepth 100000 in
theorem strs_any (k n k' n' : Int) (b b' : Bool) (f f' : Nat) (s s' : ByteArray) (w : World) :
    Calls Tryz.prog 202 #[vagg k b n f s, vagg k' b' n' f' s'] w fun e w' => e = .returned (.int .i64 (Lib.compareBytes s.data.toList s'.data.toList)) ∧ Below w.heap.size w w' := by
  go_enter Tryz.func202, Tryz.ntmps202
  go_wp2_with (go_at_call 203; ((with_reducible refine (CompareS_any _ _ _).mono ?_); rintro e w' ⟨rfl, rfl⟩))
  go_ret
  exact ⟨rfl, below2 _ _ _ 0⟩
set_option maxRecDepth 100000 in
theorem nulls_any (k n k' n' : Int) (b b' : Bool) (f f' : Nat) (s s' : ByteArray) (w : World) :
    Calls Tryz.prog 198 #[vagg k b n f s, vagg k' b' n' f' s'] w fun e w' => e = .returned (.int .i64 0) ∧ Below w.heap.size w w' := by
  go_enter Tryz.func198, Tryz.ntmps198
  go_wp2
  go_ret
  exact ⟨rfl, below2 _ _ _ 0⟩
/-- A Bool's number. -/
def bnum (b : Bool) : Int := if b = true then 1 else 0
set_option maxRecDepth 100000 in
theorem bools_any (k n k' n' : Int) (b b' : Bool) (f f' : Nat) (s s' : ByteArray) (w : World) :
    Calls Tryz.prog 199 #[vagg k b n f s, vagg k' b' n' f' s'] w fun e w' => e = .returned (.int .i64 (cmpI (bnum b) (bnum b'))) ∧ Below w.heap.size w w' := by
  cases b <;> cases b'
  all_goals
    go_enter Tryz.func199, Tryz.ntmps199
    go_wp2
    go_ret
    exact ⟨rfl, below2 _ _ _ 0⟩
set_option maxRecDepth 100000 in
theorem mixed_any (k n k' n' : Int) (b b' : Bool) (f f' : Nat) (s s' : ByteArray) (w : World) (hn : fits n) (hf : f' < 18446744073709551616) :
    Calls Tryz.prog 224 #[vagg k b n f s, vagg k' b' n' f' s'] w fun e w' => e = .returned (.int .i64 (if 0 < mixedF n f' then 1 else -1)) ∧ Below w.heap.size w w' := by
  have C := Lib.hid (fun w => Mixed_any n f' w hn hf)
  generalize mixedF n f' = m at *
  by_cases h : 0 < m
  · have t : decide (0 < m) = true := by simp [h]
    rw [if_pos h]
    clear h
    go_enter Tryz.func224, Tryz.ntmps224
    go_wp2_with (go_at_call 234; ((with_reducible refine (C.out _).mono ?_); rintro e w' ⟨rfl, rfl⟩))
    go_ret
    exact ⟨rfl, below2 _ _ _ 0⟩
  · have t : decide (0 < m) = false := by simp; omega
    rw [if_neg h]
    clear h
    go_enter Tryz.func224, Tryz.ntmps224
    go_wp2_with (go_at_call 234; ((with_reducible refine (C.out _).mono ?_); rintro e w' ⟨rfl, rfl⟩))
    go_ret
    exact ⟨rfl, below2 _ _ _ 0⟩
theorem below_two (w w1 : World) (o p : Obj) (h : Below ((w.alloc o).alloc p).heap.size ((w.alloc o).alloc p) w1) : Below w.heap.size w w1 :=
  (below2 w o p 0).trans (h.mono (by simp; omega))
set_option maxRecDepth 100000 in
theorem intAndNumber_any (k n k' n' : Int) (b b' : Bool) (f f' : Nat) (s s' : ByteArray) (w : World) (hn : fits n) (hf : f' < 18446744073709551616) (hk : k' = 2 ∨ k' = 3) :
    Calls Tryz.prog 200 #[vagg k b n f s, vagg k' b' n' f' s'] w fun e w' => e = .returned (.int .i64 (cmpI (numKey 2 n f) (numKey k' n' f'))) ∧ Below w.heap.size w w' := by
  rcases hk with rfl | rfl
  · rw [← cmp_ints n n' f f']
    go_enter Tryz.func200, Tryz.ntmps200
    go_wp2_with (go_at_call 204; ((with_reducible refine (nums_any _ _ _ _ _ _ _ _ _ _ _).mono ?_); rintro e w1 ⟨rfl, hb⟩))
    go_ret
    exact ⟨rfl, below_two _ _ _ _ hb⟩
  · rw [cmp_mixed n f' hn f n']
    have c := fun w => mixed_any k n 3 n' b b' f f' s s' w hn hf
    generalize (if 0 < mixedF n f' then (1 : Int) else -1) = m at *
    have C := Lib.hid c
    clear c
    go_enter Tryz.func200, Tryz.ntmps200
    go_wp2_with (go_at_call 224; ((with_reducible refine (C.out _).mono ?_); rintro e w1 ⟨rfl, hb⟩))
    go_ret
    exact ⟨rfl, below_two _ _ _ _ hb⟩
set_option maxRecDepth 100000 in
theorem floatAndNumber_any (k n k' n' : Int) (b b' : Bool) (f f' : Nat) (s s' : ByteArray) (w : World) (hn : fits n') (hf : f < 18446744073709551616) (hf' : f' < 18446744073709551616) (hk : k' = 2 ∨ k' = 3) :
    Calls Tryz.prog 201 #[vagg k b n f s, vagg k' b' n' f' s'] w fun e w' => e = .returned (.int .i64 (cmpI (numKey 3 n f) (numKey k' n' f'))) ∧ Below w.heap.size w w' := by
  rcases hk with rfl | rfl
  · rw [cmpI_flip, cmp_mixed n' f hn f' n]
    have C := Lib.hid (fun w => mixed_any 2 n' k n b' b f' f s' s w hn hf)
    by_cases h : 0 < mixedF n' f
    · rw [if_pos h] at *
      go_enter Tryz.func201, Tryz.ntmps201
      go_wp2_with (go_at_call 224; ((with_reducible refine (C.out _).mono ?_); rintro e w1 ⟨rfl, hb⟩))
      go_ret
      exact ⟨rfl, below_two _ _ _ _ hb⟩
    · rw [if_neg h] at *
      go_enter Tryz.func201, Tryz.ntmps201
      go_wp2_with (go_at_call 224; ((with_reducible refine (C.out _).mono ?_); rintro e w1 ⟨rfl, hb⟩))
      go_ret
      exact ⟨rfl, below_two _ _ _ _ hb⟩
  · rw [← cmp_floats f f' hf hf' n n']
    have C := Lib.hid (fun w => Floats_any f f' w hf hf')
    go_enter Tryz.func201, Tryz.ntmps201
    go_wp2_with (go_at_call 225; ((with_reducible refine (C.out _).mono ?_); rintro e w1 ⟨rfl, rfl⟩))
    go_ret
    exact ⟨rfl, below2 _ _ _ 0⟩
/-- The table of comparisons, as the program has it. -/
abbrev fnTable : Array Value := #[.func (.func 198) #[] #[], .func (.func 199) #[] #[], .func (.func 200) #[] #[], .func (.func 201) #[] #[],
  .func (.func 202) #[] #[], .func (.func 204) #[] #[], .func (.func 204) #[] #[]]
set_option maxRecDepth 100000 in
theorem comparisons_any (w : World) : Calls Tryz.prog 157 #[] w fun e w' => e = .returned (.agg fnTable) ∧ w' = w.alloc (.cells fnTable 187) := by
  go_enter Tryz.func157, Tryz.ntmps157
  go_wp2
  go_returns
  exact ⟨rfl, rfl⟩
end Go.Proofs.YtflgdhhgnbdofaaGreat

