/- Small words for regions that draw their order. -/
/- num.Parse of 1e5 is the float 100000, in every world whose tables are laid: a walk through strconv.ParseFloat. -/
/- Arguments opened: what a value of each parameter's type is made of. -/
/- num.Text(1.0) is 1.0, in every world whose tables are laid: a walk through strconv.FormatFloat. -/
/- The statements' own test of being awake answers true, in every world whose tables are laid. -/
/- Whole numbers in two words of 64 bits, as the statement NumExact reckons with them. -/
/- The functions of package value that compare: which values may be, alike ones, the order, for every value. -/
/- The order of values: Compare, Same, for every two values that may be. -/
import Derived.Test.YtmolpogehgeebaaGreatbA0
import Derived.Deep.DeepCutAuto
import Derived.Deep.QuietTactic
import Derived.BigQuiet
import Derived.Deep.RegionHeld3
import Derived.Test.YtmolpogehgeebaaGreatRows
import Derived.Lib.SmallJoins
import Derived.Laws.Cover2
import Derived.ProofKit
import Derived.Carry
import Derived.ChangeSlices
import Derived.Deep.Slices
import Derived.Test.YtmolpogehgeebaaGreatbF6
import Derived.Shelf.Small.Strs
import Derived.Laws.EntriesVeiled
namespace Go.Proofs.YtmolpogehgeebaaGreat
open Go.RowKit
theorem quiet_l {P : Program} {f : FuncId} {args : Array Value} {w : World} {n : Nat} {v : Value}
    (h : Calls P f args (w.drewN n) fun e w' => e = .returned v ∧ w.drewN n = w') : Calls P f args (w.drewN n) fun e w' => e = .returned v ∧ ∃ m, w' = w.drewN m :=
  h.mono fun _ _ h => ⟨h.1, n, h.2.symm⟩
theorem quiet_l2 {P : Program} {f : FuncId} {args : Array Value} {w : World} {a n : Nat} {v : Value}
    (h : Calls P f args (w.drewN (a + n)) fun e w' => e = .returned v ∧ w.drewN (a + n) = w') : Calls P f args (w.drewN (a + n)) fun e w' => e = .returned v ∧ ∃ m, w' = (w.drewN a).drewN m :=
  h.mono fun _ _ h => ⟨h.1, n, by rw [← h.2, World.drewN_drewN]⟩
end Go.Proofs.YtmolpogehgeebaaGreat


namespace Go.Proofs.YtmolpogehgeebaaGreat
open Go.RowKit
end Go.Proofs.YtmolpogehgeebaaGreat


namespace Go.Proofs.YtmolpogehgeebaaGreat
open Go.ChangeShapes Go.WideShapes Go.RowKit

theorem i64_fits {x : Int} (h : (Lit.int .i64 x).wf = true) : fits x := by
  unfold fits
  simpa [Lit.wf, IntKind.min, IntKind.max, IntKind.signed, IntKind.bits] using h
theorem f64_fits {b : Nat} (h : (Lit.float .f64 b).wf = true) : b < 18446744073709551616 := by
  simpa [Lit.wf] using h
theorem trod_float_any {H : Type} {enc : TypeId × Value → H} {P : Program} {W : World} {base : Nat} {sp : Nat → Bool} {held : Bool} {n : Nat} {t : TypeId} {cs : List Value} {x : DataW H × List MemPlace} (ht : P.underlying t = some (.float .f64))
    (h : DataW.trod enc P W base sp held n t cs = some x) : ∃ b : Nat, cs = [.float .f64 b] ∧ b < 18446744073709551616 := by
  cases n with
  | zero => simp [DataW.trod] at h
  | succ n =>
    unfold DataW.trod at h
    rw [ht] at h
    split at h
    all_goals first | (simp_all; done) | skip
    rename_i k k' b heq
    obtain rfl : FloatKind.f64 = k := by simpa using heq
    by_cases e : k' = FloatKind.f64 ∧ (Lit.float .f64 b).wf = true
    · obtain ⟨rfl, e2⟩ := e
      exact ⟨_, rfl, f64_fits e2⟩
    · rw [if_neg e] at h; cases h
/-- A value that came in: its five fields lie in their ranges. -/
def WideV (k n : Int) (f : Nat) (s : ByteArray) : Prop := fits k ∧ fits n ∧ f < 18446744073709551616 ∧ s.size ≤ maxLen
section
variable {H : Type} {enc : TypeId × Value → H} {W : World} {base b0 : Nat} {sp : Nat → Bool} {held : Bool} {r : Reach} {v : Value} {d : DataW H} {p : List MemPlace}
end
end Go.Proofs.YtmolpogehgeebaaGreat


namespace Go.Proofs.YtmolpogehgeebaaGreat
open Go.RowKit
end Go.Proofs.YtmolpogehgeebaaGreat


namespace Go.Proofs.YtmolpogehgeebaaGreat
open Go.RowKit

end Go.Proofs.YtmolpogehgeebaaGreat


namespace Go.Proofs.YtmolpogehgeebaaGreat
open Go.RowKit

/-- The low word, the high word, of a whole number's two's complement. -/
def W0 (z : Int) : Int := z % 18446744073709551616
def W1 (z : Int) : Int := z / 18446744073709551616 % 18446744073709551616
theorem retB {a b : Bool} (h : a = b) : Ending.returned (.bool a) = .returned (.bool b) := by rw [h]
end Go.Proofs.YtmolpogehgeebaaGreat


namespace Go.Proofs.YtmolpogehgeebaaGreat
open Go.RowKit

/-- A value as the program has it. -/
abbrev vagg (k : Int) (b : Bool) (n : Int) (f : Nat) (s : ByteArray) : Value := .agg #[.int .i64 k, .bool b, .int .i64 n, .float .f64 f, .string s]
set_option maxRecDepth 100000 in
theorem class_any (k : Int) (w : World) : Calls Tryz.prog 174 #[.int .i64 k] w fun e w' => e = .returned (.int .i64 (classK k)) ∧ w = w' := by
  unfold classK
  by_cases h : k = 3
  · subst h
    go_enter Tryz.func174, Tryz.ntmps174
    go_wp2
    go_ret
    exact ⟨rfl, rfl⟩
  · have hb : (k == 3) = false := by simp [h]
    rw [if_neg h]
    go_enter Tryz.func174, Tryz.ntmps174
    go_wp2
    go_ret
    exact ⟨rfl, rfl⟩
set_option maxRecDepth 100000 in
theorem known_any (k : Int) (w : World) (h0 : 0 ≤ k) (h1 : k ≤ 6) : Calls Tryz.prog 175 #[.int .i64 k] w fun e w' => e = .returned (.bool true) ∧ w = w' := by
  go_enter Tryz.func175, Tryz.ntmps175
  go_wp2
  go_ret
  exact ⟨rfl, rfl⟩
set_option maxRecDepth 100000 in
theorem CompareN_any (x y : Int) (w : World) : Calls Tryz.prog 173 #[.int .i64 x, .int .i64 y] w fun e w' => e = .returned (.int .i64 (cmpI x y)) ∧ w = w' := by
  obtain ⟨c, hc⟩ : ∃ c, c = cmpI x y := ⟨_, rfl⟩
  rw [← hc]
  unfold cmpI at hc
  by_cases p : x < y
  · have pb : decide (x < y) = true := by simp [p]
    rw [if_pos p] at hc
    subst hc
    go_enter Tryz.func173, Tryz.ntmps173
    go_wp2
    go_ret
    exact ⟨rfl, rfl⟩
  · have pb : decide (x < y) = false := by simp [p]
    rw [if_neg p] at hc
    by_cases q : y < x
    · have qb : decide (y < x) = true := by simp [q]
      rw [if_pos q] at hc
      subst hc
      clear p
      go_enter Tryz.func173, Tryz.ntmps173
      go_wp2
      go_ret
      exact ⟨rfl, rfl⟩
    · have qb : decide (y < x) = false := by simp [q]
      rw [if_neg q] at hc
      subst hc
      clear p q
      go_enter Tryz.func173, Tryz.ntmps173
      go_wp2
      go_ret
      exact ⟨rfl, rfl⟩
/-- Whether two values are the same in each field. -/
def likeV (k : Int) (b : Bool) (n : Int) (f : Nat) (s : ByteArray) (k' : Int) (b' : Bool) (n' : Int) (f' : Nat) (s' : ByteArray) : Bool := decide (k = k' ∧ b = b' ∧ n = n' ∧ f = f' ∧ s = s')
theorem like_no {k k' n n' : Int} {b b' : Bool} {f f' : Nat} {s s' : ByteArray} (h : ¬ (k = k' ∧ b = b' ∧ n = n' ∧ f = f' ∧ s = s')) : likeV k b n f s k' b' n' f' s' = false := by
  unfold likeV; simpa using h
theorem str_ne {s t : ByteArray} (h : ¬ s = t) : (s.toList == t.toList) = false := by
  rw [ByteArray.toList_eq, ByteArray.toList_eq, beq_eq_false_iff_ne]
  exact fun e => h (ByteArray.ext (Array.toList_inj.1 e))
theorem below2 (w : World) (o p : Obj) (m : Nat) : Below w.heap.size w (((w.alloc o).alloc p).drewN m) := below_drewN (((Below.refl _ _).alloc (Nat.le_refl _) o).alloc (by simp) p) m
set_option maxRecDepth 100000 in
set_option maxHeartbeats 1000000 in
theorem identical_any (k : Int) (b : Bool) (n : Int) (f : Nat) (s : ByteArray) (k' : Int) (b' : Bool) (n' : Int) (f' : Nat) (s' : ByteArray) (w : World) :
    Calls Tryz.prog 238 #[vagg k b n f s, vagg k' b' n' f' s'] w fun e w' => e = .returned (.bool (likeV k b n f s k' b' n' f' s')) ∧ Below w.heap.size w w' := by
  have hfb := call_Float64bits
  by_cases hk : k = k'
  · subst hk
    by_cases hb : b = b'
    · subst hb
      by_cases hn : n = n'
      · subst hn
        by_cases hs : s = s'
        · subst hs
          by_cases hf : f = f'
          · subst hf
            have HL : Hid (likeV k b n f s k b n f s = true) := by show likeV k b n f s k b n f s = true; unfold likeV; simp
            go_enter Tryz.func238, Tryz.ntmps238
            go_wp2
            go_quiet (fail)
            go_wp2
            go_ret
            exact ⟨retB HL.out.symm, below2 _ _ _ _⟩
          · have HL := Lib.hid (like_no (k := k) (k' := k) (n := n) (n' := n) (b := b) (b' := b) (f := f) (f' := f') (s := s) (s' := s) (by intro h; exact hf h.2.2.2.1))
            have t1 : ((f : Int) == (f' : Int)) = false := by simp; omega
            clear hf
            go_enter Tryz.func238, Tryz.ntmps238
            go_wp2
            go_quiet (fail)
            go_wp2
            go_ret
            exact ⟨retB HL.out.symm, below2 _ _ _ _⟩
        · have HL := Lib.hid (like_no (k := k) (k' := k) (n := n) (n' := n) (b := b) (b' := b) (f := f) (f' := f') (s := s) (s' := s') (by intro h; exact hs h.2.2.2.2))
          have t1 : (s.toList == s'.toList) = false := str_ne hs
          clear hs
          go_enter Tryz.func238, Tryz.ntmps238
          go_wp2
          go_quiet (fail)
          go_wp2
          go_ret
          exact ⟨retB HL.out.symm, below2 _ _ _ _⟩
      · have HL := Lib.hid (like_no (k := k) (k' := k) (n := n) (n' := n') (b := b) (b' := b) (f := f) (f' := f') (s := s) (s' := s') (by intro h; exact hn h.2.2.1))
        have t1 : (n == n') = false := by simp [hn]
        clear hn
        go_enter Tryz.func238, Tryz.ntmps238
        go_wp2
        go_quiet (fail)
        go_wp2
        go_ret
        exact ⟨retB HL.out.symm, below2 _ _ _ _⟩
    · have HL := Lib.hid (like_no (k := k) (k' := k) (n := n) (n' := n') (b := b) (b' := b') (f := f) (f' := f') (s := s) (s' := s') (by intro h; exact hb h.2.1))
      have t1 : (b == b') = false := by simpa using hb
      clear hb
      go_enter Tryz.func238, Tryz.ntmps238
      go_wp2
      go_quiet (fail)
      go_wp2
      go_ret
      exact ⟨retB HL.out.symm, below2 _ _ _ _⟩
  · have HL := Lib.hid (like_no (k := k) (k' := k') (n := n) (n' := n') (b := b) (b' := b') (f := f) (f' := f') (s := s) (s' := s') (by intro h; exact hk h.1))
    have t1 : (k == k') = false := by simp [hk]
    clear hk
    go_enter Tryz.func238, Tryz.ntmps238
    go_wp2
    go_quiet (fail)
    go_wp2
    go_ret
    exact ⟨retB HL.out.symm, below2 _ _ _ _⟩
set_option maxRecDepth 100000 in
set_option maxHeartbeats 1000000 in
theorem Like_any (k : Int) (b : Bool) (n : Int) (f : Nat) (s : ByteArray) (k' : Int) (b' : Bool) (n' : Int) (f' : Nat) (s' : ByteArray) (w : World) :
    Calls Tryz.prog 196 #[vagg k b n f s, vagg k' b' n' f' s'] w fun e w' => e = .returned (.bool (likeV k b n f s k' b' n' f' s')) ∧ Below w.heap.size w w' := by
  have hfb := call_Float64bits
  by_cases hk : k = k'
  · subst hk
    by_cases hb : b = b'
    · subst hb
      by_cases hn : n = n'
      · subst hn
        by_cases hf : f = f'
        · subst hf
          by_cases hs : s = s'
          · subst hs
            have HL : Hid (likeV k b n f s k b n f s = true) := by show likeV k b n f s k b n f s = true; unfold likeV; simp
            go_enter Tryz.func196, Tryz.ntmps196
            go_wp2
            go_quiet (fail)
            go_wp2
            go_ret
            exact ⟨retB HL.out.symm, below2 _ _ _ _⟩
          · have HL := Lib.hid (like_no (k := k) (k' := k) (n := n) (n' := n) (b := b) (b' := b) (f := f) (f' := f) (s := s) (s' := s') (by intro h; exact hs h.2.2.2.2))
            have t1 : (s.toList == s'.toList) = false := str_ne hs
            clear hs
            go_enter Tryz.func196, Tryz.ntmps196
            go_wp2
            go_quiet (fail)
            go_wp2
            go_ret
            exact ⟨retB HL.out.symm, below2 _ _ _ _⟩
        · have HL := Lib.hid (like_no (k := k) (k' := k) (n := n) (n' := n) (b := b) (b' := b) (f := f) (f' := f') (s := s) (s' := s') (by intro h; exact hf h.2.2.2.1))
          have t1 : ((f : Int) == (f' : Int)) = false := by simp; omega
          clear hf
          go_enter Tryz.func196, Tryz.ntmps196
          go_wp2
          go_quiet (fail)
          go_wp2
          go_ret
          exact ⟨retB HL.out.symm, below2 _ _ _ _⟩
      · have HL := Lib.hid (like_no (k := k) (k' := k) (n := n) (n' := n') (b := b) (b' := b) (f := f) (f' := f') (s := s) (s' := s') (by intro h; exact hn h.2.2.1))
        have t1 : (n == n') = false := by simp [hn]
        clear hn
        go_enter Tryz.func196, Tryz.ntmps196
        go_wp2
        go_quiet (fail)
        go_wp2
        go_ret
        exact ⟨retB HL.out.symm, below2 _ _ _ _⟩
    · have HL := Lib.hid (like_no (k := k) (k' := k) (n := n) (n' := n') (b := b) (b' := b') (f := f) (f' := f') (s := s) (s' := s') (by intro h; exact hb h.2.1))
      have t1 : (b == b') = false := by simpa using hb
      clear hb
      go_enter Tryz.func196, Tryz.ntmps196
      go_wp2
      go_quiet (fail)
      go_wp2
      go_ret
      exact ⟨retB HL.out.symm, below2 _ _ _ _⟩
  · have HL := Lib.hid (like_no (k := k) (k' := k') (n := n) (n' := n') (b := b) (b' := b') (f := f) (f' := f') (s := s) (s' := s') (by intro h; exact hk h.1))
    have t1 : (k == k') = false := by simp [hk]
    clear hk
    go_enter Tryz.func196, Tryz.ntmps196
    go_wp2
    go_quiet (fail)
    go_wp2
    go_ret
    exact ⟨retB HL.out.symm, below2 _ _ _ _⟩
end Go.Proofs.YtmolpogehgeebaaGreat


namespace Go.Proofs.YtmolpogehgeebaaGreat
open Go.RowKit
theorem call_cmpstring (a b : ByteArray) (w : World) : (callFunc 278 #[.string a, .string b]).run Tryz.prog w = .ok (.value (.int .i64 (Lib.compareBytes a.data.toList b.data.toList))) w := by
  rw [run_callFunc_extern Tryz.func278 (by kernel_rfl) (by kernel_rfl) (by kernel_rfl) (e := Extern.BytealgCompare.compare) (by kernel_rfl), Lib.run_compareString]
  rfl
set_option maxRecDepth 100000 in
theorem CompareS_any (a b : ByteArray) (w : World) : Calls Tryz.prog 230 #[.string a, .string b] w fun e w' => e = .returned (.int .i64 (Lib.compareBytes a.data.toList b.data.toList)) ∧ w = w' := by
  have hc := call_cmpstring
  go_enter Tryz.func230, Tryz.ntmps230
  go_wp2
  go_ret
  exact ⟨rfl, rfl⟩
theorem CompareI' (x y : Int) (w : World) : Calls Tryz.prog 263 #[.int .i64 x, .int .i64 y] w fun e w' => e = .returned (.int .i64 (cmpI x y)) ∧ w = w' := CompareI x y w
set_option maxRecDepth 100000 in
theorem nums_any (k n k' n' : Int) (b b' : Bool) (f f' : Nat) (s s' : ByteArray) (w : World) :
    Calls Tryz.prog 231 #[vagg k b n f s, vagg k' b' n' f' s'] w fun e w' => e = .returned (.int .i64 (cmpI n n')) ∧ Below w.heap.size w w' := by
  go_enter Tryz.func231, Tryz.ntmps231
  go_wp2_with (go_at_call 263; ((with_reducible refine (CompareI' _ _ _).mono ?_); rintro e w' ⟨rfl, rfl⟩))
  go_ret
  exact ⟨rfl, below2 _ _ _ 0⟩
set_option maxRecDepth 100000 in
theorem strs_any (k n k' n' : Int) (b b' : Bool) (f f' : Nat) (s s' : ByteArray) (w : World) :
    Calls Tryz.prog 229 #[vagg k b n f s, vagg k' b' n' f' s'] w fun e w' => e = .returned (.int .i64 (Lib.compareBytes s.data.toList s'.data.toList)) ∧ Below w.heap.size w w' := by
  go_enter Tryz.func229, Tryz.ntmps229
  go_wp2_with (go_at_call 230; ((with_reducible refine (CompareS_any _ _ _).mono ?_); rintro e w' ⟨rfl, rfl⟩))
  go_ret
  exact ⟨rfl, below2 _ _ _ 0⟩
set_option maxRecDepth 100000 in
theorem nulls_any (k n k' n' : Int) (b b' : Bool) (f f' : Nat) (s s' : ByteArray) (w : World) :
    Calls Tryz.prog 225 #[vagg k b n f s, vagg k' b' n' f' s'] w fun e w' => e = .returned (.int .i64 0) ∧ Below w.heap.size w w' := by
  go_enter Tryz.func225, Tryz.ntmps225
  go_wp2
  go_ret
  exact ⟨rfl, below2 _ _ _ 0⟩
/-- A Bool's number. -/
def bnum (b : Bool) : Int := if b = true then 1 else 0
set_option maxRecDepth 100000 in
theorem bools_any (k n k' n' : Int) (b b' : Bool) (f f' : Nat) (s s' : ByteArray) (w : World) :
    Calls Tryz.prog 226 #[vagg k b n f s, vagg k' b' n' f' s'] w fun e w' => e = .returned (.int .i64 (cmpI (bnum b) (bnum b'))) ∧ Below w.heap.size w w' := by
  cases b <;> cases b'
  all_goals
    go_enter Tryz.func226, Tryz.ntmps226
    go_wp2
    go_ret
    exact ⟨rfl, below2 _ _ _ 0⟩
set_option maxRecDepth 100000 in
theorem mixed_any (k n k' n' : Int) (b b' : Bool) (f f' : Nat) (s s' : ByteArray) (w : World) (hn : fits n) (hf : f' < 18446744073709551616) :
    Calls Tryz.prog 260 #[vagg k b n f s, vagg k' b' n' f' s'] w fun e w' => e = .returned (.int .i64 (if 0 < mixedF n f' then 1 else -1)) ∧ Below w.heap.size w w' := by
  have C := Lib.hid (fun w => Mixed_any n f' w hn hf)
  generalize mixedF n f' = m at *
  by_cases h : 0 < m
  · have t : decide (0 < m) = true := by simp [h]
    rw [if_pos h]
    clear h
    go_enter Tryz.func260, Tryz.ntmps260
    go_wp2_with (go_at_call 276; ((with_reducible refine (C.out _).mono ?_); rintro e w' ⟨rfl, rfl⟩))
    go_ret
    exact ⟨rfl, below2 _ _ _ 0⟩
  · have t : decide (0 < m) = false := by simp; omega
    rw [if_neg h]
    clear h
    go_enter Tryz.func260, Tryz.ntmps260
    go_wp2_with (go_at_call 276; ((with_reducible refine (C.out _).mono ?_); rintro e w' ⟨rfl, rfl⟩))
    go_ret
    exact ⟨rfl, below2 _ _ _ 0⟩
theorem below_two (w w1 : World) (o p : Obj) (h : Below ((w.alloc o).alloc p).heap.size ((w.alloc o).alloc p) w1) : Below w.heap.size w w1 :=
  (below2 w o p 0).trans (h.mono (by simp; omega))
set_option maxRecDepth 100000 in
theorem intAndNumber_any (k n k' n' : Int) (b b' : Bool) (f f' : Nat) (s s' : ByteArray) (w : World) (hn : fits n) (hf : f' < 18446744073709551616) (hk : k' = 2 ∨ k' = 3) :
    Calls Tryz.prog 227 #[vagg k b n f s, vagg k' b' n' f' s'] w fun e w' => e = .returned (.int .i64 (cmpI (numKey 2 n f) (numKey k' n' f'))) ∧ Below w.heap.size w w' := by
  rcases hk with rfl | rfl
  · rw [← cmp_ints n n' f f']
    go_enter Tryz.func227, Tryz.ntmps227
    go_wp2_with (go_at_call 231; ((with_reducible refine (nums_any _ _ _ _ _ _ _ _ _ _ _).mono ?_); rintro e w1 ⟨rfl, hb⟩))
    go_ret
    exact ⟨rfl, below_two _ _ _ _ hb⟩
  · rw [cmp_mixed n f' hn f n']
    have c := fun w => mixed_any k n 3 n' b b' f f' s s' w hn hf
    generalize (if 0 < mixedF n f' then (1 : Int) else -1) = m at *
    have C := Lib.hid c
    clear c
    go_enter Tryz.func227, Tryz.ntmps227
    go_wp2_with (go_at_call 260; ((with_reducible refine (C.out _).mono ?_); rintro e w1 ⟨rfl, hb⟩))
    go_ret
    exact ⟨rfl, below_two _ _ _ _ hb⟩
set_option maxRecDepth 100000 in
theorem floatAndNumber_any (k n k' n' : Int) (b b' : Bool) (f f' : Nat) (s s' : ByteArray) (w : World) (hn : fits n') (hf : f < 18446744073709551616) (hf' : f' < 18446744073709551616) (hk : k' = 2 ∨ k' = 3) :
    Calls Tryz.prog 228 #[vagg k b n f s, vagg k' b' n' f' s'] w fun e w' => e = .returned (.int .i64 (cmpI (numKey 3 n f) (numKey k' n' f'))) ∧ Below w.heap.size w w' := by
  rcases hk with rfl | rfl
  · rw [cmpI_flip, cmp_mixed n' f hn f' n]
    have C := Lib.hid (fun w => mixed_any 2 n' k n b' b f' f s' s w hn hf)
    by_cases h : 0 < mixedF n' f
    · rw [if_pos h] at *
      go_enter Tryz.func228, Tryz.ntmps228
      go_wp2_with (go_at_call 260; ((with_reducible refine (C.out _).mono ?_); rintro e w1 ⟨rfl, hb⟩))
      go_ret
      exact ⟨rfl, below_two _ _ _ _ hb⟩
    · rw [if_neg h] at *
      go_enter Tryz.func228, Tryz.ntmps228
      go_wp2_with (go_at_call 260; ((with_reducible refine (C.out _).mono ?_); rintro e w1 ⟨rfl, hb⟩))
      go_ret
      exact ⟨rfl, below_two _ _ _ _ hb⟩
  · rw [← cmp_floats f f' hf hf' n n']
    have C := Lib.hid (fun w => Floats_any f f' w hf hf')
    go_enter Tryz.func228, Tryz.ntmps228
    go_wp2_with (go_at_call 261; ((with_reducible refine (C.out _).mono ?_); rintro e w1 ⟨rfl, rfl⟩))
    go_ret
    exact ⟨rfl, below2 _ _ _ 0⟩
/-- The table of comparisons, as the program has it. -/
abbrev fnTable : Array Value := #[.func (.func 225) #[] #[], .func (.func 226) #[] #[], .func (.func 227) #[] #[], .func (.func 228) #[] #[],
  .func (.func 229) #[] #[], .func (.func 231) #[] #[], .func (.func 231) #[] #[]]
set_option maxRecDepth 100000 in
theorem comparisons_any (w : World) : Calls Tryz.prog 176 #[] w fun e w' => e = .returned (.agg fnTable) ∧ w' = w.alloc (.cells fnTable 239) := by
  go_enter Tryz.func176, Tryz.ntmps176
  go_wp2
  go_returns
  exact ⟨rfl, rfl⟩
end Go.Proofs.YtmolpogehgeebaaGreat


