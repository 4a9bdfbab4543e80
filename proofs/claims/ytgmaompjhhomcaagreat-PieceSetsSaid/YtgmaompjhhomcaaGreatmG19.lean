/- The functions of package value that compare: which values may be, alike ones, the order, for every value. -/
/- The order of values: Compare, Same, for every two values that may be. -/
import Derived.Test.YtgmaompjhhomcaaGreatmV1
import Derived.Test.YtgmaompjhhomcaaGreatmG18
import Derived.Shelf.Small.Strs
import Derived.Laws.EntriesVeiled
namespace Go.Proofs.YtgmaompjhhomcaaGreat
open Go.RowKit

/-- A value as the program has it. -/
abbrev vagg (k : Int) (b : Bool) (n : Int) (f : Nat) (s : ByteArray) : Value := .agg #[.int .i64 k, .bool b, .int .i64 n, .float .f64 f, .string s]
set_option maxRecDepth 100000 in
theorem class_any (k : Int) (w : World) : Calls Tryz.prog 130 #[.int .i64 k] w fun e w' => e = .returned (.int .i64 (classK k)) ∧ w = w' := by
  unfold classK
  by_cases h : k = 3
  · subst h
    go_enter Tryz.func130, Tryz.ntmps130
    go_wp2
    go_ret
    exact ⟨rfl, rfl⟩
  · have hb : (k == 3) = false := by simp [h]
    rw [if_neg h]
    go_enter Tryz.func130, Tryz.ntmps130
    go_wp2
    go_ret
    exact ⟨rfl, rfl⟩
set_option maxRecDepth 100000 in
theorem known_any (k : Int) (w : World) (h0 : 0 ≤ k) (h1 : k ≤ 6) : Calls Tryz.prog 131 #[.int .i64 k] w fun e w' => e = .returned (.bool true) ∧ w = w' := by
  go_enter Tryz.func131, Tryz.ntmps131
  go_wp2
  go_ret
  exact ⟨rfl, rfl⟩
set_option maxRecDepth 100000 in
theorem CompareN_any (x y : Int) (w : World) : Calls Tryz.prog 129 #[.int .i64 x, .int .i64 y] w fun e w' => e = .returned (.int .i64 (cmpI x y)) ∧ w = w' := by
  obtain ⟨c, hc⟩ : ∃ c, c = cmpI x y := ⟨_, rfl⟩
  rw [← hc]
  unfold cmpI at hc
  by_cases p : x < y
  · have pb : decide (x < y) = true := by simp [p]
    rw [if_pos p] at hc
    subst hc
    go_enter Tryz.func129, Tryz.ntmps129
    go_wp2
    go_ret
    exact ⟨rfl, rfl⟩
  · have pb : decide (x < y) = false := by simp [p]
    rw [if_neg p] at hc
    by_cases q : y < x
    · have qb : decide (y < x) = true := by simp [q]
      rw [if_pos q] at hc
      subst hc
      clear p
      go_enter Tryz.func129, Tryz.ntmps129
      go_wp2
      go_ret
      exact ⟨rfl, rfl⟩
    · have qb : decide (y < x) = false := by simp [q]
      rw [if_neg q] at hc
      subst hc
      clear p q
      go_enter Tryz.func129, Tryz.ntmps129
      go_wp2
      go_ret
      exact ⟨rfl, rfl⟩
/-- Whether two values are the same in each field. -/
def likeV (k : Int) (b : Bool) (n : Int) (f : Nat) (s : ByteArray) (k' : Int) (b' : Bool) (n' : Int) (f' : Nat) (s' : ByteArray) : Bool := decide (k = k' ∧ b = b' ∧ n = n' ∧ f = f' ∧ s = s')
theorem like_no {k k' n n' : Int} {b b' : Bool} {f f' : Nat} {s s' : ByteArray} (h : ¬ (k = k' ∧ b = b' ∧ n = n' ∧ f = f' ∧ s = s')) : likeV k b n f s k' b' n' f' s' = false := by
  unfold likeV; simpa using h
theorem str_ne {s t : ByteArray} (h : ¬ s = t) : (s.toList == t.toList) = false := by
  rw [ByteArray.toList_eq, ByteArray.toList_eq, beq_eq_false_iff_ne]
  exact fun e => h (ByteArray.ext (Array.toList_inj.1 e))
theorem below2 (w : World) (o p : Obj) (m : Nat) : Below w.heap.size w (((w.alloc o).alloc p).drewN m) := below_drewN (((Below.refl _ _).alloc (Nat.le_refl _) o).alloc (by simp) p) m
set_option maxRecDepth 100000 in
set_option maxHeartbeats 1000000 in
theorem identical_any (k : Int) (b : Bool) (n : Int) (f : Nat) (s : ByteArray) (k' : Int) (b' : Bool) (n' : Int) (f' : Nat) (s' : ByteArray) (w : World) :
    Calls Tryz.prog 125 #[vagg k b n f s, vagg k' b' n' f' s'] w fun e w' => e = .returned (.bool (likeV k b n f s k' b' n' f' s')) ∧ Below w.heap.size w w' := by
  have hfb := call_Float64bits
  by_cases hk : k = k'
  · subst hk
    by_cases hb : b = b'
    · subst hb
      by_cases hn : n = n'
      · subst hn
        by_cases hs : s = s'
        · subst hs
          by_cases hf : f = f'
          · subst hf
            have HL : Hid (likeV k b n f s k b n f s = true) := by show likeV k b n f s k b n f s = true; unfold likeV; simp
            go_enter Tryz.func125, Tryz.ntmps125
            go_wp2
            go_quiet (fail)
            go_wp2
            go_ret
            exact ⟨retB HL.out.symm, below2 _ _ _ _⟩
          · have HL := Lib.hid (like_no (k := k) (k' := k) (n := n) (n' := n) (b := b) (b' := b) (f := f) (f' := f') (s := s) (s' := s) (by intro h; exact hf h.2.2.2.1))
            have t1 : ((f : Int) == (f' : Int)) = false := by simp; omega
            clear hf
            go_enter Tryz.func125, Tryz.ntmps125
            go_wp2
            go_quiet (fail)
            go_wp2
            go_ret
            exact ⟨retB HL.out.symm, below2 _ _ _ _⟩
        · have HL := Lib.hid (like_no (k := k) (k' := k) (n := n) (n' := n) (b := b) (b' := b) (f := f) (f' := f') (s := s) (s' := s') (by intro h; exact hs h.2.2.2.2))
          have t1 : (s.toList == s'.toList) = false := str_ne hs
          clear hs
          go_enter Tryz.func125, Tryz.ntmps125
          go_wp2
          go_quiet (fail)
          go_wp2
          go_ret
          exact ⟨retB HL.out.symm, below2 _ _ _ _⟩
      · have HL := Lib.hid (like_no (k := k) (k' := k) (n := n) (n' := n') (b := b) (b' := b) (f := f) (f' := f') (s := s) (s' := s') (by intro h; exact hn h.2.2.1))
        have t1 : (n == n') = false := by simp [hn]
        clear hn
        go_enter Tryz.func125, Tryz.ntmps125
        go_wp2
        go_quiet (fail)
        go_wp2
        go_ret
        exact ⟨retB HL.out.symm, below2 _ _ _ _⟩
    · have HL := Lib.hid (like_no (k := k) (k' := k) (n := n) (n' := n') (b := b) (b' := b') (f := f) (f' := f') (s := s) (s' := s') (by intro h; exact hb h.2.1))
      have t1 : (b == b') = false := by simpa using hb
      clear hb
      go_enter Tryz.func125, Tryz.ntmps125
      go_wp2
      go_quiet (fail)
      go_wp2
      go_ret
      exact ⟨retB HL.out.symm, below2 _ _ _ _⟩
  · have HL := Lib.hid (like_no (k := k) (k' := k') (n := n) (n' := n') (b := b) (b' := b') (f := f) (f' := f') (s := s) (s' := s') (by intro h; exact hk h.1))
    have t1 : (k == k') = false := by simp [hk]
    clear hk
    go_enter Tryz.func125, Tryz.ntmps125
    go_wp2
    go_quiet (fail)
    go_wp2
    go_ret
    exact ⟨retB HL.out.symm, below2 _ _ _ _⟩
set_option maxRecDepth 100000 in
set_option maxHeartbeats 1000000 in
theorem Like_any (k : Int) (b : Bool) (n : Int) (f : Nat) (s : ByteArray) (k' : Int) (b' : Bool) (n' : Int) (f' : Nat) (s' : ByteArray) (w : World) :
    Calls Tryz.prog 23 #[vagg k b n f s, vagg k' b' n' f' s'] w fun e w' => e = .returned (.bool (likeV k b n f s k' b' n' f' s')) ∧ Below w.heap.size w w' := by
  have hfb := call_Float64bits
  by_cases hk : k = k'
  · subst hk
    by_cases hb : b = b'
    · subst hb
      by_cases hn : n = n'
      · subst hn
        by_cases hf : f = f'
        · subst hf
          by_cases hs : s = s'
          · subst hs
            have HL : Hid (likeV k b n f s k b n f s = true) := by show likeV k b n f s k b n f s = true; unfold likeV; simp
            go_enter Tryz.func23, Tryz.ntmps23
            go_wp2
            go_quiet (fail)
            go_wp2
            go_ret
            exact ⟨retB HL.out.symm, below2 _ _ _ _⟩
          · have HL := Lib.hid (like_no (k := k) (k' := k) (n := n) (n' := n) (b := b) (b' := b) (f := f) (f' := f) (s := s) (s' := s') (by intro h; exact hs h.2.2.2.2))
            have t1 : (s.toList == s'.toList) = false := str_ne hs
            clear hs
            go_enter Tryz.func23, Tryz.ntmps23
            go_wp2
            go_quiet (fail)
            go_wp2
            go_ret
            exact ⟨retB HL.out.symm, below2 _ _ _ _⟩
        · have HL := Lib.hid (like_no (k := k) (k' := k) (n := n) (n' := n) (b := b) (b' := b) (f := f) (f' := f') (s := s) (s' := s') (by intro h; exact hf h.2.2.2.1))
          have t1 : ((f : Int) == (f' : Int)) = false := by simp; omega
          clear hf
          go_enter Tryz.func23, Tryz.ntmps23
          go_wp2
          go_quiet (fail)
          go_wp2
          go_ret
          exact ⟨retB HL.out.symm, below2 _ _ _ _⟩
      · have HL := Lib.hid (like_no (k := k) (k' := k) (n := n) (n' := n') (b := b) (b' := b) (f := f) (f' := f') (s := s) (s' := s') (by intro h; exact hn h.2.2.1))
        have t1 : (n == n') = false := by simp [hn]
        clear hn
        go_enter Tryz.func23, Tryz.ntmps23
        go_wp2
        go_quiet (fail)
        go_wp2
        go_ret
        exact ⟨retB HL.out.symm, below2 _ _ _ _⟩
    · have HL := Lib.hid (like_no (k := k) (k' := k) (n := n) (n' := n') (b := b) (b' := b') (f := f) (f' := f') (s := s) (s' := s') (by intro h; exact hb h.2.1))
      have t1 : (b == b') = false := by simpa using hb
      clear hb
      go_enter Tryz.func23, Tryz.ntmps23
      go_wp2
      go_quiet (fail)
      go_wp2
      go_ret
      exact ⟨retB HL.out.symm, below2 _ _ _ _⟩
  · have HL := Lib.hid (like_no (k := k) (k' := k') (n := n) (n' := n') (b := b) (b' := b') (f := f) (f' := f') (s := s) (s' := s') (by intro h; exact hk h.1))
    have t1 : (k == k') = false := by simp [hk]
    clear hk
    go_enter Tryz.func23, Tryz.ntmps23
    go_wp2
    go_quiet (fail)
    go_wp2
    go_ret
    exact ⟨retB HL.out.symm, below2 _ _ _ _⟩
end Go.Proofs.YtgmaompjhhomcaaGreat

namespace Go.Proofs.YtgmaompjhhomcaaGreat
open Go.RowKit
theorem call_cmpstring (a b : ByteArray) (w : World) : (callFunc 219 #[.string a, .string b]).run Tryz.prog w = .ok (.value (.int .i64 (Lib.compareBytes a.data.toList b.data.toList))) w := by
  rw [run_callFunc_extern Tryz.func219 (by kernel_rfl) (by kernel_rfl) (by kernel_rfl) (e := Extern.BytealgCompare.compare) (by kernel_rfl), Lib.run_compareString]
  rfl
set_option maxRecDepth 100000 in
theorem CompareS_any (a b : ByteArray) (w : World) : Calls Tryz.prog 169 #[.string a, .string b] w fun e w' => e = .returned (.int .i64 (Lib.compareBytes a.data.toList b.data.toList)) ∧ w = w' := by
  have hc := call_cmpstring
  go_enter Tryz.func169, Tryz.ntmps169
  go_wp2
  go_ret
  exact ⟨rfl, rfl⟩
theorem CompareI' (x y : Int) (w : World) : Calls Tryz.prog 197 #[.int .i64 x, .int .i64 y] w fun e w' => e = .returned (.int .i64 (cmpI x y)) ∧ w = w' := CompareI x y w
set_option maxRecDepth 100000 in
theorem nums_any (k n k' n' : Int) (b b' : Bool) (f f' : Nat) (s s' : ByteArray) (w : World) :
    Calls Tryz.prog 170 #[vagg k b n f s, vagg k' b' n' f' s'] w fun e w' => e = .returned (.int .i64 (cmpI n n')) ∧ Below w.heap.size w w' := by
  go_enter Tryz.func170, Tryz.ntmps170
  go_wp2_with (go_at_call 197; ((with_reducible refine (CompareI' _ _ _).mono ?_); rintro e w' ⟨rfl, rfl⟩))
  go_ret
  exact ⟨rfl, below2 _ _ _ 0⟩
set_option maxRecDepth 100000 in
theorem strs_any (k n k' n' : Int) (b b' : Bool) (f f' : Nat) (s s' : ByteArray) (w : World) :
    Calls Tryz.prog 168 #[vagg k b n f s, vagg k' b' n' f' s'] w fun e w' => e = .returned (.int .i64 (Lib.compareBytes s.data.toList s'.data.toList)) ∧ Below w.heap.size w w' := by
  go_enter Tryz.func168, Tryz.ntmps168
  go_wp2_with (go_at_call 169; ((with_reducible refine (CompareS_any _ _ _).mono ?_); rintro e w' ⟨rfl, rfl⟩))
  go_ret
  exact ⟨rfl, below2 _ _ _ 0⟩
set_option maxRecDepth 100000 in
theorem nulls_any (k n k' n' : Int) (b b' : Bool) (f f' : Nat) (s s' : ByteArray) (w : World) :
    Calls Tryz.prog 164 #[vagg k b n f s, vagg k' b' n' f' s'] w fun e w' => e = .returned (.int .i64 0) ∧ Below w.heap.size w w' := by
  go_enter Tryz.func164, Tryz.ntmps164
  go_wp2
  go_ret
  exact ⟨rfl, below2 _ _ _ 0⟩
/-- A Bool's number. -/
def bnum (b : Bool) : Int := if b = true then 1 else 0
set_option maxRecDepth 100000 in
theorem bools_any (k n k' n' : Int) (b b' : Bool) (f f' : Nat) (s s' : ByteArray) (w : World) :
    Calls Tryz.prog 165 #[vagg k b n f s, vagg k' b' n' f' s'] w fun e w' => e = .returned (.int .i64 (cmpI (bnum b) (bnum b'))) ∧ Below w.heap.size w w' := by
  cases b <;> cases b'
  all_goals
    go_enter Tryz.func165, Tryz.ntmps165
    go_wp2
    go_ret
    exact ⟨rfl, below2 _ _ _ 0⟩
set_option maxRecDepth 100000 in
theorem mixed_any (k n k' n' : Int) (b b' : Bool) (f f' : Nat) (s s' : ByteArray) (w : World) (hn : fits n) (hf : f' < 18446744073709551616) :
    Calls Tryz.prog 194 #[vagg k b n f s, vagg k' b' n' f' s'] w fun e w' => e = .returned (.int .i64 (if 0 < mixedF n f' then 1 else -1)) ∧ Below w.heap.size w w' := by
  have C := Lib.hid (fun w => Mixed_any n f' w hn hf)
  generalize mixedF n f' = m at *
  by_cases h : 0 < m
  · have t : decide (0 < m) = true := by simp [h]
    rw [if_pos h]
    clear h
    go_enter Tryz.func194, Tryz.ntmps194
    go_wp2_with (go_at_call 217; ((with_reducible refine (C.out _).mono ?_); rintro e w' ⟨rfl, rfl⟩))
    go_ret
    exact ⟨rfl, below2 _ _ _ 0⟩
  · have t : decide (0 < m) = false := by simp; omega
    rw [if_neg h]
    clear h
    go_enter Tryz.func194, Tryz.ntmps194
    go_wp2_with (go_at_call 217; ((with_reducible refine (C.out _).mono ?_); rintro e w' ⟨rfl, rfl⟩))
    go_ret
    exact ⟨rfl, below2 _ _ _ 0⟩
theorem below_two (w w1 : World) (o p : Obj) (h : Below ((w.alloc o).alloc p).heap.size ((w.alloc o).alloc p) w1) : Below w.heap.size w w1 :=
  (below2 w o p 0).trans (h.mono (by simp; omega))
set_option maxRecDepth 100000 in
theorem intAndNumber_any (k n k' n' : Int) (b b' : Bool) (f f' : Nat) (s s' : ByteArray) (w : World) (hn : fits n) (hf : f' < 18446744073709551616) (hk : k' = 2 ∨ k' = 3) :
    Calls Tryz.prog 166 #[vagg k b n f s, vagg k' b' n' f' s'] w fun e w' => e = .returned (.int .i64 (cmpI (numKey 2 n f) (numKey k' n' f'))) ∧ Below w.heap.size w w' := by
  rcases hk with rfl | rfl
  · rw [← cmp_ints n n' f f']
    go_enter Tryz.func166, Tryz.ntmps166
    go_wp2_with (go_at_call 170; ((with_reducible refine (nums_any _ _ _ _ _ _ _ _ _ _ _).mono ?_); rintro e w1 ⟨rfl, hb⟩))
    go_ret
    exact ⟨rfl, below_two _ _ _ _ hb⟩
  · rw [cmp_mixed n f' hn f n']
    have c := fun w => mixed_any k n 3 n' b b' f f' s s' w hn hf
    generalize (if 0 < mixedF n f' then (1 : Int) else -1) = m at *
    have C := Lib.hid c
    clear c
    go_enter Tryz.func166, Tryz.ntmps166
    go_wp2_with (go_at_call 194; ((with_reducible refine (C.out _).mono ?_); rintro e w1 ⟨rfl, hb⟩))
    go_ret
    exact ⟨rfl, below_two _ _ _ _ hb⟩
set_option maxRecDepth 100000 in
theorem floatAndNumber_any (k n k' n' : Int) (b b' : Bool) (f f' : Nat) (s s' : ByteArray) (w : World) (hn : fits n') (hf : f < 18446744073709551616) (hf' : f' < 18446744073709551616) (hk : k' = 2 ∨ k' = 3) :
    Calls Tryz.prog 167 #[vagg k b n f s, vagg k' b' n' f' s'] w fun e w' => e = .returned (.int .i64 (cmpI (numKey 3 n f) (numKey k' n' f'))) ∧ Below w.heap.size w w' := by
  rcases hk with rfl | rfl
  · rw [cmpI_flip, cmp_mixed n' f hn f' n]
    have C := Lib.hid (fun w => mixed_any 2 n' k n b' b f' f s' s w hn hf)
    by_cases h : 0 < mixedF n' f
    · rw [if_pos h] at *
      go_enter Tryz.func167, Tryz.ntmps167
      go_wp2_with (go_at_call 194; ((with_reducible refine (C.out _).mono ?_); rintro e w1 ⟨rfl, hb⟩))
      go_ret
      exact ⟨rfl, below_two _ _ _ _ hb⟩
    · rw [if_neg h] at *
      go_enter Tryz.func167, Tryz.ntmps167
      go_wp2_with (go_at_call 194; ((with_reducible refine (C.out _).mono ?_); rintro e w1 ⟨rfl, hb⟩))
      go_ret
      exact ⟨rfl, below_two _ _ _ _ hb⟩
  · rw [← cmp_floats f f' hf hf' n n']
    have C := Lib.hid (fun w => Floats_any f f' w hf hf')
    go_enter Tryz.func167, Tryz.ntmps167
    go_wp2_with (go_at_call 195; ((with_reducible refine (C.out _).mono ?_); rintro e w1 ⟨rfl, rfl⟩))
    go_ret
    exact ⟨rfl, below2 _ _ _ 0⟩
/-- The table of comparisons, as the program has it. -/
abbrev fnTable : Array Value := #[.func (.func 164) #[] #[], .func (.func 165) #[] #[], .func (.func 166) #[] #[], .func (.func 167) #[] #[],
  .func (.func 168) #[] #[], .func (.func 170) #[] #[], .func (.func 170) #[] #[]]
set_option maxRecDepth 100000 in
theorem comparisons_any (w : World) : Calls Tryz.prog 132 #[] w fun e w' => e = .returned (.agg fnTable) ∧ w' = w.alloc (.cells fnTable 169) := by
  go_enter Tryz.func132, Tryz.ntmps132
  go_wp2
  go_returns
  exact ⟨rfl, rfl⟩
end Go.Proofs.YtgmaompjhhomcaaGreat

