/- The order of values: Compare, Same, for every two values that may be. -/
import Derived.Test.YtaaekjmiapelgaaGreatmV2
namespace Go.Proofs.YtaaekjmiapelgaaGreat
open Go.RowKit
theorem call_cmpstring (a b : ByteArray) (w : World) : (callFunc 136 #[.string a, .string b]).run Tryz.prog w = .ok (.value (.int .i64 (Lib.compareBytes a.data.toList b.data.toList))) w := by
  rw [run_callFunc_extern Tryz.func136 (by kernel_rfl) (by kernel_rfl) (by kernel_rfl) (e := Extern.BytealgCompare.compare) (by kernel_rfl), Lib.run_compareString]
  rfl
set_option maxRecDepth 100000 in
theorem CompareS_any (a b : ByteArray) (w : World) : Calls Tryz.prog 109 #[.string a, .string b] w fun e w' => e = .returned (.int .i64 (Lib.compareBytes a.data.toList b.data.toList)) ∧ w = w' := by
  have hc := call_cmpstring
  go_enter Tryz.func109, Tryz.ntmps109
  go_wp2
  go_ret
  exact ⟨rfl, rfl⟩
theorem CompareI' (x y : Int) (w : World) : Calls Tryz.prog 120 #[.int .i64 x, .int .i64 y] w fun e w' => e = .returned (.int .i64 (cmpI x y)) ∧ w = w' := CompareI x y w
set_option maxRecDepth 100000 in
theorem nums_any (k n k' n' : Int) (b b' : Bool) (f f' : Nat) (s s' : ByteArray) (w : World) :
    Calls Tryz.prog 110 #[vagg k b n f s, vagg k' b' n' f' s'] w fun e w' => e = .returned (.int .i64 (cmpI n n')) ∧ Below w.heap.size w w' := by
  go_enter Tryz.func110, Tryz.ntmps110
  go_wp2_with (go_at_call 120; ((with_reducible refine (CompareI' _ _ _).mono ?_); rintro e w' ⟨rfl, rfl⟩))
  go_ret
  exact ⟨rfl, below2 _ _ _ 0⟩
set_option maxRecDepth 100000 in
theorem strs_any (k n k' n' : Int) (b b' : Bool) (f f' : Nat) (s s' : ByteArray) (w : World) :
    Calls Tryz.prog 108 #[vagg k b n f s, vagg k' b' n' f' s'] w fun e w' => e = .returned (.int .i64 (Lib.compareBytes s.data.toList s'.data.toList)) ∧ Below w.heap.size w w' := by
  go_enter Tryz.func108, Tryz.ntmps108
  go_wp2_with (go_at_call 109; ((with_reducible refine (CompareS_any _ _ _).mono ?_); rintro e w' ⟨rfl, rfl⟩))
  go_ret
  exact ⟨rfl, below2 _ _ _ 0⟩
set_option maxRecDepth 100000 in
theorem nulls_any (k n k' n' : Int) (b b' : Bool) (f f' : Nat) (s s' : ByteArray) (w : World) :
    Calls Tryz.prog 104 #[vagg k b n f s, vagg k' b' n' f' s'] w fun e w' => e = .returned (.int .i64 0) ∧ Below w.heap.size w w' := by
  go_enter Tryz.func104, Tryz.ntmps104
  go_wp2
  go_ret
  exact ⟨rfl, below2 _ _ _ 0⟩
/-- A Bool's number. -/
def bnum (b : Bool) : Int := if b = true then 1 else 0
set_option maxRecDepth 100000 in
theorem bools_any (k n k' n' : Int) (b b' : Bool) (f f' : Nat) (s s' : ByteArray) (w : World) :
    Calls Tryz.prog 105 #[vagg k b n f s, vagg k' b' n' f' s'] w fun e w' => e = .returned (.int .i64 (cmpI (bnum b) (bnum b'))) ∧ Below w.heap.size w w' := by
  cases b <;> cases b'
  all_goals
    go_enter Tryz.func105, Tryz.ntmps105
    go_wp2
    go_ret
    exact ⟨rfl, below2 _ _ _ 0⟩
set_option maxRecDepth 100000 in
theorem mixed_any (k n k' n' : Int) (b b' : Bool) (f f' : Nat) (s s' : ByteArray) (w : World) (hn : fits n) (hf : f' < 18446744073709551616) :
    Calls Tryz.prog 117 #[vagg k b n f s, vagg k' b' n' f' s'] w fun e w' => e = .returned (.int .i64 (if 0 < mixedF n f' then 1 else -1)) ∧ Below w.heap.size w w' := by
  have C := Lib.hid (fun w => Mixed_any n f' w hn hf)
  generalize mixedF n f' = m at *
  by_cases h : 0 < m
  · have t : decide (0 < m) = true := by simp [h]
    rw [if_pos h]
    clear h
    go_enter Tryz.func117, Tryz.ntmps117
    go_wp2_with (go_at_call 134; ((with_reducible refine (C.out _).mono ?_); rintro e w' ⟨rfl, rfl⟩))
    go_ret
    exact ⟨rfl, below2 _ _ _ 0⟩
  · have t : decide (0 < m) = false := by simp; omega
    rw [if_neg h]
    clear h
    go_enter Tryz.func117, Tryz.ntmps117
    go_wp2_with (go_at_call 134; ((with_reducible refine (C.out _).mono ?_); rintro e w' ⟨rfl, rfl⟩))
    go_ret
    exact ⟨rfl, below2 _ _ _ 0⟩
theorem below_two (w w1 : World) (o p : Obj) (h : Below ((w.alloc o).alloc p).heap.size ((w.alloc o).alloc p) w1) : Below w.heap.size w w1 :=
  (below2 w o p 0).trans (h.mono (by simp; omega))
set_option maxRecDepth 100000 in
theorem intAndNumber_any (k n k' n' : Int) (b b' : Bool) (f f' : Nat) (s s' : ByteArray) (w : World) (hn : fits n) (hf : f' < 18446744073709551616) (hk : k' = 2 ∨ k' = 3) :
    Calls Tryz.prog 106 #[vagg k b n f s, vagg k' b' n' f' s'] w fun e w' => e = .returned (.int .i64 (cmpI (numKey 2 n f) (numKey k' n' f'))) ∧ Below w.heap.size w w' := by
  rcases hk with rfl | rfl
  · rw [← cmp_ints n n' f f']
    go_enter Tryz.func106, Tryz.ntmps106
    go_wp2_with (go_at_call 110; ((with_reducible refine (nums_any _ _ _ _ _ _ _ _ _ _ _).mono ?_); rintro e w1 ⟨rfl, hb⟩))
    go_ret
    exact ⟨rfl, below_two _ _ _ _ hb⟩
  · rw [cmp_mixed n f' hn f n']
    have c := fun w => mixed_any k n 3 n' b b' f f' s s' w hn hf
    generalize (if 0 < mixedF n f' then (1 : Int) else -1) = m at *
    have C := Lib.hid c
    clear c
    go_enter Tryz.func106, Tryz.ntmps106
    go_wp2_with (go_at_call 117; ((with_reducible refine (C.out _).mono ?_); rintro e w1 ⟨rfl, hb⟩))
    go_ret
    exact ⟨rfl, below_two _ _ _ _ hb⟩
set_option maxRecDepth 100000 in
theorem floatAndNumber_any (k n k' n' : Int) (b b' : Bool) (f f' : Nat) (s s' : ByteArray) (w : World) (hn : fits n') (hf : f < 18446744073709551616) (hf' : f' < 18446744073709551616) (hk : k' = 2 ∨ k' = 3) :
    Calls Tryz.prog 107 #[vagg k b n f s, vagg k' b' n' f' s'] w fun e w' => e = .returned (.int .i64 (cmpI (numKey 3 n f) (numKey k' n' f'))) ∧ Below w.heap.size w w' := by
  rcases hk with rfl | rfl
  · rw [cmpI_flip, cmp_mixed n' f hn f' n]
    have C := Lib.hid (fun w => mixed_any 2 n' k n b' b f' f s' s w hn hf)
    by_cases h : 0 < mixedF n' f
    · rw [if_pos h] at *
      go_enter Tryz.func107, Tryz.ntmps107
      go_wp2_with (go_at_call 117; ((with_reducible refine (C.out _).mono ?_); rintro e w1 ⟨rfl, hb⟩))
      go_ret
      exact ⟨rfl, below_two _ _ _ _ hb⟩
    · rw [if_neg h] at *
      go_enter Tryz.func107, Tryz.ntmps107
      go_wp2_with (go_at_call 117; ((with_reducible refine (C.out _).mono ?_); rintro e w1 ⟨rfl, hb⟩))
      go_ret
      exact ⟨rfl, below_two _ _ _ _ hb⟩
  · rw [← cmp_floats f f' hf hf' n n']
    have C := Lib.hid (fun w => Floats_any f f' w hf hf')
    go_enter Tryz.func107, Tryz.ntmps107
    go_wp2_with (go_at_call 118; ((with_reducible refine (C.out _).mono ?_); rintro e w1 ⟨rfl, rfl⟩))
    go_ret
    exact ⟨rfl, below2 _ _ _ 0⟩
/-- The table of comparisons, as the program has it. -/
abbrev fnTable : Array Value := #[.func (.func 104) #[] #[], .func (.func 105) #[] #[], .func (.func 106) #[] #[], .func (.func 107) #[] #[],
  .func (.func 108) #[] #[], .func (.func 110) #[] #[], .func (.func 110) #[] #[]]
set_option maxRecDepth 100000 in
theorem comparisons_any (w : World) : Calls Tryz.prog 90 #[] w fun e w' => e = .returned (.agg fnTable) ∧ w' = w.alloc (.cells fnTable 114) := by
  go_enter Tryz.func90, Tryz.ntmps90
  go_wp2
  go_returns
  exact ⟨rfl, rfl⟩
end Go.Proofs.YtaaekjmiapelgaaGreat

