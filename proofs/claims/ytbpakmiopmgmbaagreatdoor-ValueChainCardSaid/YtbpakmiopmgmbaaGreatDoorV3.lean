/- The order of values: Compare, Same, for every two values that may be. -/
import Derived.Test.YtbpakmiopmgmbaaGreatDoorV2
namespace Go.Proofs.YtbpakmiopmgmbaaGreatDoor
open Go.RowKit
theorem call_cmpstring (a b : ByteArray) (w : World) : (callFunc 81 #[.string a, .string b]).run Tryz.prog w = .ok (.value (.int .i64 (Lib.compareBytes a.data.toList b.data.toList))) w := by
  rw [run_callFunc_extern Tryz.func81 (by kernel_rfl) (by kernel_rfl) (by kernel_rfl) (e := Extern.BytealgCompare.compare) (by kernel_rfl), Lib.run_compareString]
  rfl
set_option maxRecDepth 100000 in
theorem CompareS_any (a b : ByteArray) (w : World) : Calls Tryz.prog 49 #[.string a, .string b] w fun e w' => e = .returned (.int .i64 (Lib.compareBytes a.data.toList b.data.toList)) ∧ w = w' := by
  have hc := call_cmpstring
  go_enter Tryz.func49, Tryz.ntmps49
  go_wp2
  go_ret
  exact ⟨rfl, rfl⟩
theorem CompareI' (x y : Int) (w : World) : Calls Tryz.prog 61 #[.int .i64 x, .int .i64 y] w fun e w' => e = .returned (.int .i64 (cmpI x y)) ∧ w = w' := CompareI x y w
set_option maxRecDepth 100000 in
theorem nums_any (k n k' n' : Int) (b b' : Bool) (f f' : Nat) (s s' : ByteArray) (w : World) :
    Calls Tryz.prog 50 #[vagg k b n f s, vagg k' b' n' f' s'] w fun e w' => e = .returned (.int .i64 (cmpI n n')) ∧ Below w.heap.size w w' := by
  go_enter Tryz.func50, Tryz.ntmps50
  go_wp2_with (go_at_call 61; ((with_reducible refine (CompareI' _ _ _).mono ?_); rintro e w' ⟨rfl, rfl⟩))
  go_ret
  exact ⟨rfl, below2 _ _ _ 0⟩
set_option maxRecDepth 100000 in
theorem strs_any (k n k' n' : Int) (b b' : Bool) (f f' : Nat) (s s' : ByteArray) (w : World) :
    Calls Tryz.prog 48 #[vagg k b n f s, vagg k' b' n' f' s'] w fun e w' => e = .returned (.int .i64 (Lib.compareBytes s.data.toList s'.data.toList)) ∧ Below w.heap.size w w' := by
  go_enter Tryz.func48, Tryz.ntmps48
  go_wp2_with (go_at_call 49; ((with_reducible refine (CompareS_any _ _ _).mono ?_); rintro e w' ⟨rfl, rfl⟩))
  go_ret
  exact ⟨rfl, below2 _ _ _ 0⟩
set_option maxRecDepth 100000 in
theorem nulls_any (k n k' n' : Int) (b b' : Bool) (f f' : Nat) (s s' : ByteArray) (w : World) :
    Calls Tryz.prog 44 #[vagg k b n f s, vagg k' b' n' f' s'] w fun e w' => e = .returned (.int .i64 0) ∧ Below w.heap.size w w' := by
  go_enter Tryz.func44, Tryz.ntmps44
  go_wp2
  go_ret
  exact ⟨rfl, below2 _ _ _ 0⟩
/-- A Bool's number. -/
def bnum (b : Bool) : Int := if b = true then 1 else 0
set_option maxRecDepth 100000 in
theorem bools_any (k n k' n' : Int) (b b' : Bool) (f f' : Nat) (s s' : ByteArray) (w : World) :
    Calls Tryz.prog 45 #[vagg k b n f s, vagg k' b' n' f' s'] w fun e w' => e = .returned (.int .i64 (cmpI (bnum b) (bnum b'))) ∧ Below w.heap.size w w' := by
  cases b <;> cases b'
  all_goals
    go_enter Tryz.func45, Tryz.ntmps45
    go_wp2
    go_ret
    exact ⟨rfl, below2 _ _ _ 0⟩
set_option maxRecDepth 100000 in
theorem mixed_any (k n k' n' : Int) (b b' : Bool) (f f' : Nat) (s s' : ByteArray) (w : World) (hn : fits n) (hf : f' < 18446744073709551616) :
    Calls Tryz.prog 63 #[vagg k b n f s, vagg k' b' n' f' s'] w fun e w' => e = .returned (.int .i64 (if 0 < mixedF n f' then 1 else -1)) ∧ Below w.heap.size w w' := by
  have C := Lib.hid (fun w => Mixed_any n f' w hn hf)
  generalize mixedF n f' = m at *
  by_cases h : 0 < m
  · have t : decide (0 < m) = true := by simp [h]
    rw [if_pos h]
    clear h
    go_enter Tryz.func63, Tryz.ntmps63
    go_wp2_with (go_at_call 42; ((with_reducible refine (C.out _).mono ?_); rintro e w' ⟨rfl, rfl⟩))
    go_ret
    exact ⟨rfl, below2 _ _ _ 0⟩
  · have t : decide (0 < m) = false := by simp; omega
    rw [if_neg h]
    clear h
    go_enter Tryz.func63, Tryz.ntmps63
    go_wp2_with (go_at_call 42; ((with_reducible refine (C.out _).mono ?_); rintro e w' ⟨rfl, rfl⟩))
    go_ret
    exact ⟨rfl, below2 _ _ _ 0⟩
theorem below_two (w w1 : World) (o p : Obj) (h : Below ((w.alloc o).alloc p).heap.size ((w.alloc o).alloc p) w1) : Below w.heap.size w w1 :=
  (below2 w o p 0).trans (h.mono (by simp; omega))
set_option maxRecDepth 100000 in
theorem intAndNumber_any (k n k' n' : Int) (b b' : Bool) (f f' : Nat) (s s' : ByteArray) (w : World) (hn : fits n) (hf : f' < 18446744073709551616) (hk : k' = 2 ∨ k' = 3) :
    Calls Tryz.prog 46 #[vagg k b n f s, vagg k' b' n' f' s'] w fun e w' => e = .returned (.int .i64 (cmpI (numKey 2 n f) (numKey k' n' f'))) ∧ Below w.heap.size w w' := by
  rcases hk with rfl | rfl
  · rw [← cmp_ints n n' f f']
    go_enter Tryz.func46, Tryz.ntmps46
    go_wp2_with (go_at_call 50; ((with_reducible refine (nums_any _ _ _ _ _ _ _ _ _ _ _).mono ?_); rintro e w1 ⟨rfl, hb⟩))
    go_ret
    exact ⟨rfl, below_two _ _ _ _ hb⟩
  · rw [cmp_mixed n f' hn f n']
    have c := fun w => mixed_any k n 3 n' b b' f f' s s' w hn hf
    generalize (if 0 < mixedF n f' then (1 : Int) else -1) = m at *
    have C := Lib.hid c
    clear c
    go_enter Tryz.func46, Tryz.ntmps46
    go_wp2_with (go_at_call 63; ((with_reducible refine (C.out _).mono ?_); rintro e w1 ⟨rfl, hb⟩))
    go_ret
    exact ⟨rfl, below_two _ _ _ _ hb⟩
set_option maxRecDepth 100000 in
theorem floatAndNumber_any (k n k' n' : Int) (b b' : Bool) (f f' : Nat) (s s' : ByteArray) (w : World) (hn : fits n') (hf : f < 18446744073709551616) (hf' : f' < 18446744073709551616) (hk : k' = 2 ∨ k' = 3) :
    Calls Tryz.prog 47 #[vagg k b n f s, vagg k' b' n' f' s'] w fun e w' => e = .returned (.int .i64 (cmpI (numKey 3 n f) (numKey k' n' f'))) ∧ Below w.heap.size w w' := by
  rcases hk with rfl | rfl
  · rw [cmpI_flip, cmp_mixed n' f hn f' n]
    have C := Lib.hid (fun w => mixed_any 2 n' k n b' b f' f s' s w hn hf)
    by_cases h : 0 < mixedF n' f
    · rw [if_pos h] at *
      go_enter Tryz.func47, Tryz.ntmps47
      go_wp2_with (go_at_call 63; ((with_reducible refine (C.out _).mono ?_); rintro e w1 ⟨rfl, hb⟩))
      go_ret
      exact ⟨rfl, below_two _ _ _ _ hb⟩
    · rw [if_neg h] at *
      go_enter Tryz.func47, Tryz.ntmps47
      go_wp2_with (go_at_call 63; ((with_reducible refine (C.out _).mono ?_); rintro e w1 ⟨rfl, hb⟩))
      go_ret
      exact ⟨rfl, below_two _ _ _ _ hb⟩
  · rw [← cmp_floats f f' hf hf' n n']
    have C := Lib.hid (fun w => Floats_any f f' w hf hf')
    go_enter Tryz.func47, Tryz.ntmps47
    go_wp2_with (go_at_call 64; ((with_reducible refine (C.out _).mono ?_); rintro e w1 ⟨rfl, rfl⟩))
    go_ret
    exact ⟨rfl, below2 _ _ _ 0⟩
/-- The table of comparisons, as the program has it. -/
abbrev fnTable : Array Value := #[.func (.func 44) #[] #[], .func (.func 45) #[] #[], .func (.func 46) #[] #[], .func (.func 47) #[] #[],
  .func (.func 48) #[] #[], .func (.func 50) #[] #[], .func (.func 50) #[] #[]]
set_option maxRecDepth 100000 in
theorem comparisons_any (w : World) : Calls Tryz.prog 32 #[] w fun e w' => e = .returned (.agg fnTable) ∧ w' = w.alloc (.cells fnTable 48) := by
  go_enter Tryz.func32, Tryz.ntmps32
  go_wp2
  go_returns
  exact ⟨rfl, rfl⟩
end Go.Proofs.YtbpakmiopmgmbaaGreatDoor
