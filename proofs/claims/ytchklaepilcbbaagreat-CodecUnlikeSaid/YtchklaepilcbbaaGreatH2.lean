/- The functions of package value that compare: which values may be, alike ones, the order, for every value. -/
import Derived.Test.YtchklaepilcbbaaGreatH1
import Derived.Shelf.Small.Strs
import Derived.Laws.EntriesVeiled
namespace Go.Proofs.YtchklaepilcbbaaGreat
open Go.RowKit

/-- A value as the program has it. -/
abbrev vagg (k : Int) (b : Bool) (n : Int) (f : Nat) (s : ByteArray) : Value := .agg #[.int .i64 k, .bool b, .int .i64 n, .float .f64 f, .string s]
set_option maxRecDepth 100000 in
theorem class_any (k : Int) (w : World) : Calls Tryz.prog 138 #[.int .i64 k] w fun e w' => e = .returned (.int .i64 (classK k)) ∧ w = w' := by
  unfold classK
  by_cases h : k = 3
  · subst h
    go_enter Tryz.func138, Tryz.ntmps138
    go_wp2
    go_ret
    exact ⟨rfl, rfl⟩
  · have hb : (k == 3) = false := by simp [h]
    rw [if_neg h]
    go_enter Tryz.func138, Tryz.ntmps138
    go_wp2
    go_ret
    exact ⟨rfl, rfl⟩
set_option maxRecDepth 100000 in
theorem known_any (k : Int) (w : World) (h0 : 0 ≤ k) (h1 : k ≤ 6) : Calls Tryz.prog 139 #[.int .i64 k] w fun e w' => e = .returned (.bool true) ∧ w = w' := by
  go_enter Tryz.func139, Tryz.ntmps139
  go_wp2
  go_ret
  exact ⟨rfl, rfl⟩
set_option maxRecDepth 100000 in
theorem CompareN_any (x y : Int) (w : World) : Calls Tryz.prog 137 #[.int .i64 x, .int .i64 y] w fun e w' => e = .returned (.int .i64 (cmpI x y)) ∧ w = w' := by
  obtain ⟨c, hc⟩ : ∃ c, c = cmpI x y := ⟨_, rfl⟩
  rw [← hc]
  unfold cmpI at hc
  by_cases p : x < y
  · have pb : decide (x < y) = true := by simp [p]
    rw [if_pos p] at hc
    subst hc
    go_enter Tryz.func137, Tryz.ntmps137
    go_wp2
    go_ret
    exact ⟨rfl, rfl⟩
  · have pb : decide (x < y) = false := by simp [p]
    rw [if_neg p] at hc
    by_cases q : y < x
    · have qb : decide (y < x) = true := by simp [q]
      rw [if_pos q] at hc
      subst hc
      clear p
      go_enter Tryz.func137, Tryz.ntmps137
      go_wp2
      go_ret
      exact ⟨rfl, rfl⟩
    · have qb : decide (y < x) = false := by simp [q]
      rw [if_neg q] at hc
      subst hc
      clear p q
      go_enter Tryz.func137, Tryz.ntmps137
      go_wp2
      go_ret
      exact ⟨rfl, rfl⟩
/-- Whether two values are the same in each field. -/
def likeV (k : Int) (b : Bool) (n : Int) (f : Nat) (s : ByteArray) (k' : Int) (b' : Bool) (n' : Int) (f' : Nat) (s' : ByteArray) : Bool := decide (k = k' ∧ b = b' ∧ n = n' ∧ f = f' ∧ s = s')
theorem like_no {k k' n n' : Int} {b b' : Bool} {f f' : Nat} {s s' : ByteArray} (h : ¬ (k = k' ∧ b = b' ∧ n = n' ∧ f = f' ∧ s = s')) : likeV k b n f s k' b' n' f' s' = false := by
  unfold likeV; simpa using h
theorem str_ne {s t : ByteArray} (h : ¬ s = t) : (s.toList == t.toList) = false := by
  rw [ByteArray.toList_eq, ByteArray.toList_eq, beq_eq_false_iff_ne]
  exact fun e => h (ByteArray.ext (Array.toList_inj.1 e))
theorem below2 (w : World) (o p : Obj) (m : Nat) : Below w.heap.size w (((w.alloc o).alloc p).drewN m) := below_drewN (((Below.refl _ _).alloc (Nat.le_refl _) o).alloc (by simp) p) m
set_option maxRecDepth 100000 in
set_option maxHeartbeats 1000000 in
theorem identical_any (k : Int) (b : Bool) (n : Int) (f : Nat) (s : ByteArray) (k' : Int) (b' : Bool) (n' : Int) (f' : Nat) (s' : ByteArray) (w : World) :
    Calls Tryz.prog 62 #[vagg k b n f s, vagg k' b' n' f' s'] w fun e w' => e = .returned (.bool (likeV k b n f s k' b' n' f' s')) ∧ Below w.heap.size w w' := by
  have hfb := call_Float64bits
  by_cases hk : k = k'
  · subst hk
    by_cases hb : b = b'
    · subst hb
      by_cases hn : n = n'
      · subst hn
        by_cases hs : s = s'
        · subst hs
          by_cases hf : f = f'
          · subst hf
            have HL : Hid (likeV k b n f s k b n f s = true) := by show likeV k b n f s k b n f s = true; unfold likeV; simp
            go_enter Tryz.func62, Tryz.ntmps62
            go_wp2
            go_quiet (fail)
            go_wp2
            go_ret
            exact ⟨retB HL.out.symm, below2 _ _ _ _⟩
          · have HL := Lib.hid (like_no (k := k) (k' := k) (n := n) (n' := n) (b := b) (b' := b) (f := f) (f' := f') (s := s) (s' := s) (by intro h; exact hf h.2.2.2.1))
            have t1 : ((f : Int) == (f' : Int)) = false := by simp; omega
            clear hf
            go_enter Tryz.func62, Tryz.ntmps62
            go_wp2
            go_quiet (fail)
            go_wp2
            go_ret
            exact ⟨retB HL.out.symm, below2 _ _ _ _⟩
        · have HL := Lib.hid (like_no (k := k) (k' := k) (n := n) (n' := n) (b := b) (b' := b) (f := f) (f' := f') (s := s) (s' := s') (by intro h; exact hs h.2.2.2.2))
          have t1 : (s.toList == s'.toList) = false := str_ne hs
          clear hs
          go_enter Tryz.func62, Tryz.ntmps62
          go_wp2
          go_quiet (fail)
          go_wp2
          go_ret
          exact ⟨retB HL.out.symm, below2 _ _ _ _⟩
      · have HL := Lib.hid (like_no (k := k) (k' := k) (n := n) (n' := n') (b := b) (b' := b) (f := f) (f' := f') (s := s) (s' := s') (by intro h; exact hn h.2.2.1))
        have t1 : (n == n') = false := by simp [hn]
        clear hn
        go_enter Tryz.func62, Tryz.ntmps62
        go_wp2
        go_quiet (fail)
        go_wp2
        go_ret
        exact ⟨retB HL.out.symm, below2 _ _ _ _⟩
    · have HL := Lib.hid (like_no (k := k) (k' := k) (n := n) (n' := n') (b := b) (b' := b') (f := f) (f' := f') (s := s) (s' := s') (by intro h; exact hb h.2.1))
      have t1 : (b == b') = false := by simpa using hb
      clear hb
      go_enter Tryz.func62, Tryz.ntmps62
      go_wp2
      go_quiet (fail)
      go_wp2
      go_ret
      exact ⟨retB HL.out.symm, below2 _ _ _ _⟩
  · have HL := Lib.hid (like_no (k := k) (k' := k') (n := n) (n' := n') (b := b) (b' := b') (f := f) (f' := f') (s := s) (s' := s') (by intro h; exact hk h.1))
    have t1 : (k == k') = false := by simp [hk]
    clear hk
    go_enter Tryz.func62, Tryz.ntmps62
    go_wp2
    go_quiet (fail)
    go_wp2
    go_ret
    exact ⟨retB HL.out.symm, below2 _ _ _ _⟩
set_option maxRecDepth 100000 in
set_option maxHeartbeats 1000000 in
theorem Like_any (k : Int) (b : Bool) (n : Int) (f : Nat) (s : ByteArray) (k' : Int) (b' : Bool) (n' : Int) (f' : Nat) (s' : ByteArray) (w : World) :
    Calls Tryz.prog 14 #[vagg k b n f s, vagg k' b' n' f' s'] w fun e w' => e = .returned (.bool (likeV k b n f s k' b' n' f' s')) ∧ Below w.heap.size w w' := by
  have hfb := call_Float64bits
  by_cases hk : k = k'
  · subst hk
    by_cases hb : b = b'
    · subst hb
      by_cases hn : n = n'
      · subst hn
        by_cases hf : f = f'
        · subst hf
          by_cases hs : s = s'
          · subst hs
            have HL : Hid (likeV k b n f s k b n f s = true) := by show likeV k b n f s k b n f s = true; unfold likeV; simp
            go_enter Tryz.func14, Tryz.ntmps14
            go_wp2
            go_quiet (fail)
            go_wp2
            go_ret
            exact ⟨retB HL.out.symm, below2 _ _ _ _⟩
          · have HL := Lib.hid (like_no (k := k) (k' := k) (n := n) (n' := n) (b := b) (b' := b) (f := f) (f' := f) (s := s) (s' := s') (by intro h; exact hs h.2.2.2.2))
            have t1 : (s.toList == s'.toList) = false := str_ne hs
            clear hs
            go_enter Tryz.func14, Tryz.ntmps14
            go_wp2
            go_quiet (fail)
            go_wp2
            go_ret
            exact ⟨retB HL.out.symm, below2 _ _ _ _⟩
        · have HL := Lib.hid (like_no (k := k) (k' := k) (n := n) (n' := n) (b := b) (b' := b) (f := f) (f' := f') (s := s) (s' := s') (by intro h; exact hf h.2.2.2.1))
          have t1 : ((f : Int) == (f' : Int)) = false := by simp; omega
          clear hf
          go_enter Tryz.func14, Tryz.ntmps14
          go_wp2
          go_quiet (fail)
          go_wp2
          go_ret
          exact ⟨retB HL.out.symm, below2 _ _ _ _⟩
      · have HL := Lib.hid (like_no (k := k) (k' := k) (n := n) (n' := n') (b := b) (b' := b) (f := f) (f' := f') (s := s) (s' := s') (by intro h; exact hn h.2.2.1))
        have t1 : (n == n') = false := by simp [hn]
        clear hn
        go_enter Tryz.func14, Tryz.ntmps14
        go_wp2
        go_quiet (fail)
        go_wp2
        go_ret
        exact ⟨retB HL.out.symm, below2 _ _ _ _⟩
    · have HL := Lib.hid (like_no (k := k) (k' := k) (n := n) (n' := n') (b := b) (b' := b') (f := f) (f' := f') (s := s) (s' := s') (by intro h; exact hb h.2.1))
      have t1 : (b == b') = false := by simpa using hb
      clear hb
      go_enter Tryz.func14, Tryz.ntmps14
      go_wp2
      go_quiet (fail)
      go_wp2
      go_ret
      exact ⟨retB HL.out.symm, below2 _ _ _ _⟩
  · have HL := Lib.hid (like_no (k := k) (k' := k') (n := n) (n' := n') (b := b) (b' := b') (f := f) (f' := f') (s := s) (s' := s') (by intro h; exact hk h.1))
    have t1 : (k == k') = false := by simp [hk]
    clear hk
    go_enter Tryz.func14, Tryz.ntmps14
    go_wp2
    go_quiet (fail)
    go_wp2
    go_ret
    exact ⟨retB HL.out.symm, below2 _ _ _ _⟩
end Go.Proofs.YtchklaepilcbbaaGreat

namespace Go.Proofs.YtchklaepilcbbaaGreat
open Go.RowKit
theorem call_cmpstring (a b : ByteArray) (w : World) : (callFunc 199 #[.string a, .string b]).run Tryz.prog w = .ok (.value (.int .i64 (Lib.compareBytes a.data.toList b.data.toList))) w := by
  rw [run_callFunc_extern Tryz.func199 (by kernel_rfl) (by kernel_rfl) (by kernel_rfl) (e := Extern.BytealgCompare.compare) (by kernel_rfl), Lib.run_compareString]
  rfl
set_option maxRecDepth 100000 in
theorem CompareS_any (a b : ByteArray) (w : World) : Calls Tryz.prog 166 #[.string a, .string b] w fun e w' => e = .returned (.int .i64 (Lib.compareBytes a.data.toList b.data.toList)) ∧ w = w' := by
  have hc := call_cmpstring
  go_enter Tryz.func166, Tryz.ntmps166
  go_wp2
  go_ret
  exact ⟨rfl, rfl⟩
theorem CompareI' (x y : Int) (w : World) : Calls Tryz.prog 186 #[.int .i64 x, .int .i64 y] w fun e w' => e = .returned (.int .i64 (cmpI x y)) ∧ w = w' := CompareI x y w
set_option maxRecDepth 100000 in
theorem nums_any (k n k' n' : Int) (b b' : Bool) (f f' : Nat) (s s' : ByteArray) (w : World) :
    Calls Tryz.prog 167 #[vagg k b n f s, vagg k' b' n' f' s'] w fun e w' => e = .returned (.int .i64 (cmpI n n')) ∧ Below w.heap.size w w' := by
  go_enter Tryz.func167, Tryz.ntmps167
  go_wp2_with (go_at_call 186; ((with_reducible refine (CompareI' _ _ _).mono ?_); rintro e w' ⟨rfl, rfl⟩))
  go_ret
  exact ⟨rfl, below2 _ _ _ 0⟩
set_option maxRecDepth 100000 in
theorem strs_any (k n k' n' : Int) (b b' : Bool) (f f' : Nat) (s s' : ByteArray) (w : World) :
    Calls Tryz.prog 165 #[vagg k b n f s, vagg k' b' n' f' s'] w fun e w' => e = .returned (.int .i64 (Lib.compareBytes s.data.toList s'.data.toList)) ∧ Below w.heap.size w w' := by
  go_enter Tryz.func165, Tryz.ntmps165
  go_wp2_with (go_at_call 166; ((with_reducible refine (CompareS_any _ _ _).mono ?_); rintro e w' ⟨rfl, rfl⟩))
  go_ret
  exact ⟨rfl, below2 _ _ _ 0⟩
set_option maxRecDepth 100000 in
theorem nulls_any (k n k' n' : Int) (b b' : Bool) (f f' : Nat) (s s' : ByteArray) (w : World) :
    Calls Tryz.prog 161 #[vagg k b n f s, vagg k' b' n' f' s'] w fun e w' => e = .returned (.int .i64 0) ∧ Below w.heap.size w w' := by
  go_enter Tryz.func161, Tryz.ntmps161
  go_wp2
  go_ret
  exact ⟨rfl, below2 _ _ _ 0⟩
/-- A Bool's number. -/
def bnum (b : Bool) : Int := if b = true then 1 else 0
set_option maxRecDepth 100000 in
theorem bools_any (k n k' n' : Int) (b b' : Bool) (f f' : Nat) (s s' : ByteArray) (w : World) :
    Calls Tryz.prog 162 #[vagg k b n f s, vagg k' b' n' f' s'] w fun e w' => e = .returned (.int .i64 (cmpI (bnum b) (bnum b'))) ∧ Below w.heap.size w w' := by
  cases b <;> cases b'
  all_goals
    go_enter Tryz.func162, Tryz.ntmps162
    go_wp2
    go_ret
    exact ⟨rfl, below2 _ _ _ 0⟩
set_option maxRecDepth 100000 in
theorem mixed_any (k n k' n' : Int) (b b' : Bool) (f f' : Nat) (s s' : ByteArray) (w : World) (hn : fits n) (hf : f' < 18446744073709551616) :
    Calls Tryz.prog 183 #[vagg k b n f s, vagg k' b' n' f' s'] w fun e w' => e = .returned (.int .i64 (if 0 < mixedF n f' then 1 else -1)) ∧ Below w.heap.size w w' := by
  have C := Lib.hid (fun w => Mixed_any n f' w hn hf)
  generalize mixedF n f' = m at *
  by_cases h : 0 < m
  · have t : decide (0 < m) = true := by simp [h]
    rw [if_pos h]
    clear h
    go_enter Tryz.func183, Tryz.ntmps183
    go_wp2_with (go_at_call 196; ((with_reducible refine (C.out _).mono ?_); rintro e w' ⟨rfl, rfl⟩))
    go_ret
    exact ⟨rfl, below2 _ _ _ 0⟩
  · have t : decide (0 < m) = false := by simp; omega
    rw [if_neg h]
    clear h
    go_enter Tryz.func183, Tryz.ntmps183
    go_wp2_with (go_at_call 196; ((with_reducible refine (C.out _).mono ?_); rintro e w' ⟨rfl, rfl⟩))
    go_ret
    exact ⟨rfl, below2 _ _ _ 0⟩
theorem below_two (w w1 : World) (o p : Obj) (h : Below ((w.alloc o).alloc p).heap.size ((w.alloc o).alloc p) w1) : Below w.heap.size w w1 :=
  (below2 w o p 0).trans (h.mono (by simp; omega))
set_option maxRecDepth 100000 in
theorem intAndNumber_any (k n k' n' : Int) (b b' : Bool) (f f' : Nat) (s s' : ByteArray) (w : World) (hn : fits n) (hf : f' < 18446744073709551616) (hk : k' = 2 ∨ k' = 3) :
    Calls Tryz.prog 163 #[vagg k b n f s, vagg k' b' n' f' s'] w fun e w' => e = .returned (.int .i64 (cmpI (numKey 2 n f) (numKey k' n' f'))) ∧ Below w.heap.size w w' := by
  rcases hk with rfl | rfl
  · rw [← cmp_ints n n' f f']
    go_enter Tryz.func163, Tryz.ntmps163
    go_wp2_with (go_at_call 167; ((with_reducible refine (nums_any _ _ _ _ _ _ _ _ _ _ _).mono ?_); rintro e w1 ⟨rfl, hb⟩))
    go_ret
    exact ⟨rfl, below_two _ _ _ _ hb⟩
  · rw [cmp_mixed n f' hn f n']
    have c := fun w => mixed_any k n 3 n' b b' f f' s s' w hn hf
    generalize (if 0 < mixedF n f' then (1 : Int) else -1) = m at *
    have C := Lib.hid c
    clear c
    go_enter Tryz.func163, Tryz.ntmps163
    go_wp2_with (go_at_call 183; ((with_reducible refine (C.out _).mono ?_); rintro e w1 ⟨rfl, hb⟩))
    go_ret
    exact ⟨rfl, below_two _ _ _ _ hb⟩
set_option maxRecDepth 100000 in
theorem floatAndNumber_any (k n k' n' : Int) (b b' : Bool) (f f' : Nat) (s s' : ByteArray) (w : World) (hn : fits n') (hf : f < 18446744073709551616) (hf' : f' < 18446744073709551616) (hk : k' = 2 ∨ k' = 3) :
    Calls Tryz.prog 164 #[vagg k b n f s, vagg k' b' n' f' s'] w fun e w' => e = .returned (.int .i64 (cmpI (numKey 3 n f) (numKey k' n' f'))) ∧ Below w.heap.size w w' := by
  rcases hk with rfl | rfl
  · rw [cmpI_flip, cmp_mixed n' f hn f' n]
    have C := Lib.hid (fun w => mixed_any 2 n' k n b' b f' f s' s w hn hf)
    by_cases h : 0 < mixedF n' f
    · rw [if_pos h] at *
      go_enter Tryz.func164, Tryz.ntmps164
      go_wp2_with (go_at_call 183; ((with_reducible refine (C.out _).mono ?_); rintro e w1 ⟨rfl, hb⟩))
      go_ret
      exact ⟨rfl, below_two _ _ _ _ hb⟩
    · rw [if_neg h] at *
      go_enter Tryz.func164, Tryz.ntmps164
      go_wp2_with (go_at_call 183; ((with_reducible refine (C.out _).mono ?_); rintro e w1 ⟨rfl, hb⟩))
      go_ret
      exact ⟨rfl, below_two _ _ _ _ hb⟩
  · rw [← cmp_floats f f' hf hf' n n']
    have C := Lib.hid (fun w => Floats_any f f' w hf hf')
    go_enter Tryz.func164, Tryz.ntmps164
    go_wp2_with (go_at_call 184; ((with_reducible refine (C.out _).mono ?_); rintro e w1 ⟨rfl, rfl⟩))
    go_ret
    exact ⟨rfl, below2 _ _ _ 0⟩
/-- The table of comparisons, as the program has it. -/
abbrev fnTable : Array Value := #[.func (.func 161) #[] #[], .func (.func 162) #[] #[], .func (.func 163) #[] #[], .func (.func 164) #[] #[],
  .func (.func 165) #[] #[], .func (.func 167) #[] #[], .func (.func 167) #[] #[]]
set_option maxRecDepth 100000 in
theorem comparisons_any (w : World) : Calls Tryz.prog 140 #[] w fun e w' => e = .returned (.agg fnTable) ∧ w' = w.alloc (.cells fnTable 163) := by
  go_enter Tryz.func140, Tryz.ntmps140
  go_wp2
  go_returns
  exact ⟨rfl, rfl⟩
end Go.Proofs.YtchklaepilcbbaaGreat

namespace Go.Proofs.YtchklaepilcbbaaGreat
open Go.RowKit
set_option maxRecDepth 100000 in
set_option maxHeartbeats 1000000 in
theorem Compare_k0 (n k' n' : Int) (b b' : Bool) (f f' : Nat) (s s' : ByteArray) (w : World) (hk : classK 0 = classK k') (r : Int)
    (hc : ∀ w, Calls Tryz.prog 161 #[vagg 0 b n f s, vagg k' b' n' f' s'] w fun e w' => e = .returned (.int .i64 r) ∧ Below w.heap.size w w') :
    Calls Tryz.prog 116 #[vagg 0 b n f s, vagg k' b' n' f' s'] w fun e w' => e = .returned (.int .i64 r) ∧ Below w.heap.size w w' := by
  have K1 := Lib.hid (fun w => class_any 0 w)
  have K2 := Lib.hid (fun w => class_any k' w)
  have k3 := fun w => CompareN_any (classK 0) (classK k') w
  have K4 := Lib.hid (fun w => known_any 0 w (by omega) (by omega))
  have HC := Lib.hid hc
  rw [(cmpI_zero _ _).2 hk] at k3
  have K3 := Lib.hid k3
  clear k3 hc hk
  generalize classK 0 = c at *
  generalize classK k' = c' at *
  go_enter Tryz.func116, Tryz.ntmps116
  go_wp2
  go_quiet ((first | (go_at_call 138; exact quiet_l (K1.out _)) | (go_at_call 138; exact quiet_l (K2.out _)) | (go_at_call 137; exact quiet_l (K3.out _))))
  go_upto_region 4 with (go_at_call 139; ((with_reducible refine (K4.out _).mono ?_); rintro e w1 ⟨rfl, rfl⟩))
  have hi : ∀ w, (Instr.index 163 (.agg fnTable) (.int .i64 0)).run Tryz.prog w = .ok (.func (.func 161) #[] #[]) w := fun _ => by kernel_rfl
  go_region_held3 (fun w' => w'.cell? ⟨w.heap.size, 0, none⟩ = some (.int .i64 0) ∧ w'.cell? ⟨w.heap.size, 1, none⟩ = some (.bool b) ∧ w'.cell? ⟨w.heap.size, 2, none⟩ = some (.int .i64 n) ∧ w'.cell? ⟨w.heap.size, 3, none⟩ = some (.float .f64 f) ∧ w'.cell? ⟨w.heap.size, 4, none⟩ = some (.string s) ∧ w'.cell? ⟨w.heap.size + 1, 0, none⟩ = some (.int .i64 k') ∧ w'.cell? ⟨w.heap.size + 1, 1, none⟩ = some (.bool b') ∧ w'.cell? ⟨w.heap.size + 1, 2, none⟩ = some (.int .i64 n') ∧ w'.cell? ⟨w.heap.size + 1, 3, none⟩ = some (.float .f64 f') ∧ w'.cell? ⟨w.heap.size + 1, 4, none⟩ = some (.string s')) (go_keep) (first | (go_at_call 140; ((with_reducible refine (comparisons_any _).mono ?_); rintro e w1 ⟨rfl, rfl⟩)) | (go_at_call 161; ((with_reducible refine (HC.out _).mono ?_); rintro e w1 ⟨rfl, hb⟩; have h1 := fun o => (bcell hb).1 w.heap.size o (by simp; omega); have h2 := fun o => (bcell hb).1 (w.heap.size + 1) o (by simp))))
  go_wp2
  go_ret
  exact ⟨rfl, ((below2 w _ _ _).alloc (by simp; omega) _).trans (hb.mono (by simp; omega))⟩
set_option maxRecDepth 100000 in
set_option maxHeartbeats 1000000 in
theorem Compare_k1 (n k' n' : Int) (b b' : Bool) (f f' : Nat) (s s' : ByteArray) (w : World) (hk : classK 1 = classK k') (r : Int)
    (hc : ∀ w, Calls Tryz.prog 162 #[vagg 1 b n f s, vagg k' b' n' f' s'] w fun e w' => e = .returned (.int .i64 r) ∧ Below w.heap.size w w') :
    Calls Tryz.prog 116 #[vagg 1 b n f s, vagg k' b' n' f' s'] w fun e w' => e = .returned (.int .i64 r) ∧ Below w.heap.size w w' := by
  have K1 := Lib.hid (fun w => class_any 1 w)
  have K2 := Lib.hid (fun w => class_any k' w)
  have k3 := fun w => CompareN_any (classK 1) (classK k') w
  have K4 := Lib.hid (fun w => known_any 1 w (by omega) (by omega))
  have HC := Lib.hid hc
  rw [(cmpI_zero _ _).2 hk] at k3
  have K3 := Lib.hid k3
  clear k3 hc hk
  generalize classK 1 = c at *
  generalize classK k' = c' at *
  go_enter Tryz.func116, Tryz.ntmps116
  go_wp2
  go_quiet ((first | (go_at_call 138; exact quiet_l (K1.out _)) | (go_at_call 138; exact quiet_l (K2.out _)) | (go_at_call 137; exact quiet_l (K3.out _))))
  go_upto_region 4 with (go_at_call 139; ((with_reducible refine (K4.out _).mono ?_); rintro e w1 ⟨rfl, rfl⟩))
  have hi : ∀ w, (Instr.index 163 (.agg fnTable) (.int .i64 1)).run Tryz.prog w = .ok (.func (.func 162) #[] #[]) w := fun _ => by kernel_rfl
  go_region_held3 (fun w' => w'.cell? ⟨w.heap.size, 0, none⟩ = some (.int .i64 1) ∧ w'.cell? ⟨w.heap.size, 1, none⟩ = some (.bool b) ∧ w'.cell? ⟨w.heap.size, 2, none⟩ = some (.int .i64 n) ∧ w'.cell? ⟨w.heap.size, 3, none⟩ = some (.float .f64 f) ∧ w'.cell? ⟨w.heap.size, 4, none⟩ = some (.string s) ∧ w'.cell? ⟨w.heap.size + 1, 0, none⟩ = some (.int .i64 k') ∧ w'.cell? ⟨w.heap.size + 1, 1, none⟩ = some (.bool b') ∧ w'.cell? ⟨w.heap.size + 1, 2, none⟩ = some (.int .i64 n') ∧ w'.cell? ⟨w.heap.size + 1, 3, none⟩ = some (.float .f64 f') ∧ w'.cell? ⟨w.heap.size + 1, 4, none⟩ = some (.string s')) (go_keep) (first | (go_at_call 140; ((with_reducible refine (comparisons_any _).mono ?_); rintro e w1 ⟨rfl, rfl⟩)) | (go_at_call 162; ((with_reducible refine (HC.out _).mono ?_); rintro e w1 ⟨rfl, hb⟩; have h1 := fun o => (bcell hb).1 w.heap.size o (by simp; omega); have h2 := fun o => (bcell hb).1 (w.heap.size + 1) o (by simp))))
  go_wp2
  go_ret
  exact ⟨rfl, ((below2 w _ _ _).alloc (by simp; omega) _).trans (hb.mono (by simp; omega))⟩
set_option maxRecDepth 100000 in
set_option maxHeartbeats 1000000 in
theorem Compare_k2 (n k' n' : Int) (b b' : Bool) (f f' : Nat) (s s' : ByteArray) (w : World) (hk : classK 2 = classK k') (r : Int)
    (hc : ∀ w, Calls Tryz.prog 163 #[vagg 2 b n f s, vagg k' b' n' f' s'] w fun e w' => e = .returned (.int .i64 r) ∧ Below w.heap.size w w') :
    Calls Tryz.prog 116 #[vagg 2 b n f s, vagg k' b' n' f' s'] w fun e w' => e = .returned (.int .i64 r) ∧ Below w.heap.size w w' := by
  have K1 := Lib.hid (fun w => class_any 2 w)
  have K2 := Lib.hid (fun w => class_any k' w)
  have k3 := fun w => CompareN_any (classK 2) (classK k') w
  have K4 := Lib.hid (fun w => known_any 2 w (by omega) (by omega))
  have HC := Lib.hid hc
  rw [(cmpI_zero _ _).2 hk] at k3
  have K3 := Lib.hid k3
  clear k3 hc hk
  generalize classK 2 = c at *
  generalize classK k' = c' at *
  go_enter Tryz.func116, Tryz.ntmps116
  go_wp2
  go_quiet ((first | (go_at_call 138; exact quiet_l (K1.out _)) | (go_at_call 138; exact quiet_l (K2.out _)) | (go_at_call 137; exact quiet_l (K3.out _))))
  go_upto_region 4 with (go_at_call 139; ((with_reducible refine (K4.out _).mono ?_); rintro e w1 ⟨rfl, rfl⟩))
  have hi : ∀ w, (Instr.index 163 (.agg fnTable) (.int .i64 2)).run Tryz.prog w = .ok (.func (.func 163) #[] #[]) w := fun _ => by kernel_rfl
  go_region_held3 (fun w' => w'.cell? ⟨w.heap.size, 0, none⟩ = some (.int .i64 2) ∧ w'.cell? ⟨w.heap.size, 1, none⟩ = some (.bool b) ∧ w'.cell? ⟨w.heap.size, 2, none⟩ = some (.int .i64 n) ∧ w'.cell? ⟨w.heap.size, 3, none⟩ = some (.float .f64 f) ∧ w'.cell? ⟨w.heap.size, 4, none⟩ = some (.string s) ∧ w'.cell? ⟨w.heap.size + 1, 0, none⟩ = some (.int .i64 k') ∧ w'.cell? ⟨w.heap.size + 1, 1, none⟩ = some (.bool b') ∧ w'.cell? ⟨w.heap.size + 1, 2, none⟩ = some (.int .i64 n') ∧ w'.cell? ⟨w.heap.size + 1, 3, none⟩ = some (.float .f64 f') ∧ w'.cell? ⟨w.heap.size + 1, 4, none⟩ = some (.string s')) (go_keep) (first | (go_at_call 140; ((with_reducible refine (comparisons_any _).mono ?_); rintro e w1 ⟨rfl, rfl⟩)) | (go_at_call 163; ((with_reducible refine (HC.out _).mono ?_); rintro e w1 ⟨rfl, hb⟩; have h1 := fun o => (bcell hb).1 w.heap.size o (by simp; omega); have h2 := fun o => (bcell hb).1 (w.heap.size + 1) o (by simp))))
  go_wp2
  go_ret
  exact ⟨rfl, ((below2 w _ _ _).alloc (by simp; omega) _).trans (hb.mono (by simp; omega))⟩
set_option maxRecDepth 100000 in
set_option maxHeartbeats 1000000 in
theorem Compare_k3 (n k' n' : Int) (b b' : Bool) (f f' : Nat) (s s' : ByteArray) (w : World) (hk : classK 3 = classK k') (r : Int)
    (hc : ∀ w, Calls Tryz.prog 164 #[vagg 3 b n f s, vagg k' b' n' f' s'] w fun e w' => e = .returned (.int .i64 r) ∧ Below w.heap.size w w') :
    Calls Tryz.prog 116 #[vagg 3 b n f s, vagg k' b' n' f' s'] w fun e w' => e = .returned (.int .i64 r) ∧ Below w.heap.size w w' := by
  have K1 := Lib.hid (fun w => class_any 3 w)
  have K2 := Lib.hid (fun w => class_any k' w)
  have k3 := fun w => CompareN_any (classK 3) (classK k') w
  have K4 := Lib.hid (fun w => known_any 3 w (by omega) (by omega))
  have HC := Lib.hid hc
  rw [(cmpI_zero _ _).2 hk] at k3
  have K3 := Lib.hid k3
  clear k3 hc hk
  generalize classK 3 = c at *
  generalize classK k' = c' at *
  go_enter Tryz.func116, Tryz.ntmps116
  go_wp2
  go_quiet ((first | (go_at_call 138; exact quiet_l (K1.out _)) | (go_at_call 138; exact quiet_l (K2.out _)) | (go_at_call 137; exact quiet_l (K3.out _))))
  go_upto_region 4 with (go_at_call 139; ((with_reducible refine (K4.out _).mono ?_); rintro e w1 ⟨rfl, rfl⟩))
  have hi : ∀ w, (Instr.index 163 (.agg fnTable) (.int .i64 3)).run Tryz.prog w = .ok (.func (.func 164) #[] #[]) w := fun _ => by kernel_rfl
  go_region_held3 (fun w' => w'.cell? ⟨w.heap.size, 0, none⟩ = some (.int .i64 3) ∧ w'.cell? ⟨w.heap.size, 1, none⟩ = some (.bool b) ∧ w'.cell? ⟨w.heap.size, 2, none⟩ = some (.int .i64 n) ∧ w'.cell? ⟨w.heap.size, 3, none⟩ = some (.float .f64 f) ∧ w'.cell? ⟨w.heap.size, 4, none⟩ = some (.string s) ∧ w'.cell? ⟨w.heap.size + 1, 0, none⟩ = some (.int .i64 k') ∧ w'.cell? ⟨w.heap.size + 1, 1, none⟩ = some (.bool b') ∧ w'.cell? ⟨w.heap.size + 1, 2, none⟩ = some (.int .i64 n') ∧ w'.cell? ⟨w.heap.size + 1, 3, none⟩ = some (.float .f64 f') ∧ w'.cell? ⟨w.heap.size + 1, 4, none⟩ = some (.string s')) (go_keep) (first | (go_at_call 140; ((with_reducible refine (comparisons_any _).mono ?_); rintro e w1 ⟨rfl, rfl⟩)) | (go_at_call 164; ((with_reducible refine (HC.out _).mono ?_); rintro e w1 ⟨rfl, hb⟩; have h1 := fun o => (bcell hb).1 w.heap.size o (by simp; omega); have h2 := fun o => (bcell hb).1 (w.heap.size + 1) o (by simp))))
  go_wp2
  go_ret
  exact ⟨rfl, ((below2 w _ _ _).alloc (by simp; omega) _).trans (hb.mono (by simp; omega))⟩
set_option maxRecDepth 100000 in
set_option maxHeartbeats 1000000 in
theorem Compare_k4 (n k' n' : Int) (b b' : Bool) (f f' : Nat) (s s' : ByteArray) (w : World) (hk : classK 4 = classK k') (r : Int)
    (hc : ∀ w, Calls Tryz.prog 165 #[vagg 4 b n f s, vagg k' b' n' f' s'] w fun e w' => e = .returned (.int .i64 r) ∧ Below w.heap.size w w') :
    Calls Tryz.prog 116 #[vagg 4 b n f s, vagg k' b' n' f' s'] w fun e w' => e = .returned (.int .i64 r) ∧ Below w.heap.size w w' := by
  have K1 := Lib.hid (fun w => class_any 4 w)
  have K2 := Lib.hid (fun w => class_any k' w)
  have k3 := fun w => CompareN_any (classK 4) (classK k') w
  have K4 := Lib.hid (fun w => known_any 4 w (by omega) (by omega))
  have HC := Lib.hid hc
  rw [(cmpI_zero _ _).2 hk] at k3
  have K3 := Lib.hid k3
  clear k3 hc hk
  generalize classK 4 = c at *
  generalize classK k' = c' at *
  go_enter Tryz.func116, Tryz.ntmps116
  go_wp2
  go_quiet ((first | (go_at_call 138; exact quiet_l (K1.out _)) | (go_at_call 138; exact quiet_l (K2.out _)) | (go_at_call 137; exact quiet_l (K3.out _))))
  go_upto_region 4 with (go_at_call 139; ((with_reducible refine (K4.out _).mono ?_); rintro e w1 ⟨rfl, rfl⟩))
  have hi : ∀ w, (Instr.index 163 (.agg fnTable) (.int .i64 4)).run Tryz.prog w = .ok (.func (.func 165) #[] #[]) w := fun _ => by kernel_rfl
  go_region_held3 (fun w' => w'.cell? ⟨w.heap.size, 0, none⟩ = some (.int .i64 4) ∧ w'.cell? ⟨w.heap.size, 1, none⟩ = some (.bool b) ∧ w'.cell? ⟨w.heap.size, 2, none⟩ = some (.int .i64 n) ∧ w'.cell? ⟨w.heap.size, 3, none⟩ = some (.float .f64 f) ∧ w'.cell? ⟨w.heap.size, 4, none⟩ = some (.string s) ∧ w'.cell? ⟨w.heap.size + 1, 0, none⟩ = some (.int .i64 k') ∧ w'.cell? ⟨w.heap.size + 1, 1, none⟩ = some (.bool b') ∧ w'.cell? ⟨w.heap.size + 1, 2, none⟩ = some (.int .i64 n') ∧ w'.cell? ⟨w.heap.size + 1, 3, none⟩ = some (.float .f64 f') ∧ w'.cell? ⟨w.heap.size + 1, 4, none⟩ = some (.string s')) (go_keep) (first | (go_at_call 140; ((with_reducible refine (comparisons_any _).mono ?_); rintro e w1 ⟨rfl, rfl⟩)) | (go_at_call 165; ((with_reducible refine (HC.out _).mono ?_); rintro e w1 ⟨rfl, hb⟩; have h1 := fun o => (bcell hb).1 w.heap.size o (by simp; omega); have h2 := fun o => (bcell hb).1 (w.heap.size + 1) o (by simp))))
  go_wp2
  go_ret
  exact ⟨rfl, ((below2 w _ _ _).alloc (by simp; omega) _).trans (hb.mono (by simp; omega))⟩
set_option maxRecDepth 100000 in
set_option maxHeartbeats 1000000 in
theorem Compare_k5 (n k' n' : Int) (b b' : Bool) (f f' : Nat) (s s' : ByteArray) (w : World) (hk : classK 5 = classK k') (r : Int)
    (hc : ∀ w, Calls Tryz.prog 167 #[vagg 5 b n f s, vagg k' b' n' f' s'] w fun e w' => e = .returned (.int .i64 r) ∧ Below w.heap.size w w') :
    Calls Tryz.prog 116 #[vagg 5 b n f s, vagg k' b' n' f' s'] w fun e w' => e = .returned (.int .i64 r) ∧ Below w.heap.size w w' := by
  have K1 := Lib.hid (fun w => class_any 5 w)
  have K2 := Lib.hid (fun w => class_any k' w)
  have k3 := fun w => CompareN_any (classK 5) (classK k') w
  have K4 := Lib.hid (fun w => known_any 5 w (by omega) (by omega))
  have HC := Lib.hid hc
  rw [(cmpI_zero _ _).2 hk] at k3
  have K3 := Lib.hid k3
  clear k3 hc hk
  generalize classK 5 = c at *
  generalize classK k' = c' at *
  go_enter Tryz.func116, Tryz.ntmps116
  go_wp2
  go_quiet ((first | (go_at_call 138; exact quiet_l (K1.out _)) | (go_at_call 138; exact quiet_l (K2.out _)) | (go_at_call 137; exact quiet_l (K3.out _))))
  go_upto_region 4 with (go_at_call 139; ((with_reducible refine (K4.out _).mono ?_); rintro e w1 ⟨rfl, rfl⟩))
  have hi : ∀ w, (Instr.index 163 (.agg fnTable) (.int .i64 5)).run Tryz.prog w = .ok (.func (.func 167) #[] #[]) w := fun _ => by kernel_rfl
  go_region_held3 (fun w' => w'.cell? ⟨w.heap.size, 0, none⟩ = some (.int .i64 5) ∧ w'.cell? ⟨w.heap.size, 1, none⟩ = some (.bool b) ∧ w'.cell? ⟨w.heap.size, 2, none⟩ = some (.int .i64 n) ∧ w'.cell? ⟨w.heap.size, 3, none⟩ = some (.float .f64 f) ∧ w'.cell? ⟨w.heap.size, 4, none⟩ = some (.string s) ∧ w'.cell? ⟨w.heap.size + 1, 0, none⟩ = some (.int .i64 k') ∧ w'.cell? ⟨w.heap.size + 1, 1, none⟩ = some (.bool b') ∧ w'.cell? ⟨w.heap.size + 1, 2, none⟩ = some (.int .i64 n') ∧ w'.cell? ⟨w.heap.size + 1, 3, none⟩ = some (.float .f64 f') ∧ w'.cell? ⟨w.heap.size + 1, 4, none⟩ = some (.string s')) (go_keep) (first | (go_at_call 140; ((with_reducible refine (comparisons_any _).mono ?_); rintro e w1 ⟨rfl, rfl⟩)) | (go_at_call 167; ((with_reducible refine (HC.out _).mono ?_); rintro e w1 ⟨rfl, hb⟩; have h1 := fun o => (bcell hb).1 w.heap.size o (by simp; omega); have h2 := fun o => (bcell hb).1 (w.heap.size + 1) o (by simp))))
  go_wp2
  go_ret
  exact ⟨rfl, ((below2 w _ _ _).alloc (by simp; omega) _).trans (hb.mono (by simp; omega))⟩
set_option maxRecDepth 100000 in
set_option maxHeartbeats 1000000 in
theorem Compare_k6 (n k' n' : Int) (b b' : Bool) (f f' : Nat) (s s' : ByteArray) (w : World) (hk : classK 6 = classK k') (r : Int)
    (hc : ∀ w, Calls Tryz.prog 167 #[vagg 6 b n f s, vagg k' b' n' f' s'] w fun e w' => e = .returned (.int .i64 r) ∧ Below w.heap.size w w') :
    Calls Tryz.prog 116 #[vagg 6 b n f s, vagg k' b' n' f' s'] w fun e w' => e = .returned (.int .i64 r) ∧ Below w.heap.size w w' := by
  have K1 := Lib.hid (fun w => class_any 6 w)
  have K2 := Lib.hid (fun w => class_any k' w)
  have k3 := fun w => CompareN_any (classK 6) (classK k') w
  have K4 := Lib.hid (fun w => known_any 6 w (by omega) (by omega))
  have HC := Lib.hid hc
  rw [(cmpI_zero _ _).2 hk] at k3
  have K3 := Lib.hid k3
  clear k3 hc hk
  generalize classK 6 = c at *
  generalize classK k' = c' at *
  go_enter Tryz.func116, Tryz.ntmps116
  go_wp2
  go_quiet ((first | (go_at_call 138; exact quiet_l (K1.out _)) | (go_at_call 138; exact quiet_l (K2.out _)) | (go_at_call 137; exact quiet_l (K3.out _))))
  go_upto_region 4 with (go_at_call 139; ((with_reducible refine (K4.out _).mono ?_); rintro e w1 ⟨rfl, rfl⟩))
  have hi : ∀ w, (Instr.index 163 (.agg fnTable) (.int .i64 6)).run Tryz.prog w = .ok (.func (.func 167) #[] #[]) w := fun _ => by kernel_rfl
  go_region_held3 (fun w' => w'.cell? ⟨w.heap.size, 0, none⟩ = some (.int .i64 6) ∧ w'.cell? ⟨w.heap.size, 1, none⟩ = some (.bool b) ∧ w'.cell? ⟨w.heap.size, 2, none⟩ = some (.int .i64 n) ∧ w'.cell? ⟨w.heap.size, 3, none⟩ = some (.float .f64 f) ∧ w'.cell? ⟨w.heap.size, 4, none⟩ = some (.string s) ∧ w'.cell? ⟨w.heap.size + 1, 0, none⟩ = some (.int .i64 k') ∧ w'.cell? ⟨w.heap.size + 1, 1, none⟩ = some (.bool b') ∧ w'.cell? ⟨w.heap.size + 1, 2, none⟩ = some (.int .i64 n') ∧ w'.cell? ⟨w.heap.size + 1, 3, none⟩ = some (.float .f64 f') ∧ w'.cell? ⟨w.heap.size + 1, 4, none⟩ = some (.string s')) (go_keep) (first | (go_at_call 140; ((with_reducible refine (comparisons_any _).mono ?_); rintro e w1 ⟨rfl, rfl⟩)) | (go_at_call 167; ((with_reducible refine (HC.out _).mono ?_); rintro e w1 ⟨rfl, hb⟩; have h1 := fun o => (bcell hb).1 w.heap.size o (by simp; omega); have h2 := fun o => (bcell hb).1 (w.heap.size + 1) o (by simp))))
  go_wp2
  go_ret
  exact ⟨rfl, ((below2 w _ _ _).alloc (by simp; omega) _).trans (hb.mono (by simp; omega))⟩
end Go.Proofs.YtchklaepilcbbaaGreat

namespace Go.Proofs.YtchklaepilcbbaaGreat
open Go.RowKit
set_option maxRecDepth 100000 in
set_option maxHeartbeats 1000000 in
theorem Compare_far (k k' n n' : Int) (b b' : Bool) (f f' : Nat) (s s' : ByteArray) (w : World) (hk : classK k ≠ classK k') :
    Calls Tryz.prog 116 #[vagg k b n f s, vagg k' b' n' f' s'] w fun e w' => e = .returned (.int .i64 (cmpI (classK k) (classK k'))) ∧ Below w.heap.size w w' := by
  have K1 := Lib.hid (fun w => class_any k w)
  have K2 := Lib.hid (fun w => class_any k' w)
  have K3 := Lib.hid (fun w => CompareN_any (classK k) (classK k') w)
  have hz : (cmpI (classK k) (classK k') != 0) = true := by
    simp only [bne_iff_ne, ne_eq]
    exact fun h => hk ((cmpI_zero _ _).1 h)
  clear hk
  generalize classK k = c at *
  generalize classK k' = c' at *
  generalize cmpI c c' = d at *
  go_enter Tryz.func116, Tryz.ntmps116
  go_wp2
  go_quiet ((first | (go_at_call 138; exact quiet_l (K1.out _)) | (go_at_call 138; exact quiet_l (K2.out _)) | (go_at_call 137; exact quiet_l (K3.out _))))
  go_wp2
  go_ret
  exact ⟨rfl, below2 _ _ _ _⟩
theorem cmpK_far {x y : Int × Int × List UInt8} (h : x.1 ≠ y.1) : cmpK x y = cmpI x.1 y.1 := by
  unfold cmpK; rw [if_neg (fun e => h ((cmpI_zero _ _).1 e))]
theorem cmpK_num {x y : Int × Int × List UInt8} (h : x.1 = y.1) (h1 : x.2.2 = []) (h2 : y.2.2 = []) : cmpK x y = cmpI x.2.1 y.2.1 := by
  unfold cmpK; rw [if_pos ((cmpI_zero _ _).2 h), h1, h2]
  split
  · rename_i e; rw [e]; rfl
  · rfl
theorem cmpK_str {x y : Int × Int × List UInt8} (h : x.1 = y.1) (h1 : x.2.1 = y.2.1) : cmpK x y = Lib.compareBytes x.2.2 y.2.2 := by
  unfold cmpK; rw [if_pos ((cmpI_zero _ _).2 h), if_pos ((cmpI_zero _ _).2 h1)]
theorem retI {a b : Int} (h : a = b) : Ending.returned (.int .i64 a) = .returned (.int .i64 b) := by rw [h]
theorem may_kind {k : Int} {b : Bool} {n : Int} {f : Nat} {s : ByteArray} (h : MayV k b n f s) : k = 0 ∨ k = 1 ∨ k = 2 ∨ k = 3 ∨ k = 4 ∨ k = 5 ∨ k = 6 := by
  unfold MayV at h; omega
end Go.Proofs.YtchklaepilcbbaaGreat

namespace Go.Proofs.YtchklaepilcbbaaGreat
open Go.RowKit
instance decMay (k : Int) (b : Bool) (n : Int) (f : Nat) (s : ByteArray) : Decidable (MayV k b n f s) := by unfold MayV; infer_instance
def mayB (k : Int) (b : Bool) (n : Int) (f : Nat) (s : ByteArray) : Bool := decide (MayV k b n f s)
theorem mayB_eq {k : Int} {b : Bool} {n : Int} {f : Nat} {s : ByteArray} {c : Bool} (h : c = true ↔ MayV k b n f s) : c = mayB k b n f s := by
  unfold mayB
  cases c <;> simp_all
/-- A float is stored as any other cell. -/
theorem store_float (w : World) (a : Addr) (m : Mode) (f : Nat) : (store a (.float .f64 f) m).run Tryz.prog w = stored Tryz.prog w a (.float .f64 f) m := run_store Tryz.prog w a _ m rfl
theorem like_iff {k k' n n' : Int} {b b' : Bool} {f f' : Nat} {s s' : ByteArray} : likeV k b n f s k' b' n' f' s' = true ↔ (k = k' ∧ b = b' ∧ n = n' ∧ f = f' ∧ s = s') := by unfold likeV; simp
theorem no_may {k : Int} {b : Bool} {n : Int} {f : Nat} {s : ByteArray} (h : ¬ MayV k b n f s) : false = mayB k b n f s := mayB_eq (by simp [h])
set_option maxRecDepth 100000 in
set_option maxHeartbeats 1000000 in
theorem May_0 (b : Bool) (n : Int) (f : Nat) (s : ByteArray) (w : World) :
    Calls Tryz.prog 22 #[vagg 0 b n f s] w fun e w' => e = .returned (.bool (mayB 0 b n f s)) ∧ Below w.heap.size w w' := by
  have hsf := store_float
  go_enter Tryz.func22, Tryz.ntmps22
  go_wp2_with (go_at_call 62; ((with_reducible refine (identical_any _ _ _ _ _ _ _ _ _ _ _).mono ?_); rintro e w1 ⟨rfl, hb⟩))
  go_ret
  refine ⟨retB (mayB_eq ?_), below_two _ _ _ _ hb⟩
  show _ ↔ MayV _ _ _ _ _; rw [like_iff]; unfold MayV; simp [show (⟨#[]⟩ : ByteArray) = ByteArray.empty from rfl]
set_option maxRecDepth 100000 in
set_option maxHeartbeats 1000000 in
theorem May_1 (b : Bool) (n : Int) (f : Nat) (s : ByteArray) (w : World) :
    Calls Tryz.prog 22 #[vagg 1 b n f s] w fun e w' => e = .returned (.bool (mayB 1 b n f s)) ∧ Below w.heap.size w w' := by
  have hsf := store_float
  go_enter Tryz.func22, Tryz.ntmps22
  go_wp2_with (go_at_call 62; ((with_reducible refine (identical_any _ _ _ _ _ _ _ _ _ _ _).mono ?_); rintro e w1 ⟨rfl, hb⟩))
  go_ret
  refine ⟨retB (mayB_eq ?_), below_two _ _ _ _ hb⟩
  show _ ↔ MayV _ _ _ _ _; rw [like_iff]; unfold MayV; simp [show (⟨#[]⟩ : ByteArray) = ByteArray.empty from rfl]
set_option maxRecDepth 100000 in
set_option maxHeartbeats 1000000 in
theorem May_2 (b : Bool) (n : Int) (f : Nat) (s : ByteArray) (w : World) :
    Calls Tryz.prog 22 #[vagg 2 b n f s] w fun e w' => e = .returned (.bool (mayB 2 b n f s)) ∧ Below w.heap.size w w' := by
  have hsf := store_float
  go_enter Tryz.func22, Tryz.ntmps22
  go_wp2_with (go_at_call 62; ((with_reducible refine (identical_any _ _ _ _ _ _ _ _ _ _ _).mono ?_); rintro e w1 ⟨rfl, hb⟩))
  go_ret
  refine ⟨retB (mayB_eq ?_), below_two _ _ _ _ hb⟩
  show _ ↔ MayV _ _ _ _ _; rw [like_iff]; unfold MayV; simp [show (⟨#[]⟩ : ByteArray) = ByteArray.empty from rfl]
set_option maxRecDepth 100000 in
set_option maxHeartbeats 1000000 in
theorem May_3 (b : Bool) (n : Int) (f : Nat) (s : ByteArray) (w : World) (hf : f < 18446744073709551616) :
    Calls Tryz.prog 22 #[vagg 3 b n f s] w fun e w' => e = .returned (.bool (mayB 3 b n f s)) ∧ Below w.heap.size w w' := by
  have hsf := store_float
  have C := Lib.hid (fun w => Canonical_any f w hf)
  by_cases h : canonF f = f
  · have HH := Lib.hid h
    rw [show decide (canonF f = f) = true by simp [h]] at C
    clear h
    go_enter Tryz.func22, Tryz.ntmps22
    go_wp2_with (first | (go_at_call 61; ((with_reducible refine (C.out _).mono ?_); rintro e w' ⟨rfl, rfl⟩)) | (go_at_call 62; ((with_reducible refine (identical_any _ _ _ _ _ _ _ _ _ _ _).mono ?_); rintro e w1 ⟨rfl, hb⟩)))
    go_ret
    refine ⟨retB (mayB_eq ?_), below_two _ _ _ _ hb⟩
    show _ ↔ MayV _ _ _ _ _; rw [like_iff]; unfold MayV; simp [HH.out, show (⟨#[]⟩ : ByteArray) = ByteArray.empty from rfl]
  · have HN := Lib.hid (no_may (k := 3) (b := b) (n := n) (f := f) (s := s) (by unfold MayV; simp [h]))
    rw [show decide (canonF f = f) = false by simp [h]] at C
    clear h
    go_enter Tryz.func22, Tryz.ntmps22
    go_wp2_with (go_at_call 61; ((with_reducible refine (C.out _).mono ?_); rintro e w' ⟨rfl, rfl⟩))
    go_ret
    exact ⟨retB HN.out, below2 _ _ _ 0⟩
set_option maxRecDepth 100000 in
set_option maxHeartbeats 1000000 in
theorem May_4 (b : Bool) (n : Int) (f : Nat) (s : ByteArray) (w : World) :
    Calls Tryz.prog 22 #[vagg 4 b n f s] w fun e w' => e = .returned (.bool (mayB 4 b n f s)) ∧ Below w.heap.size w w' := by
  have hsf := store_float
  by_cases h : s.size ≤ 32
  · have HH := Lib.hid h
    have t1 : decide ((s.size : Int) ≤ 32) = true := by simp; omega
    clear h
    go_enter Tryz.func22, Tryz.ntmps22
    go_wp2_with (go_at_call 62; ((with_reducible refine (identical_any _ _ _ _ _ _ _ _ _ _ _).mono ?_); rintro e w1 ⟨rfl, hb⟩))
    go_ret
    refine ⟨retB (mayB_eq ?_), below_two _ _ _ _ hb⟩
    show _ ↔ MayV _ _ _ _ _; rw [like_iff]; unfold MayV; simp [HH.out]
  · have HN := Lib.hid (no_may (k := 4) (b := b) (n := n) (f := f) (s := s) (by unfold MayV; simp; omega))
    have t1 : decide ((s.size : Int) ≤ 32) = false := by simp; omega
    clear h
    go_enter Tryz.func22, Tryz.ntmps22
    go_wp2
    go_ret
    exact ⟨retB HN.out, below2 _ _ _ 0⟩
set_option maxRecDepth 100000 in
set_option maxHeartbeats 1000000 in
theorem May_5 (b : Bool) (n : Int) (f : Nat) (s : ByteArray) (w : World) :
    Calls Tryz.prog 22 #[vagg 5 b n f s] w fun e w' => e = .returned (.bool (mayB 5 b n f s)) ∧ Below w.heap.size w w' := by
  have hsf := store_float
  by_cases h : 1 ≤ n
  · have t1 : decide (1 ≤ n) = true := by simp [h]
    by_cases h2 : n ≤ 1099511627776
    · have HH := Lib.hid (And.intro h h2)
      have t2 : decide (n ≤ 1099511627776) = true := by simp [h2]
      clear h h2
      go_enter Tryz.func22, Tryz.ntmps22
      go_wp2_with (go_at_call 62; ((with_reducible refine (identical_any _ _ _ _ _ _ _ _ _ _ _).mono ?_); rintro e w1 ⟨rfl, hb⟩))
      go_ret
      refine ⟨retB (mayB_eq ?_), below_two _ _ _ _ hb⟩
      show _ ↔ MayV _ _ _ _ _; rw [like_iff]; unfold MayV; simp [HH.out, show (⟨#[]⟩ : ByteArray) = ByteArray.empty from rfl]
    · have HN := Lib.hid (no_may (k := 5) (b := b) (n := n) (f := f) (s := s) (by unfold MayV; simp; omega))
      have t2 : decide (n ≤ 1099511627776) = false := by simp; omega
      clear h h2
      go_enter Tryz.func22, Tryz.ntmps22
      go_wp2
      go_ret
      exact ⟨retB HN.out, below2 _ _ _ 0⟩
  · have HN := Lib.hid (no_may (k := 5) (b := b) (n := n) (f := f) (s := s) (by unfold MayV; simp; omega))
    have t1 : decide (1 ≤ n) = false := by simp; omega
    clear h
    go_enter Tryz.func22, Tryz.ntmps22
    go_wp2
    go_ret
    exact ⟨retB HN.out, below2 _ _ _ 0⟩
set_option maxRecDepth 100000 in
set_option maxHeartbeats 1000000 in
theorem May_6 (b : Bool) (n : Int) (f : Nat) (s : ByteArray) (w : World) :
    Calls Tryz.prog 22 #[vagg 6 b n f s] w fun e w' => e = .returned (.bool (mayB 6 b n f s)) ∧ Below w.heap.size w w' := by
  have hsf := store_float
  by_cases h : 1 ≤ n
  · have t1 : decide (1 ≤ n) = true := by simp [h]
    by_cases h2 : n ≤ 1099511627776
    · have HH := Lib.hid (And.intro h h2)
      have t2 : decide (n ≤ 1099511627776) = true := by simp [h2]
      clear h h2
      go_enter Tryz.func22, Tryz.ntmps22
      go_wp2_with (go_at_call 62; ((with_reducible refine (identical_any _ _ _ _ _ _ _ _ _ _ _).mono ?_); rintro e w1 ⟨rfl, hb⟩))
      go_ret
      refine ⟨retB (mayB_eq ?_), below_two _ _ _ _ hb⟩
      show _ ↔ MayV _ _ _ _ _; rw [like_iff]; unfold MayV; simp [HH.out, show (⟨#[]⟩ : ByteArray) = ByteArray.empty from rfl]
    · have HN := Lib.hid (no_may (k := 6) (b := b) (n := n) (f := f) (s := s) (by unfold MayV; simp; omega))
      have t2 : decide (n ≤ 1099511627776) = false := by simp; omega
      clear h h2
      go_enter Tryz.func22, Tryz.ntmps22
      go_wp2
      go_ret
      exact ⟨retB HN.out, below2 _ _ _ 0⟩
  · have HN := Lib.hid (no_may (k := 6) (b := b) (n := n) (f := f) (s := s) (by unfold MayV; simp; omega))
    have t1 : decide (1 ≤ n) = false := by simp; omega
    clear h
    go_enter Tryz.func22, Tryz.ntmps22
    go_wp2
    go_ret
    exact ⟨retB HN.out, below2 _ _ _ 0⟩
set_option maxRecDepth 100000 in
set_option maxHeartbeats 1000000 in
theorem May_else (k : Int) (b : Bool) (n : Int) (f : Nat) (s : ByteArray) (w : World) (hk : k < 0 ∨ 6 < k) :
    Calls Tryz.prog 22 #[vagg k b n f s] w fun e w' => e = .returned (.bool (mayB k b n f s)) ∧ Below w.heap.size w w' := by
  have hsf := store_float
  have HN := Lib.hid (no_may (k := k) (b := b) (n := n) (f := f) (s := s) (by unfold MayV; omega))
  have t0 : (k == 0) = false := by simp; omega
  have t1 : (k == 1) = false := by simp; omega
  have t2 : (k == 2) = false := by simp; omega
  have t3 : (k == 3) = false := by simp; omega
  have t4 : (k == 4) = false := by simp; omega
  have t5 : (k == 5) = false := by simp; omega
  have t6 : (k == 6) = false := by simp; omega
  clear hk
  go_enter Tryz.func22, Tryz.ntmps22
  go_wp2
  go_ret
  exact ⟨retB HN.out, below2 _ _ _ 0⟩
theorem May_any (k : Int) (b : Bool) (n : Int) (f : Nat) (s : ByteArray) (w : World) (hf : f < 18446744073709551616) :
    Calls Tryz.prog 22 #[vagg k b n f s] w fun e w' => e = .returned (.bool (mayB k b n f s)) ∧ Below w.heap.size w w' := by
  by_cases h : k < 0 ∨ 6 < k
  · exact May_else k b n f s w h
  · have e : k = 0 ∨ k = 1 ∨ k = 2 ∨ k = 3 ∨ k = 4 ∨ k = 5 ∨ k = 6 := by omega
    rcases e with rfl | rfl | rfl | rfl | rfl | rfl | rfl
    · exact May_0 b n f s w
    · exact May_1 b n f s w
    · exact May_2 b n f s w
    · exact May_3 b n f s w hf
    · exact May_4 b n f s w
    · exact May_5 b n f s w
    · exact May_6 b n f s w
end Go.Proofs.YtchklaepilcbbaaGreat

namespace Go.Proofs.YtchklaepilcbbaaGreat
open Go.RowKit
theorem Compare_any (k n k' n' : Int) (b b' : Bool) (f f' : Nat) (s s' : ByteArray) (w : World) (hx : WideV k n f s) (hy : WideV k' n' f' s') (mx : MayV k b n f s) (my : MayV k' b' n' f' s') :
    Calls Tryz.prog 116 #[vagg k b n f s, vagg k' b' n' f' s'] w fun e w' => e = .returned (.int .i64 (cmpK (keyV k b n f s) (keyV k' b' n' f' s'))) ∧ Below w.heap.size w w' := by
  obtain ⟨_, hn, hf, _⟩ := hx
  obtain ⟨_, hn', hf', _⟩ := hy
  by_cases hc : classK k = classK k'
  · have my' := may_kind my
    rcases may_kind mx with rfl | rfl | rfl | rfl | rfl | rfl | rfl
    · obtain rfl : k' = 0 := by unfold classK at hc; split at hc <;> split at hc <;> omega
      refine (Compare_k0 n 0 n' b b' f f' s s' w hc 0 fun w => nulls_any _ _ _ _ _ _ _ _ _ _ w).mono fun e w' h => ⟨h.1.trans (retI ?_), h.2⟩
      exact (cmpK_num (x := keyV 0 b n f s) (y := keyV 0 b' n' f' s') rfl rfl rfl).symm
    · obtain rfl : k' = 1 := by unfold classK at hc; split at hc <;> split at hc <;> omega
      refine (Compare_k1 n 1 n' b b' f f' s s' w hc _ fun w => bools_any _ _ _ _ _ _ _ _ _ _ w).mono fun e w' h => ⟨h.1.trans (retI ?_), h.2⟩
      exact (cmpK_num (x := keyV 1 b n f s) (y := keyV 1 b' n' f' s') rfl rfl rfl).symm
    · have hk : k' = 2 ∨ k' = 3 := by unfold classK at hc; split at hc <;> split at hc <;> omega
      refine (Compare_k2 n k' n' b b' f f' s s' w hc _ fun w => intAndNumber_any _ _ _ _ _ _ _ _ _ _ w hn hf' hk).mono fun e w' h => ⟨h.1.trans (retI ?_), h.2⟩
      rcases hk with rfl | rfl
      · exact (cmpK_num (x := keyV 2 b n f s) (y := keyV 2 b' n' f' s') rfl rfl rfl).symm
      · exact (cmpK_num (x := keyV 2 b n f s) (y := keyV 3 b' n' f' s') rfl rfl rfl).symm
    · have hk : k' = 2 ∨ k' = 3 := by unfold classK at hc; split at hc <;> split at hc <;> omega
      refine (Compare_k3 n k' n' b b' f f' s s' w hc _ fun w => floatAndNumber_any _ _ _ _ _ _ _ _ _ _ w hn' hf hf' hk).mono fun e w' h => ⟨h.1.trans (retI ?_), h.2⟩
      rcases hk with rfl | rfl
      · exact (cmpK_num (x := keyV 3 b n f s) (y := keyV 2 b' n' f' s') rfl rfl rfl).symm
      · exact (cmpK_num (x := keyV 3 b n f s) (y := keyV 3 b' n' f' s') rfl rfl rfl).symm
    · obtain rfl : k' = 4 := by unfold classK at hc; split at hc <;> split at hc <;> omega
      refine (Compare_k4 n 4 n' b b' f f' s s' w hc _ fun w => strs_any _ _ _ _ _ _ _ _ _ _ w).mono fun e w' h => ⟨h.1.trans (retI ?_), h.2⟩
      exact (cmpK_str (x := keyV 4 b n f s) (y := keyV 4 b' n' f' s') rfl rfl).symm
    · obtain rfl : k' = 5 := by unfold classK at hc; split at hc <;> split at hc <;> omega
      refine (Compare_k5 n 5 n' b b' f f' s s' w hc _ fun w => nums_any _ _ _ _ _ _ _ _ _ _ w).mono fun e w' h => ⟨h.1.trans (retI ?_), h.2⟩
      exact (cmpK_num (x := keyV 5 b n f s) (y := keyV 5 b' n' f' s') rfl rfl rfl).symm
    · obtain rfl : k' = 6 := by unfold classK at hc; split at hc <;> split at hc <;> omega
      refine (Compare_k6 n 6 n' b b' f f' s s' w hc _ fun w => nums_any _ _ _ _ _ _ _ _ _ _ w).mono fun e w' h => ⟨h.1.trans (retI ?_), h.2⟩
      exact (cmpK_num (x := keyV 6 b n f s) (y := keyV 6 b' n' f' s') rfl rfl rfl).symm
  · exact (Compare_far k k' n n' b b' f f' s s' w hc).mono fun e w' h => ⟨h.1.trans (retI (cmpK_far (x := keyV k b n f s) (y := keyV k' b' n' f' s') hc).symm), h.2⟩
set_option maxRecDepth 100000 in
theorem Same_any (k n k' n' : Int) (b b' : Bool) (f f' : Nat) (s s' : ByteArray) (w : World) (hx : WideV k n f s) (hy : WideV k' n' f' s') (mx : MayV k b n f s) (my : MayV k' b' n' f' s') :
    Calls Tryz.prog 63 #[vagg k b n f s, vagg k' b' n' f' s'] w fun e w' => e = .returned (.bool (cmpK (keyV k b n f s) (keyV k' b' n' f' s') == 0)) ∧ Below w.heap.size w w' := by
  have C := Lib.hid (fun w => Compare_any k n k' n' b b' f f' s s' w hx hy mx my)
  generalize cmpK (keyV k b n f s) (keyV k' b' n' f' s') = r at *
  clear hx hy mx my
  go_enter Tryz.func63, Tryz.ntmps63
  go_wp2_with (go_at_call 116; ((with_reducible refine (C.out _).mono ?_); rintro e w1 ⟨rfl, hb⟩))
  go_ret
  exact ⟨rfl, below_two _ _ _ _ hb⟩
end Go.Proofs.YtchklaepilcbbaaGreat
