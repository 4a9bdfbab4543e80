/- The functions of package value that compare: which values may be, alike ones, the order, for every value. -/
import Derived.Test.YtaaekjmiapelgaaGreatmV1
import Derived.Test.YtaaekjmiapelgaaGreatmG18
import Derived.Shelf.Small.Strs
import Derived.Laws.EntriesVeiled
namespace Go.Proofs.YtaaekjmiapelgaaGreat
open Go.RowKit

/-- A value as the program has it. -/
abbrev vagg (k : Int) (b : Bool) (n : Int) (f : Nat) (s : ByteArray) : Value := .agg #[.int .i64 k, .bool b, .int .i64 n, .float .f64 f, .string s]
set_option maxRecDepth 100000 in
theorem class_any (k : Int) (w : World) : Calls Tryz.prog 88 #[.int .i64 k] w fun e w' => e = .returned (.int .i64 (classK k)) ∧ w = w' := by
  unfold classK
  by_cases h : k = 3
  · subst h
    go_enter Tryz.func88, Tryz.ntmps88
    go_wp2
    go_ret
    exact ⟨rfl, rfl⟩
  · have hb : (k == 3) = false := by simp [h]
    rw [if_neg h]
    go_enter Tryz.func88, Tryz.ntmps88
    go_wp2
    go_ret
    exact ⟨rfl, rfl⟩
set_option maxRecDepth 100000 in
theorem known_any (k : Int) (w : World) (h0 : 0 ≤ k) (h1 : k ≤ 6) : Calls Tryz.prog 89 #[.int .i64 k] w fun e w' => e = .returned (.bool true) ∧ w = w' := by
  go_enter Tryz.func89, Tryz.ntmps89
  go_wp2
  go_ret
  exact ⟨rfl, rfl⟩
set_option maxRecDepth 100000 in
theorem CompareN_any (x y : Int) (w : World) : Calls Tryz.prog 87 #[.int .i64 x, .int .i64 y] w fun e w' => e = .returned (.int .i64 (cmpI x y)) ∧ w = w' := by
  obtain ⟨c, hc⟩ : ∃ c, c = cmpI x y := ⟨_, rfl⟩
  rw [← hc]
  unfold cmpI at hc
  by_cases p : x < y
  · have pb : decide (x < y) = true := by simp [p]
    rw [if_pos p] at hc
    subst hc
    go_enter Tryz.func87, Tryz.ntmps87
    go_wp2
    go_ret
    exact ⟨rfl, rfl⟩
  · have pb : decide (x < y) = false := by simp [p]
    rw [if_neg p] at hc
    by_cases q : y < x
    · have qb : decide (y < x) = true := by simp [q]
      rw [if_pos q] at hc
      subst hc
      clear p
      go_enter Tryz.func87, Tryz.ntmps87
      go_wp2
      go_ret
      exact ⟨rfl, rfl⟩
    · have qb : decide (y < x) = false := by simp [q]
      rw [if_neg q] at hc
      subst hc
      clear p q
      go_enter Tryz.func87, Tryz.ntmps87
      go_wp2
      go_ret
      exact ⟨rfl, rfl⟩
/-- Whether two values are the same in each field. -/
def likeV (k : Int) (b : Bool) (n : Int) (f : Nat) (s : ByteArray) (k' : Int) (b' : Bool) (n' : Int) (f' : Nat) (s' : ByteArray) : Bool := decide (k = k' ∧ b = b' ∧ n = n' ∧ f = f' ∧ s = s')
theorem like_no {k k' n n' : Int} {b b' : Bool} {f f' : Nat} {s s' : ByteArray} (h : ¬ (k = k' ∧ b = b' ∧ n = n' ∧ f = f' ∧ s = s')) : likeV k b n f s k' b' n' f' s' = false := by
  unfold likeV; simpa using h
theorem str_ne {s t : ByteArray} (h : ¬ s = t) : (s.toList == t.toList) = false := by
  rw [ByteArray.toList_eq, ByteArray.toList_eq, beq_eq_false_iff_ne]
  exact fun e => h (ByteArray.ext (Array.toList_inj.1 e))
theorem below2 (w : World) (o p : Obj) (m : Nat) : Below w.heap.size w (((w.alloc o).alloc p).drewN m) := below_drewN (((Below.refl _ _).alloc (Nat.le_refl _) o).alloc (by simp) p) m
set_option maxRecDepth 100000 in
set_option maxHeartbeats 1000000 in
theorem identical_any (k : Int) (b : Bool) (n : Int) (f : Nat) (s : ByteArray) (k' : Int) (b' : Bool) (n' : Int) (f' : Nat) (s' : ByteArray) (w : World) :
    Calls Tryz.prog 85 #[vagg k b n f s, vagg k' b' n' f' s'] w fun e w' => e = .returned (.bool (likeV k b n f s k' b' n' f' s')) ∧ Below w.heap.size w w' := by
  have hfb := call_Float64bits
  by_cases hk : k = k'
  · subst hk
    by_cases hb : b = b'
    · subst hb
      by_cases hn : n = n'
      · subst hn
        by_cases hs : s = s'
        · subst hs
          by_cases hf : f = f'
          · subst hf
            have HL : Hid (likeV k b n f s k b n f s = true) := by show likeV k b n f s k b n f s = true; unfold likeV; simp
            go_enter Tryz.func85, Tryz.ntmps85
            go_wp2
            go_quiet (fail)
            go_wp2
            go_ret
            exact ⟨retB HL.out.symm, below2 _ _ _ _⟩
          · have HL := Lib.hid (like_no (k := k) (k' := k) (n := n) (n' := n) (b := b) (b' := b) (f := f) (f' := f') (s := s) (s' := s) (by intro h; exact hf h.2.2.2.1))
            have t1 : ((f : Int) == (f' : Int)) = false := by simp; omega
            clear hf
            go_enter Tryz.func85, Tryz.ntmps85
            go_wp2
            go_quiet (fail)
            go_wp2
            go_ret
            exact ⟨retB HL.out.symm, below2 _ _ _ _⟩
        · have HL := Lib.hid (like_no (k := k) (k' := k) (n := n) (n' := n) (b := b) (b' := b) (f := f) (f' := f') (s := s) (s' := s') (by intro h; exact hs h.2.2.2.2))
          have t1 : (s.toList == s'.toList) = false := str_ne hs
          clear hs
          go_enter Tryz.func85, Tryz.ntmps85
          go_wp2
          go_quiet (fail)
          go_wp2
          go_ret
          exact ⟨retB HL.out.symm, below2 _ _ _ _⟩
      · have HL := Lib.hid (like_no (k := k) (k' := k) (n := n) (n' := n') (b := b) (b' := b) (f := f) (f' := f') (s := s) (s' := s') (by intro h; exact hn h.2.2.1))
        have t1 : (n == n') = false := by simp [hn]
        clear hn
        go_enter Tryz.func85, Tryz.ntmps85
        go_wp2
        go_quiet (fail)
        go_wp2
        go_ret
        exact ⟨retB HL.out.symm, below2 _ _ _ _⟩
    · have HL := Lib.hid (like_no (k := k) (k' := k) (n := n) (n' := n') (b := b) (b' := b') (f := f) (f' := f') (s := s) (s' := s') (by intro h; exact hb h.2.1))
      have t1 : (b == b') = false := by simpa using hb
      clear hb
      go_enter Tryz.func85, Tryz.ntmps85
      go_wp2
      go_quiet (fail)
      go_wp2
      go_ret
      exact ⟨retB HL.out.symm, below2 _ _ _ _⟩
  · have HL := Lib.hid (like_no (k := k) (k' := k') (n := n) (n' := n') (b := b) (b' := b') (f := f) (f' := f') (s := s) (s' := s') (by intro h; exact hk h.1))
    have t1 : (k == k') = false := by simp [hk]
    clear hk
    go_enter Tryz.func85, Tryz.ntmps85
    go_wp2
    go_quiet (fail)
    go_wp2
    go_ret
    exact ⟨retB HL.out.symm, below2 _ _ _ _⟩
set_option maxRecDepth 100000 in
set_option maxHeartbeats 1000000 in
theorem Like_any (k : Int) (b : Bool) (n : Int) (f : Nat) (s : ByteArray) (k' : Int) (b' : Bool) (n' : Int) (f' : Nat) (s' : ByteArray) (w : World) :
    Calls Tryz.prog 21 #[vagg k b n f s, vagg k' b' n' f' s'] w fun e w' => e = .returned (.bool (likeV k b n f s k' b' n' f' s')) ∧ Below w.heap.size w w' := by
  have hfb := call_Float64bits
  by_cases hk : k = k'
  · subst hk
    by_cases hb : b = b'
    · subst hb
      by_cases hn : n = n'
      · subst hn
        by_cases hf : f = f'
        · subst hf
          by_cases hs : s = s'
          · subst hs
            have HL : Hid (likeV k b n f s k b n f s = true) := by show likeV k b n f s k b n f s = true; unfold likeV; simp
            go_enter Tryz.func21, Tryz.ntmps21
            go_wp2
            go_quiet (fail)
            go_wp2
            go_ret
            exact ⟨retB HL.out.symm, below2 _ _ _ _⟩
          · have HL := Lib.hid (like_no (k := k) (k' := k) (n := n) (n' := n) (b := b) (b' := b) (f := f) (f' := f) (s := s) (s' := s') (by intro h; exact hs h.2.2.2.2))
            have t1 : (s.toList == s'.toList) = false := str_ne hs
            clear hs
            go_enter Tryz.func21, Tryz.ntmps21
            go_wp2
            go_quiet (fail)
            go_wp2
            go_ret
            exact ⟨retB HL.out.symm, below2 _ _ _ _⟩
        · have HL := Lib.hid (like_no (k := k) (k' := k) (n := n) (n' := n) (b := b) (b' := b) (f := f) (f' := f') (s := s) (s' := s') (by intro h; exact hf h.2.2.2.1))
          have t1 : ((f : Int) == (f' : Int)) = false := by simp; omega
          clear hf
          go_enter Tryz.func21, Tryz.ntmps21
          go_wp2
          go_quiet (fail)
          go_wp2
          go_ret
          exact ⟨retB HL.out.symm, below2 _ _ _ _⟩
      · have HL := Lib.hid (like_no (k := k) (k' := k) (n := n) (n' := n') (b := b) (b' := b) (f := f) (f' := f') (s := s) (s' := s') (by intro h; exact hn h.2.2.1))
        have t1 : (n == n') = false := by simp [hn]
        clear hn
        go_enter Tryz.func21, Tryz.ntmps21
        go_wp2
        go_quiet (fail)
        go_wp2
        go_ret
        exact ⟨retB HL.out.symm, below2 _ _ _ _⟩
    · have HL := Lib.hid (like_no (k := k) (k' := k) (n := n) (n' := n') (b := b) (b' := b') (f := f) (f' := f') (s := s) (s' := s') (by intro h; exact hb h.2.1))
      have t1 : (b == b') = false := by simpa using hb
      clear hb
      go_enter Tryz.func21, Tryz.ntmps21
      go_wp2
      go_quiet (fail)
      go_wp2
      go_ret
      exact ⟨retB HL.out.symm, below2 _ _ _ _⟩
  · have HL := Lib.hid (like_no (k := k) (k' := k') (n := n) (n' := n') (b := b) (b' := b') (f := f) (f' := f') (s := s) (s' := s') (by intro h; exact hk h.1))
    have t1 : (k == k') = false := by simp [hk]
    clear hk
    go_enter Tryz.func21, Tryz.ntmps21
    go_wp2
    go_quiet (fail)
    go_wp2
    go_ret
    exact ⟨retB HL.out.symm, below2 _ _ _ _⟩
end Go.Proofs.YtaaekjmiapelgaaGreat

