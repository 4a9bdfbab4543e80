/- value.Eq and value.Less, for every two values that may be. -/
import Derived.Test.YtbpakmiopmgmbaaGreatDoorV8
import Derived.Test.YtbpakmiopmgmbaaGreatDoorV6b
namespace Go.Proofs.YtbpakmiopmgmbaaGreatDoor
open Go.RowKit
/-- Five cells of one block, written. -/
theorem set5 (W : World) (g : Nat) (x0 x1 x2 x3 x4 : Value) (C : Array Value) (hC : C.size = 5) (hc : ∀ j, W.cell? ⟨g, j, none⟩ = C[j]?) :
    (((((W.setCell ⟨g, 0, none⟩ x0).setCell ⟨g, 1, none⟩ x1).setCell ⟨g, 2, none⟩ x2).setCell ⟨g, 3, none⟩ x3).setCell ⟨g, 4, none⟩ x4).cell? ⟨g, 0, none⟩ = some x0 ∧
    (((((W.setCell ⟨g, 0, none⟩ x0).setCell ⟨g, 1, none⟩ x1).setCell ⟨g, 2, none⟩ x2).setCell ⟨g, 3, none⟩ x3).setCell ⟨g, 4, none⟩ x4).cell? ⟨g, 1, none⟩ = some x1 ∧
    (((((W.setCell ⟨g, 0, none⟩ x0).setCell ⟨g, 1, none⟩ x1).setCell ⟨g, 2, none⟩ x2).setCell ⟨g, 3, none⟩ x3).setCell ⟨g, 4, none⟩ x4).cell? ⟨g, 2, none⟩ = some x2 ∧
    (((((W.setCell ⟨g, 0, none⟩ x0).setCell ⟨g, 1, none⟩ x1).setCell ⟨g, 2, none⟩ x2).setCell ⟨g, 3, none⟩ x3).setCell ⟨g, 4, none⟩ x4).cell? ⟨g, 3, none⟩ = some x3 ∧
    (((((W.setCell ⟨g, 0, none⟩ x0).setCell ⟨g, 1, none⟩ x1).setCell ⟨g, 2, none⟩ x2).setCell ⟨g, 3, none⟩ x3).setCell ⟨g, 4, none⟩ x4).cell? ⟨g, 4, none⟩ = some x4 := by
  have o : ∀ (w : World) (i j : Nat) (x : Value), i ≠ j → (w.setCell ⟨g, i, none⟩ x).cell? ⟨g, j, none⟩ = w.cell? ⟨g, j, none⟩ := fun w i j x h => World.cell?_setCell_other _ _ _ _ (by intro e; simp only [Addr.mk.injEq] at e; omega)
  have k : ∀ j, j < 5 → ∃ u, W.cell? ⟨g, j, none⟩ = some u := fun j hj => ⟨C[j], by rw [hc]; exact Array.getElem?_eq_getElem (by omega)⟩
  obtain ⟨u0, k0⟩ := k 0 (by omega)
  obtain ⟨u1, k1⟩ := k 1 (by omega)
  obtain ⟨u2, k2⟩ := k 2 (by omega)
  obtain ⟨u3, k3⟩ := k 3 (by omega)
  obtain ⟨u4, k4⟩ := k 4 (by omega)
  refine ⟨?_, ?_, ?_, ?_, ?_⟩
  · rw [o _ 4 0 _ (by omega), o _ 3 0 _ (by omega), o _ 2 0 _ (by omega), o _ 1 0 _ (by omega)]
    exact World.cell?_setCell_same _ _ _ k0
  · rw [o _ 4 1 _ (by omega), o _ 3 1 _ (by omega), o _ 2 1 _ (by omega)]
    exact World.cell?_setCell_same _ _ _ (by rw [o _ 0 1 _ (by omega)]; exact k1)
  · rw [o _ 4 2 _ (by omega), o _ 3 2 _ (by omega)]
    exact World.cell?_setCell_same _ _ _ (by rw [o _ 1 2 _ (by omega), o _ 0 2 _ (by omega)]; exact k2)
  · rw [o _ 4 3 _ (by omega)]
    exact World.cell?_setCell_same _ _ _ (by rw [o _ 2 3 _ (by omega), o _ 1 3 _ (by omega), o _ 0 3 _ (by omega)]; exact k3)
  · exact World.cell?_setCell_same _ _ _ (by rw [o _ 3 4 _ (by omega), o _ 2 4 _ (by omega), o _ 1 4 _ (by omega), o _ 0 4 _ (by omega)]; exact k4)
theorem set5_below {w W : World} (g : Nat) (x0 x1 x2 x3 x4 : Value) (hg : w.heap.size ≤ g) (h : Below w.heap.size w W) :
    Below w.heap.size w (((((W.setCell ⟨g, 0, none⟩ x0).setCell ⟨g, 1, none⟩ x1).setCell ⟨g, 2, none⟩ x2).setCell ⟨g, 3, none⟩ x3).setCell ⟨g, 4, none⟩ x4) :=
  ((((h.setCell (p := ⟨g, 0, none⟩) hg _).setCell (p := ⟨g, 1, none⟩) hg _).setCell (p := ⟨g, 2, none⟩) hg _).setCell (p := ⟨g, 3, none⟩) hg _).setCell (p := ⟨g, 4, none⟩) hg _
abbrev nullV : Value := vagg 0 false 0 0 ⟨#[]⟩
abbrev truthV (b : Bool) : Value := vagg 1 b 0 0 ⟨#[]⟩
set_option maxRecDepth 100000 in
set_option maxHeartbeats 1000000 in
theorem Eq_null1 (n k' n' : Int) (b b' : Bool) (f f' : Nat) (s s' : ByteArray) (w : World) :
    Calls Tryz.prog 8 #[vagg 0 b n f s, vagg k' b' n' f' s'] w fun e w' => e = .returned nullV ∧ Below w.heap.size w w' := by
  have hsf := store_float
  go_enter Tryz.func8, Tryz.ntmps8
  go_wp2
  go_returns
  exact ⟨rfl, by go_grown⟩
set_option maxRecDepth 100000 in
set_option maxHeartbeats 1000000 in
theorem Eq_num (k n k' n' : Int) (b b' : Bool) (f f' : Nat) (s s' : ByteArray) (w : World) (hx : WideV k n f s) (hy : WideV k' n' f' s') (hk : k = 2 ∨ k = 3) (hk' : k' = 2 ∨ k' = 3) :
    Calls Tryz.prog 8 #[vagg k b n f s, vagg k' b' n' f' s'] w fun e w' => e = .returned (truthV (sameB k n f k' n' f')) ∧ Below w.heap.size w w' := by
  have hsf := store_float
  have t1 : (k == 0) = false := by simp; omega
  have t2 : (k' == 0) = false := by simp; omega
  have C1 := Lib.hid (fun w => number_yes k b n f s w hk)
  have C2 := Lib.hid (fun w => number_yes k' b' n' f' s' w hk')
  have C3 := Lib.hid (fun w => sameNumber_any k n k' n' b b' f f' s s' w hx hy hk hk')
  generalize sameB k n f k' n' f' = r at *
  clear hk hk' hx hy
  have T := Lib.hid (Res.start w #[.int .i64 k, .bool b, .int .i64 n, .float .f64 f, .string s] #[.int .i64 k', .bool b', .int .i64 n', .float .f64 f', .string s'] #[.int .i64 0, .bool false, .int .i64 0, .float .f64 0, .string ⟨#[]⟩] 24 24 24)
  go_enter Tryz.func8, Tryz.ntmps8
  go_wp2_with (first | (go_at_call 26; ((with_reducible refine (C1.out _).mono ?_); rintro e w1 ⟨rfl, hb⟩; replace T := Lib.hid (T.out.step hb); clear hb; obtain ⟨⟨_, hz, x1, x2, x3⟩, x4⟩ := T.out))  | (go_at_call 26; ((with_reducible refine (C2.out _).mono ?_); rintro e w1 ⟨rfl, hb⟩; replace T := Lib.hid (T.out.step hb); clear hb; obtain ⟨⟨_, hz, x1, x2, x3⟩, x4⟩ := T.out)) | (go_at_call 28; ((with_reducible refine (C3.out _).mono ?_); rintro e w1 ⟨rfl, hb⟩; replace T := Lib.hid (T.out.step hb); clear hb; obtain ⟨⟨_, hz, x1, x2, x3⟩, x4⟩ := T.out)) | (go_at_call 20; ((with_reducible refine (Truth_any _ _).mono ?_); rintro e w1 ⟨rfl, hb⟩; replace T := Lib.hid (T.out.step hb); clear hb; obtain ⟨⟨_, hz, x1, x2, x3⟩, x4⟩ := T.out)))
  obtain ⟨s0, s1, s2, s3, s4⟩ := set5 w1 (w.heap.size + 1 + 1) (.int .i64 1) (.bool r) (.int .i64 0) (.float .f64 0) (.string ⟨#[]⟩) _ rfl x3
  refine bodyPost_ret (v := truthV r) (by simp [results, Tryz.results8, go_sem, s0, s1, s2, s3, s4]) rfl ?_
  exact ⟨rfl, set5_below _ _ _ _ _ _ (by omega) T.out.below⟩
set_option maxRecDepth 100000 in
set_option maxHeartbeats 1000000 in
theorem Eq_null2 (k n k' n' : Int) (b b' : Bool) (f f' : Nat) (s s' : ByteArray) (w : World) (h : k ≠ 0) (h' : k' = 0) :
    Calls Tryz.prog 8 #[vagg k b n f s, vagg k' b' n' f' s'] w fun e w' => e = .returned nullV ∧ Below w.heap.size w w' := by
  have hsf := store_float
  subst h'
  have t1 : (k == 0) = false := by simp [h]
  clear h
  go_enter Tryz.func8, Tryz.ntmps8
  go_wp2
  go_returns
  exact ⟨rfl, by go_grown⟩
set_option maxRecDepth 100000 in
set_option maxHeartbeats 1000000 in
theorem Eq_else (k n k' n' : Int) (b b' : Bool) (f f' : Nat) (s s' : ByteArray) (w : World) (hx : WideV k n f s) (hy : WideV k' n' f' s') (mx : MayV k b n f s) (my : MayV k' b' n' f' s') (h : k ≠ 0) (h' : k' ≠ 0) (hn : ¬ ((k = 2 ∨ k = 3) ∧ (k' = 2 ∨ k' = 3))) :
    Calls Tryz.prog 8 #[vagg k b n f s, vagg k' b' n' f' s'] w fun e w' => e = .returned (truthV (cmpK (keyV k b n f s) (keyV k' b' n' f' s') == 0)) ∧ Below w.heap.size w w' := by
  have hsf := store_float
  have t1 : (k == 0) = false := by simp [h]
  have t2 : (k' == 0) = false := by simp [h']
  have C3 := Lib.hid (fun w => Same_any k n k' n' b b' f f' s s' w hx hy mx my)
  generalize (cmpK (keyV k b n f s) (keyV k' b' n' f' s') == 0) = r at *
  have T := Lib.hid (Res.start w #[.int .i64 k, .bool b, .int .i64 n, .float .f64 f, .string s] #[.int .i64 k', .bool b', .int .i64 n', .float .f64 f', .string s'] #[.int .i64 0, .bool false, .int .i64 0, .float .f64 0, .string ⟨#[]⟩] 24 24 24)
  by_cases hk : k = 2 ∨ k = 3
  · have C1 := Lib.hid (fun w => number_yes k b n f s w hk)
    have C2 := Lib.hid (fun w => number_no k' b' n' f' s' w (by omega) (by omega))
    clear h h' hn hk hx hy mx my
    go_enter Tryz.func8, Tryz.ntmps8
    go_wp2_with (first | (go_at_call 26; ((with_reducible refine (C1.out _).mono ?_); rintro e w1 ⟨rfl, hb⟩; replace T := Lib.hid (T.out.step hb); clear hb; obtain ⟨⟨_, hz, x1, x2, x3⟩, x4⟩ := T.out)) | (go_at_call 26; ((with_reducible refine (C2.out _).mono ?_); rintro e w1 ⟨rfl, hb⟩; replace T := Lib.hid (T.out.step hb); clear hb; obtain ⟨⟨_, hz, x1, x2, x3⟩, x4⟩ := T.out)) | (go_at_call 9; ((with_reducible refine (C3.out _).mono ?_); rintro e w1 ⟨rfl, hb⟩; replace T := Lib.hid (T.out.step hb); clear hb; obtain ⟨⟨_, hz, x1, x2, x3⟩, x4⟩ := T.out)) | (go_at_call 20; ((with_reducible refine (Truth_any _ _).mono ?_); rintro e w1 ⟨rfl, hb⟩; replace T := Lib.hid (T.out.step hb); clear hb; obtain ⟨⟨_, hz, x1, x2, x3⟩, x4⟩ := T.out)))
    obtain ⟨s0, s1, s2, s3, s4⟩ := set5 w1 (w.heap.size + 1 + 1) (.int .i64 1) (.bool r) (.int .i64 0) (.float .f64 0) (.string ⟨#[]⟩) _ rfl x3
    refine bodyPost_ret (v := truthV r) (by simp [results, Tryz.results8, go_sem, s0, s1, s2, s3, s4]) rfl ?_
    exact ⟨rfl, set5_below _ _ _ _ _ _ (by omega) T.out.below⟩
  · have C1 := Lib.hid (fun w => number_no k b n f s w (by omega) (by omega))
    clear h h' hn hk hx hy mx my
    go_enter Tryz.func8, Tryz.ntmps8
    go_wp2_with (first | (go_at_call 26; ((with_reducible refine (C1.out _).mono ?_); rintro e w1 ⟨rfl, hb⟩; replace T := Lib.hid (T.out.step hb); clear hb; obtain ⟨⟨_, hz, x1, x2, x3⟩, x4⟩ := T.out)) | (go_at_call 9; ((with_reducible refine (C3.out _).mono ?_); rintro e w1 ⟨rfl, hb⟩; replace T := Lib.hid (T.out.step hb); clear hb; obtain ⟨⟨_, hz, x1, x2, x3⟩, x4⟩ := T.out)) | (go_at_call 20; ((with_reducible refine (Truth_any _ _).mono ?_); rintro e w1 ⟨rfl, hb⟩; replace T := Lib.hid (T.out.step hb); clear hb; obtain ⟨⟨_, hz, x1, x2, x3⟩, x4⟩ := T.out)))
    obtain ⟨s0, s1, s2, s3, s4⟩ := set5 w1 (w.heap.size + 1 + 1) (.int .i64 1) (.bool r) (.int .i64 0) (.float .f64 0) (.string ⟨#[]⟩) _ rfl x3
    refine bodyPost_ret (v := truthV r) (by simp [results, Tryz.results8, go_sem, s0, s1, s2, s3, s4]) rfl ?_
    exact ⟨rfl, set5_below _ _ _ _ _ _ (by omega) T.out.below⟩
set_option maxRecDepth 100000 in
set_option maxHeartbeats 1000000 in
theorem Less_num (k n k' n' : Int) (b b' : Bool) (f f' : Nat) (s s' : ByteArray) (w : World) (hx : WideV k n f s) (hy : WideV k' n' f' s') (mx : MayV k b n f s) (my : MayV k' b' n' f' s') (hk : k = 2 ∨ k = 3) (hk' : k' = 2 ∨ k' = 3) :
    Calls Tryz.prog 7 #[vagg k b n f s, vagg k' b' n' f' s'] w fun e w' => e = .returned (truthV (lessB k n f k' n' f')) ∧ Below w.heap.size w w' := by
  have hsf := store_float
  have C1 := Lib.hid (fun w => number_yes k b n f s w hk)
  have C2 := Lib.hid (fun w => number_yes k' b' n' f' s' w hk')
  have C3 := Lib.hid (fun w => notANumber_any k b n f s w hx.2.2.1 hk)
  have C4 := Lib.hid (fun w => notANumber_any k' b' n' f' s' w hy.2.2.1 hk')
  have C5 := Lib.hid (fun w => sameNumber_any k n k' n' b b' f f' s s' w hx hy hk hk')
  have C6 := Lib.hid (fun w => Compare_any k n k' n' b b' f f' s s' w hx hy mx my)
  have T := Lib.hid (Res.start w #[.int .i64 k, .bool b, .int .i64 n, .float .f64 f, .string s] #[.int .i64 k', .bool b', .int .i64 n', .float .f64 f', .string s'] #[.int .i64 0, .bool false, .int .i64 0, .float .f64 0, .string ⟨#[]⟩] 24 24 24)
  rw [less_cmp k n k' n' b b' f f' s s' hk hk']
  generalize cmpK (keyV k b n f s) (keyV k' b' n' f' s') = r at *
  generalize sameB k n f k' n' f' = q at *
  generalize nanK k f = u at *
  generalize nanK k' f' = v at *
  clear hk hk' hx hy mx my
  cases u
  · cases v
    · cases q
      · rw [show (!false && !false && !false && decide (r < 0)) = decide (r < 0) by simp]
        go_enter Tryz.func7, Tryz.ntmps7
        go_wp2_with (first | (go_at_call 26; ((with_reducible refine (C1.out _).mono ?_); rintro e w1 ⟨rfl, hb⟩; replace T := Lib.hid (T.out.step hb); clear hb; obtain ⟨⟨_, hz, x1, x2, x3⟩, x4⟩ := T.out)) | (go_at_call 26; ((with_reducible refine (C2.out _).mono ?_); rintro e w1 ⟨rfl, hb⟩; replace T := Lib.hid (T.out.step hb); clear hb; obtain ⟨⟨_, hz, x1, x2, x3⟩, x4⟩ := T.out)) | (go_at_call 27; ((with_reducible refine (C3.out _).mono ?_); rintro e w1 ⟨rfl, hb⟩; replace T := Lib.hid (T.out.step hb); clear hb; obtain ⟨⟨_, hz, x1, x2, x3⟩, x4⟩ := T.out)) | (go_at_call 27; ((with_reducible refine (C4.out _).mono ?_); rintro e w1 ⟨rfl, hb⟩; replace T := Lib.hid (T.out.step hb); clear hb; obtain ⟨⟨_, hz, x1, x2, x3⟩, x4⟩ := T.out)) | (go_at_call 28; ((with_reducible refine (C5.out _).mono ?_); rintro e w1 ⟨rfl, hb⟩; replace T := Lib.hid (T.out.step hb); clear hb; obtain ⟨⟨_, hz, x1, x2, x3⟩, x4⟩ := T.out)) | (go_at_call 10; ((with_reducible refine (C6.out _).mono ?_); rintro e w1 ⟨rfl, hb⟩; replace T := Lib.hid (T.out.step hb); clear hb; obtain ⟨⟨_, hz, x1, x2, x3⟩, x4⟩ := T.out)) | (go_at_call 20; ((with_reducible refine (Truth_any _ _).mono ?_); rintro e w1 ⟨rfl, hb⟩; replace T := Lib.hid (T.out.step hb); clear hb; obtain ⟨⟨_, hz, x1, x2, x3⟩, x4⟩ := T.out)))
        obtain ⟨s0, s1, s2, s3, s4⟩ := set5 w1 (w.heap.size + 1 + 1) (.int .i64 1) (.bool (decide (r < 0))) (.int .i64 0) (.float .f64 0) (.string ⟨#[]⟩) _ rfl x3
        refine bodyPost_ret (v := truthV (decide (r < 0))) (by simp [results, Tryz.results7, go_sem, s0, s1, s2, s3, s4]) rfl ?_
        exact ⟨rfl, set5_below _ _ _ _ _ _ (by omega) T.out.below⟩
      · rw [show (!false && !false && !true && decide (r < 0)) = false by simp]
        go_enter Tryz.func7, Tryz.ntmps7
        go_wp2_with (first | (go_at_call 26; ((with_reducible refine (C1.out _).mono ?_); rintro e w1 ⟨rfl, hb⟩; replace T := Lib.hid (T.out.step hb); clear hb; obtain ⟨⟨_, hz, x1, x2, x3⟩, x4⟩ := T.out)) | (go_at_call 26; ((with_reducible refine (C2.out _).mono ?_); rintro e w1 ⟨rfl, hb⟩; replace T := Lib.hid (T.out.step hb); clear hb; obtain ⟨⟨_, hz, x1, x2, x3⟩, x4⟩ := T.out)) | (go_at_call 27; ((with_reducible refine (C3.out _).mono ?_); rintro e w1 ⟨rfl, hb⟩; replace T := Lib.hid (T.out.step hb); clear hb; obtain ⟨⟨_, hz, x1, x2, x3⟩, x4⟩ := T.out)) | (go_at_call 27; ((with_reducible refine (C4.out _).mono ?_); rintro e w1 ⟨rfl, hb⟩; replace T := Lib.hid (T.out.step hb); clear hb; obtain ⟨⟨_, hz, x1, x2, x3⟩, x4⟩ := T.out)) | (go_at_call 28; ((with_reducible refine (C5.out _).mono ?_); rintro e w1 ⟨rfl, hb⟩; replace T := Lib.hid (T.out.step hb); clear hb; obtain ⟨⟨_, hz, x1, x2, x3⟩, x4⟩ := T.out)) | (go_at_call 10; ((with_reducible refine (C6.out _).mono ?_); rintro e w1 ⟨rfl, hb⟩; replace T := Lib.hid (T.out.step hb); clear hb; obtain ⟨⟨_, hz, x1, x2, x3⟩, x4⟩ := T.out)) | (go_at_call 20; ((with_reducible refine (Truth_any _ _).mono ?_); rintro e w1 ⟨rfl, hb⟩; replace T := Lib.hid (T.out.step hb); clear hb; obtain ⟨⟨_, hz, x1, x2, x3⟩, x4⟩ := T.out)))
        obtain ⟨s0, s1, s2, s3, s4⟩ := set5 w1 (w.heap.size + 1 + 1) (.int .i64 1) (.bool false) (.int .i64 0) (.float .f64 0) (.string ⟨#[]⟩) _ rfl x3
        refine bodyPost_ret (v := truthV false) (by simp [results, Tryz.results7, go_sem, s0, s1, s2, s3, s4]) rfl ?_
        exact ⟨rfl, set5_below _ _ _ _ _ _ (by omega) T.out.below⟩
    · rw [show (!false && !true && !q && decide (r < 0)) = false by simp]
      go_enter Tryz.func7, Tryz.ntmps7
      go_wp2_with (first | (go_at_call 26; ((with_reducible refine (C1.out _).mono ?_); rintro e w1 ⟨rfl, hb⟩; replace T := Lib.hid (T.out.step hb); clear hb; obtain ⟨⟨_, hz, x1, x2, x3⟩, x4⟩ := T.out)) | (go_at_call 26; ((with_reducible refine (C2.out _).mono ?_); rintro e w1 ⟨rfl, hb⟩; replace T := Lib.hid (T.out.step hb); clear hb; obtain ⟨⟨_, hz, x1, x2, x3⟩, x4⟩ := T.out)) | (go_at_call 27; ((with_reducible refine (C3.out _).mono ?_); rintro e w1 ⟨rfl, hb⟩; replace T := Lib.hid (T.out.step hb); clear hb; obtain ⟨⟨_, hz, x1, x2, x3⟩, x4⟩ := T.out)) | (go_at_call 27; ((with_reducible refine (C4.out _).mono ?_); rintro e w1 ⟨rfl, hb⟩; replace T := Lib.hid (T.out.step hb); clear hb; obtain ⟨⟨_, hz, x1, x2, x3⟩, x4⟩ := T.out)) | (go_at_call 28; ((with_reducible refine (C5.out _).mono ?_); rintro e w1 ⟨rfl, hb⟩; replace T := Lib.hid (T.out.step hb); clear hb; obtain ⟨⟨_, hz, x1, x2, x3⟩, x4⟩ := T.out)) | (go_at_call 10; ((with_reducible refine (C6.out _).mono ?_); rintro e w1 ⟨rfl, hb⟩; replace T := Lib.hid (T.out.step hb); clear hb; obtain ⟨⟨_, hz, x1, x2, x3⟩, x4⟩ := T.out)) | (go_at_call 20; ((with_reducible refine (Truth_any _ _).mono ?_); rintro e w1 ⟨rfl, hb⟩; replace T := Lib.hid (T.out.step hb); clear hb; obtain ⟨⟨_, hz, x1, x2, x3⟩, x4⟩ := T.out)))
      obtain ⟨s0, s1, s2, s3, s4⟩ := set5 w1 (w.heap.size + 1 + 1) (.int .i64 1) (.bool false) (.int .i64 0) (.float .f64 0) (.string ⟨#[]⟩) _ rfl x3
      refine bodyPost_ret (v := truthV false) (by simp [results, Tryz.results7, go_sem, s0, s1, s2, s3, s4]) rfl ?_
      exact ⟨rfl, set5_below _ _ _ _ _ _ (by omega) T.out.below⟩
  · rw [show (!true && !v && !q && decide (r < 0)) = false by simp]
    go_enter Tryz.func7, Tryz.ntmps7
    go_wp2_with (first | (go_at_call 26; ((with_reducible refine (C1.out _).mono ?_); rintro e w1 ⟨rfl, hb⟩; replace T := Lib.hid (T.out.step hb); clear hb; obtain ⟨⟨_, hz, x1, x2, x3⟩, x4⟩ := T.out)) | (go_at_call 26; ((with_reducible refine (C2.out _).mono ?_); rintro e w1 ⟨rfl, hb⟩; replace T := Lib.hid (T.out.step hb); clear hb; obtain ⟨⟨_, hz, x1, x2, x3⟩, x4⟩ := T.out)) | (go_at_call 27; ((with_reducible refine (C3.out _).mono ?_); rintro e w1 ⟨rfl, hb⟩; replace T := Lib.hid (T.out.step hb); clear hb; obtain ⟨⟨_, hz, x1, x2, x3⟩, x4⟩ := T.out)) | (go_at_call 27; ((with_reducible refine (C4.out _).mono ?_); rintro e w1 ⟨rfl, hb⟩; replace T := Lib.hid (T.out.step hb); clear hb; obtain ⟨⟨_, hz, x1, x2, x3⟩, x4⟩ := T.out)) | (go_at_call 28; ((with_reducible refine (C5.out _).mono ?_); rintro e w1 ⟨rfl, hb⟩; replace T := Lib.hid (T.out.step hb); clear hb; obtain ⟨⟨_, hz, x1, x2, x3⟩, x4⟩ := T.out)) | (go_at_call 10; ((with_reducible refine (C6.out _).mono ?_); rintro e w1 ⟨rfl, hb⟩; replace T := Lib.hid (T.out.step hb); clear hb; obtain ⟨⟨_, hz, x1, x2, x3⟩, x4⟩ := T.out)) | (go_at_call 20; ((with_reducible refine (Truth_any _ _).mono ?_); rintro e w1 ⟨rfl, hb⟩; replace T := Lib.hid (T.out.step hb); clear hb; obtain ⟨⟨_, hz, x1, x2, x3⟩, x4⟩ := T.out)))
    obtain ⟨s0, s1, s2, s3, s4⟩ := set5 w1 (w.heap.size + 1 + 1) (.int .i64 1) (.bool false) (.int .i64 0) (.float .f64 0) (.string ⟨#[]⟩) _ rfl x3
    refine bodyPost_ret (v := truthV false) (by simp [results, Tryz.results7, go_sem, s0, s1, s2, s3, s4]) rfl ?_
    exact ⟨rfl, set5_below _ _ _ _ _ _ (by omega) T.out.below⟩
set_option maxRecDepth 100000 in
set_option maxHeartbeats 1000000 in
theorem Less_kind (k n k' n' : Int) (b b' : Bool) (f f' : Nat) (s s' : ByteArray) (w : World) (hx : WideV k n f s) (hy : WideV k' n' f' s') (mx : MayV k b n f s) (my : MayV k' b' n' f' s') (hk : k = k') (h : k = 4 ∨ k = 1) :
    Calls Tryz.prog 7 #[vagg k b n f s, vagg k' b' n' f' s'] w fun e w' => e = .returned (truthV (decide (cmpK (keyV k b n f s) (keyV k' b' n' f' s') < 0))) ∧ Below w.heap.size w w' := by
  have hsf := store_float
  have C1 := Lib.hid (fun w => number_no k b n f s w (by omega) (by omega))
  have C6 := Lib.hid (fun w => Compare_any k n k' n' b b' f f' s s' w hx hy mx my)
  have T := Lib.hid (Res.start w #[.int .i64 k, .bool b, .int .i64 n, .float .f64 f, .string s] #[.int .i64 k', .bool b', .int .i64 n', .float .f64 f', .string s'] #[.int .i64 0, .bool false, .int .i64 0, .float .f64 0, .string ⟨#[]⟩] 24 24 24)
  generalize cmpK (keyV k b n f s) (keyV k' b' n' f' s') = r at *
  clear hx hy mx my
  subst hk
  rcases h with rfl | rfl
  all_goals
    go_enter Tryz.func7, Tryz.ntmps7
    go_wp2_with (first | (go_at_call 26; ((with_reducible refine (C1.out _).mono ?_); rintro e w1 ⟨rfl, hb⟩; replace T := Lib.hid (T.out.step hb); clear hb; obtain ⟨⟨_, hz, x1, x2, x3⟩, x4⟩ := T.out)) | (go_at_call 10; ((with_reducible refine (C6.out _).mono ?_); rintro e w1 ⟨rfl, hb⟩; replace T := Lib.hid (T.out.step hb); clear hb; obtain ⟨⟨_, hz, x1, x2, x3⟩, x4⟩ := T.out)) | (go_at_call 20; ((with_reducible refine (Truth_any _ _).mono ?_); rintro e w1 ⟨rfl, hb⟩; replace T := Lib.hid (T.out.step hb); clear hb; obtain ⟨⟨_, hz, x1, x2, x3⟩, x4⟩ := T.out)))
    obtain ⟨s0, s1, s2, s3, s4⟩ := set5 w1 (w.heap.size + 1 + 1) (.int .i64 1) (.bool (decide (r < 0))) (.int .i64 0) (.float .f64 0) (.string ⟨#[]⟩) _ rfl x3
    refine bodyPost_ret (v := truthV (decide (r < 0))) (by simp [results, Tryz.results7, go_sem, s0, s1, s2, s3, s4]) rfl ?_
    exact ⟨rfl, set5_below _ _ _ _ _ _ (by omega) T.out.below⟩
set_option maxRecDepth 100000 in
set_option maxHeartbeats 1000000 in
theorem Less_null (k n k' n' : Int) (b b' : Bool) (f f' : Nat) (s s' : ByteArray) (w : World) (hn : ¬ ((k = 2 ∨ k = 3) ∧ (k' = 2 ∨ k' = 3))) (h : ¬ (k = k' ∧ (k = 4 ∨ k = 1))) :
    Calls Tryz.prog 7 #[vagg k b n f s, vagg k' b' n' f' s'] w fun e w' => e = .returned nullV ∧ Below w.heap.size w w' := by
  have hsf := store_float
  have T := Lib.hid (Res.start w #[.int .i64 k, .bool b, .int .i64 n, .float .f64 f, .string s] #[.int .i64 k', .bool b', .int .i64 n', .float .f64 f', .string s'] #[.int .i64 0, .bool false, .int .i64 0, .float .f64 0, .string ⟨#[]⟩] 24 24 24)
  by_cases hk : k = 2 ∨ k = 3
  · have C1 := Lib.hid (fun w => number_yes k b n f s w hk)
    have C2 := Lib.hid (fun w => number_no k' b' n' f' s' w (by omega) (by omega))
    by_cases e : k = k'
    · exact absurd ⟨hk, by omega⟩ hn
    · have t1 : (k == k') = false := by simp [e]
      clear h hn hk e
      go_enter Tryz.func7, Tryz.ntmps7
      go_wp2_with (first | (go_at_call 26; ((with_reducible refine (C1.out _).mono ?_); rintro e w1 ⟨rfl, hb⟩; replace T := Lib.hid (T.out.step hb); clear hb; obtain ⟨⟨_, hz, x1, x2, x3⟩, x4⟩ := T.out)) | (go_at_call 26; ((with_reducible refine (C2.out _).mono ?_); rintro e w1 ⟨rfl, hb⟩; replace T := Lib.hid (T.out.step hb); clear hb; obtain ⟨⟨_, hz, x1, x2, x3⟩, x4⟩ := T.out)))
      obtain ⟨s0, s1, s2, s3, s4⟩ := set5 w1 (w.heap.size + 1 + 1) (.int .i64 0) (.bool false) (.int .i64 0) (.float .f64 0) (.string ⟨#[]⟩) _ rfl x3
      refine bodyPost_ret (v := nullV) (by simp [results, Tryz.results7, go_sem, s0, s1, s2, s3, s4]) rfl ?_
      exact ⟨rfl, set5_below _ _ _ _ _ _ (by omega) T.out.below⟩
  · have C1 := Lib.hid (fun w => number_no k b n f s w (by omega) (by omega))
    by_cases e : k = k'
    · have t2 : (k == 4) = false := by simp; omega
      have t3 : (k == 1) = false := by simp; omega
      subst e
      clear h hn hk
      go_enter Tryz.func7, Tryz.ntmps7
      go_wp2_with (first | (go_at_call 26; ((with_reducible refine (C1.out _).mono ?_); rintro e w1 ⟨rfl, hb⟩; replace T := Lib.hid (T.out.step hb); clear hb; obtain ⟨⟨_, hz, x1, x2, x3⟩, x4⟩ := T.out)))
      obtain ⟨s0, s1, s2, s3, s4⟩ := set5 w1 (w.heap.size + 1 + 1) (.int .i64 0) (.bool false) (.int .i64 0) (.float .f64 0) (.string ⟨#[]⟩) _ rfl x3
      refine bodyPost_ret (v := nullV) (by simp [results, Tryz.results7, go_sem, s0, s1, s2, s3, s4]) rfl ?_
      exact ⟨rfl, set5_below _ _ _ _ _ _ (by omega) T.out.below⟩
    · have t1 : (k == k') = false := by simp [e]
      clear h hn hk e
      go_enter Tryz.func7, Tryz.ntmps7
      go_wp2_with (first | (go_at_call 26; ((with_reducible refine (C1.out _).mono ?_); rintro e w1 ⟨rfl, hb⟩; replace T := Lib.hid (T.out.step hb); clear hb; obtain ⟨⟨_, hz, x1, x2, x3⟩, x4⟩ := T.out)))
      obtain ⟨s0, s1, s2, s3, s4⟩ := set5 w1 (w.heap.size + 1 + 1) (.int .i64 0) (.bool false) (.int .i64 0) (.float .f64 0) (.string ⟨#[]⟩) _ rfl x3
      refine bodyPost_ret (v := nullV) (by simp [results, Tryz.results7, go_sem, s0, s1, s2, s3, s4]) rfl ?_
      exact ⟨rfl, set5_below _ _ _ _ _ _ (by omega) T.out.below⟩
end Go.Proofs.YtbpakmiopmgmbaaGreatDoor
