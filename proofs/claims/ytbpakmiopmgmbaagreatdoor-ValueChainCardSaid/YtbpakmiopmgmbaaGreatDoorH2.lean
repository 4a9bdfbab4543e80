/- ValueChain, walked over a contract of the statements' own test of being awake: for every three values it answers true. -/
import Derived.Test.YtbpakmiopmgmbaaGreatDoorH1
import Derived.Test.YtbpakmiopmgmbaaGreatDoorV6b
import Derived.Test.YtbpakmiopmgmbaaGreatDoorK1
namespace Go.Proofs.YtbpakmiopmgmbaaGreatDoor
open Go.RowKit
theorem field_kind (k : Int) (b : Bool) (n : Int) (f : Nat) (s : ByteArray) (w : World) : (Instr.field 24 (vagg k b n f s) 0).run Tryz.prog w = .ok (.int .i64 k) w := by kernel_rfl
theorem field_bool (k : Int) (b : Bool) (n : Int) (f : Nat) (s : ByteArray) (w : World) : (Instr.field 24 (vagg k b n f s) 1).run Tryz.prog w = .ok (.bool b) w := by kernel_rfl
theorem take_out {P : Program} {md : Region.Mode} {ops : Array Oper} {Q : Exit → Act → World → Prop} {S : World → Prop} {i : Nat} {oi : Oper} {fuel : Nat} {listed : Array Bool} {a : Act} {w : World} (d : Option Nat) (hi : ops[i]? = some oi) (hd : oi.dst = d)
    (hs : Region.noSelect ops = true) (hf : Region.free md ops listed i = true) (hr : (Region.ready md ops listed).contains i = true)
    (hQ : ∀ c a w, Q (.panic c) (a.put d undef) w → Q (.panic c) a w) (hw : Region.wanted oi (yielded ops a.tmps) = false) (hS : S w)
    (h : wpAnyH P md ops Q S fuel (listed.setIfInBounds i true) (a.put d undef) w) : wpAnyH P md ops Q S (fuel + 1) listed a w := by
  subst hd
  exact wpAnyH_take hi hs hf hr hQ (.inr ⟨hw, rfl⟩) hS h
theorem Same_self (k n : Int) (b : Bool) (f : Nat) (s : ByteArray) (w : World) (hx : WideV k n f s) (mx : MayV k b n f s) :
    Calls Tryz.prog 9 #[vagg k b n f s, vagg k b n f s] w fun e w' => e = .returned (.bool true) ∧ Below w.heap.size w w' := by
  have h := Same_any k n k n b b f f s s w hx hx mx mx
  rw [good_cmpK.self] at h
  exact h
theorem less_may (k k' : Int) (b b' : Bool) (n n' : Int) (f f' : Nat) (s s' : ByteArray) : MayV (lessKd k k') (lessBl k b n f s k' b' n' f' s') 0 0 ⟨#[]⟩ ∧ WideV (lessKd k k') 0 0 ⟨#[]⟩ := by
  unfold lessKd lessBl
  by_cases h1 : numK k = true ∧ numK k' = true
  · rw [if_pos (.inl h1), if_pos h1]
    exact ⟨.inr (.inl ⟨rfl, rfl, rfl, rfl⟩), by unfold WideV fits; exact ⟨by decide, by decide, by decide, Nat.zero_le _⟩⟩
  · by_cases h2 : k = k' ∧ (k = 4 ∨ k = 1)
    · rw [if_pos (.inr h2), if_neg h1, if_pos h2]
      exact ⟨.inr (.inl ⟨rfl, rfl, rfl, rfl⟩), by unfold WideV fits; exact ⟨by decide, by decide, by decide, Nat.zero_le _⟩⟩
    · rw [if_neg (by simp only [not_or]; exact ⟨h1, h2⟩), if_neg h1, if_neg h2]
      exact ⟨.inl ⟨rfl, rfl, rfl, rfl, rfl⟩, by unfold WideV fits; exact ⟨by decide, by decide, by decide, Nat.zero_le _⟩⟩

set_option maxRecDepth 100000 in
set_option maxHeartbeats 40000000 in
theorem chain_walk (xk : Int) (xb : Bool) (xn : Int) (xf : Nat) (xs : ByteArray) (yk : Int) (yb : Bool) (yn : Int) (yf : Nat) (ys : ByteArray) (zk : Int) (zb : Bool) (zn : Int) (zf : Nat) (zs : ByteArray)
    (w : World) (ha : WideV xk xn xf xs) (hb : WideV yk yn yf ys) (hc : WideV zk zn zf zs)
    (wakes : ∀ wc, Below w.heap.size w wc → Calls Tryz.prog 6 #[] wc fun e w' => e = .returned (.bool true) ∧ Below wc.heap.size wc w') :
    Calls Tryz.prog 4 #[vagg xk xb xn xf xs, vagg yk yb yn yf ys, vagg zk zb zn zf zs] w fun e w' => e = .returned (.bool true) ∧ Below w.heap.size w w' := by
  have MA := Lib.hid (fun w => May_any xk xb xn xf xs w ha.2.2.1)
  have MB := Lib.hid (fun w => May_any yk yb yn yf ys w hb.2.2.1)
  have MC := Lib.hid (fun w => May_any zk zb zn zf zs w hc.2.2.1)
  have WK := Lib.hid wakes
  have hfk := field_kind
  have hfb := field_bool
  clear wakes
  have T := Lib.hid (Three.start w #[.int .i64 xk, .bool xb, .int .i64 xn, .float .f64 xf, .string xs] #[.int .i64 yk, .bool yb, .int .i64 yn, .float .f64 yf, .string ys] #[.int .i64 zk, .bool zb, .int .i64 zn, .float .f64 zf, .string zs] 24 24 24)
  cases m1 : mayB xk xb xn xf xs
  · rw [m1] at MA
    clear m1
    go_enter Tryz.func4, Tryz.ntmps4
    go_wp2_with (first | (go_at_call 5; ((with_reducible refine (MA.out _).mono ?_); rintro e w1 ⟨rfl, hb1⟩; replace T := Lib.hid (T.out.step hb1); clear hb1; obtain ⟨_, _, x1, x2, x3⟩ := T.out)) | (go_at_call 5; ((with_reducible refine (MB.out _).mono ?_); rintro e w1 ⟨rfl, hb1⟩; replace T := Lib.hid (T.out.step hb1); clear hb1; obtain ⟨_, _, x1, x2, x3⟩ := T.out)) | (go_at_call 5; ((with_reducible refine (MC.out _).mono ?_); rintro e w1 ⟨rfl, hb1⟩; replace T := Lib.hid (T.out.step hb1); clear hb1; obtain ⟨_, _, x1, x2, x3⟩ := T.out)) | (go_at_call 6; ((with_reducible refine (WK.out _ T.out.below).mono ?_); rintro e w2 ⟨rfl, hb2⟩)))
    go_ret
    exact ⟨rfl, T.out.below.trans (hb2.mono T.out.below.size)⟩
  cases m2 : mayB yk yb yn yf ys
  · rw [m1] at MA
    rw [m2] at MB
    clear m1 m2
    go_enter Tryz.func4, Tryz.ntmps4
    go_wp2_with (first | (go_at_call 5; ((with_reducible refine (MA.out _).mono ?_); rintro e w1 ⟨rfl, hb1⟩; replace T := Lib.hid (T.out.step hb1); clear hb1; obtain ⟨_, _, x1, x2, x3⟩ := T.out)) | (go_at_call 5; ((with_reducible refine (MB.out _).mono ?_); rintro e w1 ⟨rfl, hb1⟩; replace T := Lib.hid (T.out.step hb1); clear hb1; obtain ⟨_, _, x1, x2, x3⟩ := T.out)) | (go_at_call 5; ((with_reducible refine (MC.out _).mono ?_); rintro e w1 ⟨rfl, hb1⟩; replace T := Lib.hid (T.out.step hb1); clear hb1; obtain ⟨_, _, x1, x2, x3⟩ := T.out)) | (go_at_call 6; ((with_reducible refine (WK.out _ T.out.below).mono ?_); rintro e w2 ⟨rfl, hb2⟩)))
    go_ret
    exact ⟨rfl, T.out.below.trans (hb2.mono T.out.below.size)⟩
  cases m3 : mayB zk zb zn zf zs
  · rw [m1] at MA
    rw [m2] at MB
    rw [m3] at MC
    clear m1 m2 m3
    go_enter Tryz.func4, Tryz.ntmps4
    go_wp2_with (first | (go_at_call 5; ((with_reducible refine (MA.out _).mono ?_); rintro e w1 ⟨rfl, hb1⟩; replace T := Lib.hid (T.out.step hb1); clear hb1; obtain ⟨_, _, x1, x2, x3⟩ := T.out)) | (go_at_call 5; ((with_reducible refine (MB.out _).mono ?_); rintro e w1 ⟨rfl, hb1⟩; replace T := Lib.hid (T.out.step hb1); clear hb1; obtain ⟨_, _, x1, x2, x3⟩ := T.out)) | (go_at_call 5; ((with_reducible refine (MC.out _).mono ?_); rintro e w1 ⟨rfl, hb1⟩; replace T := Lib.hid (T.out.step hb1); clear hb1; obtain ⟨_, _, x1, x2, x3⟩ := T.out)) | (go_at_call 6; ((with_reducible refine (WK.out _ T.out.below).mono ?_); rintro e w2 ⟨rfl, hb2⟩)))
    go_ret
    exact ⟨rfl, T.out.below.trans (hb2.mono T.out.below.size)⟩
  have ma : MayV xk xb xn xf xs := of_decide_eq_true m1
  have mb : MayV yk yb yn yf ys := of_decide_eq_true m2
  have mc : MayV zk zb zn zf zs := of_decide_eq_true m3
  rw [m1] at MA
  rw [m2] at MB
  rw [m3] at MC
  clear m1 m2 m3
  have Hx := Lib.hid ha
  have Hy := Lib.hid hb
  have Hz := Lib.hid hc
  have Mx := Lib.hid ma
  have My := Lib.hid mb
  have Mz := Lib.hid mc
  clear ha hb hc ma mb mc
  go_enter Tryz.func4, Tryz.ntmps4
  go_upto_region 3 with (first | (go_at_call 5; ((with_reducible refine (MA.out _).mono ?_); rintro e w1 ⟨rfl, hb1⟩; replace T := Lib.hid (T.out.step hb1); clear hb1; obtain ⟨_, _, x1, x2, x3⟩ := T.out)) | (go_at_call 5; ((with_reducible refine (MB.out _).mono ?_); rintro e w1 ⟨rfl, hb1⟩; replace T := Lib.hid (T.out.step hb1); clear hb1; obtain ⟨_, _, x1, x2, x3⟩ := T.out)) | (go_at_call 5; ((with_reducible refine (MC.out _).mono ?_); rintro e w1 ⟨rfl, hb1⟩; replace T := Lib.hid (T.out.step hb1); clear hb1; obtain ⟨_, _, x1, x2, x3⟩ := T.out)))
  clear MA MB MC
  go_cut [74] (fun t w' => t = .bool false ∧ Three w w' #[.int .i64 xk, .bool xb, .int .i64 xn, .float .f64 xf, .string xs] #[.int .i64 yk, .bool yb, .int .i64 yn, .float .f64 yf, .string ys] #[.int .i64 zk, .bool zb, .int .i64 zn, .float .f64 zf, .string zs])
  case first => as_aux_lemma =>
    have hl := fun w => Less_any xk xn yk yn xb yb xf yf xs ys w Hx.out Hy.out Mx.out My.out
    have he := fun w => Eq_any xk xn yk yn xb yb xf yf xs ys w Hx.out Hy.out Mx.out My.out
    have l2 : xk = 2 → yk = 2 → lessBl xk xb xn xf xs yk yb yn yf ys = decide (xn < yn) := by
      rintro rfl rfl; unfold lessBl; rw [if_pos (by decide)]; exact less_ii xn yn xf yf
    have l3 : xk = 3 → yk = 3 → lessBl xk xb xn xf xs yk yb yn yf ys = (FloatKind.f64.format.order xf yf == some Ordering.lt) := by
      rintro rfl rfl; unfold lessBl; rw [if_pos (by decide)]; exact less_ff xn yn xf yf Hx.out.2.2.1 Hy.out.2.2.1
    have e3 : xk = 3 → yk = 3 → eqBl xk xb xn xf xs yk yb yn yf ys = (FloatKind.f64.format.order xf yf == some Ordering.eq) := by
      rintro rfl rfl; unfold eqBl; rw [if_neg (by decide), if_pos (by decide)]; exact same_ff xn yn xf yf Hx.out.2.2.1 Hy.out.2.2.1
    generalize lessBl xk xb xn xf xs yk yb yn yf ys = L at *
    generalize eqBl xk xb xn xf xs yk yb yn yf ys = E at *
    generalize lessKd xk yk = K at *
    generalize eqKd xk yk = Q at *
    have HL := Lib.hid hl
    have HE := Lib.hid he
    clear hl he Hx Hy Hz Mx My Mz
    have cs : (xk = 2 ∧ yk = 2) ∨ (xk = 3 ∧ yk = 3) ∨ (xk = 2 ∧ yk ≠ 2) ∨ (xk = 3 ∧ yk ≠ 3) ∨ (xk ≠ 2 ∧ xk ≠ 3) := by omega
    have nn : ∀ b : Bool, (b != b) = false := fun b => by cases b <;> rfl
    rcases cs with ⟨p, q⟩ | ⟨p, q⟩ | ⟨p, q⟩ | ⟨p, q⟩ | ⟨p, q⟩
    · obtain rfl := l2 p q
      have t1 : (xk == 2) = true := by simp [p]
      have t2 : (xk == 3) = false := by simp [p]
      have t3 : (yk == 2) = true := by simp [q]
      clear l2 l3 e3 p q
      refine wp_region_held_drew (S := (fun w' => Below w.heap.size w w' ∧ w.heap.size + 3 ≤ w'.heap.size ∧ (∀ j, w'.cell? ⟨w.heap.size, j, none⟩ = #[Value.int .i64 xk, .bool xb, .int .i64 xn, .float .f64 xf, .string xs][j]?) ∧ (∀ j, w'.cell? ⟨w.heap.size + 1, j, none⟩ = #[Value.int .i64 yk, .bool yb, .int .i64 yn, .float .f64 yf, .string ys][j]?) ∧ (∀ j, w'.cell? ⟨w.heap.size + 2, j, none⟩ = #[Value.int .i64 zk, .bool zb, .int .i64 zn, .float .f64 zf, .string zs][j]?))) (by kernel_rfl) (T.out.drew) (fun hHeld => ?_)
      refine take_in (i := 0) (v := ?_) (some 21) rfl rfl (by kernel_rfl) (by kernel_rfl) (by kernel_rfl) (fun _ _ _ h => h) (Or.inl ⟨by rfl, ?_⟩) (by assumption) ?_
      rotate_left
      · (intro w hSw; (try dsimp only at hSw); (try go_split_ands); go_simp; try with_reducible rfl)
      try simp only [Act.put, List.setIfInBounds_toArray, List.set_cons_zero, List.set_cons_succ]
      refine take_in (i := 1) (v := ?_) (some 22) rfl rfl (by kernel_rfl) (by kernel_rfl) (by kernel_rfl) (fun _ _ _ h => h) (Or.inl ⟨by rfl, ?_⟩) (by assumption) ?_
      rotate_left
      · (intro w hSw; (try dsimp only at hSw); (try go_split_ands); go_simp; try with_reducible rfl)
      try simp only [Act.put, List.setIfInBounds_toArray, List.set_cons_zero, List.set_cons_succ]
      refine take_in (i := 2) (v := ?_) (some 23) rfl rfl (by kernel_rfl) (by kernel_rfl) (by kernel_rfl) (fun _ _ _ h => h) (Or.inl ⟨by rfl, ?_⟩) (by assumption) ?_
      rotate_left
      · (intro w hSw; (try dsimp only at hSw); (try go_split_ands); go_simp; try with_reducible rfl)
      try simp only [Act.put, List.setIfInBounds_toArray, List.set_cons_zero, List.set_cons_succ]
      refine take_in (i := 3) (v := ?_) (some 24) rfl rfl (by kernel_rfl) (by kernel_rfl) (by kernel_rfl) (fun _ _ _ h => h) (Or.inl ⟨by rfl, ?_⟩) (by assumption) ?_
      rotate_left
      · (intro w hSw; (try dsimp only at hSw); (try go_split_ands); go_simp; try with_reducible rfl)
      try simp only [Act.put, List.setIfInBounds_toArray, List.set_cons_zero, List.set_cons_succ]
      refine take_in (i := 4) (v := ?_) (some 25) rfl rfl (by kernel_rfl) (by kernel_rfl) (by kernel_rfl) (fun _ _ _ h => h) (Or.inl ⟨by rfl, ?_⟩) (by assumption) ?_
      rotate_left
      · (intro w hSw; (try dsimp only at hSw); (try go_split_ands); go_simp; try with_reducible rfl)
      try simp only [Act.put, List.setIfInBounds_toArray, List.set_cons_zero, List.set_cons_succ]
      refine take_in (i := 5) (v := ?_) (some 26) rfl rfl (by kernel_rfl) (by kernel_rfl) (by kernel_rfl) (fun _ _ _ h => h) (Or.inl ⟨by rfl, ?_⟩) (by assumption) ?_
      rotate_left
      · (intro w hSw; (try dsimp only at hSw); (try go_split_ands); go_simp; try with_reducible rfl)
      try simp only [Act.put, List.setIfInBounds_toArray, List.set_cons_zero, List.set_cons_succ]
      refine take_in (i := 6) (v := ?_) (some 27) rfl rfl (by kernel_rfl) (by kernel_rfl) (by kernel_rfl) (fun _ _ _ h => h) (Or.inl ⟨by rfl, ?_⟩) (by assumption) ?_
      rotate_left
      · (intro w hSw; (try dsimp only at hSw); (try go_split_ands); go_simp; try with_reducible rfl)
      try simp only [Act.put, List.setIfInBounds_toArray, List.set_cons_zero, List.set_cons_succ]
      refine take_in (i := 7) (v := ?_) (some 28) rfl rfl (by kernel_rfl) (by kernel_rfl) (by kernel_rfl) (fun _ _ _ h => h) (Or.inl ⟨by rfl, ?_⟩) (by assumption) ?_
      rotate_left
      · (intro w hSw; (try dsimp only at hSw); (try go_split_ands); go_simp; try with_reducible rfl)
      try simp only [Act.put, List.setIfInBounds_toArray, List.set_cons_zero, List.set_cons_succ]
      refine take_in (i := 8) (v := ?_) (some 29) rfl rfl (by kernel_rfl) (by kernel_rfl) (by kernel_rfl) (fun _ _ _ h => h) (Or.inl ⟨by rfl, ?_⟩) (by assumption) ?_
      rotate_left
      · (intro w hSw; (try dsimp only at hSw); (try go_split_ands); go_simp; try with_reducible rfl)
      try simp only [Act.put, List.setIfInBounds_toArray, List.set_cons_zero, List.set_cons_succ]
      refine take_in (i := 9) (v := ?_) (some 30) rfl rfl (by kernel_rfl) (by kernel_rfl) (by kernel_rfl) (fun _ _ _ h => h) (Or.inl ⟨by rfl, ?_⟩) (by assumption) ?_
      rotate_left
      · (intro w hSw; (try dsimp only at hSw); (try go_split_ands); go_simp; try with_reducible rfl)
      try simp only [Act.put, List.setIfInBounds_toArray, List.set_cons_zero, List.set_cons_succ]
      refine take_in (i := 10) (v := ?_) (some 31) rfl rfl (by kernel_rfl) (by kernel_rfl) (by kernel_rfl) (fun _ _ _ h => h) (Or.inl ⟨by rfl, ?_⟩) (by assumption) ?_
      rotate_left
      · (intro w hSw; (try dsimp only at hSw); (try go_split_ands); go_simp; try with_reducible rfl)
      try simp only [Act.put, List.setIfInBounds_toArray, List.set_cons_zero, List.set_cons_succ]
      refine take_in (i := 13) (v := ?_) (some 34) rfl rfl (by kernel_rfl) (by kernel_rfl) (by kernel_rfl) (fun _ _ _ h => h) (Or.inl ⟨by rfl, ?_⟩) (by assumption) ?_
      rotate_left
      · (intro w hSw; (try dsimp only at hSw); (try go_split_ands); go_simp; try with_reducible rfl)
      try simp only [Act.put, List.setIfInBounds_toArray, List.set_cons_zero, List.set_cons_succ]
      refine take_in (i := 14) (v := ?_) (some 35) rfl rfl (by kernel_rfl) (by kernel_rfl) (by kernel_rfl) (fun _ _ _ h => h) (Or.inl ⟨by rfl, ?_⟩) (by assumption) ?_
      rotate_left
      · (intro w hSw; (try dsimp only at hSw); (try go_split_ands); go_simp; try with_reducible rfl)
      try simp only [Act.put, List.setIfInBounds_toArray, List.set_cons_zero, List.set_cons_succ]
      refine take_in (i := 15) (v := ?_) (some 36) rfl rfl (by kernel_rfl) (by kernel_rfl) (by kernel_rfl) (fun _ _ _ h => h) (Or.inl ⟨by rfl, ?_⟩) (by assumption) ?_
      rotate_left
      · (intro w hSw; (try dsimp only at hSw); (try go_split_ands); go_simp; try with_reducible rfl)
      try simp only [Act.put, List.setIfInBounds_toArray, List.set_cons_zero, List.set_cons_succ]
      refine take_in (i := 16) (v := ?_) (some 37) rfl rfl (by kernel_rfl) (by kernel_rfl) (by kernel_rfl) (fun _ _ _ h => h) (Or.inl ⟨by rfl, ?_⟩) (by assumption) ?_
      rotate_left
      · (intro w hSw; (try dsimp only at hSw); (try go_split_ands); go_simp; try with_reducible rfl)
      try simp only [Act.put, List.setIfInBounds_toArray, List.set_cons_zero, List.set_cons_succ]
      refine take_in (i := 17) (v := ?_) (some 38) rfl rfl (by kernel_rfl) (by kernel_rfl) (by kernel_rfl) (fun _ _ _ h => h) (Or.inl ⟨by rfl, ?_⟩) (by assumption) ?_
      rotate_left
      · (intro w hSw; (try dsimp only at hSw); (try go_split_ands); go_simp; try with_reducible rfl)
      try simp only [Act.put, List.setIfInBounds_toArray, List.set_cons_zero, List.set_cons_succ]
      refine wpAnyH_ready (rs := [11]) (by kernel_rfl) (by simp) ?_
      refine AllReadyH.cons rfl (fun K hK => ?_) AllReadyH.nil
      go_simp
      with_reducible refine (HL.out _).mono ?_
      rintro e w1 ⟨rfl, hb⟩
      go_wp2_with fail
      refine hK.out _ _ (Three.step hHeld hb) (fun hHeld => ?_)
      clear hK K
      try simp only [Act.put, List.setIfInBounds_toArray, List.set_cons_zero, List.set_cons_succ]
      refine take_in (i := 12) (v := ?_) (some 33) rfl rfl (by kernel_rfl) (by kernel_rfl) (by kernel_rfl) (fun _ _ _ h => h) (Or.inl ⟨by rfl, ?_⟩) (by assumption) ?_
      rotate_left
      · (intro w hSw; (try dsimp only at hSw); (try go_split_ands); go_simp; try with_reducible rfl)
      try simp only [Act.put, List.setIfInBounds_toArray, List.set_cons_zero, List.set_cons_succ]
      refine take_in (i := 18) (v := ?_) (some 39) rfl rfl (by kernel_rfl) (by kernel_rfl) (by kernel_rfl) (fun _ _ _ h => h) (Or.inl ⟨by rfl, ?_⟩) (by assumption) ?_
      rotate_left
      · (intro w hSw; (try dsimp only at hSw); (try go_split_ands); go_simp; try with_reducible rfl)
      try simp only [Act.put, List.setIfInBounds_toArray, List.set_cons_zero, List.set_cons_succ]
      refine take_in (i := 19) (v := ?_) (some 40) rfl rfl (by kernel_rfl) (by kernel_rfl) (by kernel_rfl) (fun _ _ _ h => h) (Or.inl ⟨by rfl, ?_⟩) (by assumption) ?_
      rotate_left
      · (intro w hSw; (try dsimp only at hSw); (try go_split_ands); go_simp; try with_reducible rfl)
      try simp only [Act.put, List.setIfInBounds_toArray, List.set_cons_zero, List.set_cons_succ]
      refine take_in (i := 20) (v := ?_) (some 41) rfl rfl (by kernel_rfl) (by kernel_rfl) (by kernel_rfl) (fun _ _ _ h => h) (Or.inl ⟨by rfl, ?_⟩) (by assumption) ?_
      rotate_left
      · (intro w hSw; (try dsimp only at hSw); (try go_split_ands); go_simp; try with_reducible rfl)
      try simp only [Act.put, List.setIfInBounds_toArray, List.set_cons_zero, List.set_cons_succ]
      refine take_in (i := 21) (v := ?_) (some 42) rfl rfl (by kernel_rfl) (by kernel_rfl) (by kernel_rfl) (fun _ _ _ h => h) (Or.inl ⟨by rfl, ?_⟩) (by assumption) ?_
      rotate_left
      · (intro w hSw; (try dsimp only at hSw); (try go_split_ands); go_simp; try with_reducible rfl)
      try simp only [Act.put, List.setIfInBounds_toArray, List.set_cons_zero, List.set_cons_succ]
      refine take_in (i := 22) (v := ?_) (some 43) rfl rfl (by kernel_rfl) (by kernel_rfl) (by kernel_rfl) (fun _ _ _ h => h) (Or.inl ⟨by rfl, ?_⟩) (by assumption) ?_
      rotate_left
      · (intro w hSw; (try dsimp only at hSw); (try go_split_ands); go_simp; try with_reducible rfl)
      try simp only [Act.put, List.setIfInBounds_toArray, List.set_cons_zero, List.set_cons_succ]
      refine take_in (i := 23) (v := ?_) (some 44) rfl rfl (by kernel_rfl) (by kernel_rfl) (by kernel_rfl) (fun _ _ _ h => h) (Or.inl ⟨by rfl, ?_⟩) (by assumption) ?_
      rotate_left
      · (intro w hSw; (try dsimp only at hSw); (try go_split_ands); go_simp; try with_reducible rfl)
      try simp only [Act.put, List.setIfInBounds_toArray, List.set_cons_zero, List.set_cons_succ]
      refine take_in (i := 24) (v := ?_) (some 45) rfl rfl (by kernel_rfl) (by kernel_rfl) (by kernel_rfl) (fun _ _ _ h => h) (Or.inl ⟨by rfl, ?_⟩) (by assumption) ?_
      rotate_left
      · (intro w hSw; (try dsimp only at hSw); (try go_split_ands); go_simp; try with_reducible rfl)
      try simp only [Act.put, List.setIfInBounds_toArray, List.set_cons_zero, List.set_cons_succ]
      refine wpAnyH_skip' (by kernel_rfl) (fun _ _ d _ h => by cases d <;> exact h) [25, 26, 27] 26 3 rfl _ _ _ _ (by kernel_rfl) (by kernel_rfl) rfl (by assumption) ?_
      refine take_in (i := 28) (v := ?_) (some 49) rfl rfl (by kernel_rfl) (by kernel_rfl) (by kernel_rfl) (fun _ _ _ h => h) (Or.inl ⟨by rfl, ?_⟩) (by assumption) ?_
      rotate_left
      · (intro w hSw; (try dsimp only at hSw); (try go_split_ands); go_simp; try with_reducible rfl)
      try simp only [Act.put, List.setIfInBounds_toArray, List.set_cons_zero, List.set_cons_succ]
      refine take_in (i := 29) (v := ?_) (some 50) rfl rfl (by kernel_rfl) (by kernel_rfl) (by kernel_rfl) (fun _ _ _ h => h) (Or.inl ⟨by rfl, ?_⟩) (by assumption) ?_
      rotate_left
      · (intro w hSw; (try dsimp only at hSw); (try go_split_ands); go_simp; try with_reducible rfl)
      try simp only [Act.put, List.setIfInBounds_toArray, List.set_cons_zero, List.set_cons_succ]
      refine wpAnyH_skip' (by kernel_rfl) (fun _ _ d _ h => by cases d <;> exact h) [30, 31, 32] 21 3 rfl _ _ _ _ (by kernel_rfl) (by kernel_rfl) rfl (by assumption) ?_
      refine wpAnyH_skip' (by kernel_rfl) (fun _ _ d _ h => by cases d <;> exact h) [33, 34, 35] 18 3 rfl _ _ _ _ (by kernel_rfl) (by kernel_rfl) rfl (by assumption) ?_
      refine wpAnyH_skip' (by kernel_rfl) (fun _ _ d _ h => by cases d <;> exact h) [36, 37, 38] 15 3 rfl _ _ _ _ (by kernel_rfl) (by kernel_rfl) rfl (by assumption) ?_
      refine wpAnyH_skip' (by kernel_rfl) (fun _ _ d _ h => by cases d <;> exact h) [39, 40, 41] 12 3 rfl _ _ _ _ (by kernel_rfl) (by kernel_rfl) rfl (by assumption) ?_
      refine wpAnyH_skip' (by kernel_rfl) (fun _ _ d _ h => by cases d <;> exact h) [42, 43, 44] 9 3 rfl _ _ _ _ (by kernel_rfl) (by kernel_rfl) rfl (by assumption) ?_
      refine wpAnyH_skip' (by kernel_rfl) (fun _ _ d _ h => by cases d <;> exact h) [45, 46, 47] 6 3 rfl _ _ _ _ (by kernel_rfl) (by kernel_rfl) rfl (by assumption) ?_
      refine wpAnyH_skip' (by kernel_rfl) (fun _ _ d _ h => by cases d <;> exact h) [48, 49, 50] 3 3 rfl _ _ _ _ (by kernel_rfl) (by kernel_rfl) rfl (by assumption) ?_
      refine wpAnyH_skip' (by kernel_rfl) (fun _ _ d _ h => by cases d <;> exact h) [51] 2 1 rfl _ _ _ _ (by kernel_rfl) (by kernel_rfl) rfl (by assumption) ?_
      refine take_in (i := 52) (v := ?_) (some 73) rfl rfl (by kernel_rfl) (by kernel_rfl) (by kernel_rfl) (fun _ _ _ h => h) (Or.inl ⟨by rfl, ?_⟩) (by assumption) ?_
      rotate_left
      · (intro w hSw; (try dsimp only at hSw); (try go_split_ands); go_simp; try with_reducible rfl)
      try simp only [Act.put, List.setIfInBounds_toArray, List.set_cons_zero, List.set_cons_succ]
      refine take_in (i := 53) (v := ?_) (some 74) rfl rfl (by kernel_rfl) (by kernel_rfl) (by kernel_rfl) (fun _ _ _ h => h) (Or.inl ⟨by rfl, ?_⟩) (by assumption) ?_
      rotate_left
      · (intro w hSw; (try dsimp only at hSw); (try go_split_ands); go_simp; try with_reducible rfl)
      try simp only [Act.put, List.setIfInBounds_toArray, List.set_cons_zero, List.set_cons_succ]
      refine wpAnyH_done (by kernel_rfl) ?_ _
      go_wp2
      go_meet
      exact ⟨rfl, hHeld⟩
    · obtain rfl := l3 p q
      obtain rfl := e3 p q
      have t1 : (xk == 2) = false := by simp [p]
      have t2 : (xk == 3) = true := by simp [p]
      have t3 : (yk == 3) = true := by simp [q]
      clear l2 l3 e3 p q
      refine wp_region_held_drew (S := (fun w' => Below w.heap.size w w' ∧ w.heap.size + 3 ≤ w'.heap.size ∧ (∀ j, w'.cell? ⟨w.heap.size, j, none⟩ = #[Value.int .i64 xk, .bool xb, .int .i64 xn, .float .f64 xf, .string xs][j]?) ∧ (∀ j, w'.cell? ⟨w.heap.size + 1, j, none⟩ = #[Value.int .i64 yk, .bool yb, .int .i64 yn, .float .f64 yf, .string ys][j]?) ∧ (∀ j, w'.cell? ⟨w.heap.size + 2, j, none⟩ = #[Value.int .i64 zk, .bool zb, .int .i64 zn, .float .f64 zf, .string zs][j]?))) (by kernel_rfl) (T.out.drew) (fun hHeld => ?_)
      refine take_in (i := 0) (v := ?_) (some 21) rfl rfl (by kernel_rfl) (by kernel_rfl) (by kernel_rfl) (fun _ _ _ h => h) (Or.inl ⟨by rfl, ?_⟩) (by assumption) ?_
      rotate_left
      · (intro w hSw; (try dsimp only at hSw); (try go_split_ands); go_simp; try with_reducible rfl)
      try simp only [Act.put, List.setIfInBounds_toArray, List.set_cons_zero, List.set_cons_succ]
      refine take_in (i := 1) (v := ?_) (some 22) rfl rfl (by kernel_rfl) (by kernel_rfl) (by kernel_rfl) (fun _ _ _ h => h) (Or.inl ⟨by rfl, ?_⟩) (by assumption) ?_
      rotate_left
      · (intro w hSw; (try dsimp only at hSw); (try go_split_ands); go_simp; try with_reducible rfl)
      try simp only [Act.put, List.setIfInBounds_toArray, List.set_cons_zero, List.set_cons_succ]
      refine take_in (i := 2) (v := ?_) (some 23) rfl rfl (by kernel_rfl) (by kernel_rfl) (by kernel_rfl) (fun _ _ _ h => h) (Or.inl ⟨by rfl, ?_⟩) (by assumption) ?_
      rotate_left
      · (intro w hSw; (try dsimp only at hSw); (try go_split_ands); go_simp; try with_reducible rfl)
      try simp only [Act.put, List.setIfInBounds_toArray, List.set_cons_zero, List.set_cons_succ]
      refine take_in (i := 3) (v := ?_) (some 24) rfl rfl (by kernel_rfl) (by kernel_rfl) (by kernel_rfl) (fun _ _ _ h => h) (Or.inl ⟨by rfl, ?_⟩) (by assumption) ?_
      rotate_left
      · (intro w hSw; (try dsimp only at hSw); (try go_split_ands); go_simp; try with_reducible rfl)
      try simp only [Act.put, List.setIfInBounds_toArray, List.set_cons_zero, List.set_cons_succ]
      refine wpAnyH_skip' (by kernel_rfl) (fun _ _ d _ h => by cases d <;> exact h) [4, 5, 6] 47 3 rfl _ _ _ _ (by kernel_rfl) (by kernel_rfl) rfl (by assumption) ?_
      refine take_in (i := 7) (v := ?_) (some 28) rfl rfl (by kernel_rfl) (by kernel_rfl) (by kernel_rfl) (fun _ _ _ h => h) (Or.inl ⟨by rfl, ?_⟩) (by assumption) ?_
      rotate_left
      · (intro w hSw; (try dsimp only at hSw); (try go_split_ands); go_simp; try with_reducible rfl)
      try simp only [Act.put, List.setIfInBounds_toArray, List.set_cons_zero, List.set_cons_succ]
      refine take_in (i := 8) (v := ?_) (some 29) rfl rfl (by kernel_rfl) (by kernel_rfl) (by kernel_rfl) (fun _ _ _ h => h) (Or.inl ⟨by rfl, ?_⟩) (by assumption) ?_
      rotate_left
      · (intro w hSw; (try dsimp only at hSw); (try go_split_ands); go_simp; try with_reducible rfl)
      try simp only [Act.put, List.setIfInBounds_toArray, List.set_cons_zero, List.set_cons_succ]
      refine wpAnyH_skip' (by kernel_rfl) (fun _ _ d _ h => by cases d <;> exact h) [9, 10, 11] 42 3 rfl _ _ _ _ (by kernel_rfl) (by kernel_rfl) rfl (by assumption) ?_
      refine wpAnyH_skip' (by kernel_rfl) (fun _ _ d _ h => by cases d <;> exact h) [12, 13, 14] 39 3 rfl _ _ _ _ (by kernel_rfl) (by kernel_rfl) rfl (by assumption) ?_
      refine wpAnyH_skip' (by kernel_rfl) (fun _ _ d _ h => by cases d <;> exact h) [15, 16, 17] 36 3 rfl _ _ _ _ (by kernel_rfl) (by kernel_rfl) rfl (by assumption) ?_
      refine wpAnyH_skip' (by kernel_rfl) (fun _ _ d _ h => by cases d <;> exact h) [18] 35 1 rfl _ _ _ _ (by kernel_rfl) (by kernel_rfl) rfl (by assumption) ?_
      refine take_in (i := 19) (v := ?_) (some 40) rfl rfl (by kernel_rfl) (by kernel_rfl) (by kernel_rfl) (fun _ _ _ h => h) (Or.inl ⟨by rfl, ?_⟩) (by assumption) ?_
      rotate_left
      · (intro w hSw; (try dsimp only at hSw); (try go_split_ands); go_simp; try with_reducible rfl)
      try simp only [Act.put, List.setIfInBounds_toArray, List.set_cons_zero, List.set_cons_succ]
      refine take_in (i := 20) (v := ?_) (some 41) rfl rfl (by kernel_rfl) (by kernel_rfl) (by kernel_rfl) (fun _ _ _ h => h) (Or.inl ⟨by rfl, ?_⟩) (by assumption) ?_
      rotate_left
      · (intro w hSw; (try dsimp only at hSw); (try go_split_ands); go_simp; try with_reducible rfl)
      try simp only [Act.put, List.setIfInBounds_toArray, List.set_cons_zero, List.set_cons_succ]
      refine take_in (i := 21) (v := ?_) (some 42) rfl rfl (by kernel_rfl) (by kernel_rfl) (by kernel_rfl) (fun _ _ _ h => h) (Or.inl ⟨by rfl, ?_⟩) (by assumption) ?_
      rotate_left
      · (intro w hSw; (try dsimp only at hSw); (try go_split_ands); go_simp; try with_reducible rfl)
      try simp only [Act.put, List.setIfInBounds_toArray, List.set_cons_zero, List.set_cons_succ]
      refine take_in (i := 22) (v := ?_) (some 43) rfl rfl (by kernel_rfl) (by kernel_rfl) (by kernel_rfl) (fun _ _ _ h => h) (Or.inl ⟨by rfl, ?_⟩) (by assumption) ?_
      rotate_left
      · (intro w hSw; (try dsimp only at hSw); (try go_split_ands); go_simp; try with_reducible rfl)
      try simp only [Act.put, List.setIfInBounds_toArray, List.set_cons_zero, List.set_cons_succ]
      refine take_in (i := 23) (v := ?_) (some 44) rfl rfl (by kernel_rfl) (by kernel_rfl) (by kernel_rfl) (fun _ _ _ h => h) (Or.inl ⟨by rfl, ?_⟩) (by assumption) ?_
      rotate_left
      · (intro w hSw; (try dsimp only at hSw); (try go_split_ands); go_simp; try with_reducible rfl)
      try simp only [Act.put, List.setIfInBounds_toArray, List.set_cons_zero, List.set_cons_succ]
      refine take_in (i := 24) (v := ?_) (some 45) rfl rfl (by kernel_rfl) (by kernel_rfl) (by kernel_rfl) (fun _ _ _ h => h) (Or.inl ⟨by rfl, ?_⟩) (by assumption) ?_
      rotate_left
      · (intro w hSw; (try dsimp only at hSw); (try go_split_ands); go_simp; try with_reducible rfl)
      try simp only [Act.put, List.setIfInBounds_toArray, List.set_cons_zero, List.set_cons_succ]
      refine take_in (i := 25) (v := ?_) (some 46) rfl rfl (by kernel_rfl) (by kernel_rfl) (by kernel_rfl) (fun _ _ _ h => h) (Or.inl ⟨by rfl, ?_⟩) (by assumption) ?_
      rotate_left
      · (intro w hSw; (try dsimp only at hSw); (try go_split_ands); go_simp; try with_reducible rfl)
      try simp only [Act.put, List.setIfInBounds_toArray, List.set_cons_zero, List.set_cons_succ]
      refine take_in (i := 26) (v := ?_) (some 47) rfl rfl (by kernel_rfl) (by kernel_rfl) (by kernel_rfl) (fun _ _ _ h => h) (Or.inl ⟨by rfl, ?_⟩) (by assumption) ?_
      rotate_left
      · (intro w hSw; (try dsimp only at hSw); (try go_split_ands); go_simp; try with_reducible rfl)
      try simp only [Act.put, List.setIfInBounds_toArray, List.set_cons_zero, List.set_cons_succ]
      refine take_in (i := 27) (v := ?_) (some 48) rfl rfl (by kernel_rfl) (by kernel_rfl) (by kernel_rfl) (fun _ _ _ h => h) (Or.inl ⟨by rfl, ?_⟩) (by assumption) ?_
      rotate_left
      · (intro w hSw; (try dsimp only at hSw); (try go_split_ands); go_simp; try with_reducible rfl)
      try simp only [Act.put, List.setIfInBounds_toArray, List.set_cons_zero, List.set_cons_succ]
      refine take_in (i := 28) (v := ?_) (some 49) rfl rfl (by kernel_rfl) (by kernel_rfl) (by kernel_rfl) (fun _ _ _ h => h) (Or.inl ⟨by rfl, ?_⟩) (by assumption) ?_
      rotate_left
      · (intro w hSw; (try dsimp only at hSw); (try go_split_ands); go_simp; try with_reducible rfl)
      try simp only [Act.put, List.setIfInBounds_toArray, List.set_cons_zero, List.set_cons_succ]
      refine take_in (i := 29) (v := ?_) (some 50) rfl rfl (by kernel_rfl) (by kernel_rfl) (by kernel_rfl) (fun _ _ _ h => h) (Or.inl ⟨by rfl, ?_⟩) (by assumption) ?_
      rotate_left
      · (intro w hSw; (try dsimp only at hSw); (try go_split_ands); go_simp; try with_reducible rfl)
      try simp only [Act.put, List.setIfInBounds_toArray, List.set_cons_zero, List.set_cons_succ]
      refine take_in (i := 30) (v := ?_) (some 51) rfl rfl (by kernel_rfl) (by kernel_rfl) (by kernel_rfl) (fun _ _ _ h => h) (Or.inl ⟨by rfl, ?_⟩) (by assumption) ?_
      rotate_left
      · (intro w hSw; (try dsimp only at hSw); (try go_split_ands); go_simp; try with_reducible rfl)
      try simp only [Act.put, List.setIfInBounds_toArray, List.set_cons_zero, List.set_cons_succ]
      refine take_in (i := 31) (v := ?_) (some 52) rfl rfl (by kernel_rfl) (by kernel_rfl) (by kernel_rfl) (fun _ _ _ h => h) (Or.inl ⟨by rfl, ?_⟩) (by assumption) ?_
      rotate_left
      · (intro w hSw; (try dsimp only at hSw); (try go_split_ands); go_simp; try with_reducible rfl)
      try simp only [Act.put, List.setIfInBounds_toArray, List.set_cons_zero, List.set_cons_succ]
      refine take_in (i := 34) (v := ?_) (some 55) rfl rfl (by kernel_rfl) (by kernel_rfl) (by kernel_rfl) (fun _ _ _ h => h) (Or.inl ⟨by rfl, ?_⟩) (by assumption) ?_
      rotate_left
      · (intro w hSw; (try dsimp only at hSw); (try go_split_ands); go_simp; try with_reducible rfl)
      try simp only [Act.put, List.setIfInBounds_toArray, List.set_cons_zero, List.set_cons_succ]
      refine take_in (i := 35) (v := ?_) (some 56) rfl rfl (by kernel_rfl) (by kernel_rfl) (by kernel_rfl) (fun _ _ _ h => h) (Or.inl ⟨by rfl, ?_⟩) (by assumption) ?_
      rotate_left
      · (intro w hSw; (try dsimp only at hSw); (try go_split_ands); go_simp; try with_reducible rfl)
      try simp only [Act.put, List.setIfInBounds_toArray, List.set_cons_zero, List.set_cons_succ]
      refine take_in (i := 36) (v := ?_) (some 57) rfl rfl (by kernel_rfl) (by kernel_rfl) (by kernel_rfl) (fun _ _ _ h => h) (Or.inl ⟨by rfl, ?_⟩) (by assumption) ?_
      rotate_left
      · (intro w hSw; (try dsimp only at hSw); (try go_split_ands); go_simp; try with_reducible rfl)
      try simp only [Act.put, List.setIfInBounds_toArray, List.set_cons_zero, List.set_cons_succ]
      refine take_in (i := 37) (v := ?_) (some 58) rfl rfl (by kernel_rfl) (by kernel_rfl) (by kernel_rfl) (fun _ _ _ h => h) (Or.inl ⟨by rfl, ?_⟩) (by assumption) ?_
      rotate_left
      · (intro w hSw; (try dsimp only at hSw); (try go_split_ands); go_simp; try with_reducible rfl)
      try simp only [Act.put, List.setIfInBounds_toArray, List.set_cons_zero, List.set_cons_succ]
      refine take_in (i := 38) (v := ?_) (some 59) rfl rfl (by kernel_rfl) (by kernel_rfl) (by kernel_rfl) (fun _ _ _ h => h) (Or.inl ⟨by rfl, ?_⟩) (by assumption) ?_
      rotate_left
      · (intro w hSw; (try dsimp only at hSw); (try go_split_ands); go_simp; try with_reducible rfl)
      try simp only [Act.put, List.setIfInBounds_toArray, List.set_cons_zero, List.set_cons_succ]
      refine wpAnyH_ready (rs := [32]) (by kernel_rfl) (by simp) ?_
      refine AllReadyH.cons rfl (fun K hK => ?_) AllReadyH.nil
      go_simp
      with_reducible refine (HL.out _).mono ?_
      rintro e w1 ⟨rfl, hb⟩
      go_wp2_with fail
      refine hK.out _ _ (Three.step hHeld hb) (fun hHeld => ?_)
      clear hK K
      try simp only [Act.put, List.setIfInBounds_toArray, List.set_cons_zero, List.set_cons_succ]
      refine take_in (i := 33) (v := ?_) (some 54) rfl rfl (by kernel_rfl) (by kernel_rfl) (by kernel_rfl) (fun _ _ _ h => h) (Or.inl ⟨by rfl, ?_⟩) (by assumption) ?_
      rotate_left
      · (intro w hSw; (try dsimp only at hSw); (try go_split_ands); go_simp; try with_reducible rfl)
      try simp only [Act.put, List.setIfInBounds_toArray, List.set_cons_zero, List.set_cons_succ]
      refine take_in (i := 39) (v := ?_) (some 60) rfl rfl (by kernel_rfl) (by kernel_rfl) (by kernel_rfl) (fun _ _ _ h => h) (Or.inl ⟨by rfl, ?_⟩) (by assumption) ?_
      rotate_left
      · (intro w hSw; (try dsimp only at hSw); (try go_split_ands); go_simp; try with_reducible rfl)
      try simp only [Act.put, List.setIfInBounds_toArray, List.set_cons_zero, List.set_cons_succ]
      refine take_in (i := 40) (v := ?_) (some 61) rfl rfl (by kernel_rfl) (by kernel_rfl) (by kernel_rfl) (fun _ _ _ h => h) (Or.inl ⟨by rfl, ?_⟩) (by assumption) ?_
      rotate_left
      · (intro w hSw; (try dsimp only at hSw); (try go_split_ands); go_simp; try with_reducible rfl)
      try simp only [Act.put, List.setIfInBounds_toArray, List.set_cons_zero, List.set_cons_succ]
      refine take_in (i := 41) (v := ?_) (some 62) rfl rfl (by kernel_rfl) (by kernel_rfl) (by kernel_rfl) (fun _ _ _ h => h) (Or.inl ⟨by rfl, ?_⟩) (by assumption) ?_
      rotate_left
      · (intro w hSw; (try dsimp only at hSw); (try go_split_ands); go_simp; try with_reducible rfl)
      try simp only [Act.put, List.setIfInBounds_toArray, List.set_cons_zero, List.set_cons_succ]
      refine take_in (i := 42) (v := ?_) (some 63) rfl rfl (by kernel_rfl) (by kernel_rfl) (by kernel_rfl) (fun _ _ _ h => h) (Or.inl ⟨by rfl, ?_⟩) (by assumption) ?_
      rotate_left
      · (intro w hSw; (try dsimp only at hSw); (try go_split_ands); go_simp; try with_reducible rfl)
      try simp only [Act.put, List.setIfInBounds_toArray, List.set_cons_zero, List.set_cons_succ]
      refine take_in (i := 45) (v := ?_) (some 66) rfl rfl (by kernel_rfl) (by kernel_rfl) (by kernel_rfl) (fun _ _ _ h => h) (Or.inl ⟨by rfl, ?_⟩) (by assumption) ?_
      rotate_left
      · (intro w hSw; (try dsimp only at hSw); (try go_split_ands); go_simp; try with_reducible rfl)
      try simp only [Act.put, List.setIfInBounds_toArray, List.set_cons_zero, List.set_cons_succ]
      refine take_in (i := 46) (v := ?_) (some 67) rfl rfl (by kernel_rfl) (by kernel_rfl) (by kernel_rfl) (fun _ _ _ h => h) (Or.inl ⟨by rfl, ?_⟩) (by assumption) ?_
      rotate_left
      · (intro w hSw; (try dsimp only at hSw); (try go_split_ands); go_simp; try with_reducible rfl)
      try simp only [Act.put, List.setIfInBounds_toArray, List.set_cons_zero, List.set_cons_succ]
      refine take_in (i := 47) (v := ?_) (some 68) rfl rfl (by kernel_rfl) (by kernel_rfl) (by kernel_rfl) (fun _ _ _ h => h) (Or.inl ⟨by rfl, ?_⟩) (by assumption) ?_
      rotate_left
      · (intro w hSw; (try dsimp only at hSw); (try go_split_ands); go_simp; try with_reducible rfl)
      try simp only [Act.put, List.setIfInBounds_toArray, List.set_cons_zero, List.set_cons_succ]
      refine take_in (i := 48) (v := ?_) (some 69) rfl rfl (by kernel_rfl) (by kernel_rfl) (by kernel_rfl) (fun _ _ _ h => h) (Or.inl ⟨by rfl, ?_⟩) (by assumption) ?_
      rotate_left
      · (intro w hSw; (try dsimp only at hSw); (try go_split_ands); go_simp; try with_reducible rfl)
      try simp only [Act.put, List.setIfInBounds_toArray, List.set_cons_zero, List.set_cons_succ]
      refine take_in (i := 49) (v := ?_) (some 70) rfl rfl (by kernel_rfl) (by kernel_rfl) (by kernel_rfl) (fun _ _ _ h => h) (Or.inl ⟨by rfl, ?_⟩) (by assumption) ?_
      rotate_left
      · (intro w hSw; (try dsimp only at hSw); (try go_split_ands); go_simp; try with_reducible rfl)
      try simp only [Act.put, List.setIfInBounds_toArray, List.set_cons_zero, List.set_cons_succ]
      refine wpAnyH_ready (rs := [43]) (by kernel_rfl) (by simp) ?_
      refine AllReadyH.cons rfl (fun K hK => ?_) AllReadyH.nil
      go_simp
      with_reducible refine (HE.out _).mono ?_
      rintro e w1 ⟨rfl, hb⟩
      go_wp2_with fail
      refine hK.out _ _ (Three.step hHeld hb) (fun hHeld => ?_)
      clear hK K
      try simp only [Act.put, List.setIfInBounds_toArray, List.set_cons_zero, List.set_cons_succ]
      refine take_in (i := 44) (v := ?_) (some 65) rfl rfl (by kernel_rfl) (by kernel_rfl) (by kernel_rfl) (fun _ _ _ h => h) (Or.inl ⟨by rfl, ?_⟩) (by assumption) ?_
      rotate_left
      · (intro w hSw; (try dsimp only at hSw); (try go_split_ands); go_simp; try with_reducible rfl)
      try simp only [Act.put, List.setIfInBounds_toArray, List.set_cons_zero, List.set_cons_succ]
      refine take_in (i := 50) (v := ?_) (some 71) rfl rfl (by kernel_rfl) (by kernel_rfl) (by kernel_rfl) (fun _ _ _ h => h) (Or.inl ⟨by rfl, ?_⟩) (by assumption) ?_
      rotate_left
      · (intro w hSw; (try dsimp only at hSw); (try go_split_ands); go_simp; try with_reducible rfl)
      try simp only [Act.put, List.setIfInBounds_toArray, List.set_cons_zero, List.set_cons_succ]
      refine take_in (i := 51) (v := ?_) (some 72) rfl rfl (by kernel_rfl) (by kernel_rfl) (by kernel_rfl) (fun _ _ _ h => h) (Or.inl ⟨by rfl, ?_⟩) (by assumption) ?_
      rotate_left
      · (intro w hSw; (try dsimp only at hSw); (try go_split_ands); go_simp; try with_reducible rfl)
      try simp only [Act.put, List.setIfInBounds_toArray, List.set_cons_zero, List.set_cons_succ]
      refine take_in (i := 52) (v := ?_) (some 73) rfl rfl (by kernel_rfl) (by kernel_rfl) (by kernel_rfl) (fun _ _ _ h => h) (Or.inl ⟨by rfl, ?_⟩) (by assumption) ?_
      rotate_left
      · (intro w hSw; (try dsimp only at hSw); (try go_split_ands); go_simp; try with_reducible rfl)
      try simp only [Act.put, List.setIfInBounds_toArray, List.set_cons_zero, List.set_cons_succ]
      refine take_in (i := 53) (v := ?_) (some 74) rfl rfl (by kernel_rfl) (by kernel_rfl) (by kernel_rfl) (fun _ _ _ h => h) (Or.inl ⟨by rfl, ?_⟩) (by assumption) ?_
      rotate_left
      · (intro w hSw; (try dsimp only at hSw); (try go_split_ands); go_simp; try with_reducible rfl)
      try simp only [Act.put, List.setIfInBounds_toArray, List.set_cons_zero, List.set_cons_succ]
      refine wpAnyH_done (by kernel_rfl) ?_ _
      go_wp2
      go_meet
      exact ⟨rfl, hHeld⟩
    · have t1 : (xk == 2) = true := by simp [p]
      have t2 : (xk == 3) = false := by simp [p]
      have t3 : (yk == 2) = false := by simp [q]
      clear l2 l3 e3 p q
      refine wp_region_held_drew (S := (fun w' => Below w.heap.size w w' ∧ w.heap.size + 3 ≤ w'.heap.size ∧ (∀ j, w'.cell? ⟨w.heap.size, j, none⟩ = #[Value.int .i64 xk, .bool xb, .int .i64 xn, .float .f64 xf, .string xs][j]?) ∧ (∀ j, w'.cell? ⟨w.heap.size + 1, j, none⟩ = #[Value.int .i64 yk, .bool yb, .int .i64 yn, .float .f64 yf, .string ys][j]?) ∧ (∀ j, w'.cell? ⟨w.heap.size + 2, j, none⟩ = #[Value.int .i64 zk, .bool zb, .int .i64 zn, .float .f64 zf, .string zs][j]?))) (by kernel_rfl) (T.out.drew) (fun hHeld => ?_)
      refine take_in (i := 0) (v := ?_) (some 21) rfl rfl (by kernel_rfl) (by kernel_rfl) (by kernel_rfl) (fun _ _ _ h => h) (Or.inl ⟨by rfl, ?_⟩) (by assumption) ?_
      rotate_left
      · (intro w hSw; (try dsimp only at hSw); (try go_split_ands); go_simp; try with_reducible rfl)
      try simp only [Act.put, List.setIfInBounds_toArray, List.set_cons_zero, List.set_cons_succ]
      refine take_in (i := 1) (v := ?_) (some 22) rfl rfl (by kernel_rfl) (by kernel_rfl) (by kernel_rfl) (fun _ _ _ h => h) (Or.inl ⟨by rfl, ?_⟩) (by assumption) ?_
      rotate_left
      · (intro w hSw; (try dsimp only at hSw); (try go_split_ands); go_simp; try with_reducible rfl)
      try simp only [Act.put, List.setIfInBounds_toArray, List.set_cons_zero, List.set_cons_succ]
      refine take_in (i := 2) (v := ?_) (some 23) rfl rfl (by kernel_rfl) (by kernel_rfl) (by kernel_rfl) (fun _ _ _ h => h) (Or.inl ⟨by rfl, ?_⟩) (by assumption) ?_
      rotate_left
      · (intro w hSw; (try dsimp only at hSw); (try go_split_ands); go_simp; try with_reducible rfl)
      try simp only [Act.put, List.setIfInBounds_toArray, List.set_cons_zero, List.set_cons_succ]
      refine take_in (i := 3) (v := ?_) (some 24) rfl rfl (by kernel_rfl) (by kernel_rfl) (by kernel_rfl) (fun _ _ _ h => h) (Or.inl ⟨by rfl, ?_⟩) (by assumption) ?_
      rotate_left
      · (intro w hSw; (try dsimp only at hSw); (try go_split_ands); go_simp; try with_reducible rfl)
      try simp only [Act.put, List.setIfInBounds_toArray, List.set_cons_zero, List.set_cons_succ]
      refine take_in (i := 4) (v := ?_) (some 25) rfl rfl (by kernel_rfl) (by kernel_rfl) (by kernel_rfl) (fun _ _ _ h => h) (Or.inl ⟨by rfl, ?_⟩) (by assumption) ?_
      rotate_left
      · (intro w hSw; (try dsimp only at hSw); (try go_split_ands); go_simp; try with_reducible rfl)
      try simp only [Act.put, List.setIfInBounds_toArray, List.set_cons_zero, List.set_cons_succ]
      refine take_in (i := 5) (v := ?_) (some 26) rfl rfl (by kernel_rfl) (by kernel_rfl) (by kernel_rfl) (fun _ _ _ h => h) (Or.inl ⟨by rfl, ?_⟩) (by assumption) ?_
      rotate_left
      · (intro w hSw; (try dsimp only at hSw); (try go_split_ands); go_simp; try with_reducible rfl)
      try simp only [Act.put, List.setIfInBounds_toArray, List.set_cons_zero, List.set_cons_succ]
      refine take_in (i := 6) (v := ?_) (some 27) rfl rfl (by kernel_rfl) (by kernel_rfl) (by kernel_rfl) (fun _ _ _ h => h) (Or.inl ⟨by rfl, ?_⟩) (by assumption) ?_
      rotate_left
      · (intro w hSw; (try dsimp only at hSw); (try go_split_ands); go_simp; try with_reducible rfl)
      try simp only [Act.put, List.setIfInBounds_toArray, List.set_cons_zero, List.set_cons_succ]
      refine take_in (i := 7) (v := ?_) (some 28) rfl rfl (by kernel_rfl) (by kernel_rfl) (by kernel_rfl) (fun _ _ _ h => h) (Or.inl ⟨by rfl, ?_⟩) (by assumption) ?_
      rotate_left
      · (intro w hSw; (try dsimp only at hSw); (try go_split_ands); go_simp; try with_reducible rfl)
      try simp only [Act.put, List.setIfInBounds_toArray, List.set_cons_zero, List.set_cons_succ]
      refine take_in (i := 8) (v := ?_) (some 29) rfl rfl (by kernel_rfl) (by kernel_rfl) (by kernel_rfl) (fun _ _ _ h => h) (Or.inl ⟨by rfl, ?_⟩) (by assumption) ?_
      rotate_left
      · (intro w hSw; (try dsimp only at hSw); (try go_split_ands); go_simp; try with_reducible rfl)
      try simp only [Act.put, List.setIfInBounds_toArray, List.set_cons_zero, List.set_cons_succ]
      refine wpAnyH_skip' (by kernel_rfl) (fun _ _ d _ h => by cases d <;> exact h) [9, 10, 11] 42 3 rfl _ _ _ _ (by kernel_rfl) (by kernel_rfl) rfl (by assumption) ?_
      refine wpAnyH_skip' (by kernel_rfl) (fun _ _ d _ h => by cases d <;> exact h) [12, 13, 14] 39 3 rfl _ _ _ _ (by kernel_rfl) (by kernel_rfl) rfl (by assumption) ?_
      refine wpAnyH_skip' (by kernel_rfl) (fun _ _ d _ h => by cases d <;> exact h) [15, 16, 17] 36 3 rfl _ _ _ _ (by kernel_rfl) (by kernel_rfl) rfl (by assumption) ?_
      refine wpAnyH_skip' (by kernel_rfl) (fun _ _ d _ h => by cases d <;> exact h) [18] 35 1 rfl _ _ _ _ (by kernel_rfl) (by kernel_rfl) rfl (by assumption) ?_
      refine take_in (i := 19) (v := ?_) (some 40) rfl rfl (by kernel_rfl) (by kernel_rfl) (by kernel_rfl) (fun _ _ _ h => h) (Or.inl ⟨by rfl, ?_⟩) (by assumption) ?_
      rotate_left
      · (intro w hSw; (try dsimp only at hSw); (try go_split_ands); go_simp; try with_reducible rfl)
      try simp only [Act.put, List.setIfInBounds_toArray, List.set_cons_zero, List.set_cons_succ]
      refine take_in (i := 20) (v := ?_) (some 41) rfl rfl (by kernel_rfl) (by kernel_rfl) (by kernel_rfl) (fun _ _ _ h => h) (Or.inl ⟨by rfl, ?_⟩) (by assumption) ?_
      rotate_left
      · (intro w hSw; (try dsimp only at hSw); (try go_split_ands); go_simp; try with_reducible rfl)
      try simp only [Act.put, List.setIfInBounds_toArray, List.set_cons_zero, List.set_cons_succ]
      refine take_in (i := 21) (v := ?_) (some 42) rfl rfl (by kernel_rfl) (by kernel_rfl) (by kernel_rfl) (fun _ _ _ h => h) (Or.inl ⟨by rfl, ?_⟩) (by assumption) ?_
      rotate_left
      · (intro w hSw; (try dsimp only at hSw); (try go_split_ands); go_simp; try with_reducible rfl)
      try simp only [Act.put, List.setIfInBounds_toArray, List.set_cons_zero, List.set_cons_succ]
      refine take_in (i := 22) (v := ?_) (some 43) rfl rfl (by kernel_rfl) (by kernel_rfl) (by kernel_rfl) (fun _ _ _ h => h) (Or.inl ⟨by rfl, ?_⟩) (by assumption) ?_
      rotate_left
      · (intro w hSw; (try dsimp only at hSw); (try go_split_ands); go_simp; try with_reducible rfl)
      try simp only [Act.put, List.setIfInBounds_toArray, List.set_cons_zero, List.set_cons_succ]
      refine take_in (i := 23) (v := ?_) (some 44) rfl rfl (by kernel_rfl) (by kernel_rfl) (by kernel_rfl) (fun _ _ _ h => h) (Or.inl ⟨by rfl, ?_⟩) (by assumption) ?_
      rotate_left
      · (intro w hSw; (try dsimp only at hSw); (try go_split_ands); go_simp; try with_reducible rfl)
      try simp only [Act.put, List.setIfInBounds_toArray, List.set_cons_zero, List.set_cons_succ]
      refine take_in (i := 24) (v := ?_) (some 45) rfl rfl (by kernel_rfl) (by kernel_rfl) (by kernel_rfl) (fun _ _ _ h => h) (Or.inl ⟨by rfl, ?_⟩) (by assumption) ?_
      rotate_left
      · (intro w hSw; (try dsimp only at hSw); (try go_split_ands); go_simp; try with_reducible rfl)
      try simp only [Act.put, List.setIfInBounds_toArray, List.set_cons_zero, List.set_cons_succ]
      refine wpAnyH_skip' (by kernel_rfl) (fun _ _ d _ h => by cases d <;> exact h) [25, 26, 27] 26 3 rfl _ _ _ _ (by kernel_rfl) (by kernel_rfl) rfl (by assumption) ?_
      refine take_in (i := 28) (v := ?_) (some 49) rfl rfl (by kernel_rfl) (by kernel_rfl) (by kernel_rfl) (fun _ _ _ h => h) (Or.inl ⟨by rfl, ?_⟩) (by assumption) ?_
      rotate_left
      · (intro w hSw; (try dsimp only at hSw); (try go_split_ands); go_simp; try with_reducible rfl)
      try simp only [Act.put, List.setIfInBounds_toArray, List.set_cons_zero, List.set_cons_succ]
      refine take_in (i := 29) (v := ?_) (some 50) rfl rfl (by kernel_rfl) (by kernel_rfl) (by kernel_rfl) (fun _ _ _ h => h) (Or.inl ⟨by rfl, ?_⟩) (by assumption) ?_
      rotate_left
      · (intro w hSw; (try dsimp only at hSw); (try go_split_ands); go_simp; try with_reducible rfl)
      try simp only [Act.put, List.setIfInBounds_toArray, List.set_cons_zero, List.set_cons_succ]
      refine wpAnyH_skip' (by kernel_rfl) (fun _ _ d _ h => by cases d <;> exact h) [30, 31, 32] 21 3 rfl _ _ _ _ (by kernel_rfl) (by kernel_rfl) rfl (by assumption) ?_
      refine wpAnyH_skip' (by kernel_rfl) (fun _ _ d _ h => by cases d <;> exact h) [33, 34, 35] 18 3 rfl _ _ _ _ (by kernel_rfl) (by kernel_rfl) rfl (by assumption) ?_
      refine wpAnyH_skip' (by kernel_rfl) (fun _ _ d _ h => by cases d <;> exact h) [36, 37, 38] 15 3 rfl _ _ _ _ (by kernel_rfl) (by kernel_rfl) rfl (by assumption) ?_
      refine wpAnyH_skip' (by kernel_rfl) (fun _ _ d _ h => by cases d <;> exact h) [39, 40, 41] 12 3 rfl _ _ _ _ (by kernel_rfl) (by kernel_rfl) rfl (by assumption) ?_
      refine wpAnyH_skip' (by kernel_rfl) (fun _ _ d _ h => by cases d <;> exact h) [42, 43, 44] 9 3 rfl _ _ _ _ (by kernel_rfl) (by kernel_rfl) rfl (by assumption) ?_
      refine wpAnyH_skip' (by kernel_rfl) (fun _ _ d _ h => by cases d <;> exact h) [45, 46, 47] 6 3 rfl _ _ _ _ (by kernel_rfl) (by kernel_rfl) rfl (by assumption) ?_
      refine wpAnyH_skip' (by kernel_rfl) (fun _ _ d _ h => by cases d <;> exact h) [48, 49, 50] 3 3 rfl _ _ _ _ (by kernel_rfl) (by kernel_rfl) rfl (by assumption) ?_
      refine wpAnyH_skip' (by kernel_rfl) (fun _ _ d _ h => by cases d <;> exact h) [51] 2 1 rfl _ _ _ _ (by kernel_rfl) (by kernel_rfl) rfl (by assumption) ?_
      refine take_in (i := 52) (v := ?_) (some 73) rfl rfl (by kernel_rfl) (by kernel_rfl) (by kernel_rfl) (fun _ _ _ h => h) (Or.inl ⟨by rfl, ?_⟩) (by assumption) ?_
      rotate_left
      · (intro w hSw; (try dsimp only at hSw); (try go_split_ands); go_simp; try with_reducible rfl)
      try simp only [Act.put, List.setIfInBounds_toArray, List.set_cons_zero, List.set_cons_succ]
      refine take_in (i := 53) (v := ?_) (some 74) rfl rfl (by kernel_rfl) (by kernel_rfl) (by kernel_rfl) (fun _ _ _ h => h) (Or.inl ⟨by rfl, ?_⟩) (by assumption) ?_
      rotate_left
      · (intro w hSw; (try dsimp only at hSw); (try go_split_ands); go_simp; try with_reducible rfl)
      try simp only [Act.put, List.setIfInBounds_toArray, List.set_cons_zero, List.set_cons_succ]
      refine wpAnyH_done (by kernel_rfl) ?_ _
      go_wp2
      go_meet
      exact ⟨rfl, hHeld⟩
    · have t1 : (xk == 2) = false := by simp [p]
      have t2 : (xk == 3) = true := by simp [p]
      have t3 : (yk == 3) = false := by simp [q]
      clear l2 l3 e3 p q
      refine wp_region_held_drew (S := (fun w' => Below w.heap.size w w' ∧ w.heap.size + 3 ≤ w'.heap.size ∧ (∀ j, w'.cell? ⟨w.heap.size, j, none⟩ = #[Value.int .i64 xk, .bool xb, .int .i64 xn, .float .f64 xf, .string xs][j]?) ∧ (∀ j, w'.cell? ⟨w.heap.size + 1, j, none⟩ = #[Value.int .i64 yk, .bool yb, .int .i64 yn, .float .f64 yf, .string ys][j]?) ∧ (∀ j, w'.cell? ⟨w.heap.size + 2, j, none⟩ = #[Value.int .i64 zk, .bool zb, .int .i64 zn, .float .f64 zf, .string zs][j]?))) (by kernel_rfl) (T.out.drew) (fun hHeld => ?_)
      refine take_in (i := 0) (v := ?_) (some 21) rfl rfl (by kernel_rfl) (by kernel_rfl) (by kernel_rfl) (fun _ _ _ h => h) (Or.inl ⟨by rfl, ?_⟩) (by assumption) ?_
      rotate_left
      · (intro w hSw; (try dsimp only at hSw); (try go_split_ands); go_simp; try with_reducible rfl)
      try simp only [Act.put, List.setIfInBounds_toArray, List.set_cons_zero, List.set_cons_succ]
      refine take_in (i := 1) (v := ?_) (some 22) rfl rfl (by kernel_rfl) (by kernel_rfl) (by kernel_rfl) (fun _ _ _ h => h) (Or.inl ⟨by rfl, ?_⟩) (by assumption) ?_
      rotate_left
      · (intro w hSw; (try dsimp only at hSw); (try go_split_ands); go_simp; try with_reducible rfl)
      try simp only [Act.put, List.setIfInBounds_toArray, List.set_cons_zero, List.set_cons_succ]
      refine take_in (i := 2) (v := ?_) (some 23) rfl rfl (by kernel_rfl) (by kernel_rfl) (by kernel_rfl) (fun _ _ _ h => h) (Or.inl ⟨by rfl, ?_⟩) (by assumption) ?_
      rotate_left
      · (intro w hSw; (try dsimp only at hSw); (try go_split_ands); go_simp; try with_reducible rfl)
      try simp only [Act.put, List.setIfInBounds_toArray, List.set_cons_zero, List.set_cons_succ]
      refine take_in (i := 3) (v := ?_) (some 24) rfl rfl (by kernel_rfl) (by kernel_rfl) (by kernel_rfl) (fun _ _ _ h => h) (Or.inl ⟨by rfl, ?_⟩) (by assumption) ?_
      rotate_left
      · (intro w hSw; (try dsimp only at hSw); (try go_split_ands); go_simp; try with_reducible rfl)
      try simp only [Act.put, List.setIfInBounds_toArray, List.set_cons_zero, List.set_cons_succ]
      refine wpAnyH_skip' (by kernel_rfl) (fun _ _ d _ h => by cases d <;> exact h) [4, 5, 6] 47 3 rfl _ _ _ _ (by kernel_rfl) (by kernel_rfl) rfl (by assumption) ?_
      refine take_in (i := 7) (v := ?_) (some 28) rfl rfl (by kernel_rfl) (by kernel_rfl) (by kernel_rfl) (fun _ _ _ h => h) (Or.inl ⟨by rfl, ?_⟩) (by assumption) ?_
      rotate_left
      · (intro w hSw; (try dsimp only at hSw); (try go_split_ands); go_simp; try with_reducible rfl)
      try simp only [Act.put, List.setIfInBounds_toArray, List.set_cons_zero, List.set_cons_succ]
      refine take_in (i := 8) (v := ?_) (some 29) rfl rfl (by kernel_rfl) (by kernel_rfl) (by kernel_rfl) (fun _ _ _ h => h) (Or.inl ⟨by rfl, ?_⟩) (by assumption) ?_
      rotate_left
      · (intro w hSw; (try dsimp only at hSw); (try go_split_ands); go_simp; try with_reducible rfl)
      try simp only [Act.put, List.setIfInBounds_toArray, List.set_cons_zero, List.set_cons_succ]
      refine wpAnyH_skip' (by kernel_rfl) (fun _ _ d _ h => by cases d <;> exact h) [9, 10, 11] 42 3 rfl _ _ _ _ (by kernel_rfl) (by kernel_rfl) rfl (by assumption) ?_
      refine wpAnyH_skip' (by kernel_rfl) (fun _ _ d _ h => by cases d <;> exact h) [12, 13, 14] 39 3 rfl _ _ _ _ (by kernel_rfl) (by kernel_rfl) rfl (by assumption) ?_
      refine wpAnyH_skip' (by kernel_rfl) (fun _ _ d _ h => by cases d <;> exact h) [15, 16, 17] 36 3 rfl _ _ _ _ (by kernel_rfl) (by kernel_rfl) rfl (by assumption) ?_
      refine wpAnyH_skip' (by kernel_rfl) (fun _ _ d _ h => by cases d <;> exact h) [18] 35 1 rfl _ _ _ _ (by kernel_rfl) (by kernel_rfl) rfl (by assumption) ?_
      refine take_in (i := 19) (v := ?_) (some 40) rfl rfl (by kernel_rfl) (by kernel_rfl) (by kernel_rfl) (fun _ _ _ h => h) (Or.inl ⟨by rfl, ?_⟩) (by assumption) ?_
      rotate_left
      · (intro w hSw; (try dsimp only at hSw); (try go_split_ands); go_simp; try with_reducible rfl)
      try simp only [Act.put, List.setIfInBounds_toArray, List.set_cons_zero, List.set_cons_succ]
      refine take_in (i := 20) (v := ?_) (some 41) rfl rfl (by kernel_rfl) (by kernel_rfl) (by kernel_rfl) (fun _ _ _ h => h) (Or.inl ⟨by rfl, ?_⟩) (by assumption) ?_
      rotate_left
      · (intro w hSw; (try dsimp only at hSw); (try go_split_ands); go_simp; try with_reducible rfl)
      try simp only [Act.put, List.setIfInBounds_toArray, List.set_cons_zero, List.set_cons_succ]
      refine take_in (i := 21) (v := ?_) (some 42) rfl rfl (by kernel_rfl) (by kernel_rfl) (by kernel_rfl) (fun _ _ _ h => h) (Or.inl ⟨by rfl, ?_⟩) (by assumption) ?_
      rotate_left
      · (intro w hSw; (try dsimp only at hSw); (try go_split_ands); go_simp; try with_reducible rfl)
      try simp only [Act.put, List.setIfInBounds_toArray, List.set_cons_zero, List.set_cons_succ]
      refine take_in (i := 22) (v := ?_) (some 43) rfl rfl (by kernel_rfl) (by kernel_rfl) (by kernel_rfl) (fun _ _ _ h => h) (Or.inl ⟨by rfl, ?_⟩) (by assumption) ?_
      rotate_left
      · (intro w hSw; (try dsimp only at hSw); (try go_split_ands); go_simp; try with_reducible rfl)
      try simp only [Act.put, List.setIfInBounds_toArray, List.set_cons_zero, List.set_cons_succ]
      refine take_in (i := 23) (v := ?_) (some 44) rfl rfl (by kernel_rfl) (by kernel_rfl) (by kernel_rfl) (fun _ _ _ h => h) (Or.inl ⟨by rfl, ?_⟩) (by assumption) ?_
      rotate_left
      · (intro w hSw; (try dsimp only at hSw); (try go_split_ands); go_simp; try with_reducible rfl)
      try simp only [Act.put, List.setIfInBounds_toArray, List.set_cons_zero, List.set_cons_succ]
      refine take_in (i := 24) (v := ?_) (some 45) rfl rfl (by kernel_rfl) (by kernel_rfl) (by kernel_rfl) (fun _ _ _ h => h) (Or.inl ⟨by rfl, ?_⟩) (by assumption) ?_
      rotate_left
      · (intro w hSw; (try dsimp only at hSw); (try go_split_ands); go_simp; try with_reducible rfl)
      try simp only [Act.put, List.setIfInBounds_toArray, List.set_cons_zero, List.set_cons_succ]
      refine take_in (i := 25) (v := ?_) (some 46) rfl rfl (by kernel_rfl) (by kernel_rfl) (by kernel_rfl) (fun _ _ _ h => h) (Or.inl ⟨by rfl, ?_⟩) (by assumption) ?_
      rotate_left
      · (intro w hSw; (try dsimp only at hSw); (try go_split_ands); go_simp; try with_reducible rfl)
      try simp only [Act.put, List.setIfInBounds_toArray, List.set_cons_zero, List.set_cons_succ]
      refine take_in (i := 26) (v := ?_) (some 47) rfl rfl (by kernel_rfl) (by kernel_rfl) (by kernel_rfl) (fun _ _ _ h => h) (Or.inl ⟨by rfl, ?_⟩) (by assumption) ?_
      rotate_left
      · (intro w hSw; (try dsimp only at hSw); (try go_split_ands); go_simp; try with_reducible rfl)
      try simp only [Act.put, List.setIfInBounds_toArray, List.set_cons_zero, List.set_cons_succ]
      refine take_in (i := 27) (v := ?_) (some 48) rfl rfl (by kernel_rfl) (by kernel_rfl) (by kernel_rfl) (fun _ _ _ h => h) (Or.inl ⟨by rfl, ?_⟩) (by assumption) ?_
      rotate_left
      · (intro w hSw; (try dsimp only at hSw); (try go_split_ands); go_simp; try with_reducible rfl)
      try simp only [Act.put, List.setIfInBounds_toArray, List.set_cons_zero, List.set_cons_succ]
      refine take_in (i := 28) (v := ?_) (some 49) rfl rfl (by kernel_rfl) (by kernel_rfl) (by kernel_rfl) (fun _ _ _ h => h) (Or.inl ⟨by rfl, ?_⟩) (by assumption) ?_
      rotate_left
      · (intro w hSw; (try dsimp only at hSw); (try go_split_ands); go_simp; try with_reducible rfl)
      try simp only [Act.put, List.setIfInBounds_toArray, List.set_cons_zero, List.set_cons_succ]
      refine take_in (i := 29) (v := ?_) (some 50) rfl rfl (by kernel_rfl) (by kernel_rfl) (by kernel_rfl) (fun _ _ _ h => h) (Or.inl ⟨by rfl, ?_⟩) (by assumption) ?_
      rotate_left
      · (intro w hSw; (try dsimp only at hSw); (try go_split_ands); go_simp; try with_reducible rfl)
      try simp only [Act.put, List.setIfInBounds_toArray, List.set_cons_zero, List.set_cons_succ]
      refine wpAnyH_skip' (by kernel_rfl) (fun _ _ d _ h => by cases d <;> exact h) [30, 31, 32] 21 3 rfl _ _ _ _ (by kernel_rfl) (by kernel_rfl) rfl (by assumption) ?_
      refine wpAnyH_skip' (by kernel_rfl) (fun _ _ d _ h => by cases d <;> exact h) [33, 34, 35] 18 3 rfl _ _ _ _ (by kernel_rfl) (by kernel_rfl) rfl (by assumption) ?_
      refine wpAnyH_skip' (by kernel_rfl) (fun _ _ d _ h => by cases d <;> exact h) [36, 37, 38] 15 3 rfl _ _ _ _ (by kernel_rfl) (by kernel_rfl) rfl (by assumption) ?_
      refine wpAnyH_skip' (by kernel_rfl) (fun _ _ d _ h => by cases d <;> exact h) [39, 40, 41] 12 3 rfl _ _ _ _ (by kernel_rfl) (by kernel_rfl) rfl (by assumption) ?_
      refine wpAnyH_skip' (by kernel_rfl) (fun _ _ d _ h => by cases d <;> exact h) [42, 43, 44] 9 3 rfl _ _ _ _ (by kernel_rfl) (by kernel_rfl) rfl (by assumption) ?_
      refine wpAnyH_skip' (by kernel_rfl) (fun _ _ d _ h => by cases d <;> exact h) [45, 46, 47] 6 3 rfl _ _ _ _ (by kernel_rfl) (by kernel_rfl) rfl (by assumption) ?_
      refine wpAnyH_skip' (by kernel_rfl) (fun _ _ d _ h => by cases d <;> exact h) [48, 49, 50] 3 3 rfl _ _ _ _ (by kernel_rfl) (by kernel_rfl) rfl (by assumption) ?_
      refine wpAnyH_skip' (by kernel_rfl) (fun _ _ d _ h => by cases d <;> exact h) [51] 2 1 rfl _ _ _ _ (by kernel_rfl) (by kernel_rfl) rfl (by assumption) ?_
      refine take_in (i := 52) (v := ?_) (some 73) rfl rfl (by kernel_rfl) (by kernel_rfl) (by kernel_rfl) (fun _ _ _ h => h) (Or.inl ⟨by rfl, ?_⟩) (by assumption) ?_
      rotate_left
      · (intro w hSw; (try dsimp only at hSw); (try go_split_ands); go_simp; try with_reducible rfl)
      try simp only [Act.put, List.setIfInBounds_toArray, List.set_cons_zero, List.set_cons_succ]
      refine take_in (i := 53) (v := ?_) (some 74) rfl rfl (by kernel_rfl) (by kernel_rfl) (by kernel_rfl) (fun _ _ _ h => h) (Or.inl ⟨by rfl, ?_⟩) (by assumption) ?_
      rotate_left
      · (intro w hSw; (try dsimp only at hSw); (try go_split_ands); go_simp; try with_reducible rfl)
      try simp only [Act.put, List.setIfInBounds_toArray, List.set_cons_zero, List.set_cons_succ]
      refine wpAnyH_done (by kernel_rfl) ?_ _
      go_wp2
      go_meet
      exact ⟨rfl, hHeld⟩
    · have t1 : (xk == 2) = false := by simp [p]
      have t2 : (xk == 3) = false := by simp [q]
      clear l2 l3 e3 p q
      refine wp_region_held_drew (S := (fun w' => Below w.heap.size w w' ∧ w.heap.size + 3 ≤ w'.heap.size ∧ (∀ j, w'.cell? ⟨w.heap.size, j, none⟩ = #[Value.int .i64 xk, .bool xb, .int .i64 xn, .float .f64 xf, .string xs][j]?) ∧ (∀ j, w'.cell? ⟨w.heap.size + 1, j, none⟩ = #[Value.int .i64 yk, .bool yb, .int .i64 yn, .float .f64 yf, .string ys][j]?) ∧ (∀ j, w'.cell? ⟨w.heap.size + 2, j, none⟩ = #[Value.int .i64 zk, .bool zb, .int .i64 zn, .float .f64 zf, .string zs][j]?))) (by kernel_rfl) (T.out.drew) (fun hHeld => ?_)
      refine take_in (i := 0) (v := ?_) (some 21) rfl rfl (by kernel_rfl) (by kernel_rfl) (by kernel_rfl) (fun _ _ _ h => h) (Or.inl ⟨by rfl, ?_⟩) (by assumption) ?_
      rotate_left
      · (intro w hSw; (try dsimp only at hSw); (try go_split_ands); go_simp; try with_reducible rfl)
      try simp only [Act.put, List.setIfInBounds_toArray, List.set_cons_zero, List.set_cons_succ]
      refine take_in (i := 1) (v := ?_) (some 22) rfl rfl (by kernel_rfl) (by kernel_rfl) (by kernel_rfl) (fun _ _ _ h => h) (Or.inl ⟨by rfl, ?_⟩) (by assumption) ?_
      rotate_left
      · (intro w hSw; (try dsimp only at hSw); (try go_split_ands); go_simp; try with_reducible rfl)
      try simp only [Act.put, List.setIfInBounds_toArray, List.set_cons_zero, List.set_cons_succ]
      refine take_in (i := 2) (v := ?_) (some 23) rfl rfl (by kernel_rfl) (by kernel_rfl) (by kernel_rfl) (fun _ _ _ h => h) (Or.inl ⟨by rfl, ?_⟩) (by assumption) ?_
      rotate_left
      · (intro w hSw; (try dsimp only at hSw); (try go_split_ands); go_simp; try with_reducible rfl)
      try simp only [Act.put, List.setIfInBounds_toArray, List.set_cons_zero, List.set_cons_succ]
      refine take_in (i := 3) (v := ?_) (some 24) rfl rfl (by kernel_rfl) (by kernel_rfl) (by kernel_rfl) (fun _ _ _ h => h) (Or.inl ⟨by rfl, ?_⟩) (by assumption) ?_
      rotate_left
      · (intro w hSw; (try dsimp only at hSw); (try go_split_ands); go_simp; try with_reducible rfl)
      try simp only [Act.put, List.setIfInBounds_toArray, List.set_cons_zero, List.set_cons_succ]
      refine wpAnyH_skip' (by kernel_rfl) (fun _ _ d _ h => by cases d <;> exact h) [4, 5, 6] 47 3 rfl _ _ _ _ (by kernel_rfl) (by kernel_rfl) rfl (by assumption) ?_
      refine take_in (i := 7) (v := ?_) (some 28) rfl rfl (by kernel_rfl) (by kernel_rfl) (by kernel_rfl) (fun _ _ _ h => h) (Or.inl ⟨by rfl, ?_⟩) (by assumption) ?_
      rotate_left
      · (intro w hSw; (try dsimp only at hSw); (try go_split_ands); go_simp; try with_reducible rfl)
      try simp only [Act.put, List.setIfInBounds_toArray, List.set_cons_zero, List.set_cons_succ]
      refine take_in (i := 8) (v := ?_) (some 29) rfl rfl (by kernel_rfl) (by kernel_rfl) (by kernel_rfl) (fun _ _ _ h => h) (Or.inl ⟨by rfl, ?_⟩) (by assumption) ?_
      rotate_left
      · (intro w hSw; (try dsimp only at hSw); (try go_split_ands); go_simp; try with_reducible rfl)
      try simp only [Act.put, List.setIfInBounds_toArray, List.set_cons_zero, List.set_cons_succ]
      refine wpAnyH_skip' (by kernel_rfl) (fun _ _ d _ h => by cases d <;> exact h) [9, 10, 11] 42 3 rfl _ _ _ _ (by kernel_rfl) (by kernel_rfl) rfl (by assumption) ?_
      refine wpAnyH_skip' (by kernel_rfl) (fun _ _ d _ h => by cases d <;> exact h) [12, 13, 14] 39 3 rfl _ _ _ _ (by kernel_rfl) (by kernel_rfl) rfl (by assumption) ?_
      refine wpAnyH_skip' (by kernel_rfl) (fun _ _ d _ h => by cases d <;> exact h) [15, 16, 17] 36 3 rfl _ _ _ _ (by kernel_rfl) (by kernel_rfl) rfl (by assumption) ?_
      refine wpAnyH_skip' (by kernel_rfl) (fun _ _ d _ h => by cases d <;> exact h) [18] 35 1 rfl _ _ _ _ (by kernel_rfl) (by kernel_rfl) rfl (by assumption) ?_
      refine take_in (i := 19) (v := ?_) (some 40) rfl rfl (by kernel_rfl) (by kernel_rfl) (by kernel_rfl) (fun _ _ _ h => h) (Or.inl ⟨by rfl, ?_⟩) (by assumption) ?_
      rotate_left
      · (intro w hSw; (try dsimp only at hSw); (try go_split_ands); go_simp; try with_reducible rfl)
      try simp only [Act.put, List.setIfInBounds_toArray, List.set_cons_zero, List.set_cons_succ]
      refine take_in (i := 20) (v := ?_) (some 41) rfl rfl (by kernel_rfl) (by kernel_rfl) (by kernel_rfl) (fun _ _ _ h => h) (Or.inl ⟨by rfl, ?_⟩) (by assumption) ?_
      rotate_left
      · (intro w hSw; (try dsimp only at hSw); (try go_split_ands); go_simp; try with_reducible rfl)
      try simp only [Act.put, List.setIfInBounds_toArray, List.set_cons_zero, List.set_cons_succ]
      refine take_in (i := 21) (v := ?_) (some 42) rfl rfl (by kernel_rfl) (by kernel_rfl) (by kernel_rfl) (fun _ _ _ h => h) (Or.inl ⟨by rfl, ?_⟩) (by assumption) ?_
      rotate_left
      · (intro w hSw; (try dsimp only at hSw); (try go_split_ands); go_simp; try with_reducible rfl)
      try simp only [Act.put, List.setIfInBounds_toArray, List.set_cons_zero, List.set_cons_succ]
      refine take_in (i := 22) (v := ?_) (some 43) rfl rfl (by kernel_rfl) (by kernel_rfl) (by kernel_rfl) (fun _ _ _ h => h) (Or.inl ⟨by rfl, ?_⟩) (by assumption) ?_
      rotate_left
      · (intro w hSw; (try dsimp only at hSw); (try go_split_ands); go_simp; try with_reducible rfl)
      try simp only [Act.put, List.setIfInBounds_toArray, List.set_cons_zero, List.set_cons_succ]
      refine take_in (i := 23) (v := ?_) (some 44) rfl rfl (by kernel_rfl) (by kernel_rfl) (by kernel_rfl) (fun _ _ _ h => h) (Or.inl ⟨by rfl, ?_⟩) (by assumption) ?_
      rotate_left
      · (intro w hSw; (try dsimp only at hSw); (try go_split_ands); go_simp; try with_reducible rfl)
      try simp only [Act.put, List.setIfInBounds_toArray, List.set_cons_zero, List.set_cons_succ]
      refine take_in (i := 24) (v := ?_) (some 45) rfl rfl (by kernel_rfl) (by kernel_rfl) (by kernel_rfl) (fun _ _ _ h => h) (Or.inl ⟨by rfl, ?_⟩) (by assumption) ?_
      rotate_left
      · (intro w hSw; (try dsimp only at hSw); (try go_split_ands); go_simp; try with_reducible rfl)
      try simp only [Act.put, List.setIfInBounds_toArray, List.set_cons_zero, List.set_cons_succ]
      refine wpAnyH_skip' (by kernel_rfl) (fun _ _ d _ h => by cases d <;> exact h) [25, 26, 27] 26 3 rfl _ _ _ _ (by kernel_rfl) (by kernel_rfl) rfl (by assumption) ?_
      refine take_in (i := 28) (v := ?_) (some 49) rfl rfl (by kernel_rfl) (by kernel_rfl) (by kernel_rfl) (fun _ _ _ h => h) (Or.inl ⟨by rfl, ?_⟩) (by assumption) ?_
      rotate_left
      · (intro w hSw; (try dsimp only at hSw); (try go_split_ands); go_simp; try with_reducible rfl)
      try simp only [Act.put, List.setIfInBounds_toArray, List.set_cons_zero, List.set_cons_succ]
      refine take_in (i := 29) (v := ?_) (some 50) rfl rfl (by kernel_rfl) (by kernel_rfl) (by kernel_rfl) (fun _ _ _ h => h) (Or.inl ⟨by rfl, ?_⟩) (by assumption) ?_
      rotate_left
      · (intro w hSw; (try dsimp only at hSw); (try go_split_ands); go_simp; try with_reducible rfl)
      try simp only [Act.put, List.setIfInBounds_toArray, List.set_cons_zero, List.set_cons_succ]
      refine wpAnyH_skip' (by kernel_rfl) (fun _ _ d _ h => by cases d <;> exact h) [30, 31, 32] 21 3 rfl _ _ _ _ (by kernel_rfl) (by kernel_rfl) rfl (by assumption) ?_
      refine wpAnyH_skip' (by kernel_rfl) (fun _ _ d _ h => by cases d <;> exact h) [33, 34, 35] 18 3 rfl _ _ _ _ (by kernel_rfl) (by kernel_rfl) rfl (by assumption) ?_
      refine wpAnyH_skip' (by kernel_rfl) (fun _ _ d _ h => by cases d <;> exact h) [36, 37, 38] 15 3 rfl _ _ _ _ (by kernel_rfl) (by kernel_rfl) rfl (by assumption) ?_
      refine wpAnyH_skip' (by kernel_rfl) (fun _ _ d _ h => by cases d <;> exact h) [39, 40, 41] 12 3 rfl _ _ _ _ (by kernel_rfl) (by kernel_rfl) rfl (by assumption) ?_
      refine wpAnyH_skip' (by kernel_rfl) (fun _ _ d _ h => by cases d <;> exact h) [42, 43, 44] 9 3 rfl _ _ _ _ (by kernel_rfl) (by kernel_rfl) rfl (by assumption) ?_
      refine wpAnyH_skip' (by kernel_rfl) (fun _ _ d _ h => by cases d <;> exact h) [45, 46, 47] 6 3 rfl _ _ _ _ (by kernel_rfl) (by kernel_rfl) rfl (by assumption) ?_
      refine wpAnyH_skip' (by kernel_rfl) (fun _ _ d _ h => by cases d <;> exact h) [48, 49, 50] 3 3 rfl _ _ _ _ (by kernel_rfl) (by kernel_rfl) rfl (by assumption) ?_
      refine wpAnyH_skip' (by kernel_rfl) (fun _ _ d _ h => by cases d <;> exact h) [51] 2 1 rfl _ _ _ _ (by kernel_rfl) (by kernel_rfl) rfl (by assumption) ?_
      refine take_in (i := 52) (v := ?_) (some 73) rfl rfl (by kernel_rfl) (by kernel_rfl) (by kernel_rfl) (fun _ _ _ h => h) (Or.inl ⟨by rfl, ?_⟩) (by assumption) ?_
      rotate_left
      · (intro w hSw; (try dsimp only at hSw); (try go_split_ands); go_simp; try with_reducible rfl)
      try simp only [Act.put, List.setIfInBounds_toArray, List.set_cons_zero, List.set_cons_succ]
      refine take_in (i := 53) (v := ?_) (some 74) rfl rfl (by kernel_rfl) (by kernel_rfl) (by kernel_rfl) (fun _ _ _ h => h) (Or.inl ⟨by rfl, ?_⟩) (by assumption) ?_
      rotate_left
      · (intro w hSw; (try dsimp only at hSw); (try go_split_ands); go_simp; try with_reducible rfl)
      try simp only [Act.put, List.setIfInBounds_toArray, List.set_cons_zero, List.set_cons_succ]
      refine wpAnyH_done (by kernel_rfl) ?_ _
      go_wp2
      go_meet
      exact ⟨rfl, hHeld⟩
  case rest => as_aux_lemma =>
  obtain ⟨rfl, ht⟩ := hcut
  replace T := Lib.hid ht
  clear ht
  go_upto_region 5 with (fail)
  go_cut [91] (fun t w' => t = .bool false ∧ Three w w' #[.int .i64 xk, .bool xb, .int .i64 xn, .float .f64 xf, .string xs] #[.int .i64 yk, .bool yb, .int .i64 yn, .float .f64 yf, .string ys] #[.int .i64 zk, .bool zb, .int .i64 zn, .float .f64 zf, .string zs])
  case first => as_aux_lemma =>
    have h1 := fun w => Less_any xk xn yk yn xb yb xf yf xs ys w Hx.out Hy.out Mx.out My.out
    have h2 := fun w => Less_any yk yn zk zn yb zb yf zf ys zs w Hy.out Hz.out My.out Mz.out
    have h3 := fun w => Less_any xk xn zk zn xb zb xf zf xs zs w Hx.out Hz.out Mx.out Mz.out
    have tr := lessBl_trans xk xn yk yn zk zn xb yb zb xf yf zf xs ys zs
    generalize lessBl xk xb xn xf xs yk yb yn yf ys = L1 at *
    generalize lessBl yk yb yn yf ys zk zb zn zf zs = L2 at *
    generalize lessBl xk xb xn xf xs zk zb zn zf zs = L3 at *
    generalize lessKd xk yk = K1 at *
    generalize lessKd yk zk = K2 at *
    generalize lessKd xk zk = K3 at *
    have C1 := Lib.hid h1
    have C2 := Lib.hid h2
    have C3 := Lib.hid h3
    clear h1 h2 h3 Hx Hy Hz Mx My Mz
    obtain ⟨_, _, x1, x2, x3⟩ := T.out
    cases L1
    · clear tr
      go_wp2_with (first | (go_at_call 7; ((with_reducible refine (C1.out _).mono ?_); rintro e w1 ⟨rfl, hb1⟩; replace T := Lib.hid (T.out.step hb1); clear hb1; obtain ⟨_, _, x1, x2, x3⟩ := T.out)) | (go_at_call 7; ((with_reducible refine (C2.out _).mono ?_); rintro e w1 ⟨rfl, hb1⟩; replace T := Lib.hid (T.out.step hb1); clear hb1; obtain ⟨_, _, x1, x2, x3⟩ := T.out)) | (go_at_call 7; ((with_reducible refine (C3.out _).mono ?_); rintro e w1 ⟨rfl, hb1⟩; replace T := Lib.hid (T.out.step hb1); clear hb1; obtain ⟨_, _, x1, x2, x3⟩ := T.out)))
      go_meet
      exact ⟨rfl, T.out⟩
    · cases L2
      · clear tr
        go_wp2_with (first | (go_at_call 7; ((with_reducible refine (C1.out _).mono ?_); rintro e w1 ⟨rfl, hb1⟩; replace T := Lib.hid (T.out.step hb1); clear hb1; obtain ⟨_, _, x1, x2, x3⟩ := T.out)) | (go_at_call 7; ((with_reducible refine (C2.out _).mono ?_); rintro e w1 ⟨rfl, hb1⟩; replace T := Lib.hid (T.out.step hb1); clear hb1; obtain ⟨_, _, x1, x2, x3⟩ := T.out)) | (go_at_call 7; ((with_reducible refine (C3.out _).mono ?_); rintro e w1 ⟨rfl, hb1⟩; replace T := Lib.hid (T.out.step hb1); clear hb1; obtain ⟨_, _, x1, x2, x3⟩ := T.out)))
        go_meet
        exact ⟨rfl, T.out⟩
      · obtain rfl := tr rfl rfl
        clear tr
        go_wp2_with (first | (go_at_call 7; ((with_reducible refine (C1.out _).mono ?_); rintro e w1 ⟨rfl, hb1⟩; replace T := Lib.hid (T.out.step hb1); clear hb1; obtain ⟨_, _, x1, x2, x3⟩ := T.out)) | (go_at_call 7; ((with_reducible refine (C2.out _).mono ?_); rintro e w1 ⟨rfl, hb1⟩; replace T := Lib.hid (T.out.step hb1); clear hb1; obtain ⟨_, _, x1, x2, x3⟩ := T.out)) | (go_at_call 7; ((with_reducible refine (C3.out _).mono ?_); rintro e w1 ⟨rfl, hb1⟩; replace T := Lib.hid (T.out.step hb1); clear hb1; obtain ⟨_, _, x1, x2, x3⟩ := T.out)))
        go_meet
        exact ⟨rfl, T.out⟩
  case rest => as_aux_lemma =>
  obtain ⟨rfl, ht⟩ := hcut
  replace T := Lib.hid ht
  clear ht
  go_upto_region 7 with (fail)
  go_cut [126] (fun t w' => t = .bool false ∧ Three w w' #[.int .i64 xk, .bool xb, .int .i64 xn, .float .f64 xf, .string xs] #[.int .i64 yk, .bool yb, .int .i64 yn, .float .f64 yf, .string ys] #[.int .i64 zk, .bool zb, .int .i64 zn, .float .f64 zf, .string zs])
  case first => as_aux_lemma =>
    have h0 := fun w => Eq_any xk xn yk yn xb yb xf yf xs ys w Hx.out Hy.out Mx.out My.out
    have h1 := fun w => Less_any xk xn zk zn xb zb xf zf xs zs w Hx.out Hz.out Mx.out Mz.out
    have h2 := fun w => Less_any yk yn zk zn yb zb yf zf ys zs w Hy.out Hz.out My.out Mz.out
    have h3 := fun w => Less_any zk zn xk xn zb xb zf xf zs xs w Hz.out Hx.out Mz.out Mx.out
    have h4 := fun w => Less_any zk zn yk yn zb yb zf yf zs ys w Hz.out Hy.out Mz.out My.out
    have h5 := fun w => Eq_any xk xn zk zn xb zb xf zf xs zs w Hx.out Hz.out Mx.out Mz.out
    have h6 := fun w => Eq_any yk yn zk zn yb zb yf zf ys zs w Hy.out Hz.out My.out Mz.out
    have sb := eqBl_sub xk xn yk yn zk zn xb yb zb xf yf zf xs ys zs Hx.out Hy.out Hz.out Mx.out My.out Mz.out
    have s1 := fun w => Same_self _ 0 _ 0 ⟨#[]⟩ w (less_may xk zk xb zb xn zn xf zf xs zs).2 (less_may xk zk xb zb xn zn xf zf xs zs).1
    have s2 := fun w => Same_self _ 0 _ 0 ⟨#[]⟩ w (less_may zk xk zb xb zn xn zf xf zs xs).2 (less_may zk xk zb xb zn xn zf xf zs xs).1
    generalize eqBl xk xb xn xf xs yk yb yn yf ys = E at *
    cases E
    · have C0 := Lib.hid h0
      clear h0 h1 h2 h3 h4 h5 h6 sb s1 s2
      refine wp_region_held_drew (S := (fun w' => Below w.heap.size w w' ∧ w.heap.size + 3 ≤ w'.heap.size ∧ (∀ j, w'.cell? ⟨w.heap.size, j, none⟩ = #[Value.int .i64 xk, .bool xb, .int .i64 xn, .float .f64 xf, .string xs][j]?) ∧ (∀ j, w'.cell? ⟨w.heap.size + 1, j, none⟩ = #[Value.int .i64 yk, .bool yb, .int .i64 yn, .float .f64 yf, .string ys][j]?) ∧ (∀ j, w'.cell? ⟨w.heap.size + 2, j, none⟩ = #[Value.int .i64 zk, .bool zb, .int .i64 zn, .float .f64 zf, .string zs][j]?))) (by kernel_rfl) (T.out.drew) (fun hHeld => ?_)
      refine take_in (i := 0) (v := ?_) (some 92) rfl rfl (by kernel_rfl) (by kernel_rfl) (by kernel_rfl) (fun _ _ _ h => h) (Or.inl ⟨by rfl, ?_⟩) (by assumption) ?_
      rotate_left
      · (intro w hSw; (try dsimp only at hSw); (try go_split_ands); go_simp; try with_reducible rfl)
      try simp only [Act.put, List.setIfInBounds_toArray, List.set_cons_zero, List.set_cons_succ]
      refine take_in (i := 1) (v := ?_) (some 93) rfl rfl (by kernel_rfl) (by kernel_rfl) (by kernel_rfl) (fun _ _ _ h => h) (Or.inl ⟨by rfl, ?_⟩) (by assumption) ?_
      rotate_left
      · (intro w hSw; (try dsimp only at hSw); (try go_split_ands); go_simp; try with_reducible rfl)
      try simp only [Act.put, List.setIfInBounds_toArray, List.set_cons_zero, List.set_cons_succ]
      refine wpAnyH_ready (rs := [2]) (by kernel_rfl) (by simp) ?_
      refine AllReadyH.cons rfl (fun K hK => ?_) AllReadyH.nil
      go_simp
      with_reducible refine (C0.out _).mono ?_
      rintro e w1 ⟨rfl, hb⟩
      go_wp2_with fail
      refine hK.out _ _ (Three.step hHeld hb) (fun hHeld => ?_)
      clear hK K
      try simp only [Act.put, List.setIfInBounds_toArray, List.set_cons_zero, List.set_cons_succ]
      refine take_in (i := 3) (v := ?_) (some 95) rfl rfl (by kernel_rfl) (by kernel_rfl) (by kernel_rfl) (fun _ _ _ h => h) (Or.inl ⟨by rfl, ?_⟩) (by assumption) ?_
      rotate_left
      · (intro w hSw; (try dsimp only at hSw); (try go_split_ands); go_simp; try with_reducible rfl)
      try simp only [Act.put, List.setIfInBounds_toArray, List.set_cons_zero, List.set_cons_succ]
      refine take_in (i := 4) (v := ?_) (some 96) rfl rfl (by kernel_rfl) (by kernel_rfl) (by kernel_rfl) (fun _ _ _ h => h) (Or.inl ⟨by rfl, ?_⟩) (by assumption) ?_
      rotate_left
      · (intro w hSw; (try dsimp only at hSw); (try go_split_ands); go_simp; try with_reducible rfl)
      try simp only [Act.put, List.setIfInBounds_toArray, List.set_cons_zero, List.set_cons_succ]
      refine wpAnyH_skipd (by kernel_rfl) (fun _ _ d _ h => by cases d <;> exact h) [5, 6, 7] [97, 98, 99] 27 3 rfl _ _ _ _ (by kernel_rfl) (by kernel_rfl) rfl (by assumption) ?_
      try simp only [List.foldl_cons, List.foldl_nil, Act.put, List.setIfInBounds_toArray, List.set_cons_zero, List.set_cons_succ]
      refine wpAnyH_skipd (by kernel_rfl) (fun _ _ d _ h => by cases d <;> exact h) [8, 9, 10] [100, 101, 102] 24 3 rfl _ _ _ _ (by kernel_rfl) (by kernel_rfl) rfl (by assumption) ?_
      try simp only [List.foldl_cons, List.foldl_nil, Act.put, List.setIfInBounds_toArray, List.set_cons_zero, List.set_cons_succ]
      refine wpAnyH_skipd (by kernel_rfl) (fun _ _ d _ h => by cases d <;> exact h) [11, 12, 13] [103, 104, 105] 21 3 rfl _ _ _ _ (by kernel_rfl) (by kernel_rfl) rfl (by assumption) ?_
      try simp only [List.foldl_cons, List.foldl_nil, Act.put, List.setIfInBounds_toArray, List.set_cons_zero, List.set_cons_succ]
      refine wpAnyH_skipd (by kernel_rfl) (fun _ _ d _ h => by cases d <;> exact h) [14, 15, 16] [106, 107, 108] 18 3 rfl _ _ _ _ (by kernel_rfl) (by kernel_rfl) rfl (by assumption) ?_
      try simp only [List.foldl_cons, List.foldl_nil, Act.put, List.setIfInBounds_toArray, List.set_cons_zero, List.set_cons_succ]
      refine wpAnyH_skipd (by kernel_rfl) (fun _ _ d _ h => by cases d <;> exact h) [17, 18, 19] [109, 110, 111] 15 3 rfl _ _ _ _ (by kernel_rfl) (by kernel_rfl) rfl (by assumption) ?_
      try simp only [List.foldl_cons, List.foldl_nil, Act.put, List.setIfInBounds_toArray, List.set_cons_zero, List.set_cons_succ]
      refine wpAnyH_skipd (by kernel_rfl) (fun _ _ d _ h => by cases d <;> exact h) [20, 21, 22] [112, 113, 114] 12 3 rfl _ _ _ _ (by kernel_rfl) (by kernel_rfl) rfl (by assumption) ?_
      try simp only [List.foldl_cons, List.foldl_nil, Act.put, List.setIfInBounds_toArray, List.set_cons_zero, List.set_cons_succ]
      refine wpAnyH_skipd (by kernel_rfl) (fun _ _ d _ h => by cases d <;> exact h) [23, 24, 25] [115, 116, 117] 9 3 rfl _ _ _ _ (by kernel_rfl) (by kernel_rfl) rfl (by assumption) ?_
      try simp only [List.foldl_cons, List.foldl_nil, Act.put, List.setIfInBounds_toArray, List.set_cons_zero, List.set_cons_succ]
      refine wpAnyH_skipd (by kernel_rfl) (fun _ _ d _ h => by cases d <;> exact h) [26, 27, 28] [118, 119, 120] 6 3 rfl _ _ _ _ (by kernel_rfl) (by kernel_rfl) rfl (by assumption) ?_
      try simp only [List.foldl_cons, List.foldl_nil, Act.put, List.setIfInBounds_toArray, List.set_cons_zero, List.set_cons_succ]
      refine wpAnyH_skipd (by kernel_rfl) (fun _ _ d _ h => by cases d <;> exact h) [29, 30, 31] [121, 122, 123] 3 3 rfl _ _ _ _ (by kernel_rfl) (by kernel_rfl) rfl (by assumption) ?_
      try simp only [List.foldl_cons, List.foldl_nil, Act.put, List.setIfInBounds_toArray, List.set_cons_zero, List.set_cons_succ]
      refine wpAnyH_skipd (by kernel_rfl) (fun _ _ d _ h => by cases d <;> exact h) [32, 33] [124, 125] 1 2 rfl _ _ _ _ (by kernel_rfl) (by kernel_rfl) rfl (by assumption) ?_
      try simp only [List.foldl_cons, List.foldl_nil, Act.put, List.setIfInBounds_toArray, List.set_cons_zero, List.set_cons_succ]
      refine take_in (i := 34) (v := ?_) (some 126) rfl rfl (by kernel_rfl) (by kernel_rfl) (by kernel_rfl) (fun _ _ _ h => h) (Or.inl ⟨by rfl, ?_⟩) (by assumption) ?_
      rotate_left
      · (intro w hSw; (try dsimp only at hSw); (try go_split_ands); go_simp; try with_reducible rfl)
      try simp only [Act.put, List.setIfInBounds_toArray, List.set_cons_zero, List.set_cons_succ]
      refine wpAnyH_done (by kernel_rfl) ?_ _
      go_wp2
      go_meet
      exact ⟨rfl, hHeld⟩
    · obtain ⟨e1, e2, e3, e4, e5⟩ := sb rfl
      rw [← e1, ← e2] at h2
      rw [← e3, ← e4] at h4
      rw [← e5] at h6
      clear sb e1 e2 e3 e4 e5
      generalize lessBl xk xb xn xf xs zk zb zn zf zs = L1 at *
      generalize lessBl zk zb zn zf zs xk xb xn xf xs = L2 at *
      generalize eqBl xk xb xn xf xs zk zb zn zf zs = L3 at *
      generalize lessKd xk zk = K1 at *
      generalize lessKd zk xk = K2 at *
      generalize eqKd xk zk = K3 at *
      generalize eqKd yk zk = K4 at *
      generalize eqKd xk yk = K5 at *
      have C0 := Lib.hid h0
      have C1 := Lib.hid h1
      have C2 := Lib.hid h2
      have C3 := Lib.hid h3
      have C4 := Lib.hid h4
      have C5 := Lib.hid h5
      have C6 := Lib.hid h6
      have S1 := Lib.hid s1
      have S2 := Lib.hid s2
      clear h0 h1 h2 h3 h4 h5 h6 s1 s2 Hx Hy Hz Mx My Mz
      have nn : ∀ b : Bool, (b != b) = false := fun b => by cases b <;> rfl
      (first | (go_region_held3 (fun w' => Below w.heap.size w w' ∧ w.heap.size + 3 ≤ w'.heap.size ∧ (∀ j, w'.cell? ⟨w.heap.size, j, none⟩ = #[Value.int .i64 xk, .bool xb, .int .i64 xn, .float .f64 xf, .string xs][j]?) ∧ (∀ j, w'.cell? ⟨w.heap.size + 1, j, none⟩ = #[Value.int .i64 yk, .bool yb, .int .i64 yn, .float .f64 yf, .string ys][j]?) ∧ (∀ j, w'.cell? ⟨w.heap.size + 2, j, none⟩ = #[Value.int .i64 zk, .bool zb, .int .i64 zn, .float .f64 zf, .string zs][j]?)) (first | exact T.out.drew | exact T.out.drew.step hb | exact T.out.step hb | exact T.out | exact ⟨by assumption, by assumption, by assumption, by assumption, by assumption⟩ | exact Three.on hb (by assumption) (by assumption) (by assumption) (by assumption) (by assumption) | (go_split_ands; exact ⟨by assumption, by assumption, by assumption, by assumption, by assumption⟩) | (go_split_ands; exact Three.on hb (by assumption) (by assumption) (by assumption) (by assumption) (by assumption))) (first | (go_at_call 8; ((with_reducible refine (C0.out _).mono ?_); rintro e w1 ⟨rfl, hb⟩)) | (go_at_call 7; ((with_reducible refine (C1.out _).mono ?_); rintro e w1 ⟨rfl, hb⟩)) | (go_at_call 7; ((with_reducible refine (C2.out _).mono ?_); rintro e w1 ⟨rfl, hb⟩)) | (go_at_call 7; ((with_reducible refine (C3.out _).mono ?_); rintro e w1 ⟨rfl, hb⟩)) | (go_at_call 7; ((with_reducible refine (C4.out _).mono ?_); rintro e w1 ⟨rfl, hb⟩)) | (go_at_call 9; ((with_reducible refine (S1.out _).mono ?_); rintro e w1 ⟨rfl, hb⟩)) | (go_at_call 9; ((with_reducible refine (S2.out _).mono ?_); rintro e w1 ⟨rfl, hb⟩)) | (go_at_call 8; ((with_reducible refine (C5.out _).mono ?_); rintro e w1 ⟨rfl, hb⟩)) | (go_at_call 8; ((with_reducible refine (C6.out _).mono ?_); rintro e w1 ⟨rfl, hb⟩)))) | fail)
      all_goals
        go_wp2
        go_meet
        exact ⟨rfl, by assumption⟩
  case rest => as_aux_lemma =>
  obtain ⟨rfl, ht⟩ := hcut
  replace T := Lib.hid ht
  clear ht
  go_wp2_with (go_at_call 6; ((with_reducible refine (WK.out _ T.out.below).mono ?_); rintro e w2 ⟨rfl, hb2⟩))
  go_ret
  exact ⟨rfl, T.out.below.trans (hb2.mono T.out.below.size)⟩
end Go.Proofs.YtbpakmiopmgmbaaGreatDoor
