/- CodecOrder's walk. -/
import Derived.Test.YtkdemfgecoodnaaGreatmZ1
import Derived.Test.YtkdemfgecoodnaaGreatH2
namespace Go.Proofs.YtkdemfgecoodnaaGreat
open Go.RowKit
theorem conv_all {w : World} {v : Value} {l : List UInt8} (h : GS w v l) : ∀ k, (convert 25 9 v).run Tryz.prog (w.drewN k) = .ok (.string ⟨l.toArray⟩) (w.drewN k) := fun k =>
  conv_gs (h.below (below_drewN' (Below.refl _ _) k))
theorem Puts.some {P : Prop} {l : List UInt8} {w w' : World} {e : Ending} (h : Puts P l w e w') : ∃ (u : Value) (E : Int), e = .returned (.tuple #[u, .int .i64 E]) := by
  rcases h with ⟨_, u, e, _⟩ | ⟨_, e, _⟩
  · exact ⟨u, 0, e⟩
  · exact ⟨_, 1, e⟩
/-- Two boxes of values, wherever the walk has come to. -/
structure Two (w0 w : World) (v x : VP) : Prop where
  bel : Below w0.heap.size w0 w
  b1 : Bx w w0.heap.size v.cells
  b2 : Bx w (w0.heap.size + 1) x.cells
theorem Two.new (w : World) (v x : VP) : Two w ((w.alloc (.cells v.cells 24)).alloc (.cells x.cells 24)) v x := by
  refine ⟨((Below.refl _ _).alloc (Nat.le_refl _) _).alloc (by simp) _, (Bx.new w _ _).below ((Below.refl _ _).alloc (Nat.le_refl _) _), ?_⟩
  have := Bx.new (w.alloc (.cells v.cells 24)) x.cells 24
  simpa using this
theorem Two.step {w0 w w' : World} {v x : VP} (h : Two w0 w v x) (hb : Below w.heap.size w w') : Two w0 w' v x := ⟨h.bel.trans (hb.mono h.bel.size), h.b1.below hb, h.b2.below hb⟩
section
set_option maxRecDepth 100000
set_option maxHeartbeats 4000000
theorem Order_none1 (v x : VP) (hv : v.wide) (hx : x.wide) (h : ¬ v.may) (w : World) : Calls Tryz.prog 8 #[v.val, x.val] w fun e w' => e = .returned (.bool true) ∧ Below w.heap.size w w' := by
  have C1 := Lib.hid (fun W => (PutValue_any v hv W).mono fun e w' p => (⟨(p.resolve_left (fun q => h q.1)).2.1, p.bel⟩ : _ ∧ Below W.heap.size W w'))
  have C2 := Lib.hid (fun W => (PutValue_any x hx W).mono fun e w' p => (⟨p.some, p.bel⟩ : (∃ (u : Value) (E : Int), e = .returned (.tuple #[u, .int .i64 E])) ∧ Below W.heap.size W w'))
  obtain ⟨k, b, n, f, s⟩ := v
  obtain ⟨k', b', n', f', s'⟩ := x
  have T0 := Lib.hid (Two.new w ⟨k, b, n, f, s⟩ ⟨k', b', n', f', s'⟩)
  clear hv hx h
  go_enter Tryz.func8, Tryz.ntmps8
  go_upto_region 2 with (go_at_call 11; (with_reducible refine (C1.out _).mono ?_); rintro e w1 ⟨rfl, hb⟩; have T1 := Lib.hid (T0.out.step hb); have q2 := T1.out.b2.c; clear hb)
  go_upto_region 3 with (go_at_call 11; (with_reducible refine (C2.out _).mono ?_); rintro e w2 ⟨⟨u, E, rfl⟩, hb⟩; have T2 := Lib.hid (T1.out.step hb); clear hb)
  go_wp2_with (go_at_call 18; (with_reducible refine (wakes_any _).mono ?_); rintro e w3 ⟨rfl, hb⟩; have T3 := Lib.hid (T2.out.step hb); clear hb)
  go_ret
  exact ⟨rfl, T3.out.bel⟩
theorem Order_none2 (v x : VP) (hv : v.wide) (hx : x.wide) (h0 : v.may) (h : ¬ x.may) (w : World) : Calls Tryz.prog 8 #[v.val, x.val] w fun e w' => e = .returned (.bool true) ∧ Below w.heap.size w w' := by
  have C1 := Lib.hid (fun W => (PutValue_any v hv W).mono fun e w' p => (⟨by obtain ⟨_, u, e, _⟩ := p.resolve_right (fun q => q.1 h0); exact ⟨u, e⟩, p.bel⟩ : (∃ (u : Value), e = .returned (.tuple #[u, .int .i64 0])) ∧ Below W.heap.size W w'))
  have C2 := Lib.hid (fun W => (PutValue_any x hx W).mono fun e w' p => (⟨(p.resolve_left (fun q => h q.1)).2.1, p.bel⟩ : _ ∧ Below W.heap.size W w'))
  obtain ⟨k, b, n, f, s⟩ := v
  obtain ⟨k', b', n', f', s'⟩ := x
  have T0 := Lib.hid (Two.new w ⟨k, b, n, f, s⟩ ⟨k', b', n', f', s'⟩)
  clear hv hx h h0
  go_enter Tryz.func8, Tryz.ntmps8
  go_upto_region 2 with (go_at_call 11; (with_reducible refine (C1.out _).mono ?_); rintro e w1 ⟨⟨u, rfl⟩, hb⟩; have T1 := Lib.hid (T0.out.step hb); have q2 := T1.out.b2.c; clear hb)
  go_upto_region 3 with (go_at_call 11; (with_reducible refine (C2.out _).mono ?_); rintro e w2 ⟨rfl, hb⟩; have T2 := Lib.hid (T1.out.step hb); clear hb)
  go_wp2_with (go_at_call 18; (with_reducible refine (wakes_any _).mono ?_); rintro e w3 ⟨rfl, hb⟩; have T3 := Lib.hid (T2.out.step hb); clear hb)
  go_ret
  exact ⟨rfl, T3.out.bel⟩
theorem like_enc {v x : VP} (mv : v.may) (mx : x.may) (hv : v.wide) (hx : x.wide) : likeV v.k v.b v.n v.f v.s x.k x.b x.n x.f x.s = (v.enc == x.enc) := by
  rw [Bool.eq_iff_iff, like_iff, beq_iff_eq]
  exact ⟨fun ⟨h1, h2, h3, h4, h5⟩ => by rw [VP.eq h1 h2 h3 h4 h5], fun h => by rw [enc_inj mv mx hv hx h]; exact ⟨rfl, rfl, rfl, rfl, rfl⟩⟩
theorem Order_both (v x : VP) (hv : v.wide) (hx : x.wide) (mv : v.may) (mx : x.may) (w : World) : Calls Tryz.prog 8 #[v.val, x.val] w fun e w' => e = .returned (.bool true) ∧ Below w.heap.size w w' := by
  have C1 := Lib.hid (fun W => (PutValue_any v hv W).mono fun e w' p => (p.resolve_right (fun q => q.1 mv)).2)
  have C2 := Lib.hid (fun W => (PutValue_any x hx W).mono fun e w' p => (p.resolve_right (fun q => q.1 mx)).2)
  have C3 := Lib.hid (fun W => Like_any v.k v.b v.n v.f v.s x.k x.b x.n x.f x.s W)
  have C4 := Lib.hid (fun W => Compare_any v.k v.n x.k x.n v.b x.b v.f x.f v.s x.s W hv hx mv mx)
  rw [like_enc mv mx hv hx] at C3
  have L1 := Lib.hid (fun h => no_begin mv mx hv hx h)
  have L2 := Lib.hid (fun h => no_begin mx mv hx hv h)
  have L3 := Lib.hid (fun (h : v.k = x.k) => enc_order mv mx hv hx h)
  generalize v.enc = X at *
  generalize x.enc = Y at *
  obtain ⟨k, b, n, f, s⟩ := v
  obtain ⟨k', b', n', f', s'⟩ := x
  simp only at C3 C4 L3
  generalize cmpK (keyV k b n f s) (keyV k' b' n' f' s') = c at *
  have T0 := Lib.hid (Two.new w ⟨k, b, n, f, s⟩ ⟨k', b', n', f', s'⟩)
  clear hv hx mv mx
  go_enter Tryz.func8, Tryz.ntmps8
  go_upto_region 2 with (go_at_call 11; (with_reducible refine (C1.out _).mono ?_); rintro e w1 ⟨u, rfl, h1⟩; have T1 := Lib.hid (T0.out.step h1.bel); have q2 := T1.out.b2.c; have G1 := Lib.hid h1.gs; clear h1)
  go_upto_region 5 with (go_at_call 11; (with_reducible refine (C2.out _).mono ?_); rintro e w2 ⟨u2, rfl, h1⟩; have T2 := Lib.hid (T1.out.step h1.bel); have G2 := Lib.hid h1.gs; have G3 := Lib.hid (G1.out.below h1.bel); clear h1)
  have cv1 := conv_all G2.out
  have cv2 := conv_all G3.out
  go_quiet (fail)
  have T3 := Lib.hid (T2.out.step (below_drewN' (Below.refl _ _) nq))
  obtain ⟨w3, hw3⟩ : ∃ w3, w2.drewN nq = w3 := ⟨_, rfl⟩
  rw [hw3] at T3 ⊢
  have HX := Lib.hid (And.intro (str_list X) (And.intro (str_size X) (str_take X)))
  have HY := Lib.hid (And.intro (str_list Y) (And.intro (str_size Y) (str_take Y)))
  generalize (⟨X.toArray⟩ : ByteArray) = sx at *
  generalize (⟨Y.toArray⟩ : ByteArray) = sy at *
  clear cv1 cv2 hw3 q2
  have q1 := T3.out.b1.c
  have q2 := T3.out.b2.c
  have hq : (sx.toList == sy.toList) = (X == Y) := by rw [HX.out.1, HY.out.1]
  generalize (X == Y) = q at *
  have HR : Hid (k = k' → Op.bytesLess sx.toList sy.toList = decide (c < 0)) := Lib.hid fun h => by rw [HX.out.1, HY.out.1, less_cb, L3.out h]
  have hT : (decide (sx.size < sy.size) = true ∧ sx.size < sy.size ∧ decide (sy.size < sx.size) = false ∧ ((sy.extract 0 sx.size).toList == sx.toList) = false) ∨
      (decide (sx.size < sy.size) = false ∧ sy.size < sx.size ∧ decide (sy.size < sx.size) = true ∧ ((sx.extract 0 sy.size).toList == sy.toList) = false) ∨
      (decide (sx.size < sy.size) = false ∧ sx.size = sy.size ∧ decide (sy.size < sx.size) = false ∧ True) := by
    rcases Nat.lt_trichotomy sx.size sy.size with h | h | h
    · refine .inl ⟨by simp [h], h, by simp; omega, ?_⟩
      rw [HX.out.1, HY.out.2.2, HX.out.2.1, beq_eq_false_iff_ne]
      exact L1.out (by rw [← HX.out.2.1, ← HY.out.2.1]; exact h)
    · exact .inr (.inr ⟨by simp; omega, h, by simp; omega, trivial⟩)
    · refine .inr (.inl ⟨by simp; omega, h, by simp [h], ?_⟩)
      rw [HY.out.1, HX.out.2.2, HY.out.2.1, beq_eq_false_iff_ne]
      exact L2.out (by rw [← HX.out.2.1, ← HY.out.2.1]; exact h)
  clear HX HY L1 L2 L3 G1 G2 G3 C1 C2
  rcases hT with ⟨p1, p2, p3, p4⟩ | ⟨p1, p2, p3, p4⟩ | ⟨p1, p2, p3, p4⟩
  all_goals
    cases q
    all_goals
      as_aux_lemma =>
      have P2 := Lib.hid p2
      go_upto_region 8 with (go_at_call 15; (with_reducible refine (C3.out _).mono ?_); rintro e w4 ⟨rfl, hb⟩; have T4 := Lib.hid (T3.out.step hb); have q3 := T4.out.b1.c; have q4 := T4.out.b2.c; clear hb)
      clear p1 p2 p3 p4 hq
      by_cases hk : k = k'
      · have hr := HR.out hk
        have hkb : (k != k') = false := by simp [hk]
        clear hk
        obtain ⟨r, hc⟩ : ∃ r, decide (c < 0) = r := ⟨_, rfl⟩
        rw [hc] at hr
        cases r
        all_goals
          as_aux_lemma =>
          go_wp2_with (first
            | (go_at_call 36; (with_reducible refine (C4.out _).mono ?_); rintro e w5 ⟨rfl, hb⟩; have T5 := Lib.hid (T4.out.step hb); clear hb)
            | (go_at_call 18; (with_reducible refine (wakes_any _).mono ?_); rintro e w6 ⟨rfl, hb⟩; have T6 := Lib.hid (T5.out.step hb); clear hb))
          go_ret
          exact ⟨rfl, T6.out.bel⟩
      · have hkb : (k != k') = true := by simp [hk]
        clear hk
        as_aux_lemma =>
        go_wp2_with (first
            | (go_at_call 18; (with_reducible refine (wakes_any _).mono ?_); rintro e w6 ⟨rfl, hb⟩; have T6 := Lib.hid (T4.out.step hb); clear hb))
        go_ret
        exact ⟨rfl, T6.out.bel⟩
theorem Order_walk (v x : VP) (hv : v.wide) (hx : x.wide) (w : World) : Calls Tryz.prog 8 #[v.val, x.val] w fun e w' => e = .returned (.bool true) ∧ Below w.heap.size w w' := by
  by_cases mv : v.may
  · by_cases mx : x.may
    · exact Order_both v x hv hx mv mx w
    · exact Order_none2 v x hv hx mv mx w
  · exact Order_none1 v x hv hx mv w
end
end Go.Proofs.YtkdemfgecoodnaaGreat
