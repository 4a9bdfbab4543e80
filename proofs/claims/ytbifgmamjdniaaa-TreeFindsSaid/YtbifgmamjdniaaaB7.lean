/- Adding an entry to a tree. -/
import Derived.Test.YtbifgmamjdniaaaB6
namespace Go.Proofs.Ytbifgmamjdniaaa
open Go.RowKit
open Itree (E T dep endT bs ord sz nodes lean rotL rotR bal ins del hasT first AVL Srt eachL over)
theorem node_at (w : World) (e : E) (l r : Option Addr) (lv en : Int) (g : Nat) (h : w.heap.size = g) : NodeAt (w.alloc (.cells #[.int .u64 e.a, .int .u64 e.b, .int .u64 e.n, .pointer l, .pointer r, .int .i64 lv, .int .u64 en] 86)) g e l r lv en := h ▸ node_new w e l r lv en
set_option maxRecDepth 100000 in
set_option maxHeartbeats 1000000 in
theorem with_leaf (x : E) (w : World) :
    Calls Try.prog 35 #[.pointer none, entV x] w fun e w' => e = .returned (.pointer (some ⟨w.heap.size + 1, 0, none⟩)) ∧ NodeAt w' (w.heap.size + 1) x none none 1 x.b ∧ Below w.heap.size w w' := by
  go_enter Try.func35, Try.ntmps35
  go_wp2
  go_ret
  exact ⟨rfl, node_at _ x none none 1 x.b _ (by simp), ((Below.refl _ _).alloc (Nat.le_refl _) _).alloc (by simp) _⟩
set_option maxRecDepth 100000 in
set_option maxHeartbeats 1000000 in
theorem with_l (x : E) (k : Nat) (e : E) (l r : T) (w : World) (h : IsT w (.node k e l r)) (hd : (bs l ++ k :: bs r).Nodup) (hs : sz l + sz r ≤ 800) (hlt : Itree.lt x e)
    (ih : ∀ w : World, IsT w l → Calls Try.prog 35 #[.pointer (ptr l), entV x] w fun e w' => ∃ K, w.heap.size ≤ K ∧ e = .returned (.pointer (ptr (ins K x l))) ∧ IsT w' (ins K x l) ∧ But (bs l) w w') :
    Calls Try.prog 35 #[.pointer (some ⟨k, 0, none⟩), entV x] w fun e' w' => ∃ K, w.heap.size ≤ K ∧ e' = .returned (.pointer (ptr (bal k e (ins K x l) r))) ∧ IsT w' (bal k e (ins K x l) r) ∧ But (bs l ++ k :: bs r) w w' := by
  obtain ⟨d1, d2, d3, d4, d5⟩ := nd_mid hd
  have HE := Lib.hid (ebox_new w x 53)
  have BW := (Below.refl w.heap.size w).alloc (Nat.le_refl _) (.cells #[.int .u64 x.a, .int .u64 x.b, .int .u64 x.n] 53)
  have HK := Lib.hid h.1.lt
  replace h := h.below BW
  obtain ⟨W, hW⟩ : ∃ W, w.alloc (.cells #[.int .u64 x.a, .int .u64 x.b, .int .u64 x.n] 53) = W := ⟨_, rfl⟩
  rw [hW] at h BW HE
  obtain ⟨hn, hl, hr⟩ := h
  have HW := Lib.hid BW
  clear BW
  have HC := compare_any x e
  rw [cmpE_lt hlt] at HC
  replace HC := Lib.hid HC
  have K0 := Lib.hid (node_keep HE.out hn)
  have M := Lib.hid (fun w1 (h1 : Below W.heap.size W w1) => And.intro (hn.below h1).c3 (And.intro (HE.out.below h1).c0 (And.intro (HE.out.below h1).c1 (HE.out.below h1).c2)))
  have IHH := Lib.hid (fun (w1 : World) (hb : Below W.heap.size W w1) => ih w1 (hl.below hb))
  have NN := Lib.hid (fun (w1 w2 : World) (hb : Below W.heap.size W w1) (ho : But (bs l) w1 w2) => (hn.below hb).but ho (by intro hm; exact d1 hm))
  have KK := Lib.hid (fun (K : Nat) (h : W.heap.size ≤ K) => show K ∉ bs l ∧ K ∉ bs r ∧ K ≠ k from ⟨fun hm => by have := hl.lt K hm; omega, fun hm => by have := hr.lt K hm; omega, fun e => by have := hn.lt; omega⟩)
  have GB := Lib.hid (fun (w1 w2 : World) (K : Nat) (hb : Below W.heap.size W w1) (hK : w1.heap.size ≤ K) (hi : IsT w2 (ins K x l)) (ho : But (bs l) w1 w2) =>
    have hK' : W.heap.size ≤ K := Nat.le_trans hb.size hK
    have hs2 : But [k] w2 (w2.setCell ⟨k, 3, none⟩ (.pointer (ptr (ins K x l)))) := (But.refl _ _).set (by simp) _
    have hi' : IsT (w2.setCell ⟨k, 3, none⟩ (.pointer (ptr (ins K x l)))) (ins K x l) := hi.but hs2 (by
      intro y hy hm
      simp at hm
      subst hm
      rcases List.mem_cons.1 ((Itree.ins_bs K x l).mem_iff.1 hy) with e1 | e1
      · exact (KK.out K hK').2.2 e1.symm
      · exact d1 e1)
    have ho' : IsT (w2.setCell ⟨k, 3, none⟩ (.pointer (ptr (ins K x l)))) r := ((hr.below hb).but ho (by intro x hx hm; exact d5 x hm hx)).but hs2 (by intro y hy hm; simp at hm; exact d2 (hm ▸ hy))
    balanced_any k e (ins K x l) r _ _ _ ((NN.out w1 w2 hb ho).set3 (ptr (ins K x l))) hi' ho' (by
      have hp := (Itree.ins_bs K x l)
      refine (hp.append_right _).nodup_iff.2 ?_
      rw [List.cons_append, List.nodup_cons]
      exact ⟨by simp only [List.mem_append, List.mem_cons, not_or]; exact ⟨(KK.out K hK').1, (KK.out K hK').2.2, (KK.out K hK').2.1⟩, hd⟩) (by have := Itree.dep_le (ins K x l); rw [Itree.ins_sz] at this; omega) (by have := Itree.dep_le r; omega))
  clear hn hl hr hd d1 d2 d3 d4 d5 ih hlt
  have BP := Lib.hid (show ∀ K, W.heap.size ≤ K → ∀ y ∈ bs (ins K x l) ++ k :: bs r, y ∈ bs l ++ k :: bs r ∨ W.heap.size ≤ y from fun K hK y hy => by
    rcases List.mem_append.1 hy with h | h
    · rcases List.mem_cons.1 ((Itree.ins_bs K x l).mem_iff.1 h) with rfl | h
      · exact .inr hK
      · exact .inl (by simp [h])
    · exact .inl (List.mem_append_right _ h))
  generalize ptr l = p at *
  go_enter Try.func35, Try.ntmps35
  go_upto_region 4 with fail
  try rw [hW]
  go_region_held3 (fun w' => Below W.heap.size W w' ∧ w'.cell? ⟨w.heap.size, 0, none⟩ = some (.int .u64 x.a) ∧ w'.cell? ⟨w.heap.size, 1, none⟩ = some (.int .u64 x.b) ∧ w'.cell? ⟨w.heap.size, 2, none⟩ = some (.int .u64 x.n) ∧ w'.cell? ⟨k, 0, none⟩ = some (.int .u64 e.a) ∧ w'.cell? ⟨k, 1, none⟩ = some (.int .u64 e.b) ∧ w'.cell? ⟨k, 2, none⟩ = some (.int .u64 e.n)) (first | exact K0.out _ (Below.refl _ _).drew | (first | exact K0.out _ (by assumption) | (go_split_ands; exact K0.out _ (by assumption))) | fail) (first
    | (go_at_call 47; (go_split_ands; (with_reducible refine (HC.out _).mono ?_); rintro e1 w1 ⟨rfl, hb1⟩; have ch1 : Below W.heap.size W w1 := Below.trans (by assumption) (hb1.mono (Below.size (by assumption)))))
    | fail)
  all_goals (
    go_split_ands
    obtain ⟨z3, x0, x1, x2⟩ := M.out _ ch1
    have HZ := Lib.hid ch1
    clear ch1
    clear hW
    go_upto_region 5 with fail
    clear K0 HC
    go_region_with (first
      | (go_at_call 35; ((with_reducible refine (IHH.out _ ?_).mono ?_); (exact HZ.out.drew); rintro e2 w2 ⟨K, hK, rfl, hi, ho⟩; have y3 := (NN.out _ _ HZ.out.drew ho).c3; have yf := (NN.out _ _ HZ.out.drew ho).fr; have HI := Lib.hid (And.intro hK (And.intro hi ho)); clear hK hi ho))
      | fail)
    all_goals (
      go_wp2_with (go_at_call 48; ((with_reducible refine (GB.out _ _ _ HZ.out.drew HI.out.1 HI.out.2.1 HI.out.2.2).mono ?_); rintro e3 w3 ⟨rfl, hi3, ho3⟩))
      go_ret
      refine ⟨_, ?_, rfl, hi3, ?_⟩
      · exact Nat.le_trans (Nat.le_trans HW.out.size HZ.out.size) HI.out.1
      · have q1 : But (bs l ++ k :: bs r) w W := ⟨HW.out.os, HW.out.tape, HW.out.output, HW.out.size, fun i hi _ => HW.out.block i hi⟩
        have q2 := q1.on HZ.out.drew
        have q3 := q2.trans HI.out.2.2 (fun y hy => .inl (by simp [hy]))
        exact (q3.set (p := ⟨k, 3, none⟩) (by simp) _).trans ho3 (fun y hy => (BP.out _ (Nat.le_trans HZ.out.size HI.out.1) y hy).imp id (Nat.le_trans HW.out.size))))
set_option maxRecDepth 100000 in
set_option maxHeartbeats 1000000 in
theorem with_r (x : E) (k : Nat) (e : E) (l r : T) (w : World) (h : IsT w (.node k e l r)) (hd : (bs l ++ k :: bs r).Nodup) (hs : sz l + sz r ≤ 800) (hlt : ¬ Itree.lt x e)
    (ih : ∀ w : World, IsT w r → Calls Try.prog 35 #[.pointer (ptr r), entV x] w fun e w' => ∃ K, w.heap.size ≤ K ∧ e = .returned (.pointer (ptr (ins K x r))) ∧ IsT w' (ins K x r) ∧ But (bs r) w w') :
    Calls Try.prog 35 #[.pointer (some ⟨k, 0, none⟩), entV x] w fun e' w' => ∃ K, w.heap.size ≤ K ∧ e' = .returned (.pointer (ptr (bal k e l (ins K x r)))) ∧ IsT w' (bal k e l (ins K x r)) ∧ But (bs l ++ k :: bs r) w w' := by
  obtain ⟨d1, d2, d3, d4, d5⟩ := nd_mid hd
  have HE := Lib.hid (ebox_new w x 53)
  have BW := (Below.refl w.heap.size w).alloc (Nat.le_refl _) (.cells #[.int .u64 x.a, .int .u64 x.b, .int .u64 x.n] 53)
  have HK := Lib.hid h.1.lt
  replace h := h.below BW
  obtain ⟨W, hW⟩ : ∃ W, w.alloc (.cells #[.int .u64 x.a, .int .u64 x.b, .int .u64 x.n] 53) = W := ⟨_, rfl⟩
  rw [hW] at h BW HE
  obtain ⟨hn, hl, hr⟩ := h
  have HW := Lib.hid BW
  clear BW
  have HC := compare_any x e
  have hc0 := cmpE_ge hlt
  generalize cmpE x e = c at *
  replace HC := Lib.hid HC
  have K0 := Lib.hid (node_keep HE.out hn)
  have M := Lib.hid (fun w1 (h1 : Below W.heap.size W w1) => And.intro (hn.below h1).c4 (And.intro (HE.out.below h1).c0 (And.intro (HE.out.below h1).c1 (HE.out.below h1).c2)))
  have IHH := Lib.hid (fun (w1 : World) (hb : Below W.heap.size W w1) => ih w1 (hr.below hb))
  have NN := Lib.hid (fun (w1 w2 : World) (hb : Below W.heap.size W w1) (ho : But (bs r) w1 w2) => (hn.below hb).but ho (by intro hm; exact d2 hm))
  have KK := Lib.hid (fun (K : Nat) (h : W.heap.size ≤ K) => show K ∉ bs l ∧ K ∉ bs r ∧ K ≠ k from ⟨fun hm => by have := hl.lt K hm; omega, fun hm => by have := hr.lt K hm; omega, fun e => by have := hn.lt; omega⟩)
  have GB := Lib.hid (fun (w1 w2 : World) (K : Nat) (hb : Below W.heap.size W w1) (hK : w1.heap.size ≤ K) (hi : IsT w2 (ins K x r)) (ho : But (bs r) w1 w2) =>
    have hK' : W.heap.size ≤ K := Nat.le_trans hb.size hK
    have hs2 : But [k] w2 (w2.setCell ⟨k, 4, none⟩ (.pointer (ptr (ins K x r)))) := (But.refl _ _).set (by simp) _
    have hi' : IsT (w2.setCell ⟨k, 4, none⟩ (.pointer (ptr (ins K x r)))) (ins K x r) := hi.but hs2 (by
      intro y hy hm
      simp at hm
      subst hm
      rcases List.mem_cons.1 ((Itree.ins_bs K x r).mem_iff.1 hy) with e1 | e1
      · exact (KK.out K hK').2.2 e1.symm
      · exact d2 e1)
    have ho' : IsT (w2.setCell ⟨k, 4, none⟩ (.pointer (ptr (ins K x r)))) l := ((hl.below hb).but ho (by intro x hx hm; exact d5 x hx hm)).but hs2 (by intro y hy hm; simp at hm; exact d1 (hm ▸ hy))
    balanced_any k e l (ins K x r) _ _ _ ((NN.out w1 w2 hb ho).set4 (ptr (ins K x r))) ho' hi' (by
      have hp := (Itree.ins_bs K x r)
      refine ((hp.cons k).append_left (bs l)).nodup_iff.2 ?_
      have hq : (bs l ++ k :: K :: bs r).Perm (K :: (bs l ++ k :: bs r)) := by
        have := List.perm_middle (l₁ := bs l ++ [k]) (a := K) (l₂ := bs r)
        simpa using this
      refine hq.nodup_iff.2 ?_
      rw [List.nodup_cons]
      exact ⟨by simp only [List.mem_append, List.mem_cons, not_or]; exact ⟨(KK.out K hK').1, (KK.out K hK').2.2, (KK.out K hK').2.1⟩, hd⟩) (by have := Itree.dep_le l; omega) (by have := Itree.dep_le (ins K x r); rw [Itree.ins_sz] at this; omega))
  clear hn hl hr hd d1 d2 d3 d4 d5 ih hlt
  have BP := Lib.hid (show ∀ K, W.heap.size ≤ K → ∀ y ∈ bs l ++ k :: bs (ins K x r), y ∈ bs l ++ k :: bs r ∨ W.heap.size ≤ y from fun K hK y hy => by
    rcases List.mem_append.1 hy with h | h
    · exact .inl (by simp [h])
    · rcases List.mem_cons.1 h with rfl | h
      · exact .inl (by simp)
      · rcases List.mem_cons.1 ((Itree.ins_bs K x r).mem_iff.1 h) with rfl | h
        · exact .inr hK
        · exact .inl (by simp [h]))
  generalize ptr r = p at *
  go_enter Try.func35, Try.ntmps35
  go_upto_region 4 with fail
  try rw [hW]
  go_region_held3 (fun w' => Below W.heap.size W w' ∧ w'.cell? ⟨w.heap.size, 0, none⟩ = some (.int .u64 x.a) ∧ w'.cell? ⟨w.heap.size, 1, none⟩ = some (.int .u64 x.b) ∧ w'.cell? ⟨w.heap.size, 2, none⟩ = some (.int .u64 x.n) ∧ w'.cell? ⟨k, 0, none⟩ = some (.int .u64 e.a) ∧ w'.cell? ⟨k, 1, none⟩ = some (.int .u64 e.b) ∧ w'.cell? ⟨k, 2, none⟩ = some (.int .u64 e.n)) (first | exact K0.out _ (Below.refl _ _).drew | (first | exact K0.out _ (by assumption) | (go_split_ands; exact K0.out _ (by assumption))) | fail) (first
    | (go_at_call 47; (go_split_ands; (with_reducible refine (HC.out _).mono ?_); rintro e1 w1 ⟨rfl, hb1⟩; have ch1 : Below W.heap.size W w1 := Below.trans (by assumption) (hb1.mono (Below.size (by assumption)))))
    | fail)
  all_goals (
    go_split_ands
    obtain ⟨z3, x0, x1, x2⟩ := M.out _ ch1
    have HZ := Lib.hid ch1
    clear ch1
    clear hW
    go_upto_region 1 with fail
    clear K0 HC
    go_region_with (first
      | (go_at_call 35; ((with_reducible refine (IHH.out _ ?_).mono ?_); (exact HZ.out.drew); rintro e2 w2 ⟨K, hK, rfl, hi, ho⟩; have y3 := (NN.out _ _ HZ.out.drew ho).c4; have yf := (NN.out _ _ HZ.out.drew ho).fr; have HI := Lib.hid (And.intro hK (And.intro hi ho)); clear hK hi ho))
      | fail)
    all_goals (
      go_wp2_with (go_at_call 48; ((with_reducible refine (GB.out _ _ _ HZ.out.drew HI.out.1 HI.out.2.1 HI.out.2.2).mono ?_); rintro e3 w3 ⟨rfl, hi3, ho3⟩))
      go_ret
      refine ⟨_, ?_, rfl, hi3, ?_⟩
      · exact Nat.le_trans (Nat.le_trans HW.out.size HZ.out.size) HI.out.1
      · have q1 : But (bs l ++ k :: bs r) w W := ⟨HW.out.os, HW.out.tape, HW.out.output, HW.out.size, fun i hi _ => HW.out.block i hi⟩
        have q2 := q1.on HZ.out.drew
        have q3 := q2.trans HI.out.2.2 (fun y hy => .inl (by simp [hy]))
        exact (q3.set (p := ⟨k, 4, none⟩) (by simp) _).trans ho3 (fun y hy => (BP.out _ (Nat.le_trans HZ.out.size HI.out.1) y hy).imp id (Nat.le_trans HW.out.size))))
theorem with_any (x : E) (t : T) : ∀ w : World, IsT w t → (bs t).Nodup → sz t ≤ 800 → Calls Try.prog 35 #[.pointer (ptr t), entV x] w fun e w' => ∃ K, w.heap.size ≤ K ∧ e = .returned (.pointer (ptr (ins K x t))) ∧ IsT w' (ins K x t) ∧ But (bs t) w w' := by
  induction t with
  | leaf =>
    intro w _ _ _
    refine (with_leaf x w).mono ?_
    rintro e w' ⟨rfl, hn, hb⟩
    exact ⟨w.heap.size + 1, by omega, rfl, ⟨hn, trivial, trivial⟩, But.of_below hb⟩
  | node k e l r ih1 ih2 =>
    intro w h hd hs
    rw [Itree.bs_node] at hd ⊢
    rw [Itree.sz_node] at hs
    by_cases hlt : Itree.lt x e
    · simp only [ins, if_pos hlt]
      exact with_l x k e l r w h hd (by omega) hlt (fun w' hi => ih1 w' hi (nd_mid hd).2.2.1 (by omega))
    · simp only [ins, if_neg hlt]
      exact with_r x k e l r w h hd (by omega) hlt (fun w' hi => ih2 w' hi (nd_mid hd).2.2.2.1 (by omega))
end Go.Proofs.Ytbifgmamjdniaaa
