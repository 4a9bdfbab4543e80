/- Removing an entry from a tree. -/
import Derived.Test.YtbifgmamjdniaaaB8
namespace Go.Proofs.Ytbifgmamjdniaaa
open Go.RowKit
open Itree (E T dep endT bs ord sz nodes lean rotL rotR bal ins del hasT first AVL Srt eachL over)
theorem del_len (x : E) (t : T) : sz (del x t) ≤ sz t := by
  have := (Itree.del_sub x t).length_le
  rwa [Itree.bs_len, Itree.bs_len] at this
set_option maxRecDepth 100000 in
set_option maxHeartbeats 1000000 in
theorem without_l (x : E) (k : Nat) (e : E) (l r : T) (w : World) (h : IsT w (.node k e l r)) (hd : (bs l ++ k :: bs r).Nodup) (hs : sz l + sz r ≤ 800) (hlt : Itree.lt x e)
    (ih : ∀ w : World, IsT w l → Calls Try.prog 38 #[.pointer (ptr l), entV x] w fun e w' => e = .returned (.pointer (ptr (del x l))) ∧ IsT w' (del x l) ∧ But (bs l) w w') :
    Calls Try.prog 38 #[.pointer (some ⟨k, 0, none⟩), entV x] w fun e' w' => e' = .returned (.pointer (ptr (bal k e (del x l) r))) ∧ IsT w' (bal k e (del x l) r) ∧ But (bs l ++ k :: bs r) w w' := by
  obtain ⟨d1, d2, d3, d4, d5⟩ := nd_mid hd
  have HE := Lib.hid (ebox_new w x 53)
  have BW := (Below.refl w.heap.size w).alloc (Nat.le_refl _) (.cells #[.int .u64 x.a, .int .u64 x.b, .int .u64 x.n] 53)
  replace h := h.below BW
  obtain ⟨W, hW⟩ : ∃ W, w.alloc (.cells #[.int .u64 x.a, .int .u64 x.b, .int .u64 x.n] 53) = W := ⟨_, rfl⟩
  rw [hW] at h BW HE
  obtain ⟨hn, hl, hr⟩ := h
  have HW := Lib.hid BW
  clear BW
  have HC := compare_any x e
  rw [cmpE_lt hlt] at HC
  replace HC := Lib.hid HC
  have K0 := Lib.hid (node_keep HE.out hn)
  have M := Lib.hid (fun w1 (h1 : Below W.heap.size W w1) => And.intro (hn.below h1).c3 (And.intro (HE.out.below h1).c0 (And.intro (HE.out.below h1).c1 (HE.out.below h1).c2)))
  have IHH := Lib.hid (fun (w1 : World) (hb : Below W.heap.size W w1) => ih w1 (hl.below hb))
  have NN := Lib.hid (fun (w1 w2 : World) (hb : Below W.heap.size W w1) (ho : But (bs l) w1 w2) => (hn.below hb).but ho (by intro hm; exact d1 hm))
  have GB := Lib.hid (fun (w1 w2 : World) (hb : Below W.heap.size W w1) (hi : IsT w2 (del x l)) (ho : But (bs l) w1 w2) =>
    have hs2 : But [k] w2 (w2.setCell ⟨k, 3, none⟩ (.pointer (ptr (del x l)))) := (But.refl _ _).set (by simp) _
    have hi' : IsT (w2.setCell ⟨k, 3, none⟩ (.pointer (ptr (del x l)))) (del x l) := hi.but hs2 (by
      intro y hy hm
      simp at hm
      subst hm
      exact d1 ((Itree.del_sub x l).subset hy))
    have ho' : IsT (w2.setCell ⟨k, 3, none⟩ (.pointer (ptr (del x l)))) r := ((hr.below hb).but ho (by intro y hy hm; exact d5 y hm hy)).but hs2 (by intro y hy hm; simp at hm; exact d2 (hm ▸ hy))
    balanced_any k e (del x l) r _ _ _ ((NN.out w1 w2 hb ho).set3 (ptr (del x l))) hi' ho' (by
      exact hd.sublist ((Itree.del_sub x l).append_right _)) (by have := Itree.dep_le (del x l); have := del_len x l; omega) (by have := Itree.dep_le r; have := del_len x l; omega))
  have BP := Lib.hid (show ∀ y ∈ bs (del x l) ++ k :: bs r, y ∈ bs l ++ k :: bs r from fun y hy => ((Itree.del_sub x l).append_right _).subset hy)
  clear hn hl hr hd d1 d2 d3 d4 d5 ih hlt
  generalize ptr l = p at *
  go_enter Try.func38, Try.ntmps38
  go_upto_region 1 with fail
  try rw [hW]
  go_region_held3 (fun w' => Below W.heap.size W w' ∧ w'.cell? ⟨w.heap.size, 0, none⟩ = some (.int .u64 x.a) ∧ w'.cell? ⟨w.heap.size, 1, none⟩ = some (.int .u64 x.b) ∧ w'.cell? ⟨w.heap.size, 2, none⟩ = some (.int .u64 x.n) ∧ w'.cell? ⟨k, 0, none⟩ = some (.int .u64 e.a) ∧ w'.cell? ⟨k, 1, none⟩ = some (.int .u64 e.b) ∧ w'.cell? ⟨k, 2, none⟩ = some (.int .u64 e.n)) (first | exact K0.out _ (Below.refl _ _).drew | (first | exact K0.out _ (by assumption) | (go_split_ands; exact K0.out _ (by assumption))) | fail) (first
    | (go_at_call 47; (go_split_ands; (with_reducible refine (HC.out _).mono ?_); rintro e1 w1 ⟨rfl, hb1⟩; have ch1 : Below W.heap.size W w1 := Below.trans (by assumption) (hb1.mono (Below.size (by assumption)))))
    | fail)
  all_goals (
    go_split_ands
    obtain ⟨z3, x0, x1, x2⟩ := M.out _ ch1
    have HZ := Lib.hid ch1
    clear ch1
    clear hW
    go_upto_region 5 with fail
    clear K0 HC
    go_region_with (first
      | (go_at_call 38; ((with_reducible refine (IHH.out _ ?_).mono ?_); (exact HZ.out.drew); rintro e2 w2 ⟨rfl, hi, ho⟩; have y3 := (NN.out _ _ HZ.out.drew ho).c3; have yf := (NN.out _ _ HZ.out.drew ho).fr; have HI := Lib.hid (And.intro hi ho); clear hi ho))
      | fail)
    all_goals (
      go_wp2_with (go_at_call 48; ((with_reducible refine (GB.out _ _ HZ.out.drew HI.out.1 HI.out.2).mono ?_); rintro e3 w3 ⟨rfl, hi3, ho3⟩))
      go_ret
      refine ⟨rfl, hi3, ?_⟩
      have q1 : But (bs l ++ k :: bs r) w W := ⟨HW.out.os, HW.out.tape, HW.out.output, HW.out.size, fun i hi _ => HW.out.block i hi⟩
      have q2 := q1.on HZ.out.drew
      have q3 := q2.trans HI.out.2 (fun y hy => .inl (by simp [hy]))
      exact (q3.set (p := ⟨k, 3, none⟩) (by simp) _).trans ho3 (fun y hy => .inl (BP.out y hy))))
set_option maxRecDepth 100000 in
set_option maxHeartbeats 1000000 in
theorem without_r (x : E) (k : Nat) (e : E) (l r : T) (w : World) (h : IsT w (.node k e l r)) (hd : (bs l ++ k :: bs r).Nodup) (hs : sz l + sz r ≤ 800) (hlt : Itree.lt e x)
    (ih : ∀ w : World, IsT w r → Calls Try.prog 38 #[.pointer (ptr r), entV x] w fun e w' => e = .returned (.pointer (ptr (del x r))) ∧ IsT w' (del x r) ∧ But (bs r) w w') :
    Calls Try.prog 38 #[.pointer (some ⟨k, 0, none⟩), entV x] w fun e' w' => e' = .returned (.pointer (ptr (bal k e l (del x r)))) ∧ IsT w' (bal k e l (del x r)) ∧ But (bs l ++ k :: bs r) w w' := by
  obtain ⟨d1, d2, d3, d4, d5⟩ := nd_mid hd
  have HE := Lib.hid (ebox_new w x 53)
  have BW := (Below.refl w.heap.size w).alloc (Nat.le_refl _) (.cells #[.int .u64 x.a, .int .u64 x.b, .int .u64 x.n] 53)
  replace h := h.below BW
  obtain ⟨W, hW⟩ : ∃ W, w.alloc (.cells #[.int .u64 x.a, .int .u64 x.b, .int .u64 x.n] 53) = W := ⟨_, rfl⟩
  rw [hW] at h BW HE
  obtain ⟨hn, hl, hr⟩ := h
  have HW := Lib.hid BW
  clear BW
  have HC := compare_any x e
  rw [cmpE_gt hlt] at HC
  replace HC := Lib.hid HC
  have K0 := Lib.hid (node_keep HE.out hn)
  have M := Lib.hid (fun w1 (h1 : Below W.heap.size W w1) => And.intro (hn.below h1).c4 (And.intro (HE.out.below h1).c0 (And.intro (HE.out.below h1).c1 (HE.out.below h1).c2)))
  have IHH := Lib.hid (fun (w1 : World) (hb : Below W.heap.size W w1) => ih w1 (hr.below hb))
  have NN := Lib.hid (fun (w1 w2 : World) (hb : Below W.heap.size W w1) (ho : But (bs r) w1 w2) => (hn.below hb).but ho (by intro hm; exact d2 hm))
  have GB := Lib.hid (fun (w1 w2 : World) (hb : Below W.heap.size W w1) (hi : IsT w2 (del x r)) (ho : But (bs r) w1 w2) =>
    have hs2 : But [k] w2 (w2.setCell ⟨k, 4, none⟩ (.pointer (ptr (del x r)))) := (But.refl _ _).set (by simp) _
    have hi' : IsT (w2.setCell ⟨k, 4, none⟩ (.pointer (ptr (del x r)))) (del x r) := hi.but hs2 (by
      intro y hy hm
      simp at hm
      subst hm
      exact d2 ((Itree.del_sub x r).subset hy))
    have ho' : IsT (w2.setCell ⟨k, 4, none⟩ (.pointer (ptr (del x r)))) l := ((hl.below hb).but ho (by intro y hy hm; exact d5 y hy hm)).but hs2 (by intro y hy hm; simp at hm; exact d1 (hm ▸ hy))
    balanced_any k e l (del x r) _ _ _ ((NN.out w1 w2 hb ho).set4 (ptr (del x r))) ho' hi' (by
      exact hd.sublist (((Itree.del_sub x r).cons_cons k).append_left _)) (by have := Itree.dep_le l; have := del_len x r; omega) (by have := Itree.dep_le (del x r); have := del_len x r; omega))
  have BP := Lib.hid (show ∀ y ∈ bs l ++ k :: bs (del x r), y ∈ bs l ++ k :: bs r from fun y hy => (((Itree.del_sub x r).cons_cons k).append_left _).subset hy)
  clear hn hl hr hd d1 d2 d3 d4 d5 ih hlt
  generalize ptr r = p at *
  go_enter Try.func38, Try.ntmps38
  go_upto_region 1 with fail
  try rw [hW]
  go_region_held3 (fun w' => Below W.heap.size W w' ∧ w'.cell? ⟨w.heap.size, 0, none⟩ = some (.int .u64 x.a) ∧ w'.cell? ⟨w.heap.size, 1, none⟩ = some (.int .u64 x.b) ∧ w'.cell? ⟨w.heap.size, 2, none⟩ = some (.int .u64 x.n) ∧ w'.cell? ⟨k, 0, none⟩ = some (.int .u64 e.a) ∧ w'.cell? ⟨k, 1, none⟩ = some (.int .u64 e.b) ∧ w'.cell? ⟨k, 2, none⟩ = some (.int .u64 e.n)) (first | exact K0.out _ (Below.refl _ _).drew | (first | exact K0.out _ (by assumption) | (go_split_ands; exact K0.out _ (by assumption))) | fail) (first
    | (go_at_call 47; (go_split_ands; (with_reducible refine (HC.out _).mono ?_); rintro e1 w1 ⟨rfl, hb1⟩; have ch1 : Below W.heap.size W w1 := Below.trans (by assumption) (hb1.mono (Below.size (by assumption)))))
    | fail)
  all_goals (
    go_split_ands
    obtain ⟨z3, x0, x1, x2⟩ := M.out _ ch1
    have HZ := Lib.hid ch1
    clear ch1
    clear hW
    go_upto_region 7 with fail
    clear K0 HC
    go_region_with (first
      | (go_at_call 38; ((with_reducible refine (IHH.out _ ?_).mono ?_); (exact HZ.out.drew); rintro e2 w2 ⟨rfl, hi, ho⟩; have y3 := (NN.out _ _ HZ.out.drew ho).c4; have yf := (NN.out _ _ HZ.out.drew ho).fr; have HI := Lib.hid (And.intro hi ho); clear hi ho))
      | fail)
    all_goals (
      go_wp2_with (go_at_call 48; ((with_reducible refine (GB.out _ _ HZ.out.drew HI.out.1 HI.out.2).mono ?_); rintro e3 w3 ⟨rfl, hi3, ho3⟩))
      go_ret
      refine ⟨rfl, hi3, ?_⟩
      have q1 : But (bs l ++ k :: bs r) w W := ⟨HW.out.os, HW.out.tape, HW.out.output, HW.out.size, fun i hi _ => HW.out.block i hi⟩
      have q2 := q1.on HZ.out.drew
      have q3 := q2.trans HI.out.2 (fun y hy => .inl (by simp [hy]))
      exact (q3.set (p := ⟨k, 4, none⟩) (by simp) _).trans ho3 (fun y hy => .inl (BP.out y hy))))
set_option maxRecDepth 100000 in
set_option maxHeartbeats 1000000 in
theorem without_eql (x : E) (k : Nat) (r : T) (w : World) (h : IsT w (.node k x .leaf r)) :
    Calls Try.prog 38 #[.pointer (some ⟨k, 0, none⟩), entV x] w fun e' w' => e' = .returned (.pointer (ptr r)) ∧ IsT w' r ∧ Below w.heap.size w w' := by
  obtain ⟨e, he⟩ : ∃ e, e = x := ⟨_, rfl⟩
  rw [← he] at h
  have HE := Lib.hid (ebox_new w x 53)
  have BW := (Below.refl w.heap.size w).alloc (Nat.le_refl _) (.cells #[.int .u64 x.a, .int .u64 x.b, .int .u64 x.n] 53)
  replace h := h.below BW
  obtain ⟨W, hW⟩ : ∃ W, w.alloc (.cells #[.int .u64 x.a, .int .u64 x.b, .int .u64 x.n] 53) = W := ⟨_, rfl⟩
  rw [hW] at h BW HE
  obtain ⟨hn, hl, hr⟩ := h
  have HW := Lib.hid BW
  clear BW
  have HC := compare_any x e
  rw [show cmpE x e = 0 by rw [he]; exact cmpE_eq x] at HC
  clear he
  replace HC := Lib.hid HC
  have K0 := Lib.hid (node_keep HE.out hn)
  have M := Lib.hid (fun w1 (h1 : Below W.heap.size W w1) => And.intro (hn.below h1).c3 (hn.below h1).c4)
  have HR := Lib.hid hr
  clear hn hl hr
  rw [show ptr T.leaf = none from rfl] at M
  generalize ptr r = q at M ⊢
  go_enter Try.func38, Try.ntmps38
  go_upto_region 1 with fail
  try rw [hW]
  go_region_held3 (fun w' => Below W.heap.size W w' ∧ w'.cell? ⟨w.heap.size, 0, none⟩ = some (.int .u64 x.a) ∧ w'.cell? ⟨w.heap.size, 1, none⟩ = some (.int .u64 x.b) ∧ w'.cell? ⟨w.heap.size, 2, none⟩ = some (.int .u64 x.n) ∧ w'.cell? ⟨k, 0, none⟩ = some (.int .u64 e.a) ∧ w'.cell? ⟨k, 1, none⟩ = some (.int .u64 e.b) ∧ w'.cell? ⟨k, 2, none⟩ = some (.int .u64 e.n)) (first | exact K0.out _ (Below.refl _ _).drew | (first | exact K0.out _ (by assumption) | (go_split_ands; exact K0.out _ (by assumption))) | fail) (first
    | (go_at_call 47; (go_split_ands; (with_reducible refine (HC.out _).mono ?_); rintro e1 w1 ⟨rfl, hb1⟩; have ch1 : Below W.heap.size W w1 := Below.trans (by assumption) (hb1.mono (Below.size (by assumption)))))
    | fail)
  all_goals (
    go_split_ands
    obtain ⟨z3, z4⟩ := M.out _ ch1
    have HZ := Lib.hid ch1
    clear ch1 hW
    go_wp2
    go_ret
    exact ⟨rfl, HR.out.below HZ.out, HW.out.trans (HZ.out.mono HW.out.size)⟩)
set_option maxRecDepth 100000 in
set_option maxHeartbeats 1000000 in
theorem without_eqr (x : E) (k : Nat) (m : Nat) (f : E) (a b : T) (w : World) (h : IsT w (.node k x (.node m f a b) .leaf)) :
    Calls Try.prog 38 #[.pointer (some ⟨k, 0, none⟩), entV x] w fun e' w' => e' = .returned (.pointer (ptr (.node m f a b))) ∧ IsT w' (.node m f a b) ∧ Below w.heap.size w w' := by
  obtain ⟨e, he⟩ : ∃ e, e = x := ⟨_, rfl⟩
  rw [← he] at h
  have HE := Lib.hid (ebox_new w x 53)
  have BW := (Below.refl w.heap.size w).alloc (Nat.le_refl _) (.cells #[.int .u64 x.a, .int .u64 x.b, .int .u64 x.n] 53)
  replace h := h.below BW
  obtain ⟨W, hW⟩ : ∃ W, w.alloc (.cells #[.int .u64 x.a, .int .u64 x.b, .int .u64 x.n] 53) = W := ⟨_, rfl⟩
  rw [hW] at h BW HE
  obtain ⟨hn, hl, hr⟩ := h
  have HW := Lib.hid BW
  clear BW
  have HC := compare_any x e
  rw [show cmpE x e = 0 by rw [he]; exact cmpE_eq x] at HC
  clear he
  replace HC := Lib.hid HC
  have K0 := Lib.hid (node_keep HE.out hn)
  have M := Lib.hid (fun w1 (h1 : Below W.heap.size W w1) => And.intro (hn.below h1).c3 (hn.below h1).c4)
  have HR := Lib.hid hl
  clear hn hl hr
  simp only [ptr] at M ⊢
  go_enter Try.func38, Try.ntmps38
  go_upto_region 1 with fail
  try rw [hW]
  go_region_held3 (fun w' => Below W.heap.size W w' ∧ w'.cell? ⟨w.heap.size, 0, none⟩ = some (.int .u64 x.a) ∧ w'.cell? ⟨w.heap.size, 1, none⟩ = some (.int .u64 x.b) ∧ w'.cell? ⟨w.heap.size, 2, none⟩ = some (.int .u64 x.n) ∧ w'.cell? ⟨k, 0, none⟩ = some (.int .u64 e.a) ∧ w'.cell? ⟨k, 1, none⟩ = some (.int .u64 e.b) ∧ w'.cell? ⟨k, 2, none⟩ = some (.int .u64 e.n)) (first | exact K0.out _ (Below.refl _ _).drew | (first | exact K0.out _ (by assumption) | (go_split_ands; exact K0.out _ (by assumption))) | fail) (first
    | (go_at_call 47; (go_split_ands; (with_reducible refine (HC.out _).mono ?_); rintro e1 w1 ⟨rfl, hb1⟩; have ch1 : Below W.heap.size W w1 := Below.trans (by assumption) (hb1.mono (Below.size (by assumption)))))
    | fail)
  all_goals (
    go_split_ands
    obtain ⟨z3, z4⟩ := M.out _ ch1
    have HZ := Lib.hid ch1
    clear ch1 hW
    go_wp2
    go_ret
    exact ⟨rfl, HR.out.below HZ.out, HW.out.trans (HZ.out.mono HW.out.size)⟩)
set_option maxRecDepth 100000 in
set_option maxHeartbeats 2000000 in
theorem without_eqb (x : E) (k : Nat) (m : Nat) (f : E) (a b : T) (m2 : Nat) (f2 : E) (c d : T) (w : World) (h : IsT w (.node k x (.node m f a b) (.node m2 f2 c d))) (hd : (bs (.node m f a b) ++ k :: bs (.node m2 f2 c d)).Nodup) (hs : sz (.node m f a b) + sz (.node m2 f2 c d) ≤ 800)
    (ih : ∀ w : World, IsT w (.node m2 f2 c d) → Calls Try.prog 38 #[.pointer (ptr (.node m2 f2 c d)), entV (first (.node m2 f2 c d))] w fun e w' => e = .returned (.pointer (ptr (del (first (.node m2 f2 c d)) (.node m2 f2 c d)))) ∧ IsT w' (del (first (.node m2 f2 c d)) (.node m2 f2 c d)) ∧ But (bs (.node m2 f2 c d)) w w') :
    Calls Try.prog 38 #[.pointer (some ⟨k, 0, none⟩), entV x] w fun e' w' => e' = .returned (.pointer (ptr (bal k (first (.node m2 f2 c d)) (.node m f a b) (del (first (.node m2 f2 c d)) (.node m2 f2 c d))))) ∧ IsT w' (bal k (first (.node m2 f2 c d)) (.node m f a b) (del (first (.node m2 f2 c d)) (.node m2 f2 c d))) ∧ But (bs (.node m f a b) ++ k :: bs (.node m2 f2 c d)) w w' := by
  obtain ⟨e, he⟩ : ∃ e, e = x := ⟨_, rfl⟩
  rw [← he] at h
  obtain ⟨l, hle⟩ : ∃ l, l = T.node m f a b := ⟨_, rfl⟩
  obtain ⟨r, hre⟩ : ∃ r, r = T.node m2 f2 c d := ⟨_, rfl⟩
  rw [← hle, ← hre] at h hd hs ⊢
  rw [← hre] at ih
  obtain ⟨d1, d2, d3, d4, d5⟩ := nd_mid hd
  have HE := Lib.hid (ebox_new w x 53)
  have BW := (Below.refl w.heap.size w).alloc (Nat.le_refl _) (.cells #[.int .u64 x.a, .int .u64 x.b, .int .u64 x.n] 53)
  replace h := h.below BW
  obtain ⟨W, hW⟩ : ∃ W, w.alloc (.cells #[.int .u64 x.a, .int .u64 x.b, .int .u64 x.n] 53) = W := ⟨_, rfl⟩
  rw [hW] at h BW HE
  obtain ⟨hn, hl, hr⟩ := h
  have HW := Lib.hid BW
  clear BW
  have HC := compare_any x e
  rw [show cmpE x e = 0 by rw [he]; exact cmpE_eq x] at HC
  clear he
  replace HC := Lib.hid HC
  have K0 := Lib.hid (node_keep HE.out hn)
  have M := Lib.hid (fun w1 (h1 : Below W.heap.size W w1) => And.intro (hn.below h1).c3 (hn.below h1).c4)
  have N := Lib.hid (fun w1 (h1 : Below W.heap.size W w1) => And.intro (hn.below h1).c0 (And.intro (hn.below h1).c1 (And.intro (hn.below h1).c2 (hn.below h1).fr)))
  have HF := Lib.hid (fun (w1 : World) (h1 : Below W.heap.size W w1) => first_any m2 f2 c d w1 (hre ▸ hr.below h1))
  obtain ⟨mm, hmm⟩ : ∃ mm, first r = mm := ⟨_, rfl⟩
  have hmm2 : first (.node m2 f2 c d) = mm := by rw [← hre]; exact hmm
  rw [hmm2] at HF
  rw [hmm] at ih ⊢
  clear hmm hmm2
  obtain ⟨r', hr'⟩ : ∃ r', del mm r = r' := ⟨_, rfl⟩
  have hsub : List.Sublist (bs r') (bs r) := by rw [← hr']; exact Itree.del_sub _ _
  have hlen : sz r' ≤ sz r := by rw [← hr']; exact del_len _ _
  rw [hr'] at ih ⊢
  clear hr'
  have VN := Lib.hid (fun (w1 : World) (h1 : Below W.heap.size W w1) => (hn.below h1).setE mm)
  have VB := Lib.hid (fun (w1 : World) => show But [k] w1 (((w1.setCell ⟨k, 0, none⟩ (.int .u64 mm.a)).setCell ⟨k, 1, none⟩ (.int .u64 mm.b)).setCell ⟨k, 2, none⟩ (.int .u64 mm.n)) from (((But.refl _ _).set (by simp) _).set (by simp) _).set (by simp) _)
  have VR := Lib.hid (fun (w1 V : World) (h1 : Below W.heap.size W w1) (hV : But [k] w1 V) => (hr.below h1).but hV (by intro y hy hm; simp at hm; exact d2 (hm ▸ hy)))
  have VL := Lib.hid (fun (w1 V : World) (h1 : Below W.heap.size W w1) (hV : But [k] w1 V) => (hl.below h1).but hV (by intro y hy hm; simp at hm; exact d1 (hm ▸ hy)))
  have VN2 := Lib.hid (fun (V V2 : World) (hN : NodeAt V k mm (ptr l) (ptr r) (dep (.node k e l r)) (endT (.node k e l r))) (ho : But (bs r) V V2) => hN.but ho (fun hm => d2 hm))
  have GB := Lib.hid (fun (V V2 : World) (hN : NodeAt V k mm (ptr l) (ptr r) (dep (.node k e l r)) (endT (.node k e l r))) (hL : IsT V l) (hi : IsT V2 r') (ho : But (bs r) V V2) =>
    have hs2 : But [k] V2 (V2.setCell ⟨k, 4, none⟩ (.pointer (ptr r'))) := (But.refl _ _).set (by simp) _
    have hi' : IsT (V2.setCell ⟨k, 4, none⟩ (.pointer (ptr r'))) r' := hi.but hs2 (by intro y hy hm; simp at hm; subst hm; exact d2 (hsub.subset hy))
    have ho' : IsT (V2.setCell ⟨k, 4, none⟩ (.pointer (ptr r'))) l := (hL.but ho (by intro y hy hm; exact d5 y hy hm)).but hs2 (by intro y hy hm; simp at hm; exact d1 (hm ▸ hy))
    balanced_any k mm l r' _ _ _ ((VN2.out V V2 hN ho).set4 (ptr r')) ho' hi' (hd.sublist ((hsub.cons_cons k).append_left _)) (by have := Itree.dep_le l; omega) (by have := Itree.dep_le r'; omega))
  have BP := Lib.hid (show ∀ y ∈ bs l ++ k :: bs r', y ∈ bs l ++ k :: bs r from fun y hy => ((hsub.cons_cons k).append_left _).subset hy)
  have IHH := Lib.hid ih
  have hpl : ptr l = some ⟨m, 0, none⟩ := by rw [hle]; rfl
  have hpr : ptr r = some ⟨m2, 0, none⟩ := by rw [hre]; rfl
  clear hn hl hr hd d1 d2 d3 d4 d5 ih hsub hlen hs hle hre
  rw [hpl, hpr] at M
  rw [hpl, hpr] at VN
  rw [hpr] at IHH
  rw [hpl, hpr] at VN2 GB
  clear hpl hpr
  generalize (dep (.node k e l r) : Int) = dlv at *
  generalize endT (.node k e l r) = den at *
  go_enter Try.func38, Try.ntmps38
  go_upto_region 1 with fail
  try rw [hW]
  go_region_held3 (fun w' => Below W.heap.size W w' ∧ w'.cell? ⟨w.heap.size, 0, none⟩ = some (.int .u64 x.a) ∧ w'.cell? ⟨w.heap.size, 1, none⟩ = some (.int .u64 x.b) ∧ w'.cell? ⟨w.heap.size, 2, none⟩ = some (.int .u64 x.n) ∧ w'.cell? ⟨k, 0, none⟩ = some (.int .u64 e.a) ∧ w'.cell? ⟨k, 1, none⟩ = some (.int .u64 e.b) ∧ w'.cell? ⟨k, 2, none⟩ = some (.int .u64 e.n)) (first | exact K0.out _ (Below.refl _ _).drew | (first | exact K0.out _ (by assumption) | (go_split_ands; exact K0.out _ (by assumption))) | fail) (first
    | (go_at_call 47; (go_split_ands; (with_reducible refine (HC.out _).mono ?_); rintro e1 w1 ⟨rfl, hb1⟩; have ch1 : Below W.heap.size W w1 := Below.trans (by assumption) (hb1.mono (Below.size (by assumption)))))
    | fail)
  all_goals (
    go_split_ands
    obtain ⟨z3, z4⟩ := M.out _ ch1
    have HZ := Lib.hid ch1
    clear ch1 hW
    go_upto_region 3 with (go_at_call 50; ((with_reducible refine (HF.out _ HZ.out).mono ?_); rintro e2 w2 ⟨rfl, hb2⟩; replace hb2 := HZ.out.trans (hb2.mono HZ.out.size); obtain ⟨n0, n1, n2, nf⟩ := N.out _ hb2; have NV := VN.out _ hb2; have BV := VB.out w2; obtain ⟨V, hV⟩ : ∃ V, ((w2.setCell ⟨k, 0, none⟩ (.int .u64 mm.a)).setCell ⟨k, 1, none⟩ (.int .u64 mm.b)).setCell ⟨k, 2, none⟩ (.int .u64 mm.n) = V := ⟨_, rfl⟩; rw [hV] at NV BV; have HB2 := Lib.hid hb2; have HNV := Lib.hid (And.intro NV BV); clear hb2 NV BV))
    try rw [hV]
    clear hV K0 HC n0 n1 n2 nf z3 z4
    have m0 := HNV.out.1.c0
    have m1 := HNV.out.1.c1
    have m2 := HNV.out.1.c2
    have m4 := HNV.out.1.c4
    go_region_with (first
      | (go_at_call 38; ((with_reducible refine (IHH.out _ ?_).mono ?_); (exact (VR.out _ _ HB2.out HNV.out.2).below (Below.refl _ _).drew); rintro e3 w3 ⟨rfl, hi, ho⟩; have y3 := (VN2.out _ _ (HNV.out.1.below (Below.refl _ _).drew) ho).c4; have yf := (VN2.out _ _ (HNV.out.1.below (Below.refl _ _).drew) ho).fr; have HI := Lib.hid (And.intro hi ho); clear hi ho))
      | fail)
    all_goals (
      go_wp2_with (go_at_call 48; ((with_reducible refine (GB.out _ _ (HNV.out.1.below (Below.refl _ _).drew) ((VL.out _ _ HB2.out HNV.out.2).below (Below.refl _ _).drew) HI.out.1 HI.out.2).mono ?_); rintro e4 w4 ⟨rfl, hi3, ho3⟩))
      go_ret
      refine ⟨rfl, hi3, ?_⟩
      have q1 : But (bs l ++ k :: bs r) w W := ⟨HW.out.os, HW.out.tape, HW.out.output, HW.out.size, fun i hi _ => HW.out.block i hi⟩
      have q2 := (q1.on HB2.out).trans HNV.out.2 (fun y hy => .inl (by simp at hy; simp [hy]))
      have q3 := q2.drew.trans HI.out.2 (fun y hy => .inl (by simp [hy]))
      exact (q3.set (p := ⟨k, 4, none⟩) (by simp) _).trans ho3 (fun y hy => .inl (BP.out y hy))))
theorem without_any (x : E) (t : T) : ∀ w : World, IsT w t → (bs t).Nodup → sz t ≤ 800 → Srt (ord t) → x ∈ ord t → Calls Try.prog 38 #[.pointer (ptr t), entV x] w fun e w' => e = .returned (.pointer (ptr (del x t))) ∧ IsT w' (del x t) ∧ But (bs t) w w' := by
  induction t generalizing x with
  | leaf => intro w _ _ _ _ hx; simp [ord, nodes] at hx
  | node k e l r ih1 ih2 =>
    intro w h hd hs hsr hx
    rw [Itree.bs_node] at hd ⊢
    rw [Itree.sz_node] at hs
    rw [Itree.ord_node] at hsr hx
    obtain ⟨h1, h2, h3, h4, h5⟩ := Itree.srt_mid.1 hsr
    simp only [List.mem_append, List.mem_cons] at hx
    by_cases hlt : Itree.lt x e
    · have hxl : x ∈ ord l := by
        rcases hx with h | rfl | h
        · exact h
        · exact absurd hlt (Itree.lt_irrefl _)
        · exact absurd (h4 x h) (Itree.lt_asymm hlt)
      simp only [del, if_pos hlt]
      exact without_l x k e l r w h hd (by omega) hlt (fun w' hi => ih1 x w' hi (nd_mid hd).2.2.1 (by omega) h1 hxl)
    · by_cases hgt : Itree.lt e x
      · have hxr : x ∈ ord r := by
          rcases hx with h | rfl | h
          · exact absurd (h3 x h) (Itree.lt_asymm hgt)
          · exact absurd hgt (Itree.lt_irrefl _)
          · exact h
        simp only [del, if_neg hlt, if_pos hgt]
        exact without_r x k e l r w h hd (by omega) hgt (fun w' hi => ih2 x w' hi (nd_mid hd).2.2.2.1 (by omega) h2 hxr)
      · have he : x = e := by
          rcases Itree.lt_tri x e with h | h | h
          · exact absurd h hlt
          · exact h
          · exact absurd h hgt
        subst he
        simp only [del, if_neg hlt]
        cases l with
        | leaf =>
          refine (without_eql x k r w h).mono ?_
          rintro e w' ⟨rfl, hi, hb⟩
          exact ⟨rfl, hi, But.of_below hb⟩
        | node m f a b =>
          cases r with
          | leaf =>
            refine (without_eqr x k m f a b w h).mono ?_
            rintro e w' ⟨rfl, hi, hb⟩
            exact ⟨rfl, hi, But.of_below hb⟩
          | node m2 f2 c d =>
            obtain ⟨L, hL⟩ := Itree.first_ord m2 f2 c d
            exact without_eqb x k m f a b m2 f2 c d w h hd (by omega) (fun w' hi => ih2 _ w' hi (nd_mid hd).2.2.2.1 (by omega) h2 (by rw [hL]; simp))
end Go.Proofs.Ytbifgmamjdniaaa
