/- Insert, Delete, Copy. -/
import Derived.Test.YtbifgmamjdniaaaC2
namespace Go.Proofs.Ytbifgmamjdniaaa
open Go.RowKit
open Itree (E T dep endT bs ord sz nodes lean rotL rotR bal ins del hasT first AVL Srt eachL over)
/-- The world in which Insert and Delete ask: the period and the entry in boxes of their own. -/
structure Asked (w W : World) (x : E) : Prop where
  pb : Box W w.heap.size x.a x.b
  eb : EBox W (w.heap.size + 1) x
  below : Below w.heap.size w W
theorem asked (w : World) (x : E) : Asked w ((w.alloc (.cells #[.int .u64 x.a, .int .u64 x.b] 32)).alloc (.cells #[.int .u64 x.a, .int .u64 x.b, .int .u64 x.n] 53)) x :=
  ⟨Box.alloc (box_at w x.a x.b 32 _ rfl) _, ebox_at _ x _ _ (by simp), ((Below.refl w.heap.size w).alloc (Nat.le_refl _) _).alloc (by simp) _⟩
theorem tree6 {W w' : World} {q q2 g : Nat} {t : T} {x : E} (h : Tree W q q2 t) (hb : EBox W g x) (h1 : Below W.heap.size W w') :
    Below W.heap.size W w' ∧ w'.cell? ⟨q, 0, none⟩ = some (.pointer (some ⟨q2, 0, none⟩)) ∧ w'.cell? ⟨q2, 0, none⟩ = some (.pointer (ptr t)) ∧ w'.cell? ⟨g, 0, none⟩ = some (.int .u64 x.a) ∧ w'.cell? ⟨g, 1, none⟩ = some (.int .u64 x.b) ∧ w'.cell? ⟨g, 2, none⟩ = some (.int .u64 x.n) :=
  ⟨h1, (h.below h1).c0, (h.below h1).d0, (hb.below h1).c0, (hb.below h1).c1, (hb.below h1).c2⟩
set_option maxRecDepth 100000 in
set_option maxHeartbeats 1000000 in
theorem insert_arg (x : E) (q q2 : Nat) (t : T) (w : World) (h : Tree w q q2 t) (hm : mayB x.a x.b = false) :
    Calls Try.prog 9 #[.pointer (some ⟨q, 0, none⟩), .agg #[.int .u64 x.a, .int .u64 x.b], .int .u64 x.n] w fun e w' => e = .returned (.int .i64 1) ∧ Below w.heap.size w w' := by
  have HA := asked w x
  obtain ⟨W, hW⟩ : ∃ W, ((w.alloc (.cells #[.int .u64 x.a, .int .u64 x.b] 32)).alloc (.cells #[.int .u64 x.a, .int .u64 x.b, .int .u64 x.n] 53)) = W := ⟨_, rfl⟩
  rw [hW] at HA
  have h' := h.below HA.below
  have HA0 := Lib.hid HA
  have pb0 := HA.pb.c0
  have pb1 := HA.pb.c1
  have TW := Lib.hid h'
  have qc := h'.c0
  have MA := Lib.hid (made_any q q2 W h'.c0)
  clear HA h h'
  have MY := May_any x.a x.b
  rw [hm] at MY
  replace MY := Lib.hid MY
  clear hm
  go_enter Try.func9, Try.ntmps9
  go_upto_region 2 with fail
  try rw [hW]
  clear hW
  go_wp2_with (first | (go_at_call 33; ((with_reducible refine (MA.out).mono ?_); rintro e0 w0 ⟨rfl, rfl⟩)) | (go_at_call 24; ((with_reducible refine (MY.out _).mono ?_); rintro e1 w1 ⟨rfl, hb1⟩; have ch1 := Lib.hid hb1; clear hb1)) | fail)
  go_ret
  exact ⟨rfl, HA0.out.below.trans (ch1.out.mono HA0.out.below.size)⟩
set_option maxRecDepth 100000 in
set_option maxHeartbeats 1000000 in
theorem insert_there (x : E) (q q2 : Nat) (t : T) (w : World) (h : Tree w q q2 t) (hm : mayB x.a x.b = true) (hx : x ∈ ord t) :
    Calls Try.prog 9 #[.pointer (some ⟨q, 0, none⟩), .agg #[.int .u64 x.a, .int .u64 x.b], .int .u64 x.n] w fun e w' => e = .returned (.int .i64 9) ∧ Below w.heap.size w w' := by
  have HA := asked w x
  obtain ⟨W, hW⟩ : ∃ W, ((w.alloc (.cells #[.int .u64 x.a, .int .u64 x.b] 32)).alloc (.cells #[.int .u64 x.a, .int .u64 x.b, .int .u64 x.n] 53)) = W := ⟨_, rfl⟩
  rw [hW] at HA
  have h' := h.below HA.below
  have HA0 := Lib.hid HA
  have pb0 := HA.pb.c0
  have pb1 := HA.pb.c1
  have TW := Lib.hid h'
  have qc := h'.c0
  have MA := Lib.hid (made_any q q2 W h'.c0)
  clear HA h h'
  have MY := May_any x.a x.b
  rw [hm] at MY
  replace MY := Lib.hid MY
  clear hm
  have HH := Lib.hid (fun (w1 : World) (hb : Below W.heap.size W w1) => has_any x t w1 (TW.out.it.below hb))
  have K0 := Lib.hid (fun (w1 : World) (hb : Below W.heap.size W w1) => tree6 TW.out HA0.out.eb hb)
  rw [(Itree.hasT_iff x t TW.out.srt).2 hx] at HH
  clear hx TW
  generalize ptr t = p at *
  go_enter Try.func9, Try.ntmps9
  go_upto_region 2 with fail
  try rw [hW]
  clear hW
  go_upto_region 6 with (first | (go_at_call 33; ((with_reducible refine (MA.out).mono ?_); rintro e0 w0 ⟨rfl, rfl⟩)) | (go_at_call 24; ((with_reducible refine (MY.out _).mono ?_); rintro e1 w1 ⟨rfl, hb1⟩; have ch1 := Lib.hid hb1; clear hb1)) | fail)
  go_region_held3 (fun w' => Below W.heap.size W w' ∧ w'.cell? ⟨q, 0, none⟩ = some (.pointer (some ⟨q2, 0, none⟩)) ∧ w'.cell? ⟨q2, 0, none⟩ = some (.pointer p) ∧ w'.cell? ⟨w.heap.size + 1, 0, none⟩ = some (.int .u64 x.a) ∧ w'.cell? ⟨w.heap.size + 1, 1, none⟩ = some (.int .u64 x.b) ∧ w'.cell? ⟨w.heap.size + 1, 2, none⟩ = some (.int .u64 x.n)) (first | exact K0.out _ ch1.out.drew | (first | exact K0.out _ (by assumption) | (go_split_ands; exact K0.out _ (by assumption))) | fail) (first
    | (go_at_call 34; (go_split_ands; (with_reducible refine (HH.out _ (by assumption)).mono ?_); rintro e2 w2 ⟨rfl, hb2⟩; have ch2 : Below W.heap.size W w2 := Below.trans (by assumption) (hb2.mono (Below.size (by assumption)))))
    | fail)
  all_goals (go_split_ands; go_wp2; go_ret; exact ⟨rfl, HA0.out.below.trans (ch2.mono HA0.out.below.size)⟩)
set_option maxRecDepth 100000 in
set_option maxHeartbeats 1000000 in
theorem insert_ok (x : E) (q q2 : Nat) (t : T) (w : World) (h : Tree w q q2 t) (hm : mayB x.a x.b = true) (hx : x ∉ ord t) (hs : sz t ≤ 800) :
    Calls Try.prog 9 #[.pointer (some ⟨q, 0, none⟩), .agg #[.int .u64 x.a, .int .u64 x.b], .int .u64 x.n] w fun e w' => ∃ t', e = .returned (.int .i64 0) ∧ Tree w' q q2 t' ∧ But (q2 :: bs t) w w' ∧ (∀ y ∈ bs t', y ∈ bs t ∨ w.heap.size ≤ y) ∧ sz t' = sz t + 1 ∧ ∀ y, y ∈ ord t' ↔ y = x ∨ y ∈ ord t := by
  have HA := asked w x
  obtain ⟨W, hW⟩ : ∃ W, ((w.alloc (.cells #[.int .u64 x.a, .int .u64 x.b] 32)).alloc (.cells #[.int .u64 x.a, .int .u64 x.b, .int .u64 x.n] 53)) = W := ⟨_, rfl⟩
  rw [hW] at HA
  have h' := h.below HA.below
  have HA0 := Lib.hid HA
  have pb0 := HA.pb.c0
  have pb1 := HA.pb.c1
  have TW := Lib.hid h'
  have qc := h'.c0
  have MA := Lib.hid (made_any q q2 W h'.c0)
  clear HA h h'
  have MY := May_any x.a x.b
  rw [hm] at MY
  replace MY := Lib.hid MY
  have HH := Lib.hid (fun (w1 : World) (hb : Below W.heap.size W w1) => has_any x t w1 (TW.out.it.below hb))
  have K0 := Lib.hid (fun (w1 : World) (hb : Below W.heap.size W w1) => tree6 TW.out HA0.out.eb hb)
  have GS := Lib.hid (fun (w3 w4 : World) (K : Nat) (hb : Below W.heap.size W w3) (hK : w3.heap.size ≤ K) (hi : IsT w4 (ins K x t)) (ho : But (bs t) w3 w4) => ins_step (TW.out.below hb) hx hm hK hi ho)
  have GW := Lib.hid (fun (w3 : World) (hb : Below W.heap.size W w3) => with_any x t w3 (TW.out.it.below hb) (List.nodup_cons.1 (List.nodup_cons.1 TW.out.nd).2).2 hs)
  have hw : IntKind.i64.wrap ((sz t : Int) + 1) = (sz t : Int) + 1 := by rw [IntKind.wrap_i64]; omega
  have hf : hasT x t = false := by
    rw [← Bool.not_eq_true, Itree.hasT_iff x t TW.out.srt]
    exact hx
  rw [hf] at HH
  clear hx hm hf hs
  go_enter Try.func9, Try.ntmps9
  go_upto_region 2 with fail
  try rw [hW]
  clear hW
  go_upto_region 6 with (first | (go_at_call 33; ((with_reducible refine (MA.out).mono ?_); rintro e0 w0 ⟨rfl, rfl⟩)) | (go_at_call 24; ((with_reducible refine (MY.out _).mono ?_); rintro e1 w1 ⟨rfl, hb1⟩; have ch1 := Lib.hid hb1; clear hb1)) | fail)
  generalize hp : ptr t = p at *
  go_region_held3 (fun w' => Below W.heap.size W w' ∧ w'.cell? ⟨q, 0, none⟩ = some (.pointer (some ⟨q2, 0, none⟩)) ∧ w'.cell? ⟨q2, 0, none⟩ = some (.pointer p) ∧ w'.cell? ⟨w.heap.size + 1, 0, none⟩ = some (.int .u64 x.a) ∧ w'.cell? ⟨w.heap.size + 1, 1, none⟩ = some (.int .u64 x.b) ∧ w'.cell? ⟨w.heap.size + 1, 2, none⟩ = some (.int .u64 x.n)) (first | exact K0.out _ ch1.out.drew | (first | exact K0.out _ (by assumption) | (go_split_ands; exact K0.out _ (by assumption))) | fail) (first
    | (go_at_call 34; (go_split_ands; (with_reducible refine (HH.out _ (by assumption)).mono ?_); rintro e2 w2 ⟨rfl, hb2⟩; have ch2 : Below W.heap.size W w2 := Below.trans (by assumption) (hb2.mono (Below.size (by assumption)))))
    | fail)
  all_goals (
    go_split_ands
    have CH := Lib.hid ch2
    clear ch2 qc
    go_upto_region 8 with fail
    clear MY MA HH hb2
    obtain ⟨_, z0, z1, z2, z3, z4⟩ := K0.out _ CH.out
    clear K0
    have HP := Lib.hid hp
    clear hp
    go_region_with (first
      | (go_at_call 35; ((with_reducible refine (GW.out _ ?_).mono ?_); (exact CH.out.drew); rintro e4 w4 ⟨K, hK, rfl, hi, ho⟩; obtain ⟨fq, f0, ff, hV⟩ := GS.out _ _ _ CH.out.drew hK hi ho; rw [HP.out] at f0; obtain ⟨V, hVe⟩ : ∃ V, w4.setCell ⟨q2, 0, none⟩ (.pointer (ptr (ins K x t))) = V := ⟨_, rfl⟩; obtain ⟨g0, g1, gf, hV2⟩ := hV V hVe; obtain ⟨V2, hV2e⟩ : ∃ V2, V.setCell ⟨q2, 1, none⟩ (.int .i64 ((sz t : Int) + 1)) = V2 := ⟨_, rfl⟩; have HT := Lib.hid (And.intro hK (hV2 V2 hV2e)); clear hi ho hV2 hV hK))
      | fail)
    all_goals (
      try rw [hVe]
      go_wp2
      try rw [hV2e]
      go_ret
      refine ⟨_, rfl, HT.out.2.1, ?_, ?_, ?_, ?_⟩
      · exact ((But.of_below (HA0.out.below.trans (CH.out.drew.mono HA0.out.below.size))).trans HT.out.2.2 (fun y hy => .inl hy))
      · intro y hy
        rcases List.mem_cons.1 ((Itree.ins_bs _ x t).mem_iff.1 hy) with rfl | h1
        · exact .inr (Nat.le_trans HA0.out.below.size (Nat.le_trans CH.out.drew.size HT.out.1))
        · exact .inl h1
      · exact Itree.ins_sz _ x t
      · exact fun y => Itree.ins_mem _ x t y))
set_option maxRecDepth 100000 in
set_option maxHeartbeats 1000000 in
theorem delete_none (x : E) (q q2 : Nat) (t : T) (w : World) (h : Tree w q q2 t) (hx : x ∉ ord t) :
    Calls Try.prog 11 #[.pointer (some ⟨q, 0, none⟩), .agg #[.int .u64 x.a, .int .u64 x.b], .int .u64 x.n] w fun e w' => e = .returned (.int .i64 6) ∧ Below w.heap.size w w' := by
  have HA := asked w x
  obtain ⟨W, hW⟩ : ∃ W, ((w.alloc (.cells #[.int .u64 x.a, .int .u64 x.b] 32)).alloc (.cells #[.int .u64 x.a, .int .u64 x.b, .int .u64 x.n] 53)) = W := ⟨_, rfl⟩
  rw [hW] at HA
  have h' := h.below HA.below
  have HA0 := Lib.hid HA
  have pb0 := HA.pb.c0
  have pb1 := HA.pb.c1
  have TW := Lib.hid h'
  have qc := h'.c0
  have MA := Lib.hid (made_any q q2 W h'.c0)
  clear HA h h'
  have HH := Lib.hid (fun (w1 : World) (hb : Below W.heap.size W w1) => has_any x t w1 (TW.out.it.below hb))
  have K0 := Lib.hid (fun (w1 : World) (hb : Below W.heap.size W w1) => tree6 TW.out HA0.out.eb hb)
  have hf : hasT x t = false := by
    rw [← Bool.not_eq_true, Itree.hasT_iff x t TW.out.srt]
    exact hx
  rw [hf] at HH
  clear hx hf TW
  generalize ptr t = p at *
  go_enter Try.func11, Try.ntmps11
  go_upto_region 2 with fail
  try rw [hW]
  clear hW
  go_upto_region 4 with (first | (go_at_call 33; ((with_reducible refine (MA.out).mono ?_); rintro e0 w0 ⟨rfl, rfl⟩)) | fail)
  go_region_held3 (fun w' => Below W.heap.size W w' ∧ w'.cell? ⟨q, 0, none⟩ = some (.pointer (some ⟨q2, 0, none⟩)) ∧ w'.cell? ⟨q2, 0, none⟩ = some (.pointer p) ∧ w'.cell? ⟨w.heap.size + 1, 0, none⟩ = some (.int .u64 x.a) ∧ w'.cell? ⟨w.heap.size + 1, 1, none⟩ = some (.int .u64 x.b) ∧ w'.cell? ⟨w.heap.size + 1, 2, none⟩ = some (.int .u64 x.n)) (first | exact K0.out _ (Below.refl _ _).drew | (first | exact K0.out _ (by assumption) | (go_split_ands; exact K0.out _ (by assumption))) | fail) (first
    | (go_at_call 34; (go_split_ands; (with_reducible refine (HH.out _ (by assumption)).mono ?_); rintro e2 w2 ⟨rfl, hb2⟩; have ch2 : Below W.heap.size W w2 := Below.trans (by assumption) (hb2.mono (Below.size (by assumption)))))
    | fail)
  all_goals (go_split_ands; go_wp2; go_ret; exact ⟨rfl, HA0.out.below.trans (ch2.mono HA0.out.below.size)⟩)
set_option maxRecDepth 100000 in
set_option maxHeartbeats 1000000 in
theorem delete_ok (x : E) (q q2 : Nat) (t : T) (w : World) (h : Tree w q q2 t) (hx : x ∈ ord t) (hs : sz t ≤ 800) :
    Calls Try.prog 11 #[.pointer (some ⟨q, 0, none⟩), .agg #[.int .u64 x.a, .int .u64 x.b], .int .u64 x.n] w fun e w' => ∃ t', e = .returned (.int .i64 0) ∧ Tree w' q q2 t' ∧ But (q2 :: bs t) w w' ∧ (∀ y ∈ bs t', y ∈ bs t ∨ w.heap.size ≤ y) ∧ sz t' + 1 = sz t ∧ ∀ y, y ∈ ord t' ↔ y ∈ ord t ∧ y ≠ x := by
  have HA := asked w x
  obtain ⟨W, hW⟩ : ∃ W, ((w.alloc (.cells #[.int .u64 x.a, .int .u64 x.b] 32)).alloc (.cells #[.int .u64 x.a, .int .u64 x.b, .int .u64 x.n] 53)) = W := ⟨_, rfl⟩
  rw [hW] at HA
  have h' := h.below HA.below
  have HA0 := Lib.hid HA
  have pb0 := HA.pb.c0
  have pb1 := HA.pb.c1
  have TW := Lib.hid h'
  have qc := h'.c0
  have MA := Lib.hid (made_any q q2 W h'.c0)
  clear HA h h'
  have HH := Lib.hid (fun (w1 : World) (hb : Below W.heap.size W w1) => has_any x t w1 (TW.out.it.below hb))
  have K0 := Lib.hid (fun (w1 : World) (hb : Below W.heap.size W w1) => tree6 TW.out HA0.out.eb hb)
  have GS := Lib.hid (fun (w3 w4 : World) (hb : Below W.heap.size W w3) (hi : IsT w4 (del x t)) (ho : But (bs t) w3 w4) => del_step (TW.out.below hb) hx hi ho)
  have GW := Lib.hid (fun (w3 : World) (hb : Below W.heap.size W w3) => without_any x t w3 (TW.out.it.below hb) (List.nodup_cons.1 (List.nodup_cons.1 TW.out.nd).2).2 hs TW.out.srt hx)
  have hw : IntKind.i64.wrap ((sz t : Int) - 1) = (sz t : Int) - 1 := by rw [IntKind.wrap_i64]; omega
  rw [(Itree.hasT_iff x t TW.out.srt).2 hx] at HH
  have HS := Lib.hid (And.intro (Itree.del_sz x t TW.out.srt hx) (Itree.del_mem x t TW.out.srt hx))
  clear hx hs
  go_enter Try.func11, Try.ntmps11
  go_upto_region 2 with fail
  try rw [hW]
  clear hW
  go_upto_region 4 with (first | (go_at_call 33; ((with_reducible refine (MA.out).mono ?_); rintro e0 w0 ⟨rfl, rfl⟩)) | fail)
  generalize hp : ptr t = p at *
  go_region_held3 (fun w' => Below W.heap.size W w' ∧ w'.cell? ⟨q, 0, none⟩ = some (.pointer (some ⟨q2, 0, none⟩)) ∧ w'.cell? ⟨q2, 0, none⟩ = some (.pointer p) ∧ w'.cell? ⟨w.heap.size + 1, 0, none⟩ = some (.int .u64 x.a) ∧ w'.cell? ⟨w.heap.size + 1, 1, none⟩ = some (.int .u64 x.b) ∧ w'.cell? ⟨w.heap.size + 1, 2, none⟩ = some (.int .u64 x.n)) (first | exact K0.out _ (Below.refl _ _).drew | (first | exact K0.out _ (by assumption) | (go_split_ands; exact K0.out _ (by assumption))) | fail) (first
    | (go_at_call 34; (go_split_ands; (with_reducible refine (HH.out _ (by assumption)).mono ?_); rintro e2 w2 ⟨rfl, hb2⟩; have ch2 : Below W.heap.size W w2 := Below.trans (by assumption) (hb2.mono (Below.size (by assumption)))))
    | fail)
  all_goals (
    go_split_ands
    have CH := Lib.hid ch2
    clear ch2 qc
    go_upto_region 6 with fail
    clear MA HH hb2
    obtain ⟨_, z0, z1, z2, z3, z4⟩ := K0.out _ CH.out
    clear K0
    have HP := Lib.hid hp
    clear hp
    go_region_with (first
      | (go_at_call 38; ((with_reducible refine (GW.out _ ?_).mono ?_); (exact CH.out.drew); rintro e4 w4 ⟨rfl, hi, ho⟩; obtain ⟨fq, f0, ff, hV⟩ := GS.out _ _ CH.out.drew hi ho; rw [HP.out] at f0; obtain ⟨V, hVe⟩ : ∃ V, w4.setCell ⟨q2, 0, none⟩ (.pointer (ptr (del x t))) = V := ⟨_, rfl⟩; obtain ⟨g0, g1, gf, hV2⟩ := hV V hVe; obtain ⟨V2, hV2e⟩ : ∃ V2, V.setCell ⟨q2, 1, none⟩ (.int .i64 ((sz t : Int) - 1)) = V2 := ⟨_, rfl⟩; have HT := Lib.hid (hV2 V2 hV2e); clear hi ho hV2 hV))
      | fail)
    all_goals (
      try rw [hVe]
      go_wp2
      try rw [hV2e]
      go_ret
      refine ⟨_, rfl, HT.out.1, ?_, ?_, HS.out.1, HS.out.2⟩
      · exact ((But.of_below (HA0.out.below.trans (CH.out.drew.mono HA0.out.below.size))).trans HT.out.2 (fun y hy => .inl hy))
      · exact fun y hy => .inl ((Itree.del_sub x t).subset hy)))
set_option maxHeartbeats 1000000 in
theorem insert_nil (a b n : Int) (w : World) : Calls Try.prog 9 #[.pointer none, .agg #[.int .u64 a, .int .u64 b], .int .u64 n] w fun e w' => e = .returned (.int .i64 2) ∧ Below w.heap.size w w' := by
  have HM := Lib.hid made_nil
  have HB := Lib.hid (asked w ⟨a, b, n⟩).below
  obtain ⟨W, hW⟩ : ∃ W, ((w.alloc (.cells #[.int .u64 a, .int .u64 b] 32)).alloc (.cells #[.int .u64 a, .int .u64 b, .int .u64 n] 53)) = W := ⟨_, rfl⟩
  simp only at HB
  rw [hW] at HB
  go_enter Try.func9, Try.ntmps9
  go_upto_region 2 with fail
  try rw [hW]
  go_wp2_with (go_at_call 33; ((with_reducible refine (HM.out _).mono ?_); rintro e w1 ⟨rfl, rfl⟩))
  go_ret
  exact ⟨rfl, HB.out⟩
set_option maxHeartbeats 1000000 in
theorem delete_nil (a b n : Int) (w : World) : Calls Try.prog 11 #[.pointer none, .agg #[.int .u64 a, .int .u64 b], .int .u64 n] w fun e w' => e = .returned (.int .i64 2) ∧ Below w.heap.size w w' := by
  have HM := Lib.hid made_nil
  have HB := Lib.hid (asked w ⟨a, b, n⟩).below
  obtain ⟨W, hW⟩ : ∃ W, ((w.alloc (.cells #[.int .u64 a, .int .u64 b] 32)).alloc (.cells #[.int .u64 a, .int .u64 b, .int .u64 n] 53)) = W := ⟨_, rfl⟩
  simp only at HB
  rw [hW] at HB
  go_enter Try.func11, Try.ntmps11
  go_upto_region 2 with fail
  try rw [hW]
  go_wp2_with (go_at_call 33; ((with_reducible refine (HM.out _).mono ?_); rintro e w1 ⟨rfl, rfl⟩))
  go_ret
  exact ⟨rfl, HB.out⟩
set_option maxHeartbeats 1000000 in
theorem insert_zero (a b n : Int) (q : Nat) (w : World) (h : w.cell? ⟨q, 0, none⟩ = some (.pointer none)) : Calls Try.prog 9 #[.pointer (some ⟨q, 0, none⟩), .agg #[.int .u64 a, .int .u64 b], .int .u64 n] w fun e w' => e = .returned (.int .i64 2) ∧ Below w.heap.size w w' := by
  have hq : q < w.heap.size := World.block_lt_of_cell? _ _ h
  have HB := Lib.hid (asked w ⟨a, b, n⟩).below
  obtain ⟨W, hW⟩ : ∃ W, ((w.alloc (.cells #[.int .u64 a, .int .u64 b] 32)).alloc (.cells #[.int .u64 a, .int .u64 b, .int .u64 n] 53)) = W := ⟨_, rfl⟩
  simp only at HB
  rw [hW] at HB
  have HM := Lib.hid (made_zero q W ((HB.out.cell (p := ⟨q, 0, none⟩) hq).trans h))
  go_enter Try.func9, Try.ntmps9
  go_upto_region 2 with fail
  try rw [hW]
  go_wp2_with (go_at_call 33; ((with_reducible refine (HM.out).mono ?_); rintro e w1 ⟨rfl, rfl⟩))
  go_ret
  exact ⟨rfl, HB.out⟩
end Go.Proofs.Ytbifgmamjdniaaa
