/- A tree as its list of entries: what each call gives, and which blocks may have changed. -/
import Derived.Test.YtbifgmamjdniaaaC6
namespace Go.Proofs.Ytbifgmamjdniaaa
open Go.RowKit
open Itree (E T dep endT bs ord sz nodes lean rotL rotR bal ins del hasT first AVL Srt eachL over)
/-- A tree at q with these entries; R: the blocks of it that its calls may write, all but q. -/
def TL (w : World) (q : Nat) (R : List Nat) (L : List E) : Prop := ∃ q2 t, Tree w q q2 t ∧ R = q2 :: bs t ∧ L = ord t ∧ ∀ e ∈ L, 0 ≤ e.a
theorem TL.but {S : List Nat} {w w' : World} {q : Nat} {R : List Nat} {L : List E} (h : TL w q R L) (hb : But S w w') (hn : ∀ k ∈ q :: R, k ∉ S) : TL w' q R L := by
  obtain ⟨q2, t, ht, rfl, rfl, h0⟩ := h
  exact ⟨q2, t, ht.but hb hn, rfl, rfl, h0⟩
theorem TL.below {w w' : World} {q : Nat} {R : List Nat} {L : List E} (h : TL w q R L) (hb : Below w.heap.size w w') : TL w' q R L := h.but (But.of_below (S := []) hb) (by simp)
theorem TL.lt {w : World} {q : Nat} {R : List Nat} {L : List E} (h : TL w q R L) : ∀ k ∈ q :: R, k < w.heap.size := by
  obtain ⟨q2, t, ht, rfl, rfl, h0⟩ := h
  exact ht.lt
theorem TL.srt {w : World} {q : Nat} {R : List Nat} {L : List E} (h : TL w q R L) : Srt L := by
  obtain ⟨q2, t, ht, rfl, rfl, h0⟩ := h
  exact ht.srt
theorem TL.may {w : World} {q : Nat} {R : List Nat} {L : List E} (h : TL w q R L) : ∀ e ∈ L, mayB e.a e.b = true := by
  obtain ⟨q2, t, ht, rfl, rfl, h0⟩ := h
  exact ht.may
theorem TL.nn {w : World} {q : Nat} {R : List Nat} {L : List E} (h : TL w q R L) : ∀ e ∈ L, 0 ≤ e.a := by
  obtain ⟨q2, t, ht, rfl, rfl, h0⟩ := h
  exact h0
/-- What comes in its place. -/
def put (x : E) (L : List E) : List E := L.takeWhile (fun e => decide (Itree.lt e x)) ++ x :: L.dropWhile (fun e => decide (Itree.lt e x))
theorem put_mem (x : E) (L : List E) (y : E) : y ∈ put x L ↔ y = x ∨ y ∈ L := by
  have h : y ∈ L ↔ y ∈ L.takeWhile (fun e => decide (Itree.lt e x)) ∨ y ∈ L.dropWhile (fun e => decide (Itree.lt e x)) := by
    rw [← List.mem_append, List.takeWhile_append_dropWhile]
  rw [put, List.mem_append, List.mem_cons, h]
  grind
theorem put_len (x : E) (L : List E) : (put x L).length = L.length + 1 := by
  have h := congrArg List.length (List.takeWhile_append_dropWhile (p := fun e => decide (Itree.lt e x)) (l := L))
  rw [List.length_append] at h
  rw [put, List.length_append, List.length_cons]
  omega
theorem put_srt (x : E) (L : List E) (h : Srt L) (hx : x ∉ L) : Srt (put x L) := by
  induction L with
  | nil => simp [put, Srt]
  | cons y L ih =>
    obtain ⟨h1, h2⟩ := List.pairwise_cons.1 h
    simp only [List.mem_cons, not_or] at hx
    by_cases hy : Itree.lt y x
    · have e : put x (y :: L) = y :: put x L := by simp [put, hy]
      rw [e]
      refine List.pairwise_cons.2 ⟨fun z hz => ?_, ih h2 hx.2⟩
      rcases (put_mem x L z).1 hz with rfl | hz
      · exact hy
      · exact h1 z hz
    · have e : put x (y :: L) = x :: y :: L := by simp [put, hy]
      rw [e]
      have hlt : Itree.lt x y := by
        rcases Itree.lt_tri x y with h | h | h
        · exact h
        · exact absurd h hx.1
        · exact absurd h hy
      refine List.pairwise_cons.2 ⟨fun z hz => ?_, h⟩
      rcases List.mem_cons.1 hz with rfl | hz
      · exact hlt
      · exact Itree.lt_trans hlt (h1 z hz)
/-- What Insert answers, and what is there then. -/
def insR (x : E) (L : List E) : Int := if mayB x.a x.b = false then 1 else if x ∈ L then 9 else 0
def insL (x : E) (L : List E) : List E := if mayB x.a x.b = false then L else if x ∈ L then L else put x L
def delR (x : E) (L : List E) : Int := if x ∈ L then 0 else 6
def delL (x : E) (L : List E) : List E := L.filter fun e => decide (e ≠ x)
theorem insL_len (x : E) (L : List E) : (insL x L).length ≤ L.length + 1 := by
  unfold insL
  split
  · omega
  · split
    · omega
    · rw [put_len]; omega
theorem delL_len (x : E) (L : List E) : (delL x L).length ≤ L.length := List.length_filter_le _ _
/-- What a call that writes the tree leaves: the tree, and all blocks but its own. -/
def Wrote (w : World) (q : Nat) (R : List Nat) (L : List E) (w' : World) : Prop := ∃ R', TL w' q R' L ∧ But R w w' ∧ ∀ y ∈ R', y ∈ R ∨ w.heap.size ≤ y
theorem TL.stay {w w' : World} {q : Nat} {R : List Nat} {L : List E} (h : TL w q R L) (hb : Below w.heap.size w w') : Wrote w q R L w' :=
  ⟨R, h.below hb, But.of_below hb, fun _ hy => .inl hy⟩
theorem cInsert (x : E) (q : Nat) (R : List Nat) (L : List E) (w : World) (h : TL w q R L) (h0 : 0 ≤ x.a) (hs : L.length ≤ 800) :
    Calls Try.prog 9 #[.pointer (some ⟨q, 0, none⟩), .agg #[.int .u64 x.a, .int .u64 x.b], .int .u64 x.n] w fun e w' => e = .returned (.int .i64 (insR x L)) ∧ Wrote w q R (insL x L) w' := by
  unfold insR insL
  cases hm : mayB x.a x.b with
  | false =>
    obtain ⟨q2, t, ht, rfl, rfl, hn⟩ := h
    refine (insert_arg x q q2 t w ht hm).mono ?_
    rintro e w' ⟨rfl, hb⟩
    exact ⟨rfl, TL.stay ⟨q2, t, ht, rfl, rfl, hn⟩ hb⟩
  | true =>
    by_cases hx : x ∈ L
    · obtain ⟨q2, t, ht, rfl, rfl, hn⟩ := h
      refine (insert_there x q q2 t w ht hm hx).mono ?_
      rintro e w' ⟨rfl, hb⟩
      simp only [Bool.true_eq_false, if_false, if_pos hx]
      exact ⟨trivial, TL.stay ⟨q2, t, ht, rfl, rfl, hn⟩ hb⟩
    · obtain ⟨q2, t, ht, rfl, rfl, hn⟩ := h
      refine (insert_ok x q q2 t w ht hm hx (by rw [← Itree.ord_len]; exact hs)).mono ?_
      rintro e w' ⟨t', rfl, ht', hb, hr, _, hmem⟩
      simp only [Bool.true_eq_false, if_false, if_neg hx]
      have e : put x (ord t) = ord t' := Itree.srt_ext (put_srt x _ ht.srt hx) ht'.srt fun y => (put_mem x _ y).trans (hmem y).symm
      refine ⟨trivial, q2 :: bs t', ⟨q2, t', ht', rfl, e, fun y hy => ?_⟩, hb, fun y hy => ?_⟩
      · rcases (put_mem x _ y).1 hy with rfl | hy
        · exact h0
        · exact hn y hy
      · rcases List.mem_cons.1 hy with rfl | hy
        · exact .inl (by simp)
        · rcases hr y hy with h | h
          · exact .inl (by simp [h])
          · exact .inr h
theorem cDelete (x : E) (q : Nat) (R : List Nat) (L : List E) (w : World) (h : TL w q R L) (hs : L.length ≤ 800) :
    Calls Try.prog 11 #[.pointer (some ⟨q, 0, none⟩), .agg #[.int .u64 x.a, .int .u64 x.b], .int .u64 x.n] w fun e w' => e = .returned (.int .i64 (delR x L)) ∧ Wrote w q R (delL x L) w' := by
  unfold delR delL
  by_cases hx : x ∈ L
  · obtain ⟨q2, t, ht, rfl, rfl, hn⟩ := h
    refine (delete_ok x q q2 t w ht hx (by rw [← Itree.ord_len]; exact hs)).mono ?_
    rintro e w' ⟨t', rfl, ht', hb, hr, _, hmem⟩
    rw [if_pos hx]
    have e : (ord t).filter (fun e => decide (e ≠ x)) = ord t' := Itree.srt_ext (ht.srt.filter _) ht'.srt fun y => by rw [List.mem_filter, hmem]; simp
    refine ⟨rfl, q2 :: bs t', ⟨q2, t', ht', rfl, e, fun y hy => hn y (List.mem_filter.1 hy).1⟩, hb, fun y hy => ?_⟩
    rcases List.mem_cons.1 hy with rfl | hy
    · exact .inl (by simp)
    · rcases hr y hy with h | h
      · exact .inl (by simp [h])
      · exact .inr h
  · obtain ⟨q2, t, ht, rfl, rfl, hn⟩ := h
    refine (delete_none x q q2 t w ht hx).mono ?_
    rintro e w' ⟨rfl, hb⟩
    rw [if_neg hx]
    have e : (ord t).filter (fun e => decide (e ≠ x)) = ord t := by
      rw [List.filter_eq_self]
      intro y hy
      simp only [decide_eq_true_eq]
      rintro rfl
      exact hx hy
    rw [e]
    exact ⟨rfl, TL.stay ⟨q2, t, ht, rfl, rfl, hn⟩ hb⟩
theorem cNew (w : World) : Calls Try.prog 8 #[] w fun e w' => ∃ q R, e = .returned (.pointer (some ⟨q, 0, none⟩)) ∧ TL w' q R [] ∧ Below w.heap.size w w' ∧ ∀ k ∈ q :: R, w.heap.size ≤ k := by
  refine (New_any w).mono ?_
  rintro e w' ⟨rfl, ht, hb⟩
  refine ⟨_, _, rfl, ⟨_, .leaf, ht, rfl, by simp [Itree.ord_leaf], by simp⟩, hb, fun k hk => ?_⟩
  simp only [Itree.bs_leaf, List.mem_cons, List.not_mem_nil, or_false] at hk
  omega
theorem cOverlap (p p' : Int) (q : Nat) (R : List Nat) (L : List E) (w : World) (h : TL w q R L) (hs : L.length ≤ 1000000) :
    Calls Try.prog 16 #[.pointer (some ⟨q, 0, none⟩), .agg #[.int .u64 p, .int .u64 p']] w fun e w' => ∃ v, e = .returned v ∧ OwnE w.heap.size w' v (if mayB p p' = true then L.filter (over p p') else []) ∧ Below w.heap.size w w' := by
  obtain ⟨q2, t, ht, rfl, rfl, hn⟩ := h
  exact Overlap_any p p' q q2 t w ht (by rw [← Itree.ord_len]; exact hs)
theorem cStab (at' : Int) (ha : 0 ≤ at' ∧ at' ≤ 18446744073709551615) (q : Nat) (R : List Nat) (L : List E) (w : World) (h : TL w q R L) (hs : L.length ≤ 1000000) :
    Calls Try.prog 14 #[.pointer (some ⟨q, 0, none⟩), .int .u64 at'] w fun e w' => ∃ v, e = .returned v ∧ OwnE w.heap.size w' v (L.filter (fun e => hasB e.a e.b at')) ∧ Below w.heap.size w w' := by
  obtain ⟨q2, t, ht, rfl, rfl, hn⟩ := h
  exact Stab_any at' ha q q2 t w ht (by rw [← Itree.ord_len]; exact hs)
theorem cAll (q : Nat) (R : List Nat) (L : List E) (w : World) (h : TL w q R L) (hs : L.length ≤ 1000000) :
    Calls Try.prog 20 #[.pointer (some ⟨q, 0, none⟩)] w fun e w' => ∃ v, e = .returned v ∧ OwnE w.heap.size w' v L ∧ Below w.heap.size w w' := by
  obtain ⟨q2, t, ht, rfl, rfl, hn⟩ := h
  exact All_any q q2 t w ht hn (by rw [← Itree.ord_len]; exact hs)
theorem cLen (q : Nat) (R : List Nat) (L : List E) (w : World) (h : TL w q R L) :
    Calls Try.prog 21 #[.pointer (some ⟨q, 0, none⟩)] w fun e w' => e = .returned (.int .i64 L.length) ∧ w = w' := by
  obtain ⟨q2, t, ht, rfl, rfl, hn⟩ := h
  rw [Itree.ord_len]
  exact Len_any q q2 t w ht
theorem cDepth (q : Nat) (R : List Nat) (L : List E) (w : World) (h : TL w q R L) (hs : L.length ≤ 1023) :
    Calls Try.prog 23 #[.pointer (some ⟨q, 0, none⟩)] w fun e w' => ∃ d : Nat, e = .returned (.int .i64 d) ∧ DeepOk d L.length ∧ w = w' := by
  obtain ⟨q2, t, ht, rfl, rfl, hn⟩ := h
  rw [Itree.ord_len] at hs ⊢
  refine (Depth_any q q2 t w ht).mono ?_
  rintro e w' ⟨rfl, rfl⟩
  exact ⟨_, rfl, deep_ok t ht.avl hs, rfl⟩
theorem copy_tree {w w1 w2 : World} {q q2 : Nat} {t t' : T} (h : Tree w q q2 t) (h1 : Below w.heap.size w w1) (hc : Cop w1 t w2 t') :
    Tree ((w2.alloc (.cells #[.pointer (ptr t'), .int .i64 (sz t)] 73)).alloc (.cells #[.pointer (some ⟨w2.heap.size, 0, none⟩)] 70)) (w2.heap.size + 1) w2.heap.size t' ∧ (∀ k ∈ (w2.heap.size + 1) :: w2.heap.size :: bs t', w.heap.size ≤ k) ∧
      Below w.heap.size w ((w2.alloc (.cells #[.pointer (ptr t'), .int .i64 (sz t)] 73)).alloc (.cells #[.pointer (some ⟨w2.heap.size, 0, none⟩)] 70)) := by
  obtain ⟨hi, hl, hg, hn, hb⟩ := hc
  have s1 := h1.size
  have s2 := hb.size
  have hbb : Below w2.heap.size w2 ((w2.alloc (.cells #[.pointer (ptr t'), .int .i64 (sz t)] 73)).alloc (.cells #[.pointer (some ⟨w2.heap.size, 0, none⟩)] 70)) := ((Below.refl _ _).alloc (Nat.le_refl _) _).alloc (by simp) _
  have lts := hi.lt
  refine ⟨⟨?_, ?_, ?_, fun o => ?_, by simp, by simp; omega, hi.below hbb, ?_, hl.facts.2.2.2.2 h.avl, by rw [hl.facts.1]; exact h.srt, by rw [hl.facts.1]; exact h.may⟩, ?_, (h1.trans (hb.mono s1)).trans (hbb.mono (by omega))⟩
  · have := World.cell?_alloc_new (w2.alloc (.cells #[.pointer (ptr t'), .int .i64 (sz t)] 73)) #[.pointer (some ⟨w2.heap.size, 0, none⟩)] 70 0
    go_simp
  · go_simp
  · rw [hl.sz]
    go_simp
  · go_simp
  · rw [List.nodup_cons, List.nodup_cons]
    refine ⟨?_, fun hm => by have := lts _ hm; omega, hn⟩
    simp only [List.mem_cons, not_or]
    exact ⟨by omega, fun hm => by have := lts _ hm; omega⟩
  · intro k hk
    simp only [List.mem_cons] at hk
    rcases hk with rfl | rfl | hk
    · omega
    · omega
    · have := hg k hk; omega
theorem tree3 {W w' : World} {q q2 : Nat} {t : T} (h : Tree W q q2 t) (h1 : Below W.heap.size W w') :
    Below W.heap.size W w' ∧ w'.cell? ⟨q, 0, none⟩ = some (.pointer (some ⟨q2, 0, none⟩)) ∧ w'.cell? ⟨q2, 0, none⟩ = some (.pointer (ptr t)) ∧ w'.cell? ⟨q2, 1, none⟩ = some (.int .i64 (sz t)) :=
  ⟨h1, (h.below h1).c0, (h.below h1).d0, (h.below h1).d1⟩
set_option maxRecDepth 100000 in
set_option maxHeartbeats 1000000 in
theorem Copy_any (q q2 : Nat) (t : T) (w : World) (h : Tree w q q2 t) :
    Calls Try.prog 18 #[.pointer (some ⟨q, 0, none⟩)] w fun e w' => ∃ q' q2' t', e = .returned (.pointer (some ⟨q', 0, none⟩)) ∧ Tree w' q' q2' t' ∧ ord t' = ord t ∧ (∀ k ∈ q' :: q2' :: bs t', w.heap.size ≤ k) ∧ Below w.heap.size w w' := by
  have MA := Lib.hid (made_any q q2 w h.c0)
  have K0 := Lib.hid (fun (w1 : World) (hb : Below w.heap.size w w1) => tree3 h hb)
  have GC := Lib.hid (fun (w1 : World) (hb : Below w.heap.size w w1) => copy_any t w1 (h.it.below hb))
  have CT := Lib.hid (fun (w1 w2 : World) (t' : T) (h1 : Below w.heap.size w w1) (hc : Cop w1 t w2 t') => copy_tree h h1 hc)
  clear h
  generalize ptr t = pt at *
  generalize (sz t : Int) = n at *
  go_enter Try.func18, Try.ntmps18
  go_upto_region 5 with (first | (go_at_call 33; ((with_reducible refine (MA.out).mono ?_); rintro e0 w0 ⟨rfl, rfl⟩)) | fail)
  clear MA
  go_region_held3 (fun w' => Below w.heap.size w w' ∧ w'.cell? ⟨q, 0, none⟩ = some (.pointer (some ⟨q2, 0, none⟩)) ∧ w'.cell? ⟨q2, 0, none⟩ = some (.pointer pt) ∧ w'.cell? ⟨q2, 1, none⟩ = some (.int .i64 n)) (first | exact K0.out _ (Below.refl _ _).drew | (first | exact K0.out _ (by assumption) | (go_split_ands; exact K0.out _ (by (first | assumption | exact Below.alloc (by assumption) (by (first | exact (Below.size (by assumption)) | (simp; done) | fail)) _ | exact Below.alloc (Below.alloc (by assumption) (by (first | exact (Below.size (by assumption)) | (simp; done) | fail)) _) (by (first | exact (Below.size (by assumption)) | (have := Below.size (by assumption); simp; omega) | fail)) _ | fail))) | fail) | fail) (first
    | (go_at_call 42; (go_split_ands; (with_reducible refine (GC.out _ (by assumption)).mono ?_); rintro e2 w2 ⟨t', rfl, hc2⟩; have ch2 : Below w.heap.size w w2 := Below.trans (by assumption) (hc2.2.2.2.2.mono (Below.size (by assumption))); have HC := Lib.hid hc2; clear hc2))
    | fail)
  all_goals (
    obtain ⟨r1, r2, r3⟩ := CT.out _ _ _ (Below.refl _ _).drew HC.out
    have HR := Lib.hid (And.intro r1 (And.intro r2 r3))
    have HO := Lib.hid (HC.out.2.1.facts.1)
    clear r1 r2 r3 ch2 HC CT K0 GC
    go_wp2
    go_ret
    exact ⟨_, _, t', rfl, HR.out.1, HO.out, HR.out.2.1, HR.out.2.2⟩)
theorem cCopy (q : Nat) (R : List Nat) (L : List E) (w : World) (h : TL w q R L) :
    Calls Try.prog 18 #[.pointer (some ⟨q, 0, none⟩)] w fun e w' => ∃ q' R', e = .returned (.pointer (some ⟨q', 0, none⟩)) ∧ TL w' q' R' L ∧ (∀ k ∈ q' :: R', w.heap.size ≤ k) ∧ Below w.heap.size w w' := by
  obtain ⟨q2, t, ht, rfl, rfl, hn⟩ := h
  refine (Copy_any q q2 t w ht).mono ?_
  rintro e w' ⟨q', q2', t', rfl, h1, h2, h3, h4⟩
  exact ⟨_, _, rfl, ⟨_, _, h1, rfl, h2.symm, hn⟩, h3, h4⟩
end Go.Proofs.Ytbifgmamjdniaaa
