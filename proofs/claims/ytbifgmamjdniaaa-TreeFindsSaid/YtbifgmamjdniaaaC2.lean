/- A tree in memory, and what the calls that write it need. -/
import Derived.Test.YtbifgmamjdniaaaB9
import Derived.Test.YtbifgmamjdniaaaC1
namespace Go.Proofs.Ytbifgmamjdniaaa
open Go.RowKit
open Itree (E T dep endT bs ord sz nodes lean rotL rotR bal ins del hasT first AVL Srt eachL over)
/-- A tree that New made: its block, that of what it keeps, its nodes. -/
structure Tree (w : World) (q q2 : Nat) (t : T) : Prop where
  c0 : w.cell? ⟨q, 0, none⟩ = some (.pointer (some ⟨q2, 0, none⟩))
  d0 : w.cell? ⟨q2, 0, none⟩ = some (.pointer (ptr t))
  d1 : w.cell? ⟨q2, 1, none⟩ = some (.int .i64 (sz t))
  fr : ∀ o, w.frozen? ⟨q2, o, none⟩ = false
  lq : q < w.heap.size
  lq2 : q2 < w.heap.size
  it : IsT w t
  nd : (q :: q2 :: bs t).Nodup
  avl : AVL t
  srt : Srt (ord t)
  may : ∀ e ∈ ord t, mayB e.a e.b = true
theorem Tree.but {S : List Nat} {w w' : World} {q q2 : Nat} {t : T} (h : Tree w q q2 t) (hb : But S w w') (hn : ∀ k ∈ q :: q2 :: bs t, k ∉ S) : Tree w' q q2 t :=
  ⟨(hb.cell q 0 h.lq (hn q (by simp))).trans h.c0, (hb.cell q2 0 h.lq2 (hn q2 (by simp))).trans h.d0, (hb.cell q2 1 h.lq2 (hn q2 (by simp))).trans h.d1, fun o => (hb.frozen q2 o h.lq2 (hn q2 (by simp))).trans (h.fr o), Nat.lt_of_lt_of_le h.lq hb.size, Nat.lt_of_lt_of_le h.lq2 hb.size, h.it.but hb (fun k hk => hn k (by simp [hk])), h.nd, h.avl, h.srt, h.may⟩
theorem Tree.below {w w' : World} {q q2 : Nat} {t : T} (h : Tree w q q2 t) (hb : Below w.heap.size w w') : Tree w' q q2 t := h.but (But.of_below (S := []) hb) (by simp)
theorem Tree.lt {w : World} {q q2 : Nat} {t : T} (h : Tree w q q2 t) : ∀ k ∈ q :: q2 :: bs t, k < w.heap.size := by
  intro k hk
  rcases List.mem_cons.1 hk with rfl | hk
  · exact h.lq
  · rcases List.mem_cons.1 hk with rfl | hk
    · exact h.lq2
    · exact h.it.lt k hk
def Step (w3 w4 : World) (q q2 : Nat) (t t' : T) (n : Int) : Prop :=
  w4.cell? ⟨q, 0, none⟩ = some (.pointer (some ⟨q2, 0, none⟩)) ∧ w4.cell? ⟨q2, 0, none⟩ = some (.pointer (ptr t)) ∧ (∀ o, w4.frozen? ⟨q2, o, none⟩ = false) ∧ ∀ V, w4.setCell ⟨q2, 0, none⟩ (.pointer (ptr t')) = V → V.cell? ⟨q, 0, none⟩ = some (.pointer (some ⟨q2, 0, none⟩)) ∧ V.cell? ⟨q2, 1, none⟩ = some (.int .i64 (sz t)) ∧ (∀ o, V.frozen? ⟨q2, o, none⟩ = false) ∧
      ∀ V2, V.setCell ⟨q2, 1, none⟩ (.int .i64 n) = V2 → Tree V2 q q2 t' ∧ But (q2 :: bs t) w3 V2
/-- Behind a call that made t' of its nodes: what is stored, and what the tree is then. -/
theorem tree_step {w3 w4 : World} {q q2 : Nat} {t t' : T} (h : Tree w3 q q2 t) (n : Int) (hi : IsT w4 t') (ho : But (bs t) w3 w4) (hsub : ∀ y ∈ bs t', y ∈ bs t ∨ w3.heap.size ≤ y) (hnd : (bs t').Nodup) (hn : n = sz t') (avl : AVL t') (srt : Srt (ord t')) (may : ∀ e ∈ ord t', mayB e.a e.b = true) :
    Step w3 w4 q q2 t t' n := by
  have nd := h.nd
  rw [List.nodup_cons, List.nodup_cons] at nd
  have n1 : q ≠ q2 := fun e => nd.1 (by rw [e]; simp)
  have n2 : q ∉ bs t := fun hm => nd.1 (by simp [hm])
  have n3 := nd.2.1
  have lq := h.lq
  have lq2 := h.lq2
  have e0 := (ho.cell q2 0 h.lq2 n3).trans h.d0
  have e1 := (ho.cell q2 1 h.lq2 n3).trans h.d1
  have ef : ∀ o, w4.frozen? ⟨q2, o, none⟩ = false := fun o => (ho.frozen q2 o h.lq2 n3).trans (h.fr o)
  have ec := (ho.cell q 0 h.lq n2).trans h.c0
  have m2 : q2 ∉ bs t' := fun hm => by rcases hsub q2 hm with h1 | h1; exact n3 h1; omega
  have m1 : q ∉ bs t' := fun hm => by rcases hsub q hm with h1 | h1; exact n2 h1; omega
  refine ⟨ec, e0, ef, ?_⟩
  rintro V rfl
  have b1 : But [q2] w4 (w4.setCell ⟨q2, 0, none⟩ (.pointer (ptr t'))) := (But.refl _ _).set (by simp) _
  have f1 : (w4.setCell ⟨q2, 0, none⟩ (.pointer (ptr t'))).cell? ⟨q2, 1, none⟩ = some (.int .i64 (sz t)) := (cell_other (by decide)).trans e1
  have f0 : (w4.setCell ⟨q2, 0, none⟩ (.pointer (ptr t'))).cell? ⟨q2, 0, none⟩ = some (.pointer (ptr t')) := World.cell?_setCell_same _ _ _ e0
  have fc : (w4.setCell ⟨q2, 0, none⟩ (.pointer (ptr t'))).cell? ⟨q, 0, none⟩ = some (.pointer (some ⟨q2, 0, none⟩)) := (b1.cell q 0 (Nat.lt_of_lt_of_le lq ho.size) (by simpa using n1)).trans ec
  have ff : ∀ o, (w4.setCell ⟨q2, 0, none⟩ (.pointer (ptr t'))).frozen? ⟨q2, o, none⟩ = false := fun o => (World.frozen?_setCell _ _ _ _).trans (ef o)
  refine ⟨fc, f1, ff, ?_⟩
  rintro V2 rfl
  have b2 : But [q2] (w4.setCell ⟨q2, 0, none⟩ (.pointer (ptr t'))) ((w4.setCell ⟨q2, 0, none⟩ (.pointer (ptr t'))).setCell ⟨q2, 1, none⟩ (.int .i64 n)) := (But.refl _ _).set (by simp) _
  have b12 := b1.trans b2 (by simp)
  have lw := Nat.lt_of_lt_of_le lq ho.size
  have lw2 := Nat.lt_of_lt_of_le lq2 ho.size
  refine ⟨⟨(b2.cell q 0 (Nat.lt_of_lt_of_le lw b1.size) (by simpa using n1)).trans fc, (cell_other (by decide)).trans f0, ?_, fun o => (World.frozen?_setCell _ _ _ _).trans (ff o), Nat.lt_of_lt_of_le lw b12.size, Nat.lt_of_lt_of_le lw2 b12.size, hi.but b12 (fun k hk hm => by simp at hm; exact m2 (hm ▸ hk)), ?_, avl, srt, may⟩, ?_⟩
  · rw [← hn]
    exact World.cell?_setCell_same _ _ _ f1
  · rw [List.nodup_cons, List.nodup_cons]
    exact ⟨by simp only [List.mem_cons, not_or]; exact ⟨n1, m1⟩, m2, hnd⟩
  · exact (ho.sub (fun x hx => by simp [hx])).trans b12 (by simp)
/-- What Insert answers. -/
def insC (x : E) (t : T) : Int := if mayB x.a x.b = false then 1 else if x ∈ ord t then 9 else 0
def delC (x : E) (t : T) : Int := if x ∈ ord t then 0 else 6
theorem ins_step {w3 w4 : World} {q q2 : Nat} {t : T} {x : E} {K : Nat} (h : Tree w3 q q2 t) (hx : x ∉ ord t) (hm : mayB x.a x.b = true) (hK : w3.heap.size ≤ K) (hi : IsT w4 (ins K x t)) (ho : But (bs t) w3 w4) : Step w3 w4 q q2 t (ins K x t) ((sz t : Int) + 1) :=
  tree_step h ((sz t : Int) + 1) hi ho (fun y hy => by
    rcases List.mem_cons.1 ((Itree.ins_bs K x t).mem_iff.1 hy) with rfl | h1
    · exact .inr hK
    · exact .inl h1) ((Itree.ins_bs K x t).nodup_iff.2 (List.nodup_cons.2 ⟨fun hm => by have := h.it.lt K hm; omega, (List.nodup_cons.1 (List.nodup_cons.1 h.nd).2).2⟩)) (by rw [Itree.ins_sz]; omega) (Itree.ins_deep K x t h.avl).1 (Itree.ins_srt K x t h.srt hx) (fun e he => by
    rcases (Itree.ins_mem K x t e).1 he with rfl | h1
    · exact hm
    · exact h.may e h1)
theorem del_step {w3 w4 : World} {q q2 : Nat} {t : T} {x : E} (h : Tree w3 q q2 t) (hx : x ∈ ord t) (hi : IsT w4 (del x t)) (ho : But (bs t) w3 w4) : Step w3 w4 q q2 t (del x t) ((sz t : Int) - 1) :=
  tree_step h ((sz t : Int) - 1) hi ho (fun _ hy => .inl ((Itree.del_sub x t).subset hy)) ((List.nodup_cons.1 (List.nodup_cons.1 h.nd).2).2.sublist (Itree.del_sub x t)) (by have := Itree.del_sz x t h.srt hx; omega) (Itree.del_deep x t h.avl).1 (Itree.del_srt x t h.srt hx) (fun e he => h.may e ((Itree.del_mem x t h.srt hx e).1 he).1)
theorem made_any (q q2 : Nat) (w : World) (h : w.cell? ⟨q, 0, none⟩ = some (.pointer (some ⟨q2, 0, none⟩))) : Calls Try.prog 33 #[.pointer (some ⟨q, 0, none⟩)] w fun e w' => e = .returned (.bool true) ∧ w = w' := by
  go_enter Try.func33, Try.ntmps33
  go_wp2
  go_ret
  exact ⟨rfl, rfl⟩
theorem made_zero (q : Nat) (w : World) (h : w.cell? ⟨q, 0, none⟩ = some (.pointer none)) : Calls Try.prog 33 #[.pointer (some ⟨q, 0, none⟩)] w fun e w' => e = .returned (.bool false) ∧ w = w' := by
  go_enter Try.func33, Try.ntmps33
  go_wp2
  go_ret
  exact ⟨rfl, rfl⟩
theorem made_nil (w : World) : Calls Try.prog 33 #[.pointer none] w fun e w' => e = .returned (.bool false) ∧ w = w' := by
  go_enter Try.func33, Try.ntmps33
  go_wp2
  go_ret
  exact ⟨rfl, rfl⟩
theorem New_any (w : World) : Calls Try.prog 8 #[] w fun e w' => e = .returned (.pointer (some ⟨w.heap.size + 1, 0, none⟩)) ∧ Tree w' (w.heap.size + 1) w.heap.size .leaf ∧ Below w.heap.size w w' := by
  go_enter Try.func8, Try.ntmps8
  go_wp2
  go_ret
  refine ⟨rfl, ⟨?_, ?_, ?_, fun o => ?_, by simp, by simp; omega, trivial, by simp [Itree.bs_leaf], trivial, by simp [Itree.ord_leaf], by simp [Itree.ord_leaf]⟩, ((Below.refl _ _).alloc (Nat.le_refl _) _).alloc (by simp) _⟩
  · have := World.cell?_alloc_new (w.alloc (.cells #[.pointer none, .int .i64 0] 73)) #[.pointer (some ⟨w.heap.size, 0, none⟩)] 70 0
    go_simp
  · go_simp
    rfl
  · go_simp
    rfl
  · go_simp
theorem Len_any (q q2 : Nat) (t : T) (w : World) (h : Tree w q q2 t) : Calls Try.prog 21 #[.pointer (some ⟨q, 0, none⟩)] w fun e w' => e = .returned (.int .i64 (sz t)) ∧ w = w' := by
  have c0 := h.c0
  have d1 := h.d1
  have HM := Lib.hid (made_any q q2 w c0)
  clear h
  go_enter Try.func21, Try.ntmps21
  go_wp2_with (go_at_call 33; ((with_reducible refine (HM.out).mono ?_); rintro e w1 ⟨rfl, rfl⟩))
  go_ret
  exact ⟨rfl, rfl⟩
theorem Len_nil (w : World) : Calls Try.prog 21 #[.pointer none] w fun e w' => e = .returned (.int .i64 0) ∧ w = w' := by
  have HM := Lib.hid (made_nil w)
  go_enter Try.func21, Try.ntmps21
  go_wp2_with (go_at_call 33; ((with_reducible refine (HM.out).mono ?_); rintro e w1 ⟨rfl, rfl⟩))
  go_ret
  exact ⟨rfl, rfl⟩
theorem Depth_any (q q2 : Nat) (t : T) (w : World) (h : Tree w q q2 t) : Calls Try.prog 23 #[.pointer (some ⟨q, 0, none⟩)] w fun e w' => e = .returned (.int .i64 (dep t)) ∧ w = w' := by
  have c0 := h.c0
  have d0 := h.d0
  have HM := Lib.hid (made_any q q2 w c0)
  have HD := Lib.hid (depth_any t w h.it)
  clear h
  generalize ptr t = p at *
  go_enter Try.func23, Try.ntmps23
  go_wp2_with (first | (go_at_call 33; ((with_reducible refine (HM.out).mono ?_); rintro e w1 ⟨rfl, rfl⟩)) | (go_at_call 44; ((with_reducible refine (HD.out).mono ?_); rintro e w1 ⟨rfl, rfl⟩)) | fail)
  go_ret
  exact ⟨rfl, rfl⟩
theorem Depth_nil (w : World) : Calls Try.prog 23 #[.pointer none] w fun e w' => e = .returned (.int .i64 0) ∧ w = w' := by
  have HM := Lib.hid (made_nil w)
  go_enter Try.func23, Try.ntmps23
  go_wp2_with (go_at_call 33; ((with_reducible refine (HM.out).mono ?_); rintro e w1 ⟨rfl, rfl⟩))
  go_ret
  exact ⟨rfl, rfl⟩
theorem Copy_nil (w : World) : Calls Try.prog 18 #[.pointer none] w fun e w' => e = .returned (.pointer none) ∧ w = w' := by
  go_enter Try.func18, Try.ntmps18
  go_wp2
  go_ret
  exact ⟨rfl, rfl⟩
end Go.Proofs.Ytbifgmamjdniaaa
