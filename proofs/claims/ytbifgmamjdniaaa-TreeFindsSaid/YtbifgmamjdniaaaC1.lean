/- A copy of a tree's nodes. -/
import Derived.Test.YtbifgmamjdniaaaB8
namespace Go.Proofs.Ytbifgmamjdniaaa
open Go.RowKit
open Itree (E T dep endT bs ord sz nodes lean rotL rotR bal ins del hasT first AVL Srt eachL over)
/-- The same tree in other blocks. -/
def like : T → T → Prop
  | .leaf, .leaf => True
  | .node _ e l r, .node _ e' l' r' => e = e' ∧ like l l' ∧ like r r'
  | _, _ => False
theorem like.facts : ∀ {t t' : T}, like t t' → ord t' = ord t ∧ dep t' = dep t ∧ endT t' = endT t ∧ t'.isLeaf = t.isLeaf ∧ (AVL t → AVL t')
  | .leaf, .leaf, _ => ⟨rfl, rfl, rfl, rfl, fun h => h⟩
  | .node k e l r, .node k' e' l' r', ⟨he, hl, hr⟩ => by
    obtain ⟨a1, a2, a3, a4, a5⟩ := like.facts hl
    obtain ⟨b1, b2, b3, b4, b5⟩ := like.facts hr
    subst he
    refine ⟨by rw [Itree.ord_node, Itree.ord_node, a1, b1], by rw [Itree.dep_node, Itree.dep_node, a2, b2], by unfold endT; rw [a3, b3, a4, b4], rfl, fun h => ?_⟩
    obtain ⟨h1, h2, h3, h4⟩ := h
    exact ⟨by rw [a2, b2]; exact h1, by rw [a2, b2]; exact h2, a5 h3, b5 h4⟩
  | .leaf, .node .., h => h.elim
  | .node .., .leaf, h => h.elim
theorem like.sz {t t' : T} (h : like t t') : sz t' = sz t := by rw [← Itree.ord_len, ← Itree.ord_len, h.facts.1]
theorem node7 {w w' : World} {k : Nat} {e : E} {l r : Option Addr} {lv en : Int} (hn : NodeAt w k e l r lv en) (h : Below w.heap.size w w') :
    Below w.heap.size w w' ∧ w'.cell? ⟨k, 0, none⟩ = some (.int .u64 e.a) ∧ w'.cell? ⟨k, 1, none⟩ = some (.int .u64 e.b) ∧ w'.cell? ⟨k, 2, none⟩ = some (.int .u64 e.n) ∧ w'.cell? ⟨k, 3, none⟩ = some (.pointer l) ∧ w'.cell? ⟨k, 4, none⟩ = some (.pointer r) ∧ w'.cell? ⟨k, 5, none⟩ = some (.int .i64 lv) ∧ w'.cell? ⟨k, 6, none⟩ = some (.int .u64 en) :=
  ⟨h, (hn.below h).c0, (hn.below h).c1, (hn.below h).c2, (hn.below h).c3, (hn.below h).c4, (hn.below h).c5, (hn.below h).c6⟩
/-- What a copy gives. -/
def Cop (w : World) (t : T) (w' : World) (t' : T) : Prop := IsT w' t' ∧ like t t' ∧ (∀ k ∈ bs t', w.heap.size ≤ k) ∧ (bs t').Nodup ∧ Below w.heap.size w w'
theorem cop_node {w w1 w2 w3 : World} {k : Nat} {e : E} {l r l' r' : T} (h0 : Below w.heap.size w w1) (h1 : Cop w1 l w2 l') (h2 : Cop w2 r w3 r') :
    Cop w (.node k e l r) (w3.alloc (.cells #[.int .u64 e.a, .int .u64 e.b, .int .u64 e.n, .pointer (ptr l'), .pointer (ptr r'), .int .i64 (dep (.node k e l r)), .int .u64 (endT (.node k e l r))] 86)) (.node w3.heap.size e l' r') := by
  obtain ⟨i1, k1, g1, n1, b1⟩ := h1
  obtain ⟨i2, k2, g2, n2, b2⟩ := h2
  have lk : like (.node k e l r) (.node w3.heap.size e l' r') := ⟨rfl, k1, k2⟩
  have ba := (Below.refl w3.heap.size w3).alloc (Nat.le_refl _) (.cells #[.int .u64 e.a, .int .u64 e.b, .int .u64 e.n, .pointer (ptr l'), .pointer (ptr r'), .int .i64 (dep (.node k e l r)), .int .u64 (endT (.node k e l r))] 86)
  refine ⟨⟨?_, (i1.below b2).below ba, i2.below ba⟩, lk, ?_, ?_, ?_⟩
  · rw [lk.facts.2.1, lk.facts.2.2.1]
    exact node_new _ _ _ _ _ _
  · intro y hy
    have s1 := h0.size
    have s2 := b1.size
    have s3 := b2.size
    rw [Itree.bs_node, List.mem_append, List.mem_cons] at hy
    rcases hy with hy | rfl | hy
    · have := g1 y hy; omega
    · omega
    · have := g2 y hy; omega
  · rw [Itree.bs_node, List.nodup_append, List.nodup_cons]
    have s3 := b2.size
    refine ⟨n1, ⟨fun hm => by have := i2.lt _ hm; omega, n2⟩, fun y hy z hz e => ?_⟩
    have q1 := i1.lt y hy
    rcases List.mem_cons.1 hz with rfl | hz
    · omega
    · have := g2 z hz; omega
  · have s1 := h0.size
    have s2 := b1.size
    have s3 := b2.size
    exact ((h0.trans (b1.mono s1)).trans (b2.mono (by omega))).trans (ba.mono (by omega))
set_option maxRecDepth 100000 in
set_option maxHeartbeats 1000000 in
theorem copy_any (t : T) : ∀ w : World, IsT w t → Calls Try.prog 42 #[.pointer (ptr t)] w fun e w' => ∃ t', e = .returned (.pointer (ptr t')) ∧ Cop w t w' t' := by
  induction t with
  | leaf =>
    intro w _
    show Calls _ _ #[.pointer none] w _
    go_enter Try.func42, Try.ntmps42
    go_wp2
    go_ret
    exact ⟨.leaf, rfl, trivial, trivial, by simp [Itree.bs_leaf], by simp [Itree.bs_leaf], Below.refl _ _⟩
  | node k e l r ih1 ih2 =>
    intro w h
    obtain ⟨hn, hl, hr⟩ := h
    have C0 := Lib.hid (fun (w1 w2 w3 : World) (l' r' : T) (h0 : Below w.heap.size w w1) (h1 : Cop w1 l w2 l') (h2 : Cop w2 r w3 r') => cop_node (k := k) (e := e) h0 h1 h2)
    have G1 := Lib.hid (fun (w1 : World) (hb : Below w.heap.size w w1) => ih1 w1 (hl.below hb))
    have G2 := Lib.hid (fun (w1 : World) (hb : Below w.heap.size w w1) => ih2 w1 (hr.below hb))
    have K0 := Lib.hid (fun (w1 : World) (hb : Below w.heap.size w w1) => node7 hn hb)
    clear ih1 ih2 hl hr hn
    show Calls _ _ #[.pointer (some ⟨k, 0, none⟩)] w _
    generalize (dep (.node k e l r) : Int) = dlv at *
    generalize endT (.node k e l r) = den at *
    generalize ptr l = pl at *
    generalize ptr r = pr at *
    obtain ⟨_, k0, k1, k2, k3, k4, k5, k6⟩ := K0.out w (Below.refl _ _)
    go_enter Try.func42, Try.ntmps42
    go_upto_region 3 with fail
    clear k0 k1 k2 k3 k4 k5 k6
    go_region_held3 (fun w' => Below w.heap.size w w' ∧ w'.cell? ⟨k, 0, none⟩ = some (.int .u64 e.a) ∧ w'.cell? ⟨k, 1, none⟩ = some (.int .u64 e.b) ∧ w'.cell? ⟨k, 2, none⟩ = some (.int .u64 e.n) ∧ w'.cell? ⟨k, 3, none⟩ = some (.pointer pl) ∧ w'.cell? ⟨k, 4, none⟩ = some (.pointer pr) ∧ w'.cell? ⟨k, 5, none⟩ = some (.int .i64 dlv) ∧ w'.cell? ⟨k, 6, none⟩ = some (.int .u64 den)) (first | exact K0.out _ (Below.refl _ _).drew | (first | exact K0.out _ (by assumption) | (go_split_ands; exact K0.out _ (by (first | assumption | exact Below.alloc (by assumption) (by (first | exact (Below.size (by assumption)) | (simp; done) | fail)) _ | fail))) | fail) | fail) (first
      | (go_at_call 42; (first
        | ((with_reducible refine (G1.out _ ?_).mono ?_); (exact (Below.refl _ _).drew); clear G1; rintro e1 w1 ⟨l', rfl, hc1⟩; have ch1 : Below w.heap.size w w1 := (Below.refl _ _).drew.trans (hc1.2.2.2.2))
        | ((with_reducible refine (G2.out _ ?_).mono ?_); (exact ch1); rintro e2 w2 ⟨r', rfl, hc2⟩; have ch2 : Below w.heap.size w w2 := ch1.trans (hc2.2.2.2.2.mono ch1.size))
        | fail))
      | fail)
    all_goals (go_split_ands; go_wp2; go_ret; exact ⟨_, rfl, C0.out _ _ _ _ _ (Below.refl _ _).drew hc1 hc2⟩)
end Go.Proofs.Ytbifgmamjdniaaa
