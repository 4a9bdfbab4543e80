/- refresh of a node over two trees; turning; balancing. -/
import Derived.Test.YtbifgmamjdniaaaB2
namespace Go.Proofs.Ytbifgmamjdniaaa
open Go.RowKit
open Itree (E T dep endT bs ord sz nodes lean rotL rotR bal ins del hasT first AVL Srt eachL over)
theorem mxI_max (a b : Int) : mxI a b = max a b := by unfold mxI; split <;> omega
theorem root_side {k : Nat} {w : World} {m : Nat} {f : E} {a b : T} (h : IsT w (.node m f a b)) (hk : k ∉ bs (.node m f a b)) : m ≠ k ∧ m < w.heap.size ∧ w.cell? ⟨m, 5, none⟩ = some (.int .i64 (dep (.node m f a b))) ∧ w.cell? ⟨m, 6, none⟩ = some (.int .u64 (endT (.node m f a b))) := by
  refine ⟨fun e => hk ?_, h.1.lt, h.1.c5, h.1.c6⟩
  rw [Itree.bs_node, ← e]
  simp
theorem refresh_any (k : Nat) (e : E) (l r : T) (lv en : Int) (w : World) (hn : NodeAt w k e (ptr l) (ptr r) lv en) (hl : IsT w l) (hr : IsT w r) (k1 : k ∉ bs l) (k2 : k ∉ bs r) (h1 : dep l ≤ 1000000) (h2 : dep r ≤ 1000000) :
    Calls Try.prog 59 #[.pointer (some ⟨k, 0, none⟩)] w fun e' w' => (∃ v, e' = .returned v) ∧ IsT w' (.node k e l r) ∧ But [k] w w' := by
  have key : ∀ w' : World, NodeAt w' k e (ptr l) (ptr r) (dep (.node k e l r)) (endT (.node k e l r)) → But [k] w w' → IsT w' (.node k e l r) := fun w' a b =>
    ⟨a, hl.but b (fun x hx hm => k1 (by simp at hm; exact hm ▸ hx)), hr.but b (fun x hx hm => k2 (by simp at hm; exact hm ▸ hx))⟩
  cases l with
  | leaf =>
    cases r with
    | leaf =>
      refine (refresh_none k e lv en w hn).mono ?_
      rintro e' w' ⟨hv, a, b⟩
      exact ⟨hv, key w' a b, b⟩
    | node m f x y =>
      obtain ⟨g1, g2, g3, g4⟩ := root_side hr k2
      refine (refresh_right k e lv en w m hn _ _ g1 g2 g3 g4 (by omega)).mono ?_
      rintro e' w' ⟨hv, a, b⟩
      refine ⟨hv, key w' ?_ b, b⟩
      have e1 : mxI 1 ((dep (.node m f x y) : Int) + 1) = (dep (.node k e .leaf (.node m f x y)) : Int) := by
        rw [mxI_max, Itree.dep_node k]; simp only [dep]; omega
      have e2 : mxI e.b (endT (.node m f x y)) = endT (.node k e .leaf (.node m f x y)) := by
        rw [mxI_max]; rfl
      rw [e1, e2] at a
      exact a
  | node m f x y =>
    obtain ⟨g1, g2, g3, g4⟩ := root_side hl k1
    cases r with
    | leaf =>
      refine (refresh_left k e lv en w m hn _ _ g1 g2 g3 g4 (by omega)).mono ?_
      rintro e' w' ⟨hv, a, b⟩
      refine ⟨hv, key w' ?_ b, b⟩
      have e1 : mxI 1 ((dep (.node m f x y) : Int) + 1) = (dep (.node k e (.node m f x y) .leaf) : Int) := by
        rw [mxI_max, Itree.dep_node k]; simp only [dep]; omega
      have e2 : mxI e.b (endT (.node m f x y)) = endT (.node k e (.node m f x y) .leaf) := by
        rw [mxI_max]; rfl
      rw [e1, e2] at a
      exact a
    | node m2 f2 x2 y2 =>
      obtain ⟨i1, i2, i3, i4⟩ := root_side hr k2
      refine (refresh_both k e lv en w m m2 hn _ _ g1 g2 g3 g4 (by omega) _ _ i1 i2 i3 i4 (by omega)).mono ?_
      rintro e' w' ⟨hv, a, b⟩
      refine ⟨hv, key w' ?_ b, b⟩
      have e1 : mxI (mxI 1 ((dep (.node m f x y) : Int) + 1)) ((dep (.node m2 f2 x2 y2) : Int) + 1) = (dep (.node k e (.node m f x y) (.node m2 f2 x2 y2)) : Int) := by
        rw [mxI_max, mxI_max, Itree.dep_node k]; omega
      have e2 : mxI (mxI e.b (endT (.node m f x y))) (endT (.node m2 f2 x2 y2)) = endT (.node k e (.node m f x y) (.node m2 f2 x2 y2)) := by
        rw [mxI_max, mxI_max]; rfl
      rw [e1, e2] at a
      exact a
theorem nd_turn {A B C : List Nat} {k m : Nat} (hd : (A ++ k :: (B ++ m :: C)).Nodup) : k ∉ A ∧ k ∉ B ∧ k ≠ m ∧ k ∉ C ∧ m ∉ A ∧ m ∉ B ∧ m ∉ C := by
  rw [List.nodup_append, List.nodup_cons, List.nodup_append, List.nodup_cons] at hd
  grind
theorem nd_turn2 {A B C : List Nat} {k m : Nat} (hd : ((A ++ m :: B) ++ k :: C).Nodup) : k ∉ A ∧ k ∉ B ∧ k ≠ m ∧ k ∉ C ∧ m ∉ A ∧ m ∉ B ∧ m ∉ C := by
  rw [List.nodup_append, List.nodup_append, List.nodup_cons, List.nodup_cons] at hd
  obtain ⟨⟨_, ⟨n1, _⟩, n3⟩, ⟨n4, _⟩, n6⟩ := hd
  exact ⟨fun h => n6 k (by simp [h]) k (by simp) rfl, fun h => n6 k (by simp [h]) k (by simp) rfl, fun h => n6 m (by simp) k (by simp) h.symm, n4, fun h => n3 m h m (by simp) rfl, n1, fun h => n6 m (by simp) m (by simp [h]) rfl⟩
theorem nd_mid {A B : List Nat} {k : Nat} (hd : (A ++ k :: B).Nodup) : k ∉ A ∧ k ∉ B ∧ A.Nodup ∧ B.Nodup ∧ (∀ x ∈ A, x ∉ B) := by
  rw [List.nodup_append, List.nodup_cons] at hd
  grind
set_option maxRecDepth 100000 in
set_option maxHeartbeats 1000000 in
theorem turnedLeft_any (k : Nat) (e : E) (l : T) (m : Nat) (f : E) (b c : T) (lv en lv2 en2 : Int) (w : World) (hn : NodeAt w k e (ptr l) (some ⟨m, 0, none⟩) lv en) (hm : NodeAt w m f (ptr b) (ptr c) lv2 en2)
    (hl : IsT w l) (hb : IsT w b) (hc : IsT w c) (hd : (bs l ++ k :: (bs b ++ m :: bs c)).Nodup) (h1 : dep l ≤ 1000) (h2 : dep b ≤ 1000) (h3 : dep c ≤ 1000) :
    Calls Try.prog 57 #[.pointer (some ⟨k, 0, none⟩)] w fun e' w' => e' = .returned (.pointer (some ⟨m, 0, none⟩)) ∧ IsT w' (.node m f (.node k e l b) c) ∧ But [k, m] w w' := by
  obtain ⟨d1, d2, d3, d4, d5, d6, d7⟩ := nd_turn hd
  have N1 := hn.set4 (ptr b)
  have B1 : But [k] w (w.setCell ⟨k, 4, none⟩ (.pointer (ptr b))) := (But.refl _ _).set (by simp) _
  have M1 := hm.but B1 (by simpa using fun h => d3 h.symm)
  have M2 := M1.set3 (some ⟨k, 0, none⟩)
  have B2 : But [m] (w.setCell ⟨k, 4, none⟩ (.pointer (ptr b))) ((w.setCell ⟨k, 4, none⟩ (.pointer (ptr b))).setCell ⟨m, 3, none⟩ (.pointer (some ⟨k, 0, none⟩))) := (But.refl _ _).set (by simp) _
  have N2 := N1.but B2 (by simpa using d3)
  have B3 : But [k, m] w ((w.setCell ⟨k, 4, none⟩ (.pointer (ptr b))).setCell ⟨m, 3, none⟩ (.pointer (some ⟨k, 0, none⟩))) := (B1.sub (by simp)).trans B2 (by simp)
  have hk4 := hn.c4
  have hm3 := hm.c3
  have hkf := hn.fr
  have hmf := hm.fr
  have q3 := M1.c3
  have q4 := M1.fr
  obtain ⟨W, hW⟩ : ∃ W, ((w.setCell ⟨k, 4, none⟩ (.pointer (ptr b))).setCell ⟨m, 3, none⟩ (.pointer (some ⟨k, 0, none⟩))) = W := ⟨_, rfl⟩
  rw [hW] at M2 N2 B3
  have L2 := hl.but B3 (by intro x hx hm; simp at hm; rcases hm with rfl | rfl; exact d1 hx; exact d5 hx)
  have b2 := hb.but B3 (by intro x hx hm; simp at hm; rcases hm with rfl | rfl; exact d2 hx; exact d6 hx)
  have c2 := hc.but B3 (by intro x hx hm; simp at hm; rcases hm with rfl | rfl; exact d4 hx; exact d7 hx)
  have G1 := Lib.hid (refresh_any k e l b lv en W N2 L2 b2 d1 d2 (by omega) (by omega))
  have G2 := Lib.hid (fun (w3 : World) (hi : IsT w3 (.node k e l b)) (ho : But [k] W w3) => refresh_any m f (.node k e l b) c lv2 en2 w3 (M2.but ho (by simpa using fun h => d3 h.symm)) hi (c2.but ho (by intro x hx hm; simp at hm; exact d4 (hm ▸ hx))) (by rw [Itree.bs_node]; simp only [List.mem_append, List.mem_cons, not_or]; exact ⟨d5, fun h => d3 h.symm, d6⟩) d7 (by rw [Itree.dep_node]; omega) (by omega))
  have G3 := Lib.hid B3
  clear hn hm hl hb hc hd N1 B1 M1 M2 B2 N2 B3 L2 b2 c2
  generalize ptr b = pb at *
  go_enter Try.func57, Try.ntmps57
  go_wp2_with (go_at_call 59; (first
    | ((with_reducible refine (G1.out).mono ?_); clear G1; rintro e1 w3 ⟨⟨v1, rfl⟩, hi, ho⟩; have A1 := Lib.hid (And.intro hi ho); clear hi ho)
    | ((with_reducible refine (G2.out _ A1.out.1 A1.out.2).mono ?_); rintro e2 w4 ⟨⟨v2, rfl⟩, hi, ho⟩)
    | fail))
  go_ret
  exact ⟨rfl, hi, (G3.out.trans A1.out.2 (by simp)).trans ho (by simp)⟩
set_option maxRecDepth 100000 in
set_option maxHeartbeats 1000000 in
theorem turnedRight_any (k : Nat) (e : E) (m : Nat) (f : E) (a b r : T) (lv en lv2 en2 : Int) (w : World) (hn : NodeAt w k e (some ⟨m, 0, none⟩) (ptr r) lv en) (hm : NodeAt w m f (ptr a) (ptr b) lv2 en2)
    (hl : IsT w a) (hb : IsT w b) (hc : IsT w r) (hd : ((bs a ++ m :: bs b) ++ k :: bs r).Nodup) (h1 : dep a ≤ 1000) (h2 : dep b ≤ 1000) (h3 : dep r ≤ 1000) :
    Calls Try.prog 58 #[.pointer (some ⟨k, 0, none⟩)] w fun e' w' => e' = .returned (.pointer (some ⟨m, 0, none⟩)) ∧ IsT w' (.node m f a (.node k e b r)) ∧ But [k, m] w w' := by
  obtain ⟨d1, d2, d3, d4, d5, d6, d7⟩ := nd_turn2 hd
  have N1 := hn.set3 (ptr b)
  have B1 : But [k] w (w.setCell ⟨k, 3, none⟩ (.pointer (ptr b))) := (But.refl _ _).set (by simp) _
  have M1 := hm.but B1 (by simpa using fun h => d3 h.symm)
  have M2 := M1.set4 (some ⟨k, 0, none⟩)
  have B2 : But [m] (w.setCell ⟨k, 3, none⟩ (.pointer (ptr b))) ((w.setCell ⟨k, 3, none⟩ (.pointer (ptr b))).setCell ⟨m, 4, none⟩ (.pointer (some ⟨k, 0, none⟩))) := (But.refl _ _).set (by simp) _
  have N2 := N1.but B2 (by simpa using d3)
  have B3 : But [k, m] w ((w.setCell ⟨k, 3, none⟩ (.pointer (ptr b))).setCell ⟨m, 4, none⟩ (.pointer (some ⟨k, 0, none⟩))) := (B1.sub (by simp)).trans B2 (by simp)
  have hk4 := hn.c3
  have hm3 := hm.c4
  have hkf := hn.fr
  have hmf := hm.fr
  have q3 := M1.c4
  have q4 := M1.fr
  obtain ⟨W, hW⟩ : ∃ W, ((w.setCell ⟨k, 3, none⟩ (.pointer (ptr b))).setCell ⟨m, 4, none⟩ (.pointer (some ⟨k, 0, none⟩))) = W := ⟨_, rfl⟩
  rw [hW] at M2 N2 B3
  have L2 := hl.but B3 (by intro x hx hm; simp at hm; rcases hm with rfl | rfl; exact d1 hx; exact d5 hx)
  have b2 := hb.but B3 (by intro x hx hm; simp at hm; rcases hm with rfl | rfl; exact d2 hx; exact d6 hx)
  have c2 := hc.but B3 (by intro x hx hm; simp at hm; rcases hm with rfl | rfl; exact d4 hx; exact d7 hx)
  have G1 := Lib.hid (refresh_any k e b r lv en W N2 b2 c2 d2 d4 (by omega) (by omega))
  have G2 := Lib.hid (fun (w3 : World) (hi : IsT w3 (.node k e b r)) (ho : But [k] W w3) => refresh_any m f a (.node k e b r) lv2 en2 w3 (M2.but ho (by simpa using fun h => d3 h.symm)) (L2.but ho (by intro x hx hm; simp at hm; exact d1 (hm ▸ hx))) hi d5 (by rw [Itree.bs_node]; simp only [List.mem_append, List.mem_cons, not_or]; exact ⟨d6, fun h => d3 h.symm, d7⟩) (by omega) (by rw [Itree.dep_node]; omega))
  have G3 := Lib.hid B3
  clear hn hm hl hb hc hd N1 B1 M1 M2 B2 N2 B3 L2 b2 c2
  generalize ptr b = pb at *
  go_enter Try.func58, Try.ntmps58
  go_wp2_with (go_at_call 59; (first
    | ((with_reducible refine (G1.out).mono ?_); clear G1; rintro e1 w3 ⟨⟨v1, rfl⟩, hi, ho⟩; have A1 := Lib.hid (And.intro hi ho); clear hi ho)
    | ((with_reducible refine (G2.out _ A1.out.1 A1.out.2).mono ?_); rintro e2 w4 ⟨⟨v2, rfl⟩, hi, ho⟩)
    | fail))
  go_ret
  exact ⟨rfl, hi, (G3.out.trans A1.out.2 (by simp)).trans ho (by simp)⟩
end Go.Proofs.Ytbifgmamjdniaaa
