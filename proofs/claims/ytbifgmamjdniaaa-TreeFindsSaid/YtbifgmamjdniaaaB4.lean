/- Balancing a node over two trees. -/
import Derived.Test.YtbifgmamjdniaaaB3
namespace Go.Proofs.Ytbifgmamjdniaaa
open Go.RowKit
open Itree (E T dep endT bs ord sz nodes lean rotL rotR bal ins del hasT first AVL Srt eachL over)
theorem out2 {S : List Nat} {a b c : World} (h : Below a.heap.size a b) (k : But S b c) : But S a c := (But.of_below (S := S) h).trans k (fun _ hx => .inl hx)
theorem BX {S : List Nat} {k m : Nat} (hk : k ∈ S) (hm : m ∈ S) : ∀ x ∈ [k, m], x ∈ S := by
  intro x hx
  simp at hx
  rcases hx with rfl | rfl
  · exact hk
  · exact hm
set_option maxRecDepth 100000 in
set_option maxHeartbeats 1000000 in
theorem bal_none (k : Nat) (e : E) (l r : T) (lv en : Int) (w : World) (hn : NodeAt w k e (ptr l) (ptr r) lv en) (hl : IsT w l) (hr : IsT w r) (hd : (bs l ++ k :: bs r).Nodup) (h1 : dep l ≤ 900) (h2 : dep r ≤ 900) (q1 : ¬ (dep l : Int) - dep r > 1) (q2 : ¬ (dep l : Int) - dep r < -1) :
    Calls Try.prog 48 #[.pointer (some ⟨k, 0, none⟩)] w fun e' w' => e' = .returned (.pointer (ptr (.node k e l r))) ∧ IsT w' (.node k e l r) ∧ But (bs l ++ k :: bs r) w w' := by
  obtain ⟨d1, d2, _⟩ := nd_mid hd
  have GA := Lib.hid (lean_any k e l r lv en w hn hl hr (by omega) (by omega))
  have GR := Lib.hid (fun (w1 : World) (hb : Below w.heap.size w w1) => refresh_any k e l r lv en w1 (hn.below hb) (hl.below hb) (hr.below hb) d1 d2 (by omega) (by omega))
  have K0 := Lib.hid (fun (w1 : World) (hb : Below w.heap.size w w1) => And.intro (hn.below hb).c3 (hn.below hb).c4)
  clear hn hl hr hd
  generalize (dep l : Int) - dep r = q at *
  have q1' : q ≤ 1 := by omega
  have q2' : -1 ≤ q := by omega
  clear q1 q2 h1 h2
  go_enter Try.func48, Try.ntmps48
  go_wp2_with (first
    | (go_at_call 56; (first
    | ((with_reducible refine (GA.out).mono ?_); clear GA; rintro e1 w1 ⟨rfl, hb1⟩; have x3 := (K0.out _ hb1).1; have x4 := (K0.out _ hb1).2; have HB1 := Lib.hid hb1; clear hb1)
    | fail))
    | (go_at_call 59; ((with_reducible refine (GR.out _ HB1.out).mono ?_); rintro e2 w2 ⟨⟨v, rfl⟩, hi, ho⟩))
    | fail)
  go_ret
  exact ⟨rfl, hi, out2 HB1.out (ho.sub (by simp))⟩
set_option maxRecDepth 100000 in
set_option maxHeartbeats 1000000 in
theorem bal_right (k : Nat) (e : E) (m : Nat) (f : E) (a b r : T) (lv en : Int) (w : World) (hn : NodeAt w k e (ptr (.node m f a b)) (ptr r) lv en) (hl : IsT w (.node m f a b)) (hr : IsT w r) (hd : (bs (.node m f a b) ++ k :: bs r).Nodup) (h1 : dep (.node m f a b) ≤ 900) (h2 : dep r ≤ 900) (q1 : (dep (.node m f a b) : Int) - dep r > 1) (q2 : ¬ (dep a : Int) - dep b < 0) :
    Calls Try.prog 48 #[.pointer (some ⟨k, 0, none⟩)] w fun e' w' => e' = .returned (.pointer (ptr (.node m f a (.node k e b r)))) ∧ IsT w' (.node m f a (.node k e b r)) ∧ But (bs (.node m f a b) ++ k :: bs r) w w' := by
  have hda : dep a ≤ 900 ∧ dep b ≤ 900 := by rw [Itree.dep_node] at h1; omega
  have GA := Lib.hid (lean_any k e (.node m f a b) r lv en w hn hl hr (by omega) (by omega))
  have GB := Lib.hid (fun (w1 : World) (hb : Below w.heap.size w w1) => lean_any m f a b _ _ w1 (hl.1.below hb) (hl.2.1.below hb) (hl.2.2.below hb) (by omega) (by omega))
  have GR := Lib.hid (fun (w1 : World) (hb : Below w.heap.size w w1) => turnedRight_any k e m f a b r lv en _ _ w1 (hn.below hb) (hl.1.below hb) (hl.2.1.below hb) (hl.2.2.below hb) (hr.below hb) (by rw [Itree.bs_node] at hd; exact hd) (by omega) (by omega) (by omega))
  have K0 := Lib.hid (fun (w1 : World) (hb : Below w.heap.size w w1) => And.intro (hn.below hb).c3 (hn.below hb).c4)
  have Z := Lib.hid (BX (S := bs (.node m f a b) ++ k :: bs r) (k := k) (m := m) (by simp) (by rw [Itree.bs_node]; simp))
  clear hn hl hr hd hda
  generalize (dep (.node m f a b) : Int) - dep r = q at *
  generalize (dep a : Int) - dep b = p at *
  have q1' : 1 < q := by omega
  have q2' : 0 ≤ p := by omega
  clear q1 q2 h1 h2
  simp only [ptr] at K0 ⊢
  go_enter Try.func48, Try.ntmps48
  go_wp2_with (first
    | (go_at_call 56; (first
    | ((with_reducible refine (GA.out).mono ?_); clear GA; rintro e1 w1 ⟨rfl, hb1⟩; have x3 := (K0.out _ hb1).1; have x4 := (K0.out _ hb1).2; have HB1 := Lib.hid hb1; clear hb1)
    | ((with_reducible refine (GB.out _ HB1.out).mono ?_); clear GB; rintro e2 w2 ⟨rfl, hb2⟩; have y3 := (K0.out _ (HB1.out.trans (hb2.mono HB1.out.size))).1; have HB2 := Lib.hid hb2; clear hb2)
    | fail))
    | (go_at_call 58; ((with_reducible refine (GR.out _ (HB1.out.trans (HB2.out.mono HB1.out.size))).mono ?_); rintro e3 w3 ⟨rfl, hi, ho⟩))
    | fail)
  go_ret
  exact ⟨rfl, hi, out2 (HB1.out.trans (HB2.out.mono HB1.out.size)) (ho.sub Z.out)⟩
set_option maxRecDepth 100000 in
set_option maxHeartbeats 1000000 in
theorem bal_left (k : Nat) (e : E) (l : T) (m : Nat) (f : E) (b c : T) (lv en : Int) (w : World) (hn : NodeAt w k e (ptr l) (ptr (.node m f b c)) lv en) (hl : IsT w l) (hr : IsT w (.node m f b c)) (hd : (bs l ++ k :: bs (.node m f b c)).Nodup) (h1 : dep l ≤ 900) (h2 : dep (.node m f b c) ≤ 900) (q1 : (dep l : Int) - dep (.node m f b c) < -1) (q2 : ¬ (dep b : Int) - dep c > 0) :
    Calls Try.prog 48 #[.pointer (some ⟨k, 0, none⟩)] w fun e' w' => e' = .returned (.pointer (ptr (.node m f (.node k e l b) c))) ∧ IsT w' (.node m f (.node k e l b) c) ∧ But (bs l ++ k :: bs (.node m f b c)) w w' := by
  have hda : dep b ≤ 900 ∧ dep c ≤ 900 := by rw [Itree.dep_node] at h2; omega
  have GA := Lib.hid (lean_any k e l (.node m f b c) lv en w hn hl hr (by omega) (by omega))
  have GB := Lib.hid (fun (w1 : World) (hb : Below w.heap.size w w1) => lean_any m f b c _ _ w1 (hr.1.below hb) (hr.2.1.below hb) (hr.2.2.below hb) (by omega) (by omega))
  have GR := Lib.hid (fun (w1 : World) (hb : Below w.heap.size w w1) => turnedLeft_any k e l m f b c lv en _ _ w1 (hn.below hb) (hr.1.below hb) (hl.below hb) (hr.2.1.below hb) (hr.2.2.below hb) (by rw [Itree.bs_node] at hd; exact hd) (by omega) (by omega) (by omega))
  have K0 := Lib.hid (fun (w1 : World) (hb : Below w.heap.size w w1) => And.intro (hn.below hb).c3 (hn.below hb).c4)
  have Z := Lib.hid (BX (S := bs l ++ k :: bs (.node m f b c)) (k := k) (m := m) (by simp) (by rw [Itree.bs_node]; simp))
  clear hn hl hr hd hda
  generalize (dep l : Int) - dep (.node m f b c) = q at *
  generalize (dep b : Int) - dep c = p at *
  have q1' : q < -1 := by omega
  have q1'' : q ≤ 1 := by omega
  have q2' : p ≤ 0 := by omega
  clear q1 q2 h1 h2
  simp only [ptr] at K0 ⊢
  go_enter Try.func48, Try.ntmps48
  go_wp2_with (first
    | (go_at_call 56; (first
    | ((with_reducible refine (GA.out).mono ?_); clear GA; rintro e1 w1 ⟨rfl, hb1⟩; have x3 := (K0.out _ hb1).1; have x4 := (K0.out _ hb1).2; have HB1 := Lib.hid hb1; clear hb1)
    | ((with_reducible refine (GB.out _ HB1.out).mono ?_); clear GB; rintro e2 w2 ⟨rfl, hb2⟩; have y3 := (K0.out _ (HB1.out.trans (hb2.mono HB1.out.size))).2; have HB2 := Lib.hid hb2; clear hb2)
    | fail))
    | (go_at_call 57; ((with_reducible refine (GR.out _ (HB1.out.trans (HB2.out.mono HB1.out.size))).mono ?_); rintro e3 w3 ⟨rfl, hi, ho⟩))
    | fail)
  go_ret
  exact ⟨rfl, hi, out2 (HB1.out.trans (HB2.out.mono HB1.out.size)) (ho.sub Z.out)⟩
set_option maxRecDepth 100000 in
set_option maxHeartbeats 1000000 in
theorem bal_both1 (k : Nat) (e : E) (m : Nat) (f : E) (a : T) (n : Nat) (g : E) (c d r : T) (lv en : Int) (w : World) (hn : NodeAt w k e (ptr (.node m f a (.node n g c d))) (ptr r) lv en) (hl : IsT w (.node m f a (.node n g c d))) (hr : IsT w r) (hd : (bs (.node m f a (.node n g c d)) ++ k :: bs r).Nodup) (h1 : dep (.node m f a (.node n g c d)) ≤ 900) (h2 : dep r ≤ 900) (q1 : (dep (.node m f a (.node n g c d)) : Int) - dep r > 1) (q2 : (dep a : Int) - dep (.node n g c d) < 0) :
    Calls Try.prog 48 #[.pointer (some ⟨k, 0, none⟩)] w fun e' w' => e' = .returned (.pointer (ptr (.node n g (.node m f a c) (.node k e d r)))) ∧ IsT w' (.node n g (.node m f a c) (.node k e d r)) ∧ But (bs (.node m f a (.node n g c d)) ++ k :: bs r) w w' := by
  have hda : dep a ≤ 900 ∧ dep c ≤ 900 ∧ dep d ≤ 900 := by rw [Itree.dep_node, Itree.dep_node] at h1; omega
  obtain ⟨d1, d2, d3, d4, d5⟩ := nd_mid hd
  have d1' := d1
  rw [Itree.bs_node, Itree.bs_node] at d3 d1'
  simp only [List.mem_append, List.mem_cons, not_or] at d1'
  have GA := Lib.hid (lean_any k e (.node m f a (.node n g c d)) r lv en w hn hl hr (by omega) (by omega))
  have GB := Lib.hid (fun (w1 : World) (hb : Below w.heap.size w w1) => lean_any m f a (.node n g c d) _ _ w1 (hl.1.below hb) (hl.2.1.below hb) (hl.2.2.below hb) (by omega) (by rw [Itree.dep_node]; omega))
  have GC := Lib.hid (fun (w1 : World) (hb : Below w.heap.size w w1) => turnedLeft_any m f a n g c d _ _ _ _ w1 (hl.1.below hb) (hl.2.2.1.below hb) (hl.2.1.below hb) (hl.2.2.2.1.below hb) (hl.2.2.2.2.below hb) d3 (by omega) (by omega) (by omega))
  have hkn : k ∉ [m, n] := by simp; exact ⟨d1'.2.1, d1'.2.2.2.1⟩
  have NB : ∀ w1 w2 : World, Below w.heap.size w w1 → But [m, n] w1 w2 → NodeAt w2 k e (some ⟨m, 0, none⟩) (ptr r) lv en := fun w1 w2 hb ho => (hn.below hb).but ho hkn
  have RB : ∀ w1 w2 : World, Below w.heap.size w w1 → But [m, n] w1 w2 → IsT w2 r := fun w1 w2 hb ho => (hr.below hb).but ho (by
    intro x hx hm
    have := d5 x
    rw [Itree.bs_node, Itree.bs_node] at this
    simp at hm
    rcases hm with rfl | rfl
    · exact this (by simp) hx
    · exact this (by simp) hx)
  have GR := Lib.hid (fun (w1 w2 : World) (hb : Below w.heap.size w w1) (ho : But [m, n] w1 w2) (ht : IsT w2 (.node n g (.node m f a c) d)) =>
    have hs : But [k] w2 (w2.setCell ⟨k, 3, none⟩ (.pointer (some ⟨n, 0, none⟩))) := (But.refl _ _).set (by simp) _
    have ht' : IsT (w2.setCell ⟨k, 3, none⟩ (.pointer (some ⟨n, 0, none⟩))) (.node n g (.node m f a c) d) := ht.but hs (by
      intro x hx hm
      simp at hm
      subst hm
      rw [Itree.bs_node, Itree.bs_node] at hx
      simp only [List.mem_append, List.mem_cons] at hx
      rcases hx with (hx | hx | hx) | hx | hx
      · exact d1'.1 hx
      · exact d1'.2.1 hx
      · exact d1'.2.2.1 hx
      · exact d1'.2.2.2.1 hx
      · exact d1'.2.2.2.2 hx)
    turnedRight_any k e n g (.node m f a c) d r lv en _ _ _ ((NB w1 w2 hb ho).set3 (some ⟨n, 0, none⟩)) ht'.1 ht'.2.1 ht'.2.2 ((RB w1 w2 hb ho).but hs (by intro x hx hm; simp at hm; exact d2 (hm ▸ hx))) (by
      rw [Itree.bs_node] at hd ⊢
      rw [Itree.bs_node] at hd
      simpa [List.append_assoc] using hd) (by rw [Itree.dep_node]; omega) (by omega) (by omega))
  have K0 := Lib.hid (fun (w1 : World) (hb : Below w.heap.size w w1) => And.intro (hn.below hb).c3 (hn.below hb).c4)
  have KF := Lib.hid (fun (w1 w2 : World) (hb : Below w.heap.size w w1) (ho : But [m, n] w1 w2) => And.intro (NB w1 w2 hb ho).c3 (NB w1 w2 hb ho).fr)
  have Z := Lib.hid (And.intro (BX (S := bs (.node m f a (.node n g c d)) ++ k :: bs r) (k := m) (m := n) (by simp [Itree.bs_node]) (by simp [Itree.bs_node])) (BX (S := bs (.node m f a (.node n g c d)) ++ k :: bs r) (k := k) (m := n) (by simp) (by simp [Itree.bs_node])))
  have ZK := Lib.hid (show k ∈ bs (.node m f a (.node n g c d)) ++ k :: bs r by simp)
  clear hn hl hr hd hda NB RB hkn d1 d2 d3 d4 d5 d1'
  generalize (dep (.node m f a (.node n g c d)) : Int) - dep r = q at *
  generalize (dep a : Int) - dep (.node n g c d) = p at *
  have q1' : 1 < q := by omega
  have q2' : p < 0 := by omega
  clear q1 q2 h1 h2
  simp only [ptr] at K0 ⊢
  go_enter Try.func48, Try.ntmps48
  go_wp2_with (first
    | (go_at_call 56; (first
    | ((with_reducible refine (GA.out).mono ?_); clear GA; rintro e1 w1 ⟨rfl, hb1⟩; have x3 := (K0.out _ hb1).1; have x4 := (K0.out _ hb1).2; have HB1 := Lib.hid hb1; clear hb1)
    | ((with_reducible refine (GB.out _ HB1.out).mono ?_); clear GB; rintro e2 w2 ⟨rfl, hb2⟩; have y3 := (K0.out _ (HB1.out.trans (hb2.mono HB1.out.size))).1; have HB2 := Lib.hid hb2; clear hb2)
    | fail))
    | (go_at_call 57; ((with_reducible refine (GC.out _ (HB1.out.trans (HB2.out.mono HB1.out.size))).mono ?_); rintro e3 w3 ⟨rfl, hi3, ho3⟩; obtain ⟨z3, zf⟩ := KF.out _ _ (HB1.out.trans (HB2.out.mono HB1.out.size)) ho3; have HI := Lib.hid (And.intro hi3 ho3); clear hi3 ho3))
    | (go_at_call 58; ((with_reducible refine (GR.out _ _ (HB1.out.trans (HB2.out.mono HB1.out.size)) HI.out.2 HI.out.1).mono ?_); rintro e4 w4 ⟨rfl, hi, ho⟩))
    | fail)
  go_ret
  exact ⟨rfl, hi, ((out2 (HB1.out.trans (HB2.out.mono HB1.out.size)) (HI.out.2.sub Z.out.1)).set ZK.out _).trans (ho.sub Z.out.2) (fun x hx => .inl hx)⟩
set_option maxRecDepth 100000 in
set_option maxHeartbeats 1000000 in
theorem bal_both2 (k : Nat) (e : E) (l : T) (m : Nat) (f : E) (n : Nat) (g : E) (c d b : T) (lv en : Int) (w : World) (hn : NodeAt w k e (ptr l) (ptr (.node m f (.node n g c d) b)) lv en) (hl : IsT w l) (hr : IsT w (.node m f (.node n g c d) b)) (hd : (bs l ++ k :: bs (.node m f (.node n g c d) b)).Nodup) (h1 : dep l ≤ 900) (h2 : dep (.node m f (.node n g c d) b) ≤ 900) (q1 : (dep l : Int) - dep (.node m f (.node n g c d) b) < -1) (q2 : (dep (.node n g c d) : Int) - dep b > 0) :
    Calls Try.prog 48 #[.pointer (some ⟨k, 0, none⟩)] w fun e' w' => e' = .returned (.pointer (ptr (.node n g (.node k e l c) (.node m f d b)))) ∧ IsT w' (.node n g (.node k e l c) (.node m f d b)) ∧ But (bs l ++ k :: bs (.node m f (.node n g c d) b)) w w' := by
  have hda : dep b ≤ 900 ∧ dep c ≤ 900 ∧ dep d ≤ 900 := by rw [Itree.dep_node, Itree.dep_node] at h2; omega
  obtain ⟨d1, d2, d3, d4, d5⟩ := nd_mid hd
  have d2' := d2
  rw [Itree.bs_node, Itree.bs_node] at d4 d2'
  simp only [List.mem_append, List.mem_cons, not_or] at d2'
  have GA := Lib.hid (lean_any k e l (.node m f (.node n g c d) b) lv en w hn hl hr (by omega) (by omega))
  have GB := Lib.hid (fun (w1 : World) (hb : Below w.heap.size w w1) => lean_any m f (.node n g c d) b _ _ w1 (hr.1.below hb) (hr.2.1.below hb) (hr.2.2.below hb) (by rw [Itree.dep_node]; omega) (by omega))
  have GC := Lib.hid (fun (w1 : World) (hb : Below w.heap.size w w1) => turnedRight_any m f n g c d b _ _ _ _ w1 (hr.1.below hb) (hr.2.1.1.below hb) (hr.2.1.2.1.below hb) (hr.2.1.2.2.below hb) (hr.2.2.below hb) d4 (by omega) (by omega) (by omega))
  have hkn : k ∉ [m, n] := by simp; exact ⟨d2'.2.1, d2'.1.2.1⟩
  have NB : ∀ w1 w2 : World, Below w.heap.size w w1 → But [m, n] w1 w2 → NodeAt w2 k e (ptr l) (some ⟨m, 0, none⟩) lv en := fun w1 w2 hb ho => (hn.below hb).but ho hkn
  have LB : ∀ w1 w2 : World, Below w.heap.size w w1 → But [m, n] w1 w2 → IsT w2 l := fun w1 w2 hb ho => (hl.below hb).but ho (by
    intro x hx hm
    have := d5 x hx
    rw [Itree.bs_node, Itree.bs_node] at this
    simp at hm
    rcases hm with rfl | rfl
    · exact this (by simp)
    · exact this (by simp))
  have GR := Lib.hid (fun (w1 w2 : World) (hb : Below w.heap.size w w1) (ho : But [m, n] w1 w2) (ht : IsT w2 (.node n g c (.node m f d b))) =>
    have hs : But [k] w2 (w2.setCell ⟨k, 4, none⟩ (.pointer (some ⟨n, 0, none⟩))) := (But.refl _ _).set (by simp) _
    have ht' : IsT (w2.setCell ⟨k, 4, none⟩ (.pointer (some ⟨n, 0, none⟩))) (.node n g c (.node m f d b)) := ht.but hs (by
      intro x hx hm
      simp at hm
      subst hm
      rw [Itree.bs_node, Itree.bs_node] at hx
      simp only [List.mem_append, List.mem_cons] at hx
      rcases hx with hx | hx | hx | hx | hx
      · exact d2'.1.1 hx
      · exact d2'.1.2.1 hx
      · exact d2'.1.2.2 hx
      · exact d2'.2.1 hx
      · exact d2'.2.2 hx)
    turnedLeft_any k e l n g c (.node m f d b) lv en _ _ _ ((NB w1 w2 hb ho).set4 (some ⟨n, 0, none⟩)) ht'.1 ((LB w1 w2 hb ho).but hs (by intro x hx hm; simp at hm; exact d1 (hm ▸ hx))) ht'.2.1 ht'.2.2 (by
      rw [Itree.bs_node] at hd ⊢
      rw [Itree.bs_node] at hd
      simpa [List.append_assoc] using hd) (by omega) (by omega) (by rw [Itree.dep_node]; omega))
  have K0 := Lib.hid (fun (w1 : World) (hb : Below w.heap.size w w1) => And.intro (hn.below hb).c3 (hn.below hb).c4)
  have KF := Lib.hid (fun (w1 w2 : World) (hb : Below w.heap.size w w1) (ho : But [m, n] w1 w2) => And.intro (NB w1 w2 hb ho).c4 (NB w1 w2 hb ho).fr)
  have Z := Lib.hid (And.intro (BX (S := bs l ++ k :: bs (.node m f (.node n g c d) b)) (k := m) (m := n) (by simp [Itree.bs_node]) (by simp [Itree.bs_node])) (BX (S := bs l ++ k :: bs (.node m f (.node n g c d) b)) (k := k) (m := n) (by simp) (by simp [Itree.bs_node])))
  have ZK := Lib.hid (show k ∈ bs l ++ k :: bs (.node m f (.node n g c d) b) by simp)
  clear hn hl hr hd hda NB LB hkn d1 d2 d3 d4 d5 d2'
  generalize (dep l : Int) - dep (.node m f (.node n g c d) b) = q at *
  generalize (dep (.node n g c d) : Int) - dep b = p at *
  have q1' : q < -1 := by omega
  have q1'' : q ≤ 1 := by omega
  have q2' : 0 < p := by omega
  clear q1 q2 h1 h2
  simp only [ptr] at K0 ⊢
  go_enter Try.func48, Try.ntmps48
  go_wp2_with (first
    | (go_at_call 56; (first
    | ((with_reducible refine (GA.out).mono ?_); clear GA; rintro e1 w1 ⟨rfl, hb1⟩; have x3 := (K0.out _ hb1).1; have x4 := (K0.out _ hb1).2; have HB1 := Lib.hid hb1; clear hb1)
    | ((with_reducible refine (GB.out _ HB1.out).mono ?_); clear GB; rintro e2 w2 ⟨rfl, hb2⟩; have y3 := (K0.out _ (HB1.out.trans (hb2.mono HB1.out.size))).2; have HB2 := Lib.hid hb2; clear hb2)
    | fail))
    | (go_at_call 58; ((with_reducible refine (GC.out _ (HB1.out.trans (HB2.out.mono HB1.out.size))).mono ?_); rintro e3 w3 ⟨rfl, hi3, ho3⟩; obtain ⟨z3, zf⟩ := KF.out _ _ (HB1.out.trans (HB2.out.mono HB1.out.size)) ho3; have HI := Lib.hid (And.intro hi3 ho3); clear hi3 ho3))
    | (go_at_call 57; ((with_reducible refine (GR.out _ _ (HB1.out.trans (HB2.out.mono HB1.out.size)) HI.out.2 HI.out.1).mono ?_); rintro e4 w4 ⟨rfl, hi, ho⟩))
    | fail)
  go_ret
  exact ⟨rfl, hi, ((out2 (HB1.out.trans (HB2.out.mono HB1.out.size)) (HI.out.2.sub Z.out.1)).set ZK.out _).trans (ho.sub Z.out.2) (fun x hx => .inl hx)⟩
theorem balanced_any (k : Nat) (e : E) (l r : T) (lv en : Int) (w : World) (hn : NodeAt w k e (ptr l) (ptr r) lv en) (hl : IsT w l) (hr : IsT w r) (hd : (bs l ++ k :: bs r).Nodup) (h1 : dep l ≤ 900) (h2 : dep r ≤ 900) :
    Calls Try.prog 48 #[.pointer (some ⟨k, 0, none⟩)] w fun e' w' => e' = .returned (.pointer (ptr (bal k e l r))) ∧ IsT w' (bal k e l r) ∧ But (bs l ++ k :: bs r) w w' := by
  unfold bal
  by_cases q1 : (dep l : Int) - dep r > 1
  · rw [if_pos q1]
    obtain ⟨m, f, a, b, rfl⟩ := Itree.node_of_dep (t := l) (by omega)
    by_cases q2 : (dep a : Int) - dep b < 0
    · rw [if_pos (by simpa only [lean] using q2)]
      obtain ⟨n, g, c, d, rfl⟩ := Itree.node_of_dep (t := b) (by omega)
      exact bal_both1 k e m f a n g c d r lv en w hn hl hr hd h1 h2 q1 q2
    · rw [if_neg (by simpa only [lean] using q2)]
      exact bal_right k e m f a b r lv en w hn hl hr hd h1 h2 q1 q2
  · rw [if_neg q1]
    by_cases q3 : (dep l : Int) - dep r < -1
    · rw [if_pos q3]
      obtain ⟨m, f, b, c, rfl⟩ := Itree.node_of_dep (t := r) (by omega)
      by_cases q2 : (dep b : Int) - dep c > 0
      · rw [if_pos (by simpa only [lean] using q2)]
        obtain ⟨n, g, x, y, rfl⟩ := Itree.node_of_dep (t := b) (by omega)
        exact bal_both2 k e l m f n g x y c lv en w hn hl hr hd h1 h2 q3 q2
      · rw [if_neg (by simpa only [lean] using q2)]
        exact bal_left k e l m f b c lv en w hn hl hr hd h1 h2 q3 q2
    · rw [if_neg q3]
      exact bal_none k e l r lv en w hn hl hr hd h1 h2 q1 q3
end Go.Proofs.Ytbifgmamjdniaaa
