/- The periods that may be, in order; the normal form of a list. -/
/- The normal form of a list. -/
import Derived.Test.YtgmaompjhhomcaaGreatmG36
import Derived.Laws.OwnMore
namespace Go.Proofs.YtgmaompjhhomcaaGreat.Se
open Go.RowKit
open Iset (mayP sortV nf step)
theorem take_may (L : List (Int × Int)) (k : Nat) (h : k < L.length) : (L.take (k + 1)).filter mayP = if mayB (L[k].1) (L[k].2) = true then (L.take k).filter mayP ++ [(L[k].1, L[k].2)] else (L.take k).filter mayP := by
  rw [List.take_succ_eq_append_getElem h, List.filter_append]
  have e : mayB (L[k].1) (L[k].2) = mayP L[k] := rfl
  rw [e]
  by_cases hm : mayP L[k] = true <;> simp [hm]
set_option maxRecDepth 100000 in
set_option maxHeartbeats 2000000 in
theorem sorted_any (v : Value) (L : List (Int × Int)) (w : World) (hv : IsP w v L) (hl : L.length ≤ 1000000000000) :
    Calls Tryz.prog 91 #[v] w fun e w' => ∃ v', e = .returned v' ∧ OwnP w.heap.size w' v' (sortV L) ∧ Below w.heap.size w w' := by
  obtain ⟨A, c, rfl, hA⟩ := hv
  have HA := Lib.hid hA
  have HM := Lib.hid May_any
  have HS := Lib.hid (Sort_own w.heap.size)
  have HT := Lib.hid (take_may L)
  clear hA
  go_enter Tryz.func91, Tryz.ntmps91
  go_wp2
  go_loopw [3, 8] (fun v i wr => ∃ k : Nat, k ≤ L.length ∧ i = .int .i64 k ∧ OwnP w.heap.size wr v ((L.take k).filter mayP) ∧ Below w.heap.size w wr) (fun _ i _ => L.length - (intOf i).toNat)
  case atStart => exact ⟨0, by omega, rfl, OwnP.nil _ _, Below.refl _ _⟩
  case round =>
    obtain ⟨k, hk, rfl, ho, hb⟩ := hrel
    have hlen : ((L.take k).filter mayP).length ≤ L.length := by have h1 := List.length_filter_le mayP (L.take k); rw [List.length_take] at h1; omega
    have HO := Lib.hid ho
    have HB := Lib.hid hb
    clear ho hb
    by_cases hlt : k < L.length
    · obtain ⟨b, off, rfl, hbl, hc⟩ := (PAt.below HA.out HB.out) (by omega)
      obtain ⟨c0, c1⟩ := hc k hlt
      clear hc
      have HK := Lib.hid (HT.out k hlt)
      generalize L[k].1 = p at *
      generalize L[k].2 = q at *
      have hs := HB.out.size
      have X0 := Lib.hid (box_at wr p q 25 wr.heap.size rfl)
      cases hm : mayB p q
      · have HM1 := Lib.hid (hm ▸ HM.out p q)
        rw [hm] at HK
        have HK2 := Lib.hid (show List.filter mayP (L.take (k + 1)) = List.filter mayP (L.take k) by rw [HK.out]; rfl)
        clear HK hm
        obtain ⟨x0, x1, x2, x3⟩ := X0.out
        go_wp2_with (go_at_call 58; ((with_reducible refine (HM1.out _).mono ?_); rintro e w1 ⟨rfl, hb1⟩))
        exact ⟨⟨k + 1, by omega, by go_num, by rw [HK2.out]; exact (HO.out.alloc _).below hb1, (HB.out.alloc hs _).trans (hb1.mono (by simp; omega))⟩, by simp [intOf]; omega⟩
      · have HM1 := Lib.hid (hm ▸ HM.out p q)
        rw [hm] at HK
        have HK2 := Lib.hid (show List.filter mayP (L.take (k + 1)) = List.filter mayP (L.take k) ++ [(p, q)] by rw [HK.out]; rfl)
        clear HK hm
        obtain ⟨x0, x1, x2, x3⟩ := X0.out
        go_wp2_with fail
        refine (HM1.out _).mono ?_
        rintro e w1 ⟨rfl, hb1⟩
        have X1 := Lib.hid (X0.out.below hb1)
        have HO1 := Lib.hid ((HO.out.alloc (.cells #[.int .u64 p, .int .u64 q] 25)).below hb1)
        have HB1 := Lib.hid ((HB.out.alloc hs (.cells #[.int .u64 p, .int .u64 q] 25)).trans (hb1.mono (by simp; omega)))
        clear hb1 x0 x1 x2 x3
        have hs1 := HB1.out.size
        obtain ⟨x0, x1, x2, x3⟩ := X1.out
        go_wp2_with (at_builtin; refine wpList_appP rfl (.tmp 14) (.tmp 16) rfl w.heap.size _ (List.filter mayP (L.take k)) rfl (HO1.out.alloc _) w1.heap.size p q rfl (by go_simp) (by go_simp) (by omega) (by simp; omega) ?_; intro v2 w2 ho2 hb2 _; have HO2 := Lib.hid ho2; have HB2 := Lib.hid ((HB1.out.alloc hs1 (.cells #[.int .u64 p, .int .u64 q] 25)).trans hb2); clear ho2 hb2)
        exact ⟨⟨k + 1, by omega, by go_num, by rw [HK2.out]; exact HO2.out, HB2.out⟩, by simp [intOf]; omega⟩
    · obtain rfl : k = L.length := by omega
      rw [List.take_length] at HO hlen
      have hs := HB.out.size
      go_wp2_with fail
      refine (HS.out _ _ _ HO.out hs (by omega)).mono ?_
      rintro e w1 ⟨rfl, ho1, hb1⟩
      go_wp2
      go_ret
      exact ⟨_, rfl, ho1, HB.out.trans hb1⟩
/-- What the call owns: its block. -/
theorem OwnP.form {base : Nat} {w : World} {v : Value} {L : List (Int × Int)} (h : OwnP base w v L) (hn : 0 < L.length) : ∃ g c, v = .slice (some ⟨g, 0, none⟩) L.length c ∧ base ≤ g ∧ g < w.heap.size ∧ (∀ o, w.frozen? ⟨g, o, none⟩ = false) ∧ ∀ i (h : i < L.length), w.cell? ⟨g, i * 2, none⟩ = some (.int .u64 (L[i].1)) ∧ w.cell? ⟨g, i * 2 + 1, none⟩ = some (.int .u64 (L[i].2)) := by
  have h' := h
  rcases h.2 with ⟨rfl, h0⟩ | ⟨g, cap, cur, rfl, hg, hb, h1, h2, h3, h4⟩
  · omega
  · obtain ⟨A, c, e, k⟩ := h'.at
    obtain ⟨b, off, rfl, hl, hc⟩ := k hn
    injection e with e1 e2 e3
    injection e1 with e1
    injection e1 with e4 e5 e6
    subst e4 e5
    refine ⟨g, cap, rfl, hg, hl, fun o => by simp [World.frozen?, hb], fun i hi => ?_⟩
    have := hc i hi
    rw [Nat.zero_add] at this
    exact this
theorem cellsP_set (s : List (Int × Int)) (q : Int × Int) (z : Int) : (cellsP (s ++ [q])).set (s.length * 2 + 1) (.int .u64 z) = cellsP (s ++ [(q.1, z)]) := by
  rw [cellsP_append, cellsP_append, List.set_append_right _ _ (by rw [cellsP_length]; omega), cellsP_length, show s.length * 2 + 1 - s.length * 2 = 1 by omega]
  rfl
/-- The To of the last one, stored. -/
theorem OwnP.stored {base g c : Nat} {w : World} {s : List (Int × Int)} {q : Int × Int} (h : OwnP base w (.slice (some ⟨g, 0, none⟩) (s.length + 1) c) (s ++ [q])) (z : Int) :
    OwnP base (w.setCell ⟨g, s.length * 2 + 1, none⟩ (.int .u64 z)) (.slice (some ⟨g, 0, none⟩) (s.length + 1) c) (s ++ [(q.1, z)]) := by
  unfold OwnP at *
  rw [List.length_append] at *
  have := World.ownsRow.stored h (s.length * 2 + 1) (.int .u64 z)
  rw [cellsP_set] at this
  exact this.1
end Go.Proofs.YtgmaompjhhomcaaGreat.Se

namespace Go.Proofs.YtgmaompjhhomcaaGreat.Se
open Go.RowKit
open Iset (mayP sortV nf)
theorem OwnP.mono {base base' : Nat} {w : World} {v : Value} {L : List (Int × Int)} (h : OwnP base w v L) (hb : base' ≤ base) : OwnP base' w v L := by
  refine ⟨h.1, ?_⟩
  rcases h.2 with h0 | ⟨g, cap, cur, e, hg, hc, h1, h2, h3, h4⟩
  · exact .inl h0
  · exact .inr ⟨g, cap, cur, e, by omega, hc, h1, h2, h3, h4⟩
theorem OwnP.grew {base : Nat} {w w' : World} {v : Value} {L : List (Int × Int)} (h : OwnP base w v L) (hg : Grew w w') : OwnP base w' v L := h.below hg.below
theorem bel_drewN {B : Nat} {a w : World} (n : Nat) (h : Below B a w) : Below B a (w.drewN n) := ⟨h.os, h.tape, h.output, h.size, h.block⟩
theorem fold_take (V : List (Int × Int)) (k : Nat) (h : k < V.length) : (V.take (k + 1)).foldl Iset.step [] = Iset.step ((V.take k).foldl Iset.step []) (V[k].1, V[k].2) := by
  rw [List.take_succ_eq_append_getElem h, List.foldl_append]
  rfl
theorem step_length (s : List (Int × Int)) (p : Int × Int) : (Iset.step s p).length ≤ s.length + 1 := by
  rcases Iset.nil_or_snoc s with rfl | ⟨s, q, rfl⟩
  · simp [Iset.step_nil]
  · rw [Iset.step_snoc]
    split
    · simp
    · split <;> simp
theorem fold_length (V : List (Int × Int)) : ∀ (s : List (Int × Int)), (V.foldl Iset.step s).length ≤ s.length + V.length := by
  induction V with
  | nil => intro s; simp
  | cons p V ih =>
    intro s
    have h1 := ih (Iset.step s p)
    have h2 := step_length s p
    simp only [List.foldl_cons, List.length_cons]
    omega
set_option maxRecDepth 100000 in
set_option maxHeartbeats 4000000 in
theorem Of_any (v : Value) (L : List (Int × Int)) (w : World) (hv : IsP w v L) (hl : L.length ≤ 1000000000000) :
    Calls Tryz.prog 36 #[v] w fun e w' => ∃ v', e = .returned v' ∧ OwnP w.heap.size w' v' (nf L) ∧ Below w.heap.size w w' := by
  have hvl := Iset.sortV_length L
  have HS := Lib.hid (sorted_any v L w hv hl)
  have HN := Lib.hid (show nf L = (sortV L).foldl Iset.step [] from rfl)
  generalize sortV L = V at *
  have HT := Lib.hid (fold_take V)
  have HL := Lib.hid (fold_length)
  clear hv
  go_enter Tryz.func36, Tryz.ntmps36
  go_wp2_with fail
  go_step3
  go_wp2_with fail
  go_step3
  go_wp2_with fail
  refine (HS.out).mono ?_
  rintro e w1 ⟨v1, rfl, ho1, hb1⟩
  obtain ⟨A, c, rfl, hA⟩ := ho1.at
  have HA := Lib.hid hA
  have HB1 := Lib.hid hb1
  clear ho1 hA hb1
  go_wp2
  go_loopw [3, 10] (fun u i wr => ∃ k : Nat, k ≤ V.length ∧ i = .int .i64 k ∧ OwnP w1.heap.size wr u ((V.take k).foldl Iset.step []) ∧ Below w1.heap.size w1 wr) (fun _ i _ => V.length - (intOf i).toNat)
  case atStart => exact ⟨0, by omega, rfl, OwnP.nil _ _, Below.refl _ _⟩
  case round =>
    obtain ⟨k, hk, rfl, ho, hb⟩ := hrel
    by_cases hlt : k < V.length
    · have hlen := HL.out (V.take k) []
      rw [List.length_nil, List.length_take] at hlen
      have HK := Lib.hid (HT.out k hlt)
      generalize (V.take k).foldl Iset.step [] = s at *
      obtain ⟨b, off, rfl, hbl, hc⟩ := (PAt.below HA.out hb) (by omega)
      obtain ⟨c0, c1⟩ := hc k hlt
      clear hc
      generalize V[k].1 = p at *
      generalize V[k].2 = q at *
      have hs := hb.size
      have HO := Lib.hid ho
      have HB := Lib.hid hb
      clear ho hb
      go_upto_region 5 with fail
      obtain ⟨W, hW⟩ : ∃ W, wr.alloc (.cells #[.int .u64 p, .int .u64 q] 25) = W := ⟨_, rfl⟩
      have X0 := Lib.hid (show Box W wr.heap.size p q by rw [← hW]; exact box_at wr p q _ _ rfl)
      have HO1 := Lib.hid (show OwnP w1.heap.size W u3 s by rw [← hW]; exact HO.out.alloc _)
      have HB2 := Lib.hid (show Below w1.heap.size w1 W by rw [← hW]; exact HB.out.alloc hs _)
      rw [hW]
      clear hW HO HB
      have hsW := HB2.out.size
      obtain ⟨x0, x1, x2, x3⟩ := X0.out
      rcases Iset.nil_or_snoc s with rfl | ⟨s, z, rfl⟩
      · rw [Iset.step_nil] at HK
        obtain ⟨A2, c2, rfl, _⟩ := HO1.out.at
        rw [List.length_nil] at HO1 ⊢
        go_upto_region 7 with fail
        go_quiet (fail)
        have X1 := Lib.hid (X0.out.below (bel_drewN nq (Below.refl _ _)))
        have HO2 := Lib.hid (HO1.out.below (bel_drewN nq (Below.refl _ _)))
        have HB3 := Lib.hid (bel_drewN nq HB2.out)
        clear x0 x1 x2 x3
        generalize W.drewN nq = W at *
        obtain ⟨x0, x1, x2, x3⟩ := X1.out
        have hsW := HB3.out.size
        go_wp2_with (at_builtin; refine wpList_appP rfl (.tmp 36) (.tmp 38) rfl w1.heap.size _ [] rfl (HO2.out.alloc _) W.heap.size p q rfl (by go_simp) (by go_simp) (by simp) (by simp; omega) ?_; intro v2 w2 ho2 hb2 _; have HO3 := Lib.hid ho2; have HB4 := Lib.hid ((HB3.out.alloc hsW (.cells #[.int .u64 p, .int .u64 q] 25)).trans hb2); clear ho2 hb2)
        exact ⟨⟨k + 1, by omega, by go_num, by rw [HK.out]; exact HO3.out, HB4.out⟩, by simp [intOf]; omega⟩
      · rw [Iset.step_snoc] at HK
        have hn : (s ++ [z]).length = s.length + 1 := by simp
        have hsl : s.length + 1 ≤ 1000000000000 := by rw [← hn]; omega
        obtain ⟨g, c2, rfl, hg1, hg2, hfr, hcl⟩ := HO1.out.form (by omega)
        have hz := hcl s.length (by omega)
        have ez : (s ++ [z])[s.length]'(by omega) = z := by simp
        rw [ez] at hz
        obtain ⟨z1, z2⟩ := hz
        rw [hn] at HO1 ⊢
        clear hcl ez hn hlen
        have hneg : ¬ (s.length : Int) < 0 := by omega
        go_upto_region 7 with fail
        by_cases t1 : z.2 < p
        · rw [if_pos t1] at HK
          have HK2 := Lib.hid HK.out
          clear HK
          go_quiet (fail)
          have X1 := Lib.hid (X0.out.below (bel_drewN nq (Below.refl _ _)))
          have HO2 := Lib.hid (HO1.out.below (bel_drewN nq (Below.refl _ _)))
          have HB3 := Lib.hid (bel_drewN nq HB2.out)
          clear x0 x1 x2 x3 z1 z2 hfr
          generalize W.drewN nq = W at *
          obtain ⟨x0, x1, x2, x3⟩ := X1.out
          have hsW := HB3.out.size
          go_wp2_with (at_builtin; refine wpList_appP rfl (.tmp 36) (.tmp 38) rfl w1.heap.size _ (s ++ [z]) rfl (HO2.out.alloc _) W.heap.size p q rfl (by go_simp) (by go_simp) (by simp; omega) (by simp; omega) ?_; intro v2 w2 ho2 hb2 _; have HO3 := Lib.hid ho2; have HB4 := Lib.hid ((HB3.out.alloc hsW (.cells #[.int .u64 p, .int .u64 q] 25)).trans hb2); clear ho2 hb2)
          exact ⟨⟨k + 1, by omega, by go_num, by rw [HK2.out]; exact HO3.out, HB4.out⟩, by simp [intOf]; omega⟩
        · rw [if_neg t1] at HK
          have t1' : decide (z.2 < p) = false := by simpa using t1
          go_quiet (fail)
          have X1 := Lib.hid (X0.out.below (bel_drewN nq (Below.refl _ _)))
          have HO2 := Lib.hid (HO1.out.below (bel_drewN nq (Below.refl _ _)))
          have HB3 := Lib.hid (bel_drewN nq HB2.out)
          have y1 : (W.drewN nq).cell? ⟨g, s.length * 2, none⟩ = some (.int .u64 z.1) := z1
          have y2 : (W.drewN nq).cell? ⟨g, s.length * 2 + 1, none⟩ = some (.int .u64 z.2) := z2
          have y3 : ∀ o, (W.drewN nq).frozen? ⟨g, o, none⟩ = false := hfr
          clear x0 x1 x2 x3 z1 z2 hfr
          generalize W.drewN nq = W at *
          obtain ⟨x0, x1, x2, x3⟩ := X1.out
          have hsW := HB3.out.size
          go_upto_region 9 with fail
          by_cases t2 : q ≤ z.2
          · rw [if_pos t2] at HK
            have HK2 := Lib.hid HK.out
            clear HK
            go_quiet (fail)
            go_wp2
            exact ⟨⟨k + 1, by omega, by go_num, by rw [HK2.out]; exact HO2.out.below (bel_drewN _ (Below.refl _ _)), bel_drewN _ HB3.out⟩, by simp [intOf]; omega⟩
          · rw [if_neg t2] at HK
            have HK2 := Lib.hid HK.out
            clear HK
            have t2' : decide (q ≤ z.2) = false := by simpa using t2
            go_quiet (fail)
            have X2 := Lib.hid (X1.out.below (bel_drewN nq (Below.refl _ _)))
            have HO3 := Lib.hid (HO2.out.below (bel_drewN nq (Below.refl _ _)))
            have HB4 := Lib.hid (bel_drewN nq HB3.out)
            have n1 : (W.drewN nq).cell? ⟨g, s.length * 2, none⟩ = some (.int .u64 z.1) := y1
            have n2 : (W.drewN nq).cell? ⟨g, s.length * 2 + 1, none⟩ = some (.int .u64 z.2) := y2
            have n3 : ∀ o, (W.drewN nq).frozen? ⟨g, o, none⟩ = false := y3
            clear x0 x1 x2 x3 y1 y2 y3
            generalize W.drewN nq = W at *
            obtain ⟨x0, x1, x2, x3⟩ := X2.out
            go_wp2
            exact ⟨⟨k + 1, by omega, by go_num, by rw [HK2.out]; exact OwnP.stored HO3.out q, HB4.out.setCell hg1 _⟩, by simp [intOf]; omega⟩
    · obtain rfl : k = V.length := by omega
      rw [List.take_length, ← HN.out] at ho
      have HO := Lib.hid ho
      have HB := Lib.hid hb
      clear ho hb
      go_wp2
      try rw [Exit.noGoto_ret]
      go_ret
      exact ⟨_, rfl, HO.out.mono HB1.out.size, HB1.out.trans (HB.out.mono HB1.out.size)⟩
end Go.Proofs.YtgmaompjhhomcaaGreat.Se

