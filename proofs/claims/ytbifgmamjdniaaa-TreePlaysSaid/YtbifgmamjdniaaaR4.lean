/- The document's Stab and Overlap. -/
import Derived.Test.YtbifgmamjdniaaaR3
namespace Go.Proofs.Ytbifgmamjdniaaa
open Go.RowKit
open Itree (E T dep endT bs ord sz nodes lean rotL rotR bal ins del hasT first AVL Srt eachL over)
/-- What Stab finds. -/
structure FoundS (w w' : World) (g b c : Nat) (L : List E) : Prop where
  below : Below w.heap.size w w'
  g0 : w'.cell? ⟨g, 0, none⟩ = some (.slice (some ⟨b, 0, none⟩) L.length c)
  at' : EAt w' (some ⟨b, 0, none⟩) L
theorem EAt.belowN {w w' : World} {b n : Nat} {L : List E} (h : EAt w (some ⟨b, 0, none⟩) L) (hb : b < n) (hl : Below n w w') : EAt w' (some ⟨b, 0, none⟩) L := fun h0 => by
  obtain ⟨b', off, e, hlt, hc⟩ := h h0
  injection e with e
  injection e with e1 e2
  subst e1 e2
  exact ⟨b, 0, rfl, Nat.lt_of_lt_of_le hlt hl.size, fun i hi => ⟨(hl.cell (p := ⟨b, 0 + i * 3, none⟩) hb).trans (hc i hi).1, (hl.cell (p := ⟨b, 0 + i * 3 + 1, none⟩) hb).trans (hc i hi).2.1, (hl.cell (p := ⟨b, 0 + i * 3 + 2, none⟩) hb).trans (hc i hi).2.2⟩⟩
theorem FoundS.onN {w w' w'' : World} {g b c n : Nat} {L : List E} (h : FoundS w w' g b c L) (hg : g < w.heap.size) (hb : b < w.heap.size) (hn : w.heap.size ≤ n) (hl : Below n w' w'') : FoundS w w'' g b c L :=
  ⟨h.below.trans (hl.mono hn), (hl.cell (p := ⟨g, 0, none⟩) (Nat.lt_of_lt_of_le hg hn)).trans h.g0, h.at'.belowN (Nat.lt_of_lt_of_le hb hn) hl⟩
theorem new_two {V w2 : World} {a b : Value} {T : TypeId} (h : Below (V.alloc (.cells #[a, b] T)).heap.size (V.alloc (.cells #[a, b] T)) w2) : w2.cell? ⟨V.heap.size, 0, none⟩ = some a ∧ w2.cell? ⟨V.heap.size, 1, none⟩ = some b ∧ ∀ o, w2.frozen? ⟨V.heap.size, o, none⟩ = false := by
  refine ⟨(h.cell (p := ⟨V.heap.size, 0, none⟩) (by simp)).trans ?_, (h.cell (p := ⟨V.heap.size, 1, none⟩) (by simp)).trans ?_, fun o => (h.frozen (p := ⟨V.heap.size, o, none⟩) (by simp)).trans ?_⟩ <;> go_simp
theorem filter_snoc (p : E → Bool) (y : E) (L : List E) : (L ++ [y]).filter p = if p y = true then L.filter p ++ [y] else L.filter p := by
  rw [List.filter_append]
  by_cases h : p y = true <;> simp [h]
theorem OwnR.isE {base : Nat} {w : World} {v : Value} {L : List E} (h : OwnR base w v L) : IsE w v L := by
  by_cases h0 : 0 < L.length
  · obtain ⟨b, c, rfl, _, _, _, h4⟩ := h.lies h0
    exact ⟨_, c, rfl, h4⟩
  · rcases h.2 with ⟨rfl, h1⟩ | ⟨g, cap, cur, rfl, _⟩
    · have : L = [] := List.eq_nil_of_length_eq_zero h1
      subst this
      exact IsE.nil _
    · exact ⟨_, cap, rfl, fun h => absurd h h0⟩
theorem OwnR.below {base : Nat} {w w' : World} {v : Value} {M : List E} (h : OwnR base w v M) (hb : Below w.heap.size w w') : OwnR base w' v M := by
  obtain ⟨h1, h2⟩ := h
  refine ⟨h1, ?_⟩
  rcases h2 with h0 | ⟨g, cap, cur, e, hg, hc, h1, h2, h3, h4⟩
  · exact .inl h0
  · exact .inr ⟨g, cap, cur, e, hg, (hb.block g (Array.getElem?_eq_some_iff.1 hc).1).trans hc, h1, h2, h3, h4⟩
set_option maxRecDepth 100000 in
set_option maxHeartbeats 4000000 in
theorem refStab_some (t : Int) (g b c : Nat) (L : List E) (w : World) (h0 : w.cell? ⟨g, 0, none⟩ = some (.slice (some ⟨b, 0, none⟩) L.length c)) (hg : g < w.heap.size) (hbl : b < w.heap.size) (hA : EAt w (some ⟨b, 0, none⟩) L) (hpos : 0 < L.length) (hs : L.length ≤ 1000000) :
    Calls Try.prog 15 #[.pointer (some ⟨g, 0, none⟩), .int .u64 t] w fun e w' => ∃ v, e = .returned v ∧ IsE w' v (L.filter fun e => hasB e.a e.b t) ∧ Below w.heap.size w w' := by
  have FW := Lib.hid (show FoundS w w g b c L from ⟨Below.refl _ _, h0, hA⟩)
  have HG := Lib.hid (And.intro hg hbl)
  have TH := Lib.hid (fun a b => refHas_any a b t)
  clear h0 hg hbl hA
  go_enter Try.func15, Try.ntmps15
  go_wp2_with fail
  go_loopw [5, 6] (fun v u wr => ∃ i : Nat, u = .int .i64 i ∧ i ≤ L.length ∧ FoundS w wr g b c L ∧ OwnR w.heap.size wr v ((L.take i).filter fun e => hasB e.a e.b t)) (fun _ u _ => L.length - (intOf u).toNat)
  case atStart => exact ⟨0, rfl, Nat.zero_le _, FW.out, OwnR.nil _ _⟩
  case round =>
    obtain ⟨i, rfl, hi, hf, hga⟩ := hrel
    have F := Lib.hid hf
    have GA := Lib.hid hga
    clear hf hga
    by_cases hil : i < L.length
    · obtain ⟨g', off, e, hb', hcell⟩ := F.out.at' (by omega)
      injection e with e
      injection e with e1 e2
      subst e1 e2
      obtain ⟨z0, z1, z2⟩ := hcell i hil
      simp only [Nat.zero_add] at z0 z1 z2
      obtain ⟨y, hy⟩ : ∃ y, L[i] = y := ⟨_, rfl⟩
      rw [hy] at z0 z1 z2
      have HY := Lib.hid hy
      have TS := Lib.hid (show (L.take (i + 1)).filter (fun e => hasB e.a e.b t) = if hasB y.a y.b t = true then (L.take i).filter (fun e => hasB e.a e.b t) ++ [y] else (L.take i).filter (fun e => hasB e.a e.b t) by rw [take_succ' hil, hy]; exact filter_snoc _ y _)
      have FL := Lib.hid (show ((L.take i).filter fun e => hasB e.a e.b t).length ≤ 1000000 from Nat.le_trans (List.length_filter_le _ _) (by rw [List.length_take]; omega))
      have i0 : (i : Int) < (L.length : Int) := by omega
      have i1 : (0 : Int) ≤ (i : Int) := by omega
      have g0 := F.out.g0
      clear hcell hb' hy
      generalize (L.take i).filter (fun e => hasB e.a e.b t) = M at *
      go_wp2_with fail
      refine (TH.out _ _ _).mono ?_
      rintro e1 w1 ⟨rfl, b1⟩
      have F1 := Lib.hid (F.out.onN HG.out.1 HG.out.2 F.out.below.size b1)
      have G1 := Lib.hid (GA.out.below b1)
      clear b1 g0 z0 z1 z2
      cases hh : hasB y.a y.b t with
      | true =>
        have TS2 := Lib.hid (TS.out.trans (if_pos hh))
        clear hh TS
        have q0 := F1.out.g0
        obtain ⟨_, _, e, _, hcell⟩ := F1.out.at' (by omega)
        injection e with e
        injection e with e1 e2
        subst e1 e2
        obtain ⟨z0, z1, z2⟩ := hcell i hil
        simp only [Nat.zero_add] at z0 z1 z2
        rw [HY.out] at z0 z1 z2
        clear hcell
        go_wp2_with (first
          | (at_builtin; refine wpList_appRs _ rfl _ (.tmp 34) rfl w.heap.size u5 M rfl (G1.out.alloc _) (some ⟨w1.heap.size, 0, none⟩) 1 1 [y] rfl (one_at _ _ _) (by intro h; cases h) rfl (by have := FL.out; simp; omega) (by simp; exact Nat.le_trans F1.out.below.size (Nat.le_succ _)) ?_; intro v1 y1 ho1 hb1; have O1 := Lib.hid ho1; have HB1 := Lib.hid (((Below.refl _ _).alloc F1.out.below.size _).trans hb1); clear ho1 hb1 q0 z0 z1 z2)
          | fail)
        exact ⟨⟨i + 1, by go_num, by omega, F1.out.onN HG.out.1 HG.out.2 (Nat.le_refl _) HB1.out, by rw [TS2.out]; exact O1.out⟩, by simp [intOf]; omega⟩
      | false =>
        have TS2 := Lib.hid (TS.out.trans (if_neg (by rw [hh]; simp)))
        clear hh TS
        go_wp2
        exact ⟨⟨i + 1, by go_num, by omega, F1.out, by rw [TS2.out]; exact G1.out⟩, by simp [intOf]; omega⟩
    · obtain rfl : i = L.length := by omega
      rw [List.take_length] at GA
      have g0 := F.out.g0
      go_wp2
      go_ret
      exact ⟨_, rfl, GA.out.isE, F.out.below⟩
set_option maxRecDepth 100000 in
set_option maxHeartbeats 1000000 in
theorem refStab_nil (t : Int) (g : Nat) (w : World) (h0 : w.cell? ⟨g, 0, none⟩ = some (.slice none 0 0)) :
    Calls Try.prog 15 #[.pointer (some ⟨g, 0, none⟩), .int .u64 t] w fun e w' => e = .returned (.slice none 0 0) ∧ Below w.heap.size w w' := by
  go_enter Try.func15, Try.ntmps15
  go_wp2_with fail
  refine wp_loop_rounds 1 ?_
  rw [rounds_succ]
  go_wp2
  go_ret
  exact ⟨rfl, Below.refl _ _⟩
theorem refStab_any (t : Int) (g b : Nat) (L : List E) (w : World) (h : RT w g b L) (hs : L.length ≤ 1000000) :
    Calls Try.prog 15 #[.pointer (some ⟨g, 0, none⟩), .int .u64 t] w fun e w' => ∃ v, e = .returned v ∧ IsE w' v (L.filter fun e => hasB e.a e.b t) ∧ Below w.heap.size w w' := by
  obtain ⟨h1, h2, ⟨rfl, a2⟩ | ⟨a1, a2, a3, c, a4, a5, a6⟩⟩ := h
  · refine (refStab_nil t g w a2).mono ?_
    rintro e w' ⟨rfl, hb⟩
    exact ⟨_, rfl, IsE.nil _, hb⟩
  · exact refStab_some t g b c L w a5 h2 a3 a6 a1 hs
set_option maxRecDepth 100000 in
set_option maxHeartbeats 4000000 in
theorem refOverlap_some (p p' : Int) (g b c : Nat) (L : List E) (w : World) (h0 : w.cell? ⟨g, 0, none⟩ = some (.slice (some ⟨b, 0, none⟩) L.length c)) (hfr : ∀ o, w.frozen? ⟨g, o, none⟩ = false) (hg : g < w.heap.size) (hbl : b < w.heap.size) (hA : EAt w (some ⟨b, 0, none⟩) L) (hpos : 0 < L.length) (hs : L.length ≤ 1000000) :
    Calls Try.prog 17 #[.pointer (some ⟨g, 0, none⟩), .agg #[.int .u64 p, .int .u64 p']] w fun e w' => ∃ v, e = .returned v ∧ IsE w' v (L.filter fun e => meetB e.a e.b p p') ∧ Below w.heap.size w w' := by
  have K0 : Below w.heap.size w (w.alloc (.cells #[.int .u64 p, .int .u64 p'] 32)) := (Below.refl _ _).alloc (Nat.le_refl _) _
  have pb : Box (w.alloc (.cells #[.int .u64 p, .int .u64 p'] 32)) w.heap.size p p' := box_at w p p' _ _ rfl
  obtain ⟨W, hW⟩ : ∃ W, w.alloc (.cells #[.int .u64 p, .int .u64 p'] 32) = W := ⟨_, rfl⟩
  rw [hW] at K0 pb
  have FW := Lib.hid (show FoundP w W p p' w.heap.size g b c L from ⟨K0, pb, (K0.cell (p := ⟨g, 0, none⟩) hg).trans h0, fun o => (K0.frozen (p := ⟨g, o, none⟩) hg).trans (hfr o), hA.below K0⟩)
  have HG := Lib.hid (And.intro hg (And.intro hbl (show w.heap.size < W.heap.size by rw [← hW]; simp)))
  have TH := Lib.hid (fun a b => refMeet_any a b p p')
  clear K0 pb h0 hfr hA hg hbl
  go_enter Try.func17, Try.ntmps17
  go_upto_region 1 with fail
  try rw [hW]
  clear hW
  go_wp2_with fail
  go_loopw [5, 6] (fun v u wr => ∃ i : Nat, u = .int .i64 i ∧ i ≤ L.length ∧ FoundP w wr p p' w.heap.size g b c L ∧ OwnR W.heap.size wr v ((L.take i).filter fun e => meetB e.a e.b p p') ∧ Below W.heap.size W wr) (fun _ u _ => L.length - (intOf u).toNat)
  case atStart => exact ⟨0, rfl, Nat.zero_le _, FW.out, OwnR.nil _ _, Below.refl _ _⟩
  case round =>
    obtain ⟨i, rfl, hi, hf, hga, hbl⟩ := hrel
    have F := Lib.hid hf
    have GA := Lib.hid hga
    have BL := Lib.hid hbl
    clear hf hga hbl
    by_cases hil : i < L.length
    · obtain ⟨g', off, e, hb', hcell⟩ := F.out.at' (by omega)
      injection e with e
      injection e with e1 e2
      subst e1 e2
      obtain ⟨z0, z1, z2⟩ := hcell i hil
      simp only [Nat.zero_add] at z0 z1 z2
      obtain ⟨y, hy⟩ : ∃ y, L[i] = y := ⟨_, rfl⟩
      rw [hy] at z0 z1 z2
      have HY := Lib.hid hy
      have TS := Lib.hid (show (L.take (i + 1)).filter (fun e => meetB e.a e.b p p') = if meetB y.a y.b p p' = true then (L.take i).filter (fun e => meetB e.a e.b p p') ++ [y] else (L.take i).filter (fun e => meetB e.a e.b p p') by rw [take_succ' hil, hy]; exact filter_snoc _ y _)
      have FL := Lib.hid (show ((L.take i).filter fun e => meetB e.a e.b p p').length ≤ 1000000 from Nat.le_trans (List.length_filter_le _ _) (by rw [List.length_take]; omega))
      have i0 : (i : Int) < (L.length : Int) := by omega
      have i1 : (0 : Int) ≤ (i : Int) := by omega
      have KK := Lib.hid (fun (w' : World) (h : Below wr.heap.size wr w') => (⟨h, (F.out.on HG.out.1 h).g0, (h.cell (p := ⟨b, i * 3, none⟩) hb').trans z0, (h.cell (p := ⟨b, i * 3 + 1, none⟩) hb').trans z1, (F.out.on HG.out.1 h).pb.c0, (F.out.on HG.out.1 h).pb.c1⟩ : Below wr.heap.size wr w' ∧ w'.cell? ⟨g, 0, none⟩ = some (.slice (some ⟨b, 0, none⟩) L.length c) ∧ w'.cell? ⟨b, i * 3, none⟩ = some (.int .u64 (y.a)) ∧ w'.cell? ⟨b, i * 3 + 1, none⟩ = some (.int .u64 (y.b)) ∧ w'.cell? ⟨w.heap.size, 0, none⟩ = some (.int .u64 p) ∧ w'.cell? ⟨w.heap.size, 1, none⟩ = some (.int .u64 p')))
      have g0 := F.out.g0
      clear hcell hb' hy z0 z1 z2
      generalize (L.take i).filter (fun e => meetB e.a e.b p p') = M at *
      go_upto_region 5 with fail
      clear g0
      go_region_held3 (fun w' => Below wr.heap.size wr w' ∧ w'.cell? ⟨g, 0, none⟩ = some (.slice (some ⟨b, 0, none⟩) L.length c) ∧ w'.cell? ⟨b, i * 3, none⟩ = some (.int .u64 (y.a)) ∧ w'.cell? ⟨b, i * 3 + 1, none⟩ = some (.int .u64 (y.b)) ∧ w'.cell? ⟨w.heap.size, 0, none⟩ = some (.int .u64 p) ∧ w'.cell? ⟨w.heap.size, 1, none⟩ = some (.int .u64 p')) (first | exact KK.out _ (Below.refl _ _).drew | (first | exact KK.out _ (by assumption) | (go_split_ands; exact KK.out _ (by (first | assumption | exact Below.setCell (p := ⟨wr.heap.size, 1, none⟩) (Below.setCell (p := ⟨wr.heap.size, 0, none⟩) (by assumption) (Nat.le_refl _) _) (Nat.le_refl _) _ | exact Below.alloc (by assumption) (by (first | exact (Below.size (by assumption)) | (simp; done) | fail)) _ | fail))) | fail) | fail) (first
        | (go_at_call 41; (go_split_ands; (with_reducible refine (TH.out _ _ _).mono ?_); rintro e2 w2 ⟨rfl, hb2⟩; have ch2 : Below wr.heap.size wr w2 := Below.trans (by assumption) (hb2.mono (Below.size (by assumption))); obtain ⟨cb, fb⟩ := bcell hb2))
        | fail)
      all_goals (
        clear cb fb
        try go_split_ands
        first
          | (have bX : Below wr.heap.size wr (w2.alloc (.cells #[.int .u64 (meetF y.a y.b p p'), .int .u64 (meetT y.a y.b p p')] 32)) := by assumption
             obtain ⟨X, hX⟩ : ∃ X, w2.alloc (.cells #[.int .u64 (meetF y.a y.b p p'), .int .u64 (meetT y.a y.b p p')] 32) = X := ⟨_, rfl⟩
             rw [hX] at bX ⊢
             clear hX)
          | (have bX : Below wr.heap.size wr ((w2.setCell ⟨wr.heap.size, 0, none⟩ (.int .u64 (meetF y.a y.b p p'))).setCell ⟨wr.heap.size, 1, none⟩ (.int .u64 (meetT y.a y.b p p'))) := by assumption
             obtain ⟨X, hX⟩ : ∃ X, (w2.setCell ⟨wr.heap.size, 0, none⟩ (.int .u64 (meetF y.a y.b p p'))).setCell ⟨wr.heap.size, 1, none⟩ (.int .u64 (meetT y.a y.b p p')) = X := ⟨_, rfl⟩
             rw [hX] at bX ⊢
             clear hX)
          | (trace_state; fail "no bX")
        have F1 := Lib.hid (F.out.on HG.out.1 bX)
        have G1 := Lib.hid (GA.out.below bX)
        have B1 := Lib.hid (BL.out.trans (bX.mono BL.out.size))
        have q0 := F1.out.g0
        obtain ⟨_, _, e, _, hcell⟩ := F1.out.at' (by omega)
        injection e with e
        injection e with e1 e2
        subst e1 e2
        obtain ⟨z0, z1, z2⟩ := hcell i hil
        simp only [Nat.zero_add] at z0 z1 z2
        rw [HY.out] at z0 z1 z2
        clear hcell bX KK
        cases hh : meetB y.a y.b p p' with
        | true =>
          have TS2 := Lib.hid (TS.out.trans (if_pos hh))
          clear hh TS
          go_wp2_with (first
            | (at_builtin; refine wpList_appRs _ rfl _ (.tmp 40) rfl W.heap.size u5 M rfl (G1.out.alloc _) (some ⟨X.heap.size, 0, none⟩) 1 1 [y] rfl (one_at _ _ _) (by intro h; cases h) rfl (by have := FL.out; simp; omega) (by simp; exact Nat.le_trans B1.out.size (Nat.le_succ _)) ?_; intro v1 y1 ho1 hb1; have O1 := Lib.hid ho1; have HB1 := Lib.hid (((Below.refl _ _).alloc B1.out.size _).trans hb1); clear ho1 hb1 q0 z0 z1 z2)
            | fail)
          exact ⟨⟨i + 1, by go_num, by omega, F1.out.onN HG.out.1 HG.out.2.1 HG.out.2.2 (Nat.le_of_lt HG.out.2.2) HB1.out, by rw [TS2.out]; exact O1.out, B1.out.trans HB1.out⟩, by simp [intOf]; omega⟩
        | false =>
          have TS2 := Lib.hid (TS.out.trans (if_neg (by rw [hh]; simp)))
          clear hh TS
          go_wp2
          exact ⟨⟨i + 1, by go_num, by omega, F1.out, by rw [TS2.out]; exact G1.out, B1.out⟩, by simp [intOf]; omega⟩)
    · obtain rfl : i = L.length := by omega
      rw [List.take_length] at GA
      have g0 := F.out.g0
      go_wp2
      go_ret
      exact ⟨_, rfl, GA.out.isE, F.out.below⟩
set_option maxRecDepth 100000 in
set_option maxHeartbeats 1000000 in
theorem refOverlap_nil (p p' : Int) (g : Nat) (w : World) (h0 : w.cell? ⟨g, 0, none⟩ = some (.slice none 0 0)) (hg : g < w.heap.size) :
    Calls Try.prog 17 #[.pointer (some ⟨g, 0, none⟩), .agg #[.int .u64 p, .int .u64 p']] w fun e w' => e = .returned (.slice none 0 0) ∧ Below w.heap.size w w' := by
  have K0 : Below w.heap.size w (w.alloc (.cells #[.int .u64 p, .int .u64 p'] 32)) := (Below.refl _ _).alloc (Nat.le_refl _) _
  obtain ⟨W, hW⟩ : ∃ W, w.alloc (.cells #[.int .u64 p, .int .u64 p'] 32) = W := ⟨_, rfl⟩
  rw [hW] at K0
  have g0 := (K0.cell (p := ⟨g, 0, none⟩) hg).trans h0
  have KB := Lib.hid K0
  clear K0 h0 hg
  go_enter Try.func17, Try.ntmps17
  go_upto_region 1 with fail
  try rw [hW]
  clear hW
  go_wp2_with fail
  refine wp_loop_rounds 1 ?_
  rw [rounds_succ]
  go_wp2
  go_ret
  exact ⟨rfl, KB.out⟩
theorem refOverlap_any (p p' : Int) (g b : Nat) (L : List E) (w : World) (h : RT w g b L) (hs : L.length ≤ 1000000) :
    Calls Try.prog 17 #[.pointer (some ⟨g, 0, none⟩), .agg #[.int .u64 p, .int .u64 p']] w fun e w' => ∃ v, e = .returned v ∧ IsE w' v (L.filter fun e => meetB e.a e.b p p') ∧ Below w.heap.size w w' := by
  obtain ⟨h1, h2, ⟨rfl, a2⟩ | ⟨a1, a2, a3, c, a4, a5, a6⟩⟩ := h
  · refine (refOverlap_nil p p' g w a2 h2).mono ?_
    rintro e w' ⟨rfl, hb⟩
    exact ⟨_, rfl, IsE.nil _, hb⟩
  · exact refOverlap_some p p' g b c L w a5 h1 h2 a3 a6 a1 hs
/-- Both ways to say what overlaps. -/
theorem overlap_meet (p p' : Int) (L : List E) (hm : ∀ e ∈ L, mayB e.a e.b = true) : (if mayB p p' = true then L.filter (over p p') else []) = L.filter fun e => meetB e.a e.b p p' := by
  by_cases h : mayB p p' = true
  · rw [if_pos h]
    refine List.filter_congr fun e he => ?_
    have h1 := hm e he
    have tb : ∀ x y : Bool, (x = true ↔ y = true) → x = y := by decide
    apply tb
    simp only [mayB, Bool.and_eq_true, decide_eq_true_eq] at h h1
    obtain ⟨x, hx⟩ : ∃ x, mx e.a p = x := ⟨_, rfl⟩
    obtain ⟨y, hy⟩ : ∃ y, mn e.b p' = y := ⟨_, rfl⟩
    simp only [over, meetB, mayB, Bool.and_eq_true, decide_eq_true_eq, hx, hy]
    unfold mx at hx
    unfold mn at hy
    split at hx <;> split at hy <;> subst hx hy <;> constructor <;> intro h5 <;> refine ⟨?_, ?_⟩ <;> first | omega | (refine ⟨?_, ?_⟩ <;> omega)
  · rw [if_neg h]
    symm
    rw [List.filter_eq_nil_iff]
    intro e _
    have : mayB p p' = false := by simpa using h
    simp [meetB, this]
end Go.Proofs.Ytbifgmamjdniaaa
