/- Which properties may be: mayProps. -/
import Derived.Test.YtflgdhhgnbdofaaGreatmG33
namespace Go.Proofs.YtflgdhhgnbdofaaGreat
open Go.RowKit
theorem MayPs.more {V : List (Int × Int)} {ps : List Prp} {k : Nat} (h : MayPs V (ps.take k)) (hk : k < ps.length) (hw : Co.wordB ps[k].k = true) (ho : ∀ i (h : i + 1 = k), ltS ps[i].k ps[k].k) (hl : Pl.Line okV ps[k].l ∧ ps[k].l ≠ [] ∧ inside V ps[k].l) : MayPs V (ps.take (k + 1)) := by
  rw [List.take_succ_eq_append_getElem hk]
  refine ⟨fun p hp => ?_, List.pairwise_append.2 ⟨h.row, by simp, fun p hp q hq => ?_⟩, fun p hp => ?_⟩
  · rcases List.mem_append.1 hp with hp | hp
    · exact h.key p hp
    · rw [List.mem_singleton.1 hp]; exact hw
  · rw [List.mem_singleton.1 hq]
    obtain ⟨j, hj, rfl⟩ := List.mem_take_iff_getElem.1 hp
    have hjk : j < k := by omega
    rcases Nat.lt_or_ge (j + 1) k with c | c
    · have h1 := (List.pairwise_iff_getElem.1 h.row) j (k - 1) (by simp; omega) (by simp; omega) (by omega)
      rw [List.getElem_take, List.getElem_take] at h1
      exact ltS_trans h1 (ho (k - 1) (by omega))
    · exact ho j (by omega)
  · rcases List.mem_append.1 hp with hp | hp
    · exact h.line p hp
    · rw [List.mem_singleton.1 hp]; exact hl
theorem MayPs.lt {V : List (Int × Int)} {ps : List Prp} (h : MayPs V ps) {i : Nat} (hi : i + 1 < ps.length) : ltS ps[i].k ps[i + 1].k := (List.pairwise_iff_getElem.1 h.row) i (i + 1) (by omega) hi (by omega)
theorem inside_covers {V : List (Int × Int)} {l : List Pie} (h : Pl.Line okV l) : Se.Iset.covers V (spanL l) ↔ inside V l := by
  unfold Se.Iset.covers inside
  constructor
  · intro g t ht
    refine g t ?_
    unfold spanL
    rw [chosen_has h]
    obtain ⟨x, hx, hh⟩ := (Pl.hit_iff none_ok h.par t).2 ht
    exact ⟨x, hx, hh, rfl⟩
  · intro g t ht
    refine g t ?_
    unfold spanL at ht
    rw [chosen_has h] at ht
    obtain ⟨x, hx, hh, _⟩ := ht
    exact (Pl.hit_iff none_ok h.par t).1 ⟨x, hx, hh⟩
theorem span_wide2 {R : List Pie} (hR : ∀ x ∈ R, 0 ≤ x.a ∧ 0 ≤ x.b) : Se.Iset.Wide (spanL R) := by
  unfold spanL
  refine Se.Iset.nf_wide fun p hp => ?_
  unfold chosen pers at hp
  obtain ⟨x, hx, rfl⟩ := List.mem_map.1 hp
  exact hR x (List.mem_filter.1 hx).1
theorem span_len (R : List Pie) : (spanL R).length ≤ R.length := Nat.le_trans (Se.Iset.nf_length _) (chosen_length _ _)
theorem word_quiet (s : ByteArray) (w : World) : Calls Tryz.prog 136 #[.string s] w fun e w' => e = .returned (.bool (Co.wordB s)) ∧ w' = w :=
  (Co.Word_any s w).mono fun _ _ h => ⟨h.1, h.2.symm⟩
section
set_option maxRecDepth 100000
set_option maxHeartbeats 8000000
theorem mayProps_any (x : Ent) (sv sp : Value) (w : World) (hv : Se.IsP w sv x.val) (hp : SP w sp x.ps) (hx : x.wide) :
    Calls Tryz.prog 85 #[.agg (x.cells sv sp)] w (Says (x.ps.length ≤ 16 ∧ MayPs x.val x.ps) w) := by
  obtain ⟨Ap, cp, rfl, hA, hm⟩ := hp
  obtain ⟨Av, cv, rfl, hV⟩ := hv
  have HA := Lib.hid hA
  have HV := Lib.hid (show Se.IsP w (.slice Av x.val.length cv) x.val from ⟨Av, cv, rfl, hV⟩)
  have HX := Lib.hid hx
  clear hA hV hx
  obtain ⟨edge, id, lab, fr, til, val, ps⟩ := x
  simp only at HA HV hm
  have B0 := Lib.hid ((Below.refl w.heap.size w).alloc (Nat.le_refl _) (.cells #[.bool edge, .int .u64 id, .string lab, .int .u64 fr, .int .u64 til, .slice Av val.length cv, .slice Ap ps.length cp] 38))
  have X0 := Lib.hid (Bx.new w #[.bool edge, .int .u64 id, .string lab, .int .u64 fr, .int .u64 til, .slice Av val.length cv, .slice Ap ps.length cp] 38)
  have x0 := X0.out.c
  simp only
  by_cases h16 : ps.length ≤ 16
  · go_enter Tryz.func85, Tryz.ntmps85
    have HS := Lib.hid h16
    go_upto_region 4 with fail
    obtain ⟨W0, hW0⟩ : ∃ W, w.alloc (.cells #[.bool edge, .int .u64 id, .string lab, .int .u64 fr, .int .u64 til, .slice Av val.length cv, .slice Ap ps.length cp] 38) = W := ⟨_, rfl⟩
    rw [hW0] at B0 X0
    try rw [hW0]
    clear hW0 x0
    obtain ⟨pw, hpw⟩ : ∃ p, w.heap.size = p := ⟨_, rfl⟩
    rw [hpw] at X0
    have HPW := Lib.hid hpw
    try rw [hpw]
    clear hpw
    go_loopw [12] (fun i wr => ∃ k : Nat, k ≤ ps.length ∧ i = .int .i64 k ∧ MayPs val (ps.take k) ∧ Below W0.heap.size W0 wr) (fun i _ => ps.length - (intOf i).toNat)
    case atStart => exact ⟨0, Nat.zero_le _, rfl, ⟨by simp, by simp, by simp⟩, Below.refl _ _⟩
    case round =>
      obtain ⟨k, hk, rfl, hp, hb⟩ := hrel
      have HP := Lib.hid hp
      have HB := Lib.hid hb
      clear hp hb
      by_cases hlt : k < ps.length
      · obtain ⟨g, off, rfl, lg, cg⟩ := (HA.out.below B0.out) (by omega)
        have CG := Lib.hid cg
        have LG := Lib.hid lg
        have i0 : (k : Int) < (ps.length : Int) := by omega
        have i1 : (0 : Int) ≤ (k : Int) := by omega
        obtain ⟨ck, u, cu, hu⟩ := cg k hlt
        have hck := (HB.out.cell (p := ⟨g, off + k * 2, none⟩) lg).trans ck
        have hcu := (HB.out.cell (p := ⟨g, off + k * 2 + 1, none⟩) lg).trans cu
        obtain ⟨Al, cl, rfl, hL, hml⟩ := hu
        have HL := Lib.hid (show SL W0 (.slice Al ps[k].l.length cl) ps[k].l from ⟨Al, cl, rfl, hL, hml⟩)
        have MM := Lib.hid (HP.out.more hlt)
        have NG := Lib.hid (fun (h : MayPs val ps) => And.intro (h.key _ (List.getElem_mem hlt)) (h.line _ (List.getElem_mem hlt)))
        have NL := Lib.hid (fun (h : MayPs val ps) i (e : i + 1 = k) => show ltS (ps[i]'(by omega)).k ps[k].k from by subst e; exact h.lt hlt)
        have WL := Lib.hid (And.intro (HX.out.lenP _ (List.getElem_mem hlt)) (And.intro (HX.out.v _ (List.getElem_mem hlt)) (HX.out.a _ (List.getElem_mem hlt))))
        have HI := Lib.hid (fun (hh : Pl.Line okV (ps[k]'hlt).l) => inside_covers (V := val) hh)
        clear cg ck cu hL hml lg
        obtain ⟨q, hq⟩ : ∃ q, ps[k]'hlt = q := ⟨_, rfl⟩
        rw [hq] at hck hcu HL MM NG NL WL HI
        clear hq
        obtain ⟨key, l⟩ := q
        simp only at hck hcu HL MM NG NL WL HI
        go_upto_region 6 with fail
        have Y0 := Lib.hid (Bx.new wr #[.string key, .slice Al l.length cl] 62)
        have HB1 := Lib.hid (HB.out.trans (((Below.refl wr.heap.size wr).alloc (Nat.le_refl _) (.cells #[.string key, .slice Al l.length cl] 62)).mono HB.out.size))
        obtain ⟨W1, hW1⟩ : ∃ W, wr.alloc (.cells #[.string key, .slice Al l.length cl] 62) = W := ⟨_, rfl⟩
        rw [hW1] at Y0 HB1
        try rw [hW1]
        clear hW1 hck hcu
        obtain ⟨py, hpy⟩ : ∃ p, wr.heap.size = p := ⟨_, rfl⟩
        rw [hpy] at Y0
        try rw [hpy]
        clear hpy
        have y0 := Y0.out.c
        have X1 := Lib.hid (X0.out.below HB1.out)
        have CW := Lib.hid (fun W => word_quiet key W)
        cases hwk : Co.wordB key
        · have HN : Hid (¬ (ps.length ≤ 16 ∧ MayPs val ps)) := Lib.hid fun h => by
            have := (NG.out h.2).1
            rw [hwk] at this; cases this
          rw [hwk] at CW
          clear MM NG NL WL HI hwk CG
          go_quiet ((go_at_call 136; exact Calls.quiet_of_same (CW.out _)))
          go_wp2_with fail
          go_ret
          exact ⟨false, rfl, by simp [HN.out], bel_drewN nq (B0.out.trans (HB1.out.mono B0.out.size))⟩
        · have MM := Lib.hid (MM.out hwk)
          rw [hwk] at CW
          clear hwk
          go_cut [36] from 17 to 35 (fun t wd => ∃ c : Bool, t = .bool c ∧ (c = false ↔ ∀ i (e : i + 1 = k), ltS (ps[i]'(by omega)).k key) ∧ Below W1.heap.size W1 wd)
          case first =>
            have CW := CW
            clear MM NG NL WL HI
            cases k with
            | zero =>
              go_quiet ((go_at_call 136; exact Calls.quiet_of_same (CW.out _)))
              go_wp2_with fail
              go_meet
              exact ⟨false, rfl, by simp, bel_drewN nq (Below.refl _ _)⟩
            | succ j =>
              have hj : j < ps.length := by omega
              have cj : W1.cell? ⟨g, off + j * 2, none⟩ = some (.string ps[j].k) := (HB1.out.cell (p := ⟨g, off + j * 2, none⟩) LG.out).trans (CG.out j hj).1
              have c6 : W1.cell? ⟨pw, 6, none⟩ = some (.slice (some ⟨g, off, none⟩) ps.length cp) := X1.out.c 6
              have HE : Hid (∀ c : Bool, c = (!Op.bytesLess ps[j].k.toList key.toList) → (c = false ↔ ∀ i (e : i + 1 = j + 1), ltS (ps[i]'(by omega)).k key)) := Lib.hid fun c hc => by
                subst hc
                constructor
                · intro h i e
                  obtain rfl : i = j := by omega
                  unfold ltS
                  simpa using h
                · intro h
                  have := h j rfl
                  unfold ltS at this
                  simpa using this
              obtain ⟨s, hs⟩ : ∃ s, ps[j].k = s := ⟨_, rfl⟩
              rw [hs] at cj HE
              clear hs CG
              obtain ⟨K, hK⟩ : ∃ K : Int, K = ((j + 1 : Nat) : Int) := ⟨_, rfl⟩
              rw [← hK] at i0 i1 ⊢
              have k1p : (0 : Int) < K := by omega
              have k2 : IntKind.i64.wrap (K - 1) = (j : Int) := by rw [IntKind.wrap_i64]; omega
              have k3 : (j : Int) < (ps.length : Int) := by omega
              have k4 : (0 : Int) ≤ (j : Int) := by omega
              have HKK := Lib.hid hK
              clear hK
              go_quiet ((go_at_call 136; exact Calls.quiet_of_same (CW.out _)))
              go_wp2_with fail
              have hK := HKK.out
              subst hK
              go_meet
              exact ⟨_, rfl, HE.out _ rfl, bel_drewN nq (Below.refl _ _)⟩
          case rest =>
            obtain ⟨c, rfl, hc, hb⟩ := hcut
            have HC := Lib.hid hc
            have HB2 := Lib.hid (HB1.out.trans (hb.mono HB1.out.size))
            have Y2 := Lib.hid (Y0.out.below hb)
            have X2 := Lib.hid (X1.out.below hb)
            obtain ⟨w2, rfl⟩ : ∃ x : World, x = wc := ⟨_, rfl⟩
            clear hc hb y0 CW CG
            cases c
            · have MM := Lib.hid (MM.out (fun i e => HC.out.1 rfl i e))
              clear NL HC
              by_cases h0 : l.length = 0
              · have HN : Hid (¬ (ps.length ≤ 16 ∧ MayPs val ps)) := Lib.hid fun h => (NG.out h.2).2.2.1 (List.eq_nil_of_length_eq_zero h0)
                have y0 : w2.cell? ⟨py, 1, none⟩ = some (.slice Al (0 : Nat) cl) := by have := Y2.out.c 1; rw [h0] at this; exact this
                clear MM NG HI WL HL h0
                go_upto_region 8 with fail
                go_quiet (fail)
                go_wp2_with fail
                go_ret
                exact ⟨false, rfl, by simp [HN.out], bel_drewN nq (B0.out.trans (HB2.out.mono B0.out.size))⟩
              · have l0 : ((l.length : Int) == 0) = false := by rw [beq_eq_false_iff_ne]; omega
                have HLE : Hid (l ≠ []) := Lib.hid fun e => h0 (by rw [e]; rfl)
                have CI := Lib.hid (fun W (hb : Below W0.heap.size W0 W) => Is_any (.slice Al l.length cl) l W (HL.out.below hb) WL.out.2.1)
                clear h0
                by_cases hline : Pl.Line okV l
                · have CI := Lib.hid (fun W hb => (CI.out W hb).mono fun _ _ h => h.yes hline)
                  have CSp := Lib.hid (fun W (hb : Below W0.heap.size W0 W) => Span_any (.slice Al l.length cl) l W (HL.out.below hb) hline (by have := WL.out.1; omega))
                  have CC := Lib.hid (fun W u (h1 : Se.IsP W (.slice Av val.length cv) val) (h2 : Se.IsP W u (spanL l)) => Se.Covers_any (.slice Av val.length cv) u val (spanL l) W h1 h2 HX.out.val (span_wide2 WL.out.2.2) (by have h1 : val.length ≤ 100000 := HX.out.lenV; omega) (by have h1 := span_len l; have h2 := WL.out.1; omega))
                  have HI := Lib.hid (HI.out hline)
                  have HLN := Lib.hid hline
                  have HV2 := Lib.hid (HV.out.below (B0.out.trans (HB2.out.mono B0.out.size)))
                  have K0 : Hid (∀ w', Below w2.heap.size w2 w' → w'.cell? ⟨py, 1, none⟩ = some (.slice Al l.length cl) ∧ w'.cell? ⟨pw, 5, none⟩ = some (.slice Av val.length cv)) := Lib.hid fun w' hb => ⟨(Y2.out.below hb).c 1, (X2.out.below hb).c 5⟩
                  clear hline
                  go_upto_region 8 with fail
                  go_region_held3 (fun w' => w'.cell? ⟨py, 1, none⟩ = some (.slice Al l.length cl) ∧ w'.cell? ⟨pw, 5, none⟩ = some (.slice Av val.length cv)) (first
                    | exact K0.out _ (Below.refl _ _).drew
                    | exact K0.out _ HV5.out
                    | exact K0.out _ HV4.out
                    | exact K0.out _ HV3.out
                    | fail) (first
                    | (go_at_call 57; (with_reducible refine (CI.out _ (HB2.out.trans (((Below.refl _ _).drew).mono HB2.out.size))).mono ?_); rintro e w3 ⟨rfl, hb⟩; have HV3 := Lib.hid (show Below w2.heap.size w2 w3 from (Below.refl _ _).drew.trans hb); clear hb)
                    | (go_at_call 63; (with_reducible refine (CSp.out _ (HB2.out.trans (HV3.out.mono HB2.out.size))).mono ?_); rintro e w4 ⟨us, rfl, ho, hb⟩; have OS := Lib.hid ho.at; have HV4 := Lib.hid (show Below w2.heap.size w2 w4 from HV3.out.trans (hb.mono HV3.out.size)); clear ho hb)
                    | (go_at_call 23; (with_reducible refine (CC.out _ _ (HV2.out.below HV4.out) OS.out).mono ?_); rintro e w5 ⟨r, rfl, hr, hb⟩; have HR := Lib.hid hr; have HV5 := Lib.hid (show Below w2.heap.size w2 w5 from HV4.out.trans (hb.mono HV4.out.size)); clear hr hb)
                    | fail)
                  have HB5 := Lib.hid (HB2.out.trans (HV5.out.mono HB2.out.size))
                  cases r
                  · have HN : Hid (¬ (ps.length ≤ 16 ∧ MayPs val ps)) := Lib.hid fun h => by
                      have := HR.out.2 (HI.out.2 (NG.out h.2).2.2.2)
                      cases this
                    clear MM NG HI
                    go_wp2_with fail
                    go_ret
                    exact ⟨false, rfl, by simp [HN.out], B0.out.trans (HB5.out.mono B0.out.size)⟩
                  · have MM := Lib.hid (MM.out ⟨HLN.out, HLE.out, HI.out.1 (HR.out.1 rfl)⟩)
                    have hs := HS.out
                    clear NG HI
                    go_wp2_with fail
                    exact ⟨⟨k + 1, by omega, by go_num, MM.out, HB5.out⟩, by simp [intOf]; omega⟩
                · have CI := Lib.hid (fun W hb => (CI.out W hb).mono fun _ _ h => h.no hline)
                  have HN : Hid (¬ (ps.length ≤ 16 ∧ MayPs val ps)) := Lib.hid fun h => hline (NG.out h.2).2.1
                  have K1 : Hid (∀ w', Below w2.heap.size w2 w' → Below w2.heap.size w2 w' ∧ w'.cell? ⟨py, 1, none⟩ = some (.slice Al l.length cl) ∧ w'.cell? ⟨pw, 5, none⟩ = some (.slice Av val.length cv)) := Lib.hid fun w' hb => ⟨hb, (Y2.out.below hb).c 1, (X2.out.below hb).c 5⟩
                  clear hline MM NG HI
                  go_upto_region 8 with fail
                  refine wp_region_held_drew (S := (fun w' => Below w2.heap.size w2 w' ∧ w'.cell? ⟨py, 1, none⟩ = some (.slice Al l.length cl) ∧ w'.cell? ⟨pw, 5, none⟩ = some (.slice Av val.length cv))) (by kernel_rfl) (K1.out _ (Below.refl _ _).drew) (fun hHeld => ?_)
                  refine take_in (i := 0) (v := ?_) (some 37) rfl rfl (by kernel_rfl) (by kernel_rfl) (by kernel_rfl) (fun _ _ _ h => h) (Or.inl ⟨by rfl, ?_⟩) (by assumption) ?_
                  rotate_left
                  · (intro w hSw; (try dsimp only at hSw); (try go_split_ands); go_simp; try with_reducible rfl)
                  try simp only [Act.put, List.setIfInBounds_toArray, List.set_cons_zero, List.set_cons_succ]
                  refine take_in (i := 1) (v := ?_) (some 38) rfl rfl (by kernel_rfl) (by kernel_rfl) (by kernel_rfl) (fun _ _ _ h => h) (Or.inl ⟨by rfl, ?_⟩) (by assumption) ?_
                  rotate_left
                  · (intro w hSw; (try dsimp only at hSw); (try go_split_ands); go_simp; try with_reducible rfl)
                  try simp only [Act.put, List.setIfInBounds_toArray, List.set_cons_zero, List.set_cons_succ]
                  refine take_in (i := 2) (v := ?_) (some 39) rfl rfl (by kernel_rfl) (by kernel_rfl) (by kernel_rfl) (fun _ _ _ h => h) (Or.inl ⟨by rfl, ?_⟩) (by assumption) ?_
                  rotate_left
                  · (intro w hSw; (try dsimp only at hSw); (try go_split_ands); go_simp; try with_reducible rfl)
                  try simp only [Act.put, List.setIfInBounds_toArray, List.set_cons_zero, List.set_cons_succ]
                  refine take_in (i := 3) (v := ?_) (some 40) rfl rfl (by kernel_rfl) (by kernel_rfl) (by kernel_rfl) (fun _ _ _ h => h) (Or.inl ⟨by rfl, ?_⟩) (by assumption) ?_
                  rotate_left
                  · (intro w hSw; (try dsimp only at hSw); (try go_split_ands); go_simp; try with_reducible rfl)
                  try simp only [Act.put, List.setIfInBounds_toArray, List.set_cons_zero, List.set_cons_succ]
                  refine take_in (i := 4) (v := ?_) (some 41) rfl rfl (by kernel_rfl) (by kernel_rfl) (by kernel_rfl) (fun _ _ _ h => h) (Or.inl ⟨by rfl, ?_⟩) (by assumption) ?_
                  rotate_left
                  · (intro w hSw; (try dsimp only at hSw); (try go_split_ands); go_simp; try with_reducible rfl)
                  try simp only [Act.put, List.setIfInBounds_toArray, List.set_cons_zero, List.set_cons_succ]
                  refine take_in (i := 5) (v := ?_) (some 42) rfl rfl (by kernel_rfl) (by kernel_rfl) (by kernel_rfl) (fun _ _ _ h => h) (Or.inl ⟨by rfl, ?_⟩) (by assumption) ?_
                  rotate_left
                  · (intro w hSw; (try dsimp only at hSw); (try go_split_ands); go_simp; try with_reducible rfl)
                  try simp only [Act.put, List.setIfInBounds_toArray, List.set_cons_zero, List.set_cons_succ]
                  refine take_in (i := 6) (v := ?_) (some 43) rfl rfl (by kernel_rfl) (by kernel_rfl) (by kernel_rfl) (fun _ _ _ h => h) (Or.inl ⟨by rfl, ?_⟩) (by assumption) ?_
                  rotate_left
                  · (intro w hSw; (try dsimp only at hSw); (try go_split_ands); go_simp; try with_reducible rfl)
                  try simp only [Act.put, List.setIfInBounds_toArray, List.set_cons_zero, List.set_cons_succ]
                  refine wpAnyH_ready (rs := [7]) (by kernel_rfl) (by simp) ?_
                  refine AllReadyH.cons rfl (fun K hK => ?_) AllReadyH.nil
                  go_simp
                  with_reducible refine (CI.out _ (HB2.out.trans (hHeld.1.mono HB2.out.size))).mono ?_
                  rintro e w3 ⟨rfl, hb⟩
                  go_wp2_with fail
                  refine hK.out _ _ (K1.out _ (hHeld.1.trans (hb.mono hHeld.1.size))) (fun hHeld => ?_)
                  clear hK K
                  try simp only [Act.put, List.setIfInBounds_toArray, List.set_cons_zero, List.set_cons_succ]
                  refine take_in (i := 8) (v := ?_) (some 45) rfl rfl (by kernel_rfl) (by kernel_rfl) (by kernel_rfl) (fun _ _ _ h => h) (Or.inl ⟨by rfl, ?_⟩) (by assumption) ?_
                  rotate_left
                  · (intro w hSw; (try dsimp only at hSw); (try go_split_ands); go_simp; try with_reducible rfl)
                  try simp only [Act.put, List.setIfInBounds_toArray, List.set_cons_zero, List.set_cons_succ]
                  refine take_in (i := 9) (v := ?_) (some 46) rfl rfl (by kernel_rfl) (by kernel_rfl) (by kernel_rfl) (fun _ _ _ h => h) (Or.inl ⟨by rfl, ?_⟩) (by assumption) ?_
                  rotate_left
                  · (intro w hSw; (try dsimp only at hSw); (try go_split_ands); go_simp; try with_reducible rfl)
                  try simp only [Act.put, List.setIfInBounds_toArray, List.set_cons_zero, List.set_cons_succ]
                  refine take_in (i := 10) (v := ?_) (some 47) rfl rfl (by kernel_rfl) (by kernel_rfl) (by kernel_rfl) (fun _ _ _ h => h) (Or.inl ⟨by rfl, ?_⟩) (by assumption) ?_
                  rotate_left
                  · (intro w hSw; (try dsimp only at hSw); (try go_split_ands); go_simp; try with_reducible rfl)
                  try simp only [Act.put, List.setIfInBounds_toArray, List.set_cons_zero, List.set_cons_succ]
                  refine wpAnyH_skipd (by kernel_rfl) (fun _ _ d _ h => by cases d <;> exact h) [11, 12, 13] [48, 49, 50] 5 3 rfl _ _ _ _ (by kernel_rfl) (by kernel_rfl) rfl (by assumption) ?_
                  try simp only [List.foldl_cons, List.foldl_nil, Act.put, List.setIfInBounds_toArray, List.set_cons_zero, List.set_cons_succ]
                  refine wpAnyH_skipd (by kernel_rfl) (fun _ _ d _ h => by cases d <;> exact h) [14, 15, 16] [51, 52, 53] 2 3 rfl _ _ _ _ (by kernel_rfl) (by kernel_rfl) rfl (by assumption) ?_
                  try simp only [List.foldl_cons, List.foldl_nil, Act.put, List.setIfInBounds_toArray, List.set_cons_zero, List.set_cons_succ]
                  refine wpAnyH_skipd (by kernel_rfl) (fun _ _ d _ h => by cases d <;> exact h) [17] [54] 1 1 rfl _ _ _ _ (by kernel_rfl) (by kernel_rfl) rfl (by assumption) ?_
                  try simp only [List.foldl_cons, List.foldl_nil, Act.put, List.setIfInBounds_toArray, List.set_cons_zero, List.set_cons_succ]
                  refine take_in (i := 18) (v := ?_) (some 55) rfl rfl (by kernel_rfl) (by kernel_rfl) (by kernel_rfl) (fun _ _ _ h => h) (Or.inl ⟨by rfl, ?_⟩) (by assumption) ?_
                  rotate_left
                  · (intro w hSw; (try dsimp only at hSw); (try go_split_ands); go_simp; try with_reducible rfl)
                  try simp only [Act.put, List.setIfInBounds_toArray, List.set_cons_zero, List.set_cons_succ]
                  refine wpAnyH_done (by kernel_rfl) ?_ _
                  go_wp2_with fail
                  go_ret
                  exact ⟨false, rfl, by simp [HN.out], B0.out.trans ((HB2.out.trans (hHeld.1.mono HB2.out.size)).mono B0.out.size)⟩
            · have HN : Hid (¬ (ps.length ≤ 16 ∧ MayPs val ps)) := Lib.hid fun h => by
                have := HC.out.2 (fun i e => NL.out h.2 i e)
                cases this
              clear MM NG NL HI HC WL
              go_wp2_with fail
              go_ret
              exact ⟨false, rfl, by simp [HN.out], B0.out.trans (HB2.out.mono B0.out.size)⟩
      · obtain rfl : k = ps.length := by omega
        rw [List.take_length] at HP
        go_wp2_with fail
        go_ret
        exact ⟨true, rfl, by simp [HS.out, HP.out], B0.out.trans (HB.out.mono B0.out.size)⟩
  · have hN := Lib.hid (show ¬ (ps.length ≤ 16 ∧ MayPs val ps) from fun h => h16 h.1)
    have h17 : (16 : Int) < (ps.length : Int) := by omega
    go_enter Tryz.func85, Tryz.ntmps85
    go_wp2
    go_ret
    exact ⟨false, rfl, by simp [hN.out], B0.out⟩
end
end Go.Proofs.YtflgdhhgnbdofaaGreat

