/- Which properties may be: mayProps. -/
/- Which entities are well-formed: May. -/
/- Lines and sets in new memory: copied, the library's Clone. -/
/- Properties in memory of one's own; an entity in new memory. -/
import Derived.Test.YtmolpogehgeebaaGreatbS1
import Derived.Sort.Row
import Derived.Test.YtmolpogehgeebaaGreatbL1
import Derived.Laws.MakeOwn
namespace Go.Proofs.YtmolpogehgeebaaGreat
open Go.RowKit
theorem MayPs.more {V : List (Int × Int)} {ps : List Prp} {k : Nat} (h : MayPs V (ps.take k)) (hk : k < ps.length) (hw : Co.wordB ps[k].k = true) (ho : ∀ i (h : i + 1 = k), ltS ps[i].k ps[k].k) (hl : Pl.Line okV ps[k].l ∧ ps[k].l ≠ [] ∧ inside V ps[k].l) : MayPs V (ps.take (k + 1)) := by
  rw [List.take_succ_eq_append_getElem hk]
  refine ⟨fun p hp => ?_, List.pairwise_append.2 ⟨h.row, by simp, fun p hp q hq => ?_⟩, fun p hp => ?_⟩
  · rcases List.mem_append.1 hp with hp | hp
    · exact h.key p hp
    · rw [List.mem_singleton.1 hp]; exact hw
  · rw [List.mem_singleton.1 hq]
    obtain ⟨j, hj, rfl⟩ := List.mem_take_iff_getElem.1 hp
    have hjk : j < k := by omega
    rcases Nat.lt_or_ge (j + 1) k with c | c
    · have h1 := (List.pairwise_iff_getElem.1 h.row) j (k - 1) (by simp; omega) (by simp; omega) (by omega)
      rw [List.getElem_take, List.getElem_take] at h1
      exact ltS_trans h1 (ho (k - 1) (by omega))
    · exact ho j (by omega)
  · rcases List.mem_append.1 hp with hp | hp
    · exact h.line p hp
    · rw [List.mem_singleton.1 hp]; exact hl
theorem MayPs.lt {V : List (Int × Int)} {ps : List Prp} (h : MayPs V ps) {i : Nat} (hi : i + 1 < ps.length) : ltS ps[i].k ps[i + 1].k := (List.pairwise_iff_getElem.1 h.row) i (i + 1) (by omega) hi (by omega)
theorem inside_covers {V : List (Int × Int)} {l : List Pie} (h : Pl.Line okV l) : Se.Iset.covers V (spanL l) ↔ inside V l := by
  unfold Se.Iset.covers inside
  constructor
  · intro g t ht
    refine g t ?_
    unfold spanL
    rw [chosen_has h]
    obtain ⟨x, hx, hh⟩ := (Pl.hit_iff none_ok h.par t).2 ht
    exact ⟨x, hx, hh, rfl⟩
  · intro g t ht
    refine g t ?_
    unfold spanL at ht
    rw [chosen_has h] at ht
    obtain ⟨x, hx, hh, _⟩ := ht
    exact (Pl.hit_iff none_ok h.par t).1 ⟨x, hx, hh⟩
theorem span_wide2 {R : List Pie} (hR : ∀ x ∈ R, 0 ≤ x.a ∧ 0 ≤ x.b) : Se.Iset.Wide (spanL R) := by
  unfold spanL
  refine Se.Iset.nf_wide fun p hp => ?_
  unfold chosen pers at hp
  obtain ⟨x, hx, rfl⟩ := List.mem_map.1 hp
  exact hR x (List.mem_filter.1 hx).1
theorem span_len (R : List Pie) : (spanL R).length ≤ R.length := Nat.le_trans (Se.Iset.nf_length _) (chosen_length _ _)
theorem word_quiet (s : ByteArray) (w : World) : Calls Tryz.prog 144 #[.string s] w fun e w' => e = .returned (.bool (Co.wordB s)) ∧ w' = w :=
  (Co.Word_any s w).mono fun _ _ h => ⟨h.1, h.2.symm⟩
section
set_option maxRecDepth 100000
set_option maxHeartbeats 8000000
theorem mayProps_any (x : Ent) (sv sp : Value) (w : World) (hv : Se.IsP w sv x.val) (hp : SP w sp x.ps) (hx : x.wide) :
    Calls Tryz.prog 100 #[.agg (x.cells sv sp)] w (Says (x.ps.length ≤ 16 ∧ MayPs x.val x.ps) w) := by
  obtain ⟨Ap, cp, rfl, hA, hm⟩ := hp
  obtain ⟨Av, cv, rfl, hV⟩ := hv
  have HA := Lib.hid hA
  have HV := Lib.hid (show Se.IsP w (.slice Av x.val.length cv) x.val from ⟨Av, cv, rfl, hV⟩)
  have HX := Lib.hid hx
  clear hA hV hx
  obtain ⟨edge, id, lab, fr, til, val, ps⟩ := x
  simp only at HA HV hm
  have B0 := Lib.hid ((Below.refl w.heap.size w).alloc (Nat.le_refl _) (.cells #[.bool edge, .int .u64 id, .string lab, .int .u64 fr, .int .u64 til, .slice Av val.length cv, .slice Ap ps.length cp] 38))
  have X0 := Lib.hid (Bx.new w #[.bool edge, .int .u64 id, .string lab, .int .u64 fr, .int .u64 til, .slice Av val.length cv, .slice Ap ps.length cp] 38)
  have x0 := X0.out.c
  simp only
  by_cases h16 : ps.length ≤ 16
  · go_enter Tryz.func100, Tryz.ntmps100
    have HS := Lib.hid h16
    go_upto_region 4 with fail
    obtain ⟨W0, hW0⟩ : ∃ W, w.alloc (.cells #[.bool edge, .int .u64 id, .string lab, .int .u64 fr, .int .u64 til, .slice Av val.length cv, .slice Ap ps.length cp] 38) = W := ⟨_, rfl⟩
    rw [hW0] at B0 X0
    try rw [hW0]
    clear hW0 x0
    obtain ⟨pw, hpw⟩ : ∃ p, w.heap.size = p := ⟨_, rfl⟩
    rw [hpw] at X0
    have HPW := Lib.hid hpw
    try rw [hpw]
    clear hpw
    go_loopw [12] (fun i wr => ∃ k : Nat, k ≤ ps.length ∧ i = .int .i64 k ∧ MayPs val (ps.take k) ∧ Below W0.heap.size W0 wr) (fun i _ => ps.length - (intOf i).toNat)
    case atStart => exact ⟨0, Nat.zero_le _, rfl, ⟨by simp, by simp, by simp⟩, Below.refl _ _⟩
    case round =>
      obtain ⟨k, hk, rfl, hp, hb⟩ := hrel
      have HP := Lib.hid hp
      have HB := Lib.hid hb
      clear hp hb
      by_cases hlt : k < ps.length
      · obtain ⟨g, off, rfl, lg, cg⟩ := (HA.out.below B0.out) (by omega)
        have CG := Lib.hid cg
        have LG := Lib.hid lg
        have i0 : (k : Int) < (ps.length : Int) := by omega
        have i1 : (0 : Int) ≤ (k : Int) := by omega
        obtain ⟨ck, u, cu, hu⟩ := cg k hlt
        have hck := (HB.out.cell (p := ⟨g, off + k * 2, none⟩) lg).trans ck
        have hcu := (HB.out.cell (p := ⟨g, off + k * 2 + 1, none⟩) lg).trans cu
        obtain ⟨Al, cl, rfl, hL, hml⟩ := hu
        have HL := Lib.hid (show SL W0 (.slice Al ps[k].l.length cl) ps[k].l from ⟨Al, cl, rfl, hL, hml⟩)
        have MM := Lib.hid (HP.out.more hlt)
        have NG := Lib.hid (fun (h : MayPs val ps) => And.intro (h.key _ (List.getElem_mem hlt)) (h.line _ (List.getElem_mem hlt)))
        have NL := Lib.hid (fun (h : MayPs val ps) i (e : i + 1 = k) => show ltS (ps[i]'(by omega)).k ps[k].k from by subst e; exact h.lt hlt)
        have WL := Lib.hid (And.intro (HX.out.lenP _ (List.getElem_mem hlt)) (And.intro (HX.out.v _ (List.getElem_mem hlt)) (HX.out.a _ (List.getElem_mem hlt))))
        have HI := Lib.hid (fun (hh : Pl.Line okV (ps[k]'hlt).l) => inside_covers (V := val) hh)
        clear cg ck cu hL hml lg
        obtain ⟨q, hq⟩ : ∃ q, ps[k]'hlt = q := ⟨_, rfl⟩
        rw [hq] at hck hcu HL MM NG NL WL HI
        clear hq
        obtain ⟨key, l⟩ := q
        simp only at hck hcu HL MM NG NL WL HI
        go_upto_region 6 with fail
        have Y0 := Lib.hid (Bx.new wr #[.string key, .slice Al l.length cl] 62)
        have HB1 := Lib.hid (HB.out.trans (((Below.refl wr.heap.size wr).alloc (Nat.le_refl _) (.cells #[.string key, .slice Al l.length cl] 62)).mono HB.out.size))
        obtain ⟨W1, hW1⟩ : ∃ W, wr.alloc (.cells #[.string key, .slice Al l.length cl] 62) = W := ⟨_, rfl⟩
        rw [hW1] at Y0 HB1
        try rw [hW1]
        clear hW1 hck hcu
        obtain ⟨py, hpy⟩ : ∃ p, wr.heap.size = p := ⟨_, rfl⟩
        rw [hpy] at Y0
        try rw [hpy]
        clear hpy
        have y0 := Y0.out.c
        have X1 := Lib.hid (X0.out.below HB1.out)
        have CW := Lib.hid (fun W => word_quiet key W)
        cases hwk : Co.wordB key
        · have HN : Hid (¬ (ps.length ≤ 16 ∧ MayPs val ps)) := Lib.hid fun h => by
            have := (NG.out h.2).1
            rw [hwk] at this; cases this
          rw [hwk] at CW
          clear MM NG NL WL HI hwk CG
          go_quiet ((go_at_call 144; exact Calls.quiet_of_same (CW.out _)))
          go_wp2_with fail
          go_ret
          exact ⟨false, rfl, by simp [HN.out], bel_drewN nq (B0.out.trans (HB1.out.mono B0.out.size))⟩
        · have MM := Lib.hid (MM.out hwk)
          rw [hwk] at CW
          clear hwk
          go_cut [36] from 17 to 35 (fun t wd => ∃ c : Bool, t = .bool c ∧ (c = false ↔ ∀ i (e : i + 1 = k), ltS (ps[i]'(by omega)).k key) ∧ Below W1.heap.size W1 wd)
          case first =>
            have CW := CW
            clear MM NG NL WL HI
            cases k with
            | zero =>
              go_quiet ((go_at_call 144; exact Calls.quiet_of_same (CW.out _)))
              go_wp2_with fail
              go_meet
              exact ⟨false, rfl, by simp, bel_drewN nq (Below.refl _ _)⟩
            | succ j =>
              have hj : j < ps.length := by omega
              have cj : W1.cell? ⟨g, off + j * 2, none⟩ = some (.string ps[j].k) := (HB1.out.cell (p := ⟨g, off + j * 2, none⟩) LG.out).trans (CG.out j hj).1
              have c6 : W1.cell? ⟨pw, 6, none⟩ = some (.slice (some ⟨g, off, none⟩) ps.length cp) := X1.out.c 6
              have HE : Hid (∀ c : Bool, c = (!Op.bytesLess ps[j].k.toList key.toList) → (c = false ↔ ∀ i (e : i + 1 = j + 1), ltS (ps[i]'(by omega)).k key)) := Lib.hid fun c hc => by
                subst hc
                constructor
                · intro h i e
                  obtain rfl : i = j := by omega
                  unfold ltS
                  simpa using h
                · intro h
                  have := h j rfl
                  unfold ltS at this
                  simpa using this
              obtain ⟨s, hs⟩ : ∃ s, ps[j].k = s := ⟨_, rfl⟩
              rw [hs] at cj HE
              clear hs CG
              obtain ⟨K, hK⟩ : ∃ K : Int, K = ((j + 1 : Nat) : Int) := ⟨_, rfl⟩
              rw [← hK] at i0 i1 ⊢
              have k1p : (0 : Int) < K := by omega
              have k2 : IntKind.i64.wrap (K - 1) = (j : Int) := by rw [IntKind.wrap_i64]; omega
              have k3 : (j : Int) < (ps.length : Int) := by omega
              have k4 : (0 : Int) ≤ (j : Int) := by omega
              have HKK := Lib.hid hK
              clear hK
              go_quiet ((go_at_call 144; exact Calls.quiet_of_same (CW.out _)))
              go_wp2_with fail
              have hK := HKK.out
              subst hK
              go_meet
              exact ⟨_, rfl, HE.out _ rfl, bel_drewN nq (Below.refl _ _)⟩
          case rest =>
            obtain ⟨c, rfl, hc, hb⟩ := hcut
            have HC := Lib.hid hc
            have HB2 := Lib.hid (HB1.out.trans (hb.mono HB1.out.size))
            have Y2 := Lib.hid (Y0.out.below hb)
            have X2 := Lib.hid (X1.out.below hb)
            obtain ⟨w2, rfl⟩ : ∃ x : World, x = wc := ⟨_, rfl⟩
            clear hc hb y0 CW CG
            cases c
            · have MM := Lib.hid (MM.out (fun i e => HC.out.1 rfl i e))
              clear NL HC
              by_cases h0 : l.length = 0
              · have HN : Hid (¬ (ps.length ≤ 16 ∧ MayPs val ps)) := Lib.hid fun h => (NG.out h.2).2.2.1 (List.eq_nil_of_length_eq_zero h0)
                have y0 : w2.cell? ⟨py, 1, none⟩ = some (.slice Al (0 : Nat) cl) := by have := Y2.out.c 1; rw [h0] at this; exact this
                clear MM NG HI WL HL h0
                go_upto_region 8 with fail
                go_quiet (fail)
                go_wp2_with fail
                go_ret
                exact ⟨false, rfl, by simp [HN.out], bel_drewN nq (B0.out.trans (HB2.out.mono B0.out.size))⟩
              · have l0 : ((l.length : Int) == 0) = false := by rw [beq_eq_false_iff_ne]; omega
                have HLE : Hid (l ≠ []) := Lib.hid fun e => h0 (by rw [e]; rfl)
                have CI := Lib.hid (fun W (hb : Below W0.heap.size W0 W) => Is_any (.slice Al l.length cl) l W (HL.out.below hb) WL.out.2.1)
                clear h0
                by_cases hline : Pl.Line okV l
                · have CI := Lib.hid (fun W hb => (CI.out W hb).mono fun _ _ h => h.yes hline)
                  have CSp := Lib.hid (fun W (hb : Below W0.heap.size W0 W) => Span_any (.slice Al l.length cl) l W (HL.out.below hb) hline (by have := WL.out.1; omega))
                  have CC := Lib.hid (fun W u (h1 : Se.IsP W (.slice Av val.length cv) val) (h2 : Se.IsP W u (spanL l)) => Se.Covers_any (.slice Av val.length cv) u val (spanL l) W h1 h2 HX.out.val (span_wide2 WL.out.2.2) (by have h1 : val.length ≤ 100000 := HX.out.lenV; omega) (by have h1 := span_len l; have h2 := WL.out.1; omega))
                  have HI := Lib.hid (HI.out hline)
                  have HLN := Lib.hid hline
                  have HV2 := Lib.hid (HV.out.below (B0.out.trans (HB2.out.mono B0.out.size)))
                  have K0 : Hid (∀ w', Below w2.heap.size w2 w' → w'.cell? ⟨py, 1, none⟩ = some (.slice Al l.length cl) ∧ w'.cell? ⟨pw, 5, none⟩ = some (.slice Av val.length cv)) := Lib.hid fun w' hb => ⟨(Y2.out.below hb).c 1, (X2.out.below hb).c 5⟩
                  clear hline
                  go_upto_region 8 with fail
                  go_region_held3 (fun w' => w'.cell? ⟨py, 1, none⟩ = some (.slice Al l.length cl) ∧ w'.cell? ⟨pw, 5, none⟩ = some (.slice Av val.length cv)) (first
                    | exact K0.out _ (Below.refl _ _).drew
                    | exact K0.out _ HV5.out
                    | exact K0.out _ HV4.out
                    | exact K0.out _ HV3.out
                    | fail) (first
                    | (go_at_call 162; (with_reducible refine (CI.out _ (HB2.out.trans (((Below.refl _ _).drew).mono HB2.out.size))).mono ?_); rintro e w3 ⟨rfl, hb⟩; have HV3 := Lib.hid (show Below w2.heap.size w2 w3 from (Below.refl _ _).drew.trans hb); clear hb)
                    | (go_at_call 163; (with_reducible refine (CSp.out _ (HB2.out.trans (HV3.out.mono HB2.out.size))).mono ?_); rintro e w4 ⟨us, rfl, ho, hb⟩; have OS := Lib.hid ho.at; have HV4 := Lib.hid (show Below w2.heap.size w2 w4 from HV3.out.trans (hb.mono HV3.out.size)); clear ho hb)
                    | (go_at_call 26; (with_reducible refine (CC.out _ _ (HV2.out.below HV4.out) OS.out).mono ?_); rintro e w5 ⟨r, rfl, hr, hb⟩; have HR := Lib.hid hr; have HV5 := Lib.hid (show Below w2.heap.size w2 w5 from HV4.out.trans (hb.mono HV4.out.size)); clear hr hb)
                    | fail)
                  have HB5 := Lib.hid (HB2.out.trans (HV5.out.mono HB2.out.size))
                  cases r
                  · have HN : Hid (¬ (ps.length ≤ 16 ∧ MayPs val ps)) := Lib.hid fun h => by
                      have := HR.out.2 (HI.out.2 (NG.out h.2).2.2.2)
                      cases this
                    clear MM NG HI
                    go_wp2_with fail
                    go_ret
                    exact ⟨false, rfl, by simp [HN.out], B0.out.trans (HB5.out.mono B0.out.size)⟩
                  · have MM := Lib.hid (MM.out ⟨HLN.out, HLE.out, HI.out.1 (HR.out.1 rfl)⟩)
                    have hs := HS.out
                    clear NG HI
                    go_wp2_with fail
                    exact ⟨⟨k + 1, by omega, by go_num, MM.out, HB5.out⟩, by simp [intOf]; omega⟩
                · have CI := Lib.hid (fun W hb => (CI.out W hb).mono fun _ _ h => h.no hline)
                  have HN : Hid (¬ (ps.length ≤ 16 ∧ MayPs val ps)) := Lib.hid fun h => hline (NG.out h.2).2.1
                  have K1 : Hid (∀ w', Below w2.heap.size w2 w' → Below w2.heap.size w2 w' ∧ w'.cell? ⟨py, 1, none⟩ = some (.slice Al l.length cl) ∧ w'.cell? ⟨pw, 5, none⟩ = some (.slice Av val.length cv)) := Lib.hid fun w' hb => ⟨hb, (Y2.out.below hb).c 1, (X2.out.below hb).c 5⟩
                  clear hline MM NG HI
                  go_upto_region 8 with fail
                  refine wp_region_held_drew (S := (fun w' => Below w2.heap.size w2 w' ∧ w'.cell? ⟨py, 1, none⟩ = some (.slice Al l.length cl) ∧ w'.cell? ⟨pw, 5, none⟩ = some (.slice Av val.length cv))) (by kernel_rfl) (K1.out _ (Below.refl _ _).drew) (fun hHeld => ?_)
                  refine take_in (i := 0) (v := ?_) (some 37) rfl rfl (by kernel_rfl) (by kernel_rfl) (by kernel_rfl) (fun _ _ _ h => h) (Or.inl ⟨by rfl, ?_⟩) (by assumption) ?_
                  rotate_left
                  · (intro w hSw; (try dsimp only at hSw); (try go_split_ands); go_simp; try with_reducible rfl)
                  try simp only [Act.put, List.setIfInBounds_toArray, List.set_cons_zero, List.set_cons_succ]
                  refine take_in (i := 1) (v := ?_) (some 38) rfl rfl (by kernel_rfl) (by kernel_rfl) (by kernel_rfl) (fun _ _ _ h => h) (Or.inl ⟨by rfl, ?_⟩) (by assumption) ?_
                  rotate_left
                  · (intro w hSw; (try dsimp only at hSw); (try go_split_ands); go_simp; try with_reducible rfl)
                  try simp only [Act.put, List.setIfInBounds_toArray, List.set_cons_zero, List.set_cons_succ]
                  refine take_in (i := 2) (v := ?_) (some 39) rfl rfl (by kernel_rfl) (by kernel_rfl) (by kernel_rfl) (fun _ _ _ h => h) (Or.inl ⟨by rfl, ?_⟩) (by assumption) ?_
                  rotate_left
                  · (intro w hSw; (try dsimp only at hSw); (try go_split_ands); go_simp; try with_reducible rfl)
                  try simp only [Act.put, List.setIfInBounds_toArray, List.set_cons_zero, List.set_cons_succ]
                  refine take_in (i := 3) (v := ?_) (some 40) rfl rfl (by kernel_rfl) (by kernel_rfl) (by kernel_rfl) (fun _ _ _ h => h) (Or.inl ⟨by rfl, ?_⟩) (by assumption) ?_
                  rotate_left
                  · (intro w hSw; (try dsimp only at hSw); (try go_split_ands); go_simp; try with_reducible rfl)
                  try simp only [Act.put, List.setIfInBounds_toArray, List.set_cons_zero, List.set_cons_succ]
                  refine take_in (i := 4) (v := ?_) (some 41) rfl rfl (by kernel_rfl) (by kernel_rfl) (by kernel_rfl) (fun _ _ _ h => h) (Or.inl ⟨by rfl, ?_⟩) (by assumption) ?_
                  rotate_left
                  · (intro w hSw; (try dsimp only at hSw); (try go_split_ands); go_simp; try with_reducible rfl)
                  try simp only [Act.put, List.setIfInBounds_toArray, List.set_cons_zero, List.set_cons_succ]
                  refine take_in (i := 5) (v := ?_) (some 42) rfl rfl (by kernel_rfl) (by kernel_rfl) (by kernel_rfl) (fun _ _ _ h => h) (Or.inl ⟨by rfl, ?_⟩) (by assumption) ?_
                  rotate_left
                  · (intro w hSw; (try dsimp only at hSw); (try go_split_ands); go_simp; try with_reducible rfl)
                  try simp only [Act.put, List.setIfInBounds_toArray, List.set_cons_zero, List.set_cons_succ]
                  refine take_in (i := 6) (v := ?_) (some 43) rfl rfl (by kernel_rfl) (by kernel_rfl) (by kernel_rfl) (fun _ _ _ h => h) (Or.inl ⟨by rfl, ?_⟩) (by assumption) ?_
                  rotate_left
                  · (intro w hSw; (try dsimp only at hSw); (try go_split_ands); go_simp; try with_reducible rfl)
                  try simp only [Act.put, List.setIfInBounds_toArray, List.set_cons_zero, List.set_cons_succ]
                  refine wpAnyH_ready (rs := [7]) (by kernel_rfl) (by simp) ?_
                  refine AllReadyH.cons rfl (fun K hK => ?_) AllReadyH.nil
                  go_simp
                  with_reducible refine (CI.out _ (HB2.out.trans (hHeld.1.mono HB2.out.size))).mono ?_
                  rintro e w3 ⟨rfl, hb⟩
                  go_wp2_with fail
                  refine hK.out _ _ (K1.out _ (hHeld.1.trans (hb.mono hHeld.1.size))) (fun hHeld => ?_)
                  clear hK K
                  try simp only [Act.put, List.setIfInBounds_toArray, List.set_cons_zero, List.set_cons_succ]
                  refine take_in (i := 8) (v := ?_) (some 45) rfl rfl (by kernel_rfl) (by kernel_rfl) (by kernel_rfl) (fun _ _ _ h => h) (Or.inl ⟨by rfl, ?_⟩) (by assumption) ?_
                  rotate_left
                  · (intro w hSw; (try dsimp only at hSw); (try go_split_ands); go_simp; try with_reducible rfl)
                  try simp only [Act.put, List.setIfInBounds_toArray, List.set_cons_zero, List.set_cons_succ]
                  refine take_in (i := 9) (v := ?_) (some 46) rfl rfl (by kernel_rfl) (by kernel_rfl) (by kernel_rfl) (fun _ _ _ h => h) (Or.inl ⟨by rfl, ?_⟩) (by assumption) ?_
                  rotate_left
                  · (intro w hSw; (try dsimp only at hSw); (try go_split_ands); go_simp; try with_reducible rfl)
                  try simp only [Act.put, List.setIfInBounds_toArray, List.set_cons_zero, List.set_cons_succ]
                  refine take_in (i := 10) (v := ?_) (some 47) rfl rfl (by kernel_rfl) (by kernel_rfl) (by kernel_rfl) (fun _ _ _ h => h) (Or.inl ⟨by rfl, ?_⟩) (by assumption) ?_
                  rotate_left
                  · (intro w hSw; (try dsimp only at hSw); (try go_split_ands); go_simp; try with_reducible rfl)
                  try simp only [Act.put, List.setIfInBounds_toArray, List.set_cons_zero, List.set_cons_succ]
                  refine wpAnyH_skipd (by kernel_rfl) (fun _ _ d _ h => by cases d <;> exact h) [11, 12, 13] [48, 49, 50] 5 3 rfl _ _ _ _ (by kernel_rfl) (by kernel_rfl) rfl (by assumption) ?_
                  try simp only [List.foldl_cons, List.foldl_nil, Act.put, List.setIfInBounds_toArray, List.set_cons_zero, List.set_cons_succ]
                  refine wpAnyH_skipd (by kernel_rfl) (fun _ _ d _ h => by cases d <;> exact h) [14, 15, 16] [51, 52, 53] 2 3 rfl _ _ _ _ (by kernel_rfl) (by kernel_rfl) rfl (by assumption) ?_
                  try simp only [List.foldl_cons, List.foldl_nil, Act.put, List.setIfInBounds_toArray, List.set_cons_zero, List.set_cons_succ]
                  refine wpAnyH_skipd (by kernel_rfl) (fun _ _ d _ h => by cases d <;> exact h) [17] [54] 1 1 rfl _ _ _ _ (by kernel_rfl) (by kernel_rfl) rfl (by assumption) ?_
                  try simp only [List.foldl_cons, List.foldl_nil, Act.put, List.setIfInBounds_toArray, List.set_cons_zero, List.set_cons_succ]
                  refine take_in (i := 18) (v := ?_) (some 55) rfl rfl (by kernel_rfl) (by kernel_rfl) (by kernel_rfl) (fun _ _ _ h => h) (Or.inl ⟨by rfl, ?_⟩) (by assumption) ?_
                  rotate_left
                  · (intro w hSw; (try dsimp only at hSw); (try go_split_ands); go_simp; try with_reducible rfl)
                  try simp only [Act.put, List.setIfInBounds_toArray, List.set_cons_zero, List.set_cons_succ]
                  refine wpAnyH_done (by kernel_rfl) ?_ _
                  go_wp2_with fail
                  go_ret
                  exact ⟨false, rfl, by simp [HN.out], B0.out.trans ((HB2.out.trans (hHeld.1.mono HB2.out.size)).mono B0.out.size)⟩
            · have HN : Hid (¬ (ps.length ≤ 16 ∧ MayPs val ps)) := Lib.hid fun h => by
                have := HC.out.2 (fun i e => NL.out h.2 i e)
                cases this
              clear MM NG NL HI HC WL
              go_wp2_with fail
              go_ret
              exact ⟨false, rfl, by simp [HN.out], B0.out.trans (HB2.out.mono B0.out.size)⟩
      · obtain rfl : k = ps.length := by omega
        rw [List.take_length] at HP
        go_wp2_with fail
        go_ret
        exact ⟨true, rfl, by simp [HS.out, HP.out], B0.out.trans (HB.out.mono B0.out.size)⟩
  · have hN := Lib.hid (show ¬ (ps.length ≤ 16 ∧ MayPs val ps) from fun h => h16 h.1)
    have h17 : (16 : Int) < (ps.length : Int) := by omega
    go_enter Tryz.func100, Tryz.ntmps100
    go_wp2
    go_ret
    exact ⟨false, rfl, by simp [hN.out], B0.out⟩
end
end Go.Proofs.YtmolpogehgeebaaGreat


namespace Go.Proofs.YtmolpogehgeebaaGreat
open Go.RowKit
theorem may_iff (x : Ent) : x.may ↔ (1 ≤ x.id ∧ x.id ≤ 1099511627776) ∧ (x.lab = ByteArray.empty ∨ Co.wordB x.lab = true) ∧ conP x.edge x.fr x.til ∧ Se.Iset.NF x.val ∧ x.ps.length ≤ 16 ∧ MayPs x.val x.ps :=
  ⟨fun h => ⟨h.id, h.lab, h.con, h.val, h.num, h.ps⟩, fun ⟨h1, h2, h3, h4, h5, h6⟩ => ⟨h1, h2, h3, h4, h5, h6⟩⟩
theorem setIs_says (va : Value) (a : List (Int × Int)) (w : World) (ha : Se.IsP w va a) (la : a.length ≤ 1000000000000) :
    Calls Tryz.prog 99 #[va] w (Says (Se.Iset.NF a) w) :=
  (Se.Is_any va a w ha la).mono fun _ _ ⟨e, hb⟩ => ⟨_, e, by
    unfold Se.sameL
    rw [decide_eq_true_iff]
    exact ⟨fun h => h ▸ Se.Iset.nf_nf a, fun h => Se.Iset.nf_of_NF h⟩, hb⟩
section
set_option maxRecDepth 100000
set_option maxHeartbeats 8000000
theorem eMay_any (v : Value) (x : Ent) (w : World) (h : EAt w v x) (hx : x.wide) :
    Calls Tryz.prog 25 #[v] w (Says x.may w) := by
  obtain ⟨sv, sp, rfl, hv, hp⟩ := h
  have HB0 : Hid (∀ W, Below w.heap.size w W → Se.IsP W sv x.val ∧ SP W sp x.ps) := Lib.hid fun W hb => ⟨hv.below hb, hp.below hb⟩
  have CI := Lib.hid (fun W => eIsId_any x.id W)
  have CL := Lib.hid (fun W => eIsLabel_any x.lab W)
  have CC := Lib.hid (fun W => mayConnect_any x sv sp W (by obtain ⟨A, c, e, _⟩ := hv; exact ⟨A, _, c, e⟩) (by obtain ⟨A, c, e, _⟩ := hp; exact ⟨A, _, c, e⟩))
  have CN := Lib.hid (fun W (hb : Below w.heap.size w W) => setIs_says sv x.val W (HB0.out W hb).1 (by have := hx.lenV; omega))
  have CP := Lib.hid (fun W (hb : Below w.heap.size w W) => mayProps_any x sv sp W (HB0.out W hb).1 (HB0.out W hb).2 hx)
  have HM := Lib.hid (may_iff x)
  obtain ⟨Av, cv, rfl, _⟩ := hv
  obtain ⟨Ap, cp, rfl, _, _⟩ := hp
  clear hx HB0
  obtain ⟨edge, id, lab, fr, til, val, ps⟩ := x
  have B0 := Lib.hid ((Below.refl w.heap.size w).alloc (Nat.le_refl _) (.cells #[.bool edge, .int .u64 id, .string lab, .int .u64 fr, .int .u64 til, .slice Av val.length cv, .slice Ap ps.length cp] 38))
  have X0 := Lib.hid (Bx.new w #[.bool edge, .int .u64 id, .string lab, .int .u64 fr, .int .u64 til, .slice Av val.length cv, .slice Ap ps.length cp] 38)
  have x0 := X0.out.c
  simp only at CI CL CC CN CP HM ⊢
  go_enter Tryz.func25, Tryz.ntmps25
  go_wp2_with (first
    | (go_at_call 96; (with_reducible refine (CI.out _).mono ?_); rintro e w1 ⟨c1, rfl, hc1, hb⟩; have HC1 := Lib.hid hc1; have B1 := Lib.hid (B0.out.trans (hb.mono B0.out.size)); have X1 := Lib.hid (X0.out.below hb); clear hb hc1 x0; have x0 := X1.out.c; cases c1)
    | (go_at_call 97; (with_reducible refine (CL.out _).mono ?_); rintro e w2 ⟨c2, rfl, hc2, hb⟩; have HC2 := Lib.hid hc2; have B2 := Lib.hid (B1.out.trans (hb.mono B1.out.size)); have X2 := Lib.hid (X1.out.below hb); clear hb hc2 x0; have x0 := X2.out.c; cases c2)
    | (go_at_call 98; (with_reducible refine (CC.out _).mono ?_); rintro e w3 ⟨c3, rfl, hc3, hb⟩; have HC3 := Lib.hid hc3; have B3 := Lib.hid (B2.out.trans (hb.mono B2.out.size)); have X3 := Lib.hid (X2.out.below hb); clear hb hc3 x0; have x0 := X3.out.c; cases c3)
    | (go_at_call 99; (with_reducible refine (CN.out _ B3.out).mono ?_); rintro e w4 ⟨c4, rfl, hc4, hb⟩; have HC4 := Lib.hid hc4; have B4 := Lib.hid (B3.out.trans (hb.mono B3.out.size)); have X4 := Lib.hid (X3.out.below hb); clear hb hc4 x0; have x0 := X4.out.c; cases c4)
    | (go_at_call 100; (with_reducible refine (CP.out _ B4.out).mono ?_); rintro e w5 ⟨c5, rfl, hc5, hb⟩; have HC5 := Lib.hid hc5; have B5 := Lib.hid (B4.out.trans (hb.mono B4.out.size)); clear hb hc5 x0)
    | fail)
  · go_ret
    exact ⟨false, rfl, by rw [HM.out, ← HC1.out]; simp, B1.out⟩
  · go_ret
    exact ⟨false, rfl, by rw [HM.out, ← HC2.out]; simp, B2.out⟩
  · go_ret
    exact ⟨false, rfl, by rw [HM.out, ← HC3.out]; simp, B3.out⟩
  · go_ret
    exact ⟨false, rfl, by rw [HM.out, ← HC4.out]; simp, B4.out⟩
  · go_ret
    exact ⟨c5, rfl, by rw [HM.out, ← HC1.out, ← HC2.out, ← HC3.out, ← HC4.out, ← HC5.out]; simp, B5.out⟩
end
end Go.Proofs.YtmolpogehgeebaaGreat


namespace Go.Proofs.YtmolpogehgeebaaGreat
open Go.RowKit
/-- What is put where it is already changes nothing. -/
theorem setCell_self (w : World) (g i : Nat) (v : Value) (h : w.cell? ⟨g, i, none⟩ = some v) : w.setCell ⟨g, i, none⟩ v = w := by
  rw [Sort.setCell_eq]
  refine Sort.mapBlock_id w g _ fun c e fr hb => ?_
  unfold World.cell? at h
  simp only [hb, Option.isSome_none, Bool.false_eq_true, if_false] at h
  obtain ⟨hi, rfl⟩ := Array.getElem?_eq_some_iff.1 h
  apply Array.ext_getElem?
  intro k
  rw [Array.getElem?_setIfInBounds]
  split
  · next e => subst e; exact h.symm
  · rfl
theorem cellsL_one' (l : List Pie) : ∀ u ∈ cellsL l, u.oneCell' = true := fun u hu => by
  unfold cellsL at hu
  obtain ⟨x, _, hx⟩ := List.mem_flatMap.1 hu
  simp only [List.mem_cons, List.not_mem_nil, or_false] at hx
  rcases hx with rfl | rfl | rfl | rfl | rfl | rfl | rfl <;> rfl
theorem LAt.cells {w : World} {b off : Nat} {l : List Pie} (h : ∀ i (h : i < l.length), w.rangeAt b (off + i * 7) ((Pie.cells l[i]).toList)) : ∀ j u, (cellsL l)[j]? = some u → w.cell? ((⟨b, off, none⟩ : Addr).add j) = some u := fun j u hj => by
  rw [add_off]
  have hl : j < (cellsL l).length := by
    by_cases e : j < (cellsL l).length
    · exact e
    · rw [List.getElem?_eq_none (by omega)] at hj; cases hj
  rw [cellsL_length] at hl
  have hd : j / 7 < l.length := by omega
  have hg := cellsL_get l (j / 7) hd (j % 7) (by omega)
  rw [show j / 7 * 7 + j % 7 = j by omega, hj] at hg
  have := h (j / 7) hd (j % 7) u hg.symm
  rwa [show off + j / 7 * 7 + j % 7 = off + j by omega] at this
section
set_option maxRecDepth 100000
set_option maxHeartbeats 8000000
theorem cloneL_any (v : Value) (l : List Pie) (w : World) (h : SL w v l) (hl : l.length ≤ 1000000000) :
    Calls Tryz.prog 177 #[v] w fun e w' => ∃ u, e = .returned u ∧ OwnL w.heap.size w' u l ∧ Below w.heap.size w w' := by
  obtain ⟨A, c, rfl, hA, hm⟩ := h
  have q22 : ∀ (w : World) (a : Option Addr) (n c n' c' : Nat), (binOp .eql 60 (.slice a n c) (.slice none n' c')).run Tryz.prog w = .ok (.bool a.isNone) w := fun w a n c n' c' => Lib.run_eql_slice_nil w _ _ a n c n' c' Tryz.underlying60
  cases A with
  | none =>
    have h0 : l = [] := by
      cases l with
      | nil => rfl
      | cons x l => obtain ⟨b, off, e, _⟩ := hA (by simp); cases e
    subst h0
    clear hA hm
    go_enter Tryz.func177, Tryz.ntmps177
    go_wp2
    go_ret
    exact ⟨_, rfl, OwnL.nil _ _, Below.refl _ _⟩
  | some adr =>
    have HC : Hid (∀ W, Below w.heap.size w W → ∀ j u, (cellsL l)[j]? = some u → W.cell? (adr.add j) = some u) := Lib.hid fun W hb j u hj => by
      have h0 : 0 < l.length := by
        cases l with
        | nil => simp [cellsL] at hj
        | cons x l => simp
      obtain ⟨b, off, e, hlt, hc⟩ := hA h0
      cases e
      have := LAt.cells hc j u hj
      rw [add_off] at this ⊢
      exact (hb.cell (p := ⟨b, off + j, none⟩) hlt).trans this
    have LL := Lib.hid hl
    clear hA hm hl
    obtain ⟨i0, hi, hz0, hz1, hz2⟩ := info_parts infoL
    have B0 := Lib.hid ((Below.refl w.heap.size w).alloc (Nat.le_refl _) (.cells #[] 148))
    go_enter Tryz.func177, Tryz.ntmps177
    go_wp2_with (at_builtin; refine wpList_append_own _ rfl (.tmp 5) (.tmp 6) 60 rfl w.heap.size 148 i0 _ 7 64 Tryz.underlying60 hi hz0 hz1 hz2 rfl (by omega) _ _ _ rfl (World.ownsRow_made w #[] 0 (Nat.le_refl _) (Nat.zero_le _) (by simp)) adr l.length c (cellsL l) rfl (cellsL_length l) (HC.out _ B0.out) (cellsL_one' l) (by have := LL.out; unfold maxLen; omega) (by have := LL.out; omega) (by simp) ?_; intro v' w1 hown hgrow hnil; have HO := Lib.hid hown; have HG := Lib.hid hgrow; clear hown hgrow hnil)
    go_ret
    refine ⟨v', rfl, by simpa [OwnL] using HO.out, ?_⟩
    exact B0.out.grown HG.out (by simp) fun k hk => by
      have e : w.heap.size = k := Option.some.inj hk
      omega
/-- A line in new memory. -/
theorem copied_any (v : Value) (l : List Pie) (w : World) (h : SL w v l) (hl : l.length ≤ 1000000000) (hs : ∀ x ∈ l, x.v.s.size ≤ 1000) :
    Calls Tryz.prog 109 #[v] w fun e w' => ∃ u, e = .returned u ∧ OwnL w.heap.size w' u l ∧ Below w.heap.size w w' := by
  have CC := Lib.hid (cloneL_any v l w h hl)
  have HS := Lib.hid hs
  obtain ⟨A, c, rfl, _, _⟩ := h
  clear hs
  go_enter Tryz.func109, Tryz.ntmps109
  go_upto_region 2 with (go_at_call 177; (with_reducible refine (CC.out).mono ?_); rintro e w1 ⟨u, rfl, ho, hb⟩; have HO := Lib.hid ho; have HB := Lib.hid hb; clear ho hb)
  obtain ⟨A1, c1, rfl, hA1, _⟩ := HO.out.at
  have HA := Lib.hid hA1
  clear hA1
  go_wp2_with fail
  go_loopw [8] (fun i wr => ∃ k : Nat, k ≤ l.length ∧ i = .int .i64 k ∧ Below w1.heap.size w1 wr) (fun i _ => l.length - (intOf i).toNat)
  case atStart => exact ⟨0, Nat.zero_le _, rfl, Below.refl _ _⟩
  case round =>
    obtain ⟨k, hk, rfl, hb⟩ := hrel
    have HK := Lib.hid hb
    clear hb
    by_cases hlt : k < l.length
    · obtain ⟨g, cg, e, _, hlg, hfr, hc⟩ := (HO.out.below HK.out).form (by omega)
      cases e
      have r6 : wr.cell? ⟨g, k * 7 + 6, none⟩ = some (.string l[k].v.s) := hc k hlt 6 _ rfl
      have f6 := hfr (k * 7 + 6)
      have i0 : (k : Int) < (l.length : Int) := by omega
      have i1 : (0 : Int) ≤ (k : Int) := by omega
      have CS := Lib.hid (fun W => strsClone_any l[k].v.s W (HS.out _ (List.getElem_mem hlt)))
      clear hc hfr
      obtain ⟨s, hs⟩ : ∃ s, l[k].v.s = s := ⟨_, rfl⟩
      rw [hs] at r6 CS
      clear hs
      go_upto_region 5 with fail
      have L6 := Lib.hid r6
      have F6 := Lib.hid f6
      have LG := Lib.hid hlg
      clear f6
      go_wp2_with (go_at_call 80; (with_reducible refine (CS.out _).mono ?_); rintro e w2 ⟨rfl, hb⟩; have q6 := (hb.cell (p := ⟨g, k * 7 + 6, none⟩) LG.out).trans L6.out; have p6 := (hb.frozen (p := ⟨g, k * 7 + 6, none⟩) LG.out).trans F6.out; have HK2 := Lib.hid (HK.out.trans (hb.mono HK.out.size)); have SC := Lib.hid (setCell_self w2 g (k * 7 + 6) _ q6); clear hb r6)
      exact ⟨⟨k + 1, by omega, by go_num, by rw [SC.out]; exact HK2.out⟩, by simp [intOf]; omega⟩
    · obtain rfl : k = l.length := by omega
      go_wp2_with fail
      go_ret
      exact ⟨_, rfl, HO.out.below HK.out, HB.out.trans (HK.out.mono HB.out.size)⟩
end
end Go.Proofs.YtmolpogehgeebaaGreat


namespace Go.Proofs.YtmolpogehgeebaaGreat
open Go.RowKit
def cellsR (rs : List (ByteArray × Value)) : List Value := rs.flatMap fun r => [.string r.1, r.2]
theorem cellsR_cons (r : ByteArray × Value) (rs : List (ByteArray × Value)) : cellsR (r :: rs) = .string r.1 :: r.2 :: cellsR rs := rfl
theorem cellsR_length (rs : List (ByteArray × Value)) : (cellsR rs).length = rs.length * 2 := by
  induction rs with
  | nil => rfl
  | cons r rs ih => rw [cellsR_cons]; simp only [List.length_cons, ih]; omega
theorem cellsR_get : ∀ (rs : List (ByteArray × Value)) (i : Nat) (h : i < rs.length), (cellsR rs)[i * 2]? = some (.string rs[i].1) ∧ (cellsR rs)[i * 2 + 1]? = some rs[i].2
  | [], _, h => by simp at h
  | r :: rs, 0, _ => ⟨rfl, rfl⟩
  | r :: rs, i + 1, h => by
    have := cellsR_get rs i (by simpa using h)
    rw [cellsR_cons, show (i + 1) * 2 = i * 2 + 2 by omega, show i * 2 + 2 + 1 = (i * 2 + 1) + 2 by omega]
    simpa using this
theorem cellsR_line : ∀ (rs : List (ByteArray × Value)) (i : Nat) (h : i < rs.length) (u : Value), (cellsR rs).set (i * 2 + 1) u = cellsR (rs.set i (rs[i].1, u))
  | [], _, h, _ => by simp at h
  | r :: rs, 0, _, u => rfl
  | r :: rs, i + 1, h, u => by
    have := cellsR_line rs i (by simpa using h) u
    rw [cellsR_cons, show (i + 1) * 2 + 1 = (i * 2 + 1) + 1 + 1 by omega, List.set_cons_succ, List.set_cons_succ, this]
    simp [cellsR_cons]
theorem cellsR_both : ∀ (rs : List (ByteArray × Value)) (i : Nat) (_ : i < rs.length) (k : ByteArray) (u : Value), ((cellsR rs).set (i * 2) (.string k)).set (i * 2 + 1) u = cellsR (rs.set i (k, u))
  | [], _, h, _, _ => by simp at h
  | r :: rs, 0, _, k, u => rfl
  | r :: rs, i + 1, h, k, u => by
    have := cellsR_both rs i (by simpa using h) k u
    rw [cellsR_cons, show (i + 1) * 2 + 1 = (i * 2 + 1) + 1 + 1 by omega, show (i + 1) * 2 = (i * 2) + 1 + 1 by omega, List.set_cons_succ, List.set_cons_succ, List.set_cons_succ, List.set_cons_succ, this]
    simp [cellsR_cons]
/-- A slice of properties that the call owns. -/
def OwnR (base : Nat) (w : World) (v : Value) (rs : List (ByteArray × Value)) : Prop := w.ownsRow base 62 2 v rs.length (cellsR rs)
theorem OwnR.below {base : Nat} {w w' : World} {v : Value} {rs : List (ByteArray × Value)} (h : OwnR base w v rs) (hb : Below w.heap.size w w') : OwnR base w' v rs := by
  refine ⟨h.1, ?_⟩
  rcases h.2 with h0 | ⟨g, cap, cur, h1, h2, h3, h4⟩
  · exact .inl h0
  · exact .inr ⟨g, cap, cur, h1, h2, (hb.block g (lt_heap h3)).trans h3, h4⟩
theorem OwnR.mono {base base' : Nat} {w : World} {v : Value} {rs : List (ByteArray × Value)} (h : OwnR base w v rs) (hb : base' ≤ base) : OwnR base' w v rs := by
  refine ⟨h.1, ?_⟩
  rcases h.2 with h0 | ⟨g, cap, cur, h1, h2, h3⟩
  · exact .inl h0
  · exact .inr ⟨g, cap, cur, h1, Nat.le_trans hb h2, h3⟩
theorem OwnR.form {base : Nat} {w : World} {v : Value} {rs : List (ByteArray × Value)} (h : OwnR base w v rs) : ∃ A c, v = .slice A rs.length c ∧ rs.length ≤ c ∧ c ≤ 9223372036854775807 ∧ (0 < rs.length → ∃ g, A = some ⟨g, 0, none⟩ ∧ base ≤ g ∧ g < w.heap.size ∧ (∀ j, w.frozen? ⟨g, j, none⟩ = false) ∧ ∀ i (h : i < rs.length), w.cell? ⟨g, i * 2, none⟩ = some (.string rs[i].1) ∧ w.cell? ⟨g, i * 2 + 1, none⟩ = some rs[i].2) := by
  rcases h.2 with ⟨rfl, h0⟩ | ⟨g, cap, cur, rfl, hb, hg, hn, hm, hs, ht⟩
  · exact ⟨none, 0, by rw [h0], by omega, by omega, fun h => by omega⟩
  · refine ⟨_, cap, rfl, hn, by unfold maxLen at hm; omega, fun _ => ⟨g, rfl, hb, lt_heap hg, fun j => by unfold World.frozen?; simp only []; rw [hg]; simp, fun i hi => ?_⟩⟩
    have c0 := cellsR_get rs i hi
    rw [← ht, List.getElem?_take_of_lt (by omega), List.getElem?_take_of_lt (by omega), Array.getElem?_toList, Array.getElem?_toList] at c0
    exact ⟨(cell_of_row w g (i * 2) cur _ _ hg).trans c0.1, (cell_of_row w g (i * 2 + 1) cur _ _ hg).trans c0.2⟩
/-- These rows hold these properties, each with a line of one's own. -/
structure RowsO (base : Nat) (w : World) (rs : List (ByteArray × Value)) (ps : List Prp) : Prop where
  len : rs.length = ps.length
  at' : ∀ i (h : i < rs.length) (g : i < ps.length), rs[i].1 = ps[i].k ∧ OwnL base w rs[i].2 ps[i].l
theorem RowsO.below {base : Nat} {w w' : World} {rs : List (ByteArray × Value)} {ps : List Prp} (h : RowsO base w rs ps) (hb : Below w.heap.size w w') : RowsO base w' rs ps :=
  ⟨h.len, fun i hi hg => ⟨(h.at' i hi hg).1, (h.at' i hi hg).2.below hb⟩⟩
theorem RowsO.mono {base base' : Nat} {w : World} {rs : List (ByteArray × Value)} {ps : List Prp} (h : RowsO base w rs ps) (hb : base' ≤ base) : RowsO base' w rs ps :=
  ⟨h.len, fun i hi hg => ⟨(h.at' i hi hg).1, (h.at' i hi hg).2.mono hb⟩⟩
theorem OwnR.sp {base base' : Nat} {w : World} {v : Value} {rs : List (ByteArray × Value)} {ps : List Prp} (h : OwnR base w v rs) (hr : RowsO base' w rs ps) : SP w v ps := by
  obtain ⟨A, c, rfl, _, _, hA⟩ := h.form
  refine ⟨A, c, by rw [hr.len], fun h0 => ?_, by rw [← hr.len]; omega⟩
  obtain ⟨g, rfl, _, hg, _, hc⟩ := hA (by rw [hr.len]; exact h0)
  refine ⟨g, 0, rfl, hg, fun i hi => ?_⟩
  have hi' : i < rs.length := by rw [hr.len]; exact hi
  have h1 := hc i hi'
  have h2 := hr.at' i hi' hi
  rw [Nat.zero_add]
  exact ⟨by rw [h1.1, h2.1], _, h1.2, h2.2.at⟩
theorem apart_LR {base base' : Nat} {w : World} {v u : Value} {l : List Pie} {rs : List (ByteArray × Value)} (h : OwnL base w v l) (g : OwnR base' w u rs) : v.ownBlock = none ∨ v.ownBlock ≠ u.ownBlock := by
  rcases h.2 with ⟨rfl, _⟩ | ⟨q, cap, cur, rfl, _, hq, _⟩
  · exact .inl rfl
  · refine .inr fun e => ?_
    rcases g.2 with ⟨rfl, _⟩ | ⟨q', cap', cur', rfl, _, hq', _⟩
    · simp [Value.ownBlock] at e
    · simp [Value.ownBlock] at e
      subst e
      rw [hq] at hq'
      simp at hq'
theorem apart_PR {base base' : Nat} {w : World} {v u : Value} {l : List (Int × Int)} {rs : List (ByteArray × Value)} (h : Se.OwnP base w v l) (g : OwnR base' w u rs) : v.ownBlock = none ∨ v.ownBlock ≠ u.ownBlock := by
  rcases h.2 with ⟨rfl, _⟩ | ⟨q, cap, cur, rfl, _, hq, _⟩
  · exact .inl rfl
  · refine .inr fun e => ?_
    rcases g.2 with ⟨rfl, _⟩ | ⟨q', cap', cur', rfl, _, hq', _⟩
    · simp [Value.ownBlock] at e
    · simp [Value.ownBlock] at e
      subst e
      rw [hq] at hq'
      simp at hq'
/-- One line put anew. -/
theorem OwnR.line {base g c : Nat} {w : World} {rs : List (ByteArray × Value)} (h : OwnR base w (.slice (some ⟨g, 0, none⟩) rs.length c) rs) (i : Nat) (hi : i < rs.length) (u : Value) :
    OwnR base (w.setCell ⟨g, i * 2 + 1, none⟩ u) (.slice (some ⟨g, 0, none⟩) rs.length c) (rs.set i (rs[i].1, u)) ∧ w.grownBy (w.setCell ⟨g, i * 2 + 1, none⟩ u) (some g) := by
  have := World.ownsRow.stored h (i * 2 + 1) u
  rw [cellsR_line rs i hi] at this
  unfold OwnR
  rw [List.length_set]
  exact this
theorem OwnR.both {base g c : Nat} {w : World} {rs : List (ByteArray × Value)} (h : OwnR base w (.slice (some ⟨g, 0, none⟩) rs.length c) rs) (i : Nat) (hi : i < rs.length) (k : ByteArray) (u : Value) :
    OwnR base ((w.setCell ⟨g, i * 2, none⟩ (.string k)).setCell ⟨g, i * 2 + 1, none⟩ u) (.slice (some ⟨g, 0, none⟩) rs.length c) (rs.set i (k, u)) ∧ w.grownBy ((w.setCell ⟨g, i * 2, none⟩ (.string k)).setCell ⟨g, i * 2 + 1, none⟩ u) (some g) := by
  have h1 := World.ownsRow.stored h (i * 2) (.string k)
  have h2 := World.ownsRow.stored h1.1 (i * 2 + 1) u
  rw [cellsR_both rs i hi] at h2
  unfold OwnR
  rw [List.length_set]
  exact ⟨h2.1, h1.2.trans h2.2⟩
theorem RowsO.kept {base g c : Nat} {w w' : World} {rs qs : List (ByteArray × Value)} {ps : List Prp} (h : RowsO base w qs ps) (ho : OwnR base w (.slice (some ⟨g, 0, none⟩) rs.length c) rs) (hg : w.grownBy w' (some g)) : RowsO base w' qs ps :=
  ⟨h.len, fun i hi hgi => ⟨(h.at' i hi hgi).1, World.ownsRow.kept (h.at' i hi hgi).2 hg (apart_LR (h.at' i hi hgi).2 ho)⟩⟩
/-- An entity in memory of one's own. -/
def EOwn (base : Nat) (w : World) (v : Value) (x : Ent) : Prop := ∃ sv sp rs, v = .agg (x.cells sv sp) ∧ Se.OwnP base w sv x.val ∧ OwnR base w sp rs ∧ RowsO base w rs x.ps
theorem EOwn.at {base : Nat} {w : World} {v : Value} {x : Ent} (h : EOwn base w v x) : EAt w v x := by
  obtain ⟨sv, sp, rs, e, h1, h2, h3⟩ := h
  exact ⟨sv, sp, e, h1.at, h2.sp h3⟩
theorem EOwn.below {base : Nat} {w w' : World} {v : Value} {x : Ent} (h : EOwn base w v x) (hb : Below w.heap.size w w') : EOwn base w' v x := by
  obtain ⟨sv, sp, rs, e, h1, h2, h3⟩ := h
  exact ⟨sv, sp, rs, e, h1.below hb, h2.below hb, h3.below hb⟩
theorem EOwn.mono {base base' : Nat} {w : World} {v : Value} {x : Ent} (h : EOwn base w v x) (hb : base' ≤ base) : EOwn base' w v x := by
  obtain ⟨sv, sp, rs, e, h1, h2, h3⟩ := h
  exact ⟨sv, sp, rs, e, Se.OwnP.mono h1 hb, h2.mono hb, h3.mono hb⟩
theorem infoE : (Tryz.prog.info? 62).map (fun i => (i.zero, i.size, i.bytes)) = some (some (.agg #[.string ⟨#[]⟩, .slice none 0 0]), 2, 40) := by kernel_rfl
theorem made_props : ∀ n : Nat, (madeCells #[.string ⟨#[]⟩, .slice none 0 0] (n * 2)).toList = cellsR (List.replicate n (⟨#[]⟩, .slice none 0 0)) := fun n => by
  apply List.ext_getElem?
  intro j
  by_cases hj : j < n * 2
  · have hl : (cellsR (List.replicate n ((⟨#[]⟩ : ByteArray), Value.slice none 0 0))).length = n * 2 := by rw [cellsR_length]; simp
    have hi : j / 2 < (List.replicate n ((⟨#[]⟩ : ByteArray), Value.slice none 0 0)).length := by simp; omega
    have hg := cellsR_get _ (j / 2) hi
    rw [Array.getElem?_toList]
    have e : (madeCells #[.string ⟨#[]⟩, .slice none 0 0] (n * 2))[j]? = some ((#[.string ⟨#[]⟩, .slice none 0 0] : Array Value)[j % 2]!) := by
      simp [madeCells, hj]
    rw [e]
    have hm : j % 2 = 0 ∨ j % 2 = 1 := by omega
    rcases hm with hm | hm
    · rw [show j / 2 * 2 = j by omega] at hg
      rw [hg.1, hm]; simp
    · rw [show j / 2 * 2 + 1 = j by omega] at hg
      rw [hg.2, hm]; simp
  · rw [List.getElem?_eq_none (by rw [Array.length_toList, size_madeCells]; omega), List.getElem?_eq_none (by rw [cellsR_length]; simp; omega)]
theorem make_props (n : Nat) (w : World) (hn : n ≤ 1000000) : (Instr.makeSlice 36 (.int .i64 (n : Int)) (.int .i64 (n : Int))).run Tryz.prog w = .ok (.slice (some ⟨w.heap.size, 0, none⟩) n n) (w.alloc (.cells (madeCells #[.string ⟨#[]⟩, .slice none 0 0] (n * 2)) 62)) := by
  obtain ⟨i0, hi, hz0, hz1, hz2⟩ := info_parts infoE
  have e := run_make (P := Tryz.prog) w 36 62 i0 _ Tryz.underlying36 hi hz0 .i64 .i64 (n : Int) (n : Int) (by omega) (Int.le_refl _) (by rw [hz2]; omega) (by omega)
  rw [hz1, Int.toNat_natCast] at e
  exact e
theorem OwnR.made (base : Nat) (w : World) (n : Nat) (h : base ≤ w.heap.size) (hn : n ≤ 1000000) : OwnR base (w.alloc (.cells (madeCells #[.string ⟨#[]⟩, .slice none 0 0] (n * 2)) 62)) (.slice (some ⟨w.heap.size, 0, none⟩) n n) (List.replicate n (⟨#[]⟩, .slice none 0 0)) := by
  refine ⟨by rw [cellsR_length], .inr ⟨w.heap.size, n, _, by rw [List.length_replicate], h, heap_alloc_new w _, by simp, by unfold maxLen; omega, by rw [size_madeCells], ?_⟩⟩
  rw [List.length_replicate, made_props]
  exact List.take_of_length_le (by rw [cellsR_length]; simp)
end Go.Proofs.YtmolpogehgeebaaGreat


