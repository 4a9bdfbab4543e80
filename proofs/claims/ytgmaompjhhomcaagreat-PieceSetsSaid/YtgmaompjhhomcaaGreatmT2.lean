/- PieceSets' walk. -/
import Derived.Test.YtgmaompjhhomcaaGreatmG2
import Derived.Test.YtgmaompjhhomcaaGreatmG0
import Derived.Test.YtgmaompjhhomcaaGreatmG1
namespace Go.Proofs.YtgmaompjhhomcaaGreat
open Go.RowKit
theorem low_ends {D R : List Pie} (h : PutsR D R) (hd : ∀ p ∈ D, goodP p ∧ p.v.wide ∧ 0 ≤ p.a ∧ 0 ≤ p.b) : ∀ x ∈ R, 0 ≤ x.a := fun x hx => by
  have hg := h.line.good x hx
  have e := h.means x.a
  rw [Pl.means_at VP.none h.line.par hx (Int.le_refl _) hg.1] at e
  refine Classical.byContradiction fun c => none_ok ?_
  rw [← lastV_none (L := D) (t := x.a), ← e]
  · exact hg.2.2
  · rintro ⟨p, hp, h1, _⟩
    have := (hd p hp).2.2.1
    omega
theorem span_wide {R : List Pie} (h : Pl.Line okV R) (hR : ∀ x ∈ R, 0 ≤ x.a) : Se.Iset.Wide (spanL R) := by
  unfold spanL
  refine Se.Iset.nf_wide fun p hp => ?_
  unfold chosen pers at hp
  obtain ⟨x, hx, rfl⟩ := List.mem_map.1 hp
  have hx := (List.mem_filter.1 hx).1
  have h1 := hR x hx
  have h2 := (h.good x hx).1
  exact ⟨h1, by show 0 ≤ x.b; omega⟩
theorem where_wide {R : List Pie} (v : VP) (h : Pl.Line okV R) (hR : ∀ x ∈ R, 0 ≤ x.a) : Se.Iset.Wide (Se.Iset.nf (chosen (isV v) R)) := by
  refine Se.Iset.nf_wide fun p hp => ?_
  unfold chosen pers at hp
  obtain ⟨x, hx, rfl⟩ := List.mem_map.1 hp
  have hx := (List.mem_filter.1 hx).1
  have h1 := hR x hx
  have h2 := (h.good x hx).1
  exact ⟨h1, by show 0 ≤ x.b; omega⟩
theorem meansAt_line {R : List Pie} (h : Pl.Line okV R) (t : Int) : meansAt R t = Pl.means VP.none R t := by unfold meansAt; rw [if_pos h]
theorem means_fine {R : List Pie} (h : Pl.Line okV R) (t : Int) : (Pl.means VP.none R t).wide ∧ (Pl.means VP.none R t).may := by
  rcases Pl.means_case VP.none R t with ⟨x, hx, _, _, e⟩ | ⟨_, e⟩
  · rw [e]; exact ⟨(h.good x hx).2.2.1, (h.good x hx).2.2.2.1⟩
  · rw [e]; exact ⟨none_wide, none_may⟩
theorem ends_range {R : List Pie} {E : List Int} (h : Pl.Line okV R) (hE : EndsOf R E) (hR : ∀ x ∈ R, 0 ≤ x.a) : ∀ t ∈ E, 0 ≤ t ∧ t ≤ 1099511627776 := fun t ht => by
  obtain ⟨x, hx, hh⟩ := (hE.mem t).1 ht
  have h1 := hR x hx
  have h2 := h.good x hx
  have h3 := h2.1
  have h4 := h2.2.1
  omega
theorem ownP_form {base : Nat} {w : World} {v : Value} {L : List (Int × Int)} (h : Se.OwnP base w v L) : ∃ X c, v = .slice X L.length c ∧ (X = none → c = 0) ∧ Se.PAt w X L := by
  have h' := Se.OwnP.at h
  rcases h.2 with ⟨rfl, h0⟩ | ⟨g, cap, cur, rfl, hg, hb, h1, h2, h3, h4⟩
  · obtain rfl : L = [] := List.eq_nil_of_length_eq_zero h0
    exact ⟨none, 0, rfl, fun _ => rfl, Se.PAt.nil _ _⟩
  · obtain ⟨A, c, e, hA⟩ := h'
    cases e
    exact ⟨_, cap, rfl, fun e => (by cases e), hA⟩
/-- What Set of nothing leaves. -/
def PutNull (R : List Pie) (c d : Int) (u n : Value) (w0 w : World) : Prop := ∃ (N : List Pie) (m : Int), SL w u N ∧ n = .int .i64 m ∧ ((c < d ∧ d ≤ 1099511627776) → m = 0 ∧ Pl.SetR okV VP.none R c d VP.none N) ∧ (¬ (c < d ∧ d ≤ 1099511627776) → m = 32) ∧ Below w0.heap.size w0 w
theorem PutNull.below {R : List Pie} {c d : Int} {u n : Value} {w0 w w' : World} (h : PutNull R c d u n w0 w) (hb : Below w.heap.size w w') : PutNull R c d u n w0 w' := by
  obtain ⟨N, m, h1, h2, h3, h4, h5⟩ := h
  exact ⟨N, m, h1.below hb, h2, h3, h4, h5.trans (hb.mono h5.size)⟩
section
set_option maxRecDepth 100000
set_option maxHeartbeats 40000000
theorem Sets_walk (v : Value) (ps : List Pie) (A B : Option Addr) (ca cb : Nat) (La Lb : List (Int × Int)) (c d : Int) (w : World) (h : SL w v ps) (hw : ∀ p ∈ ps, p.v.wide) (hn : ∀ p ∈ ps, 0 ≤ p.a ∧ 0 ≤ p.b)
    (hA : Se.PAt w A La) (_zA : A = none → ca = 0) (lA : La.length ≤ ca) (wA : Se.Iset.Wide La) (hB : Se.PAt w B Lb) (_zB : B = none → cb = 0) (lB : Lb.length ≤ cb) (wB : Se.Iset.Wide Lb) (hcd : 0 ≤ c ∧ 0 ≤ d) :
    Calls Tryz.prog 5 #[v, .slice A La.length ca, .slice B Lb.length cb, .agg #[.int .u64 c, .int .u64 d]] w fun e w' => e = .returned (.bool true) ∧ Below w.heap.size w w' := by
  obtain ⟨Sa, hSa⟩ : ∃ S, La.take 20 = S := ⟨_, rfl⟩
  obtain ⟨Sb, hSb⟩ : ∃ S, Lb.take 20 = S := ⟨_, rfl⟩
  have A0 := Lib.hid (show Se.PAt w A Sa by rw [← hSa]; exact hA.take 20)
  have B0 := Lib.hid (show Se.PAt w B Sb by rw [← hSb]; exact hB.take 20)
  have WA := Lib.hid (show Se.Iset.Wide Sa by rw [← hSa]; exact fun p hp => wA p (List.mem_of_mem_take hp))
  have WB := Lib.hid (show Se.Iset.Wide Sb by rw [← hSb]; exact fun p hp => wB p (List.mem_of_mem_take hp))
  have LA := Lib.hid (show Sa.length ≤ 20 by rw [← hSa, List.length_take]; omega)
  have LB := Lib.hid (show Sb.length ≤ 20 by rw [← hSb, List.length_take]; omega)
  have ma : min (La.length : Int) 20 = (Sa.length : Int) := by rw [← hSa, List.length_take]; omega
  have mb : min (Lb.length : Int) 20 = (Sb.length : Int) := by rw [← hSb, List.length_take]; omega
  have ja : Sa.length ≤ ca := by rw [← hSa, List.length_take]; omega
  have jb : Sb.length ≤ cb := by rw [← hSb, List.length_take]; omega
  have HCD := Lib.hid hcd
  have CB := Lib.hid (fun W (hb : Below w.heap.size w W) => built_any2 v ps W (h.below hb) hw hn)
  have CK := Lib.hid (fun W => wakes_any W)
  have hsf := store_float
  obtain ⟨A0v, cv, rfl, _⟩ := h
  have P0 := Lib.hid (Bx.new w #[.int .u64 c, .int .u64 d] 25)
  have K0 := Lib.hid ((Below.refl w.heap.size w).alloc (Nat.le_refl _) (.cells #[.int .u64 c, .int .u64 d] 25))
  have A1 := Lib.hid (A0.out.below K0.out)
  have B1 := Lib.hid (B0.out.below K0.out)
  clear hw hn hA lA wA hB lB wB hcd hSa hSb A0 B0
  go_enter Tryz.func5, Tryz.ntmps5
  go_upto_region 1 with fail
  obtain ⟨W, hW⟩ : ∃ W, w.alloc (.cells #[.int .u64 c, .int .u64 d] 25) = W := ⟨_, rfl⟩
  rw [hW] at P0 K0 A1 B1 ⊢
  clear hW
  obtain ⟨pp, hpp⟩ : ∃ p, w.heap.size = p := ⟨_, rfl⟩
  rw [hpp] at P0 ⊢
  clear hpp
  go_cut [1, 2] from 29 to 38 (fun u1 u2 wd => u1 = .slice A Sa.length ca ∧ u2 = .slice B Sb.length cb ∧ Below W.heap.size W wd)
  case first =>
    go_quiet (fail)
    go_wp2_with fail
    go_meet
    exact ⟨rfl, rfl, bel_drewN nq (Below.refl _ _)⟩
  case rest =>
    obtain ⟨rfl, rfl, hb⟩ := hcut
    have P2 := Lib.hid (P0.out.below hb)
    have K2 := Lib.hid (K0.out.trans (hb.mono K0.out.size))
    have A2 := Lib.hid (show Se.IsP wc (.slice A Sa.length ca) Sa from ⟨A, ca, rfl, A1.out.below hb⟩)
    have B2 := Lib.hid (show Se.IsP wc (.slice B Sb.length cb) Sb from ⟨B, cb, rfl, B1.out.below hb⟩)
    obtain ⟨w2, rfl⟩ : ∃ x : World, x = wc := ⟨_, rfl⟩
    clear hb A1 B1 P0 K0 ma mb ja jb
    go_upto_region 2 with fail
    go_cut [9, 10, 11] from 39 to 44 (fun u9 u10 u11 wd => ∃ R D, SL wd u9 R ∧ u11 = .bool true ∧ PutsR D R ∧ (∀ p ∈ D, goodP p ∧ p.v.wide ∧ 0 ≤ p.a ∧ 0 ≤ p.b) ∧ D.length ≤ 30 ∧ Below w2.heap.size w2 wd)
    case first =>
      go_wp2_with (go_at_call 31; (with_reducible refine (CB.out _ K2.out).mono ?_); rintro e w3 ⟨ux, ud, R, D, rfl, ho, _, hr, hg, hd, hb⟩; have HO := Lib.hid ho; have HR := Lib.hid hr; have HD := Lib.hid hd; have HG := Lib.hid hg; have HB := Lib.hid hb; clear ho hr hd hg hb)
      go_meet
      exact ⟨R, D, HO.out.at, rfl, HR.out, HG.out, HD.out, HB.out⟩
    case rest =>
      obtain ⟨R, D, ho, rfl, hr, hg, hd, hb⟩ := hcut
      have HR := Lib.hid hr.line
      have HRA := Lib.hid (low_ends hr hg)
      have LR := Lib.hid (show R.length ≤ 60 by have := hr.len; omega)
      have RW := Lib.hid (show ∀ p ∈ R, p.v.wide ∧ p.v.may from fun p hp => ⟨(hr.line.good p hp).2.2.1, (hr.line.good p hp).2.2.2.1⟩)
      obtain ⟨w3, rfl⟩ : ∃ x : World, x = wc := ⟨_, rfl⟩
      have OX3 := Lib.hid ho
      have P3 := Lib.hid (P2.out.below hb)
      have A3 := Lib.hid (A2.out.below hb)
      have B3 := Lib.hid (B2.out.below hb)
      have K3 := Lib.hid (K2.out.trans (hb.mono K2.out.size))
      clear ho hr hg hd hb P2 A2 B2 K2 CB
      go_upto_region 5 with (go_at_call 30; (with_reducible refine (CK.out _).mono ?_); rintro e w4 ⟨rfl, hb⟩; have OX4 := Lib.hid (OX3.out.below hb); have P4 := Lib.hid (P3.out.below hb); have A4 := Lib.hid (A3.out.below hb); have B4 := Lib.hid (B3.out.below hb); have K4 := Lib.hid (K3.out.trans (hb.mono K3.out.size)); clear hb)
      obtain ⟨XA, xc, rfl, hXA, _⟩ := OX4.out
      have OX4 := Lib.hid (show SL w4 (.slice XA R.length xc) R from OX4.out)
      clear hXA CK OX3 P3 A3 B3
      have CW := Lib.hid (Within_ok (.slice XA R.length xc) (.slice A Sa.length ca) R Sa w4 OX4.out A4.out (line_w HR.out) HR.out (by have := LR.out; omega) (by have := LA.out; omega))
      go_upto_region 6 with (go_at_call 13; (with_reducible refine (CW.out).mono ?_); rintro e w5 ⟨u5', W1, rfl, ho, hr, hb⟩; have OX5 := Lib.hid (OX4.out.below hb); have P5 := Lib.hid (P4.out.below hb); have A5 := Lib.hid (A4.out.below hb); have B5 := Lib.hid (B4.out.below hb); have K5 := Lib.hid (K4.out.trans (hb.mono K4.out.size)); have WA5 := Lib.hid ho.at; have HW1 := Lib.hid hr; clear ho hr; clear hb)
      have LW1 := Lib.hid (show W1.length ≤ 1200 by
        have h1 := HW1.out.len
        have h2 := Nat.mul_le_mul LR.out LA.out
        omega)
      have CW2 := Lib.hid (Within_ok u5' (.slice B Sb.length cb) W1 Sb w5 WA5.out B5.out (line_w HW1.out.line) HW1.out.line (by have := LW1.out; omega) (by have := LB.out; omega))
      go_upto_region 7 with (go_at_call 13; (with_reducible refine (CW2.out).mono ?_); rintro e w6 ⟨u6', W2, rfl, ho, hr, hb⟩; have OX6 := Lib.hid (OX5.out.below hb); have P6 := Lib.hid (P5.out.below hb); have A6 := Lib.hid (A5.out.below hb); have B6 := Lib.hid (B5.out.below hb); have WA6 := Lib.hid (WA5.out.below hb); have K6 := Lib.hid (K5.out.trans (hb.mono K5.out.size)); have WB6 := Lib.hid ho.at; have HW2 := Lib.hid hr; clear ho hr; clear hb)
      have CM := Lib.hid (Se.Meet_any (.slice A Sa.length ca) (.slice B Sb.length cb) Sa Sb w6 A6.out B6.out WA.out WB.out (by have := LA.out; omega) (by have := LB.out; omega))
      have CW3 := Lib.hid (fun W u M (hM : Se.IsP W u M) (hx : SL W (.slice XA R.length xc) R) (hl : M.length ≤ 41) => Within_ok (.slice XA R.length xc) u R M W hx hM (line_w HR.out) HR.out (by have := LR.out; omega) (by omega))
      go_upto_region 8 with (first
        | (go_at_call 33; (with_reducible refine (CM.out).mono ?_); rintro e w7 ⟨u7', M, rfl, hr, ho, hb⟩; have OX7 := Lib.hid (OX6.out.below hb); have P7 := Lib.hid (P6.out.below hb); have A7 := Lib.hid (A6.out.below hb); have WA7 := Lib.hid (WA6.out.below hb); have WB7 := Lib.hid (WB6.out.below hb); have K7 := Lib.hid (K6.out.trans (hb.mono K6.out.size)); have M7 := Lib.hid ho.at; have HM := Lib.hid hr; have LM := Lib.hid (show M.length ≤ 41 by have := hr.len; have := LA.out; have := LB.out; omega); clear ho hr; clear hb)
        | (go_at_call 13; (with_reducible refine (CW3.out _ _ _ M7.out OX7.out LM.out).mono ?_); rintro e w8 ⟨u8', W3, rfl, ho, hr, hb⟩; have OX8 := Lib.hid (OX7.out.below hb); have P8 := Lib.hid (P7.out.below hb); have A8 := Lib.hid (A7.out.below hb); have WA8 := Lib.hid (WA7.out.below hb); have WB8 := Lib.hid (WB7.out.below hb); have K8 := Lib.hid (K7.out.trans (hb.mono K7.out.size)); have WC8 := Lib.hid ho.at; have HW3 := Lib.hid hr; clear ho hr; clear hb)
        | fail)
      have E23 := Lib.hid (within_twice HW1.out HW2.out HM.out HW3.out)
      have SPW := Lib.hid (span_wide HR.out HRA.out)
      have LSP := Lib.hid (show (spanL R).length ≤ 60 from Nat.le_trans (Nat.le_trans (Se.Iset.nf_length _) (chosen_length _ _)) LR.out)
      have C9 := Lib.hid (fun W u u' (h1 : SL W u W2) (h2 : SL W u' W3) => (pSame_any u u' W2 W3 W h1 h2 (fun p hp => ⟨(HW2.out.line.good p hp).2.2.1, (HW2.out.line.good p hp).2.2.2.1⟩) (fun p hp => ⟨(HW3.out.line.good p hp).2.2.1, (HW3.out.line.good p hp).2.2.2.1⟩)).mono fun _ _ h => h.yes E23.out)
      have C10 := Lib.hid (fun W u (h1 : SL W u W1) => Span_any u W1 W h1 HW1.out.line (by have := LW1.out; omega))
      have C11 := Lib.hid (fun W (h1 : SL W (.slice XA R.length xc) R) => Span_any (.slice XA R.length xc) R W h1 HR.out (by have := LR.out; omega))
      have C12 := Lib.hid (fun W u (h1 : Se.IsP W u (spanL R)) (h2 : Se.IsP W (.slice A Sa.length ca) Sa) => Se.Meet_any u (.slice A Sa.length ca) (spanL R) Sa W h1 h2 SPW.out WA.out (by have := LSP.out; omega) (by have := LA.out; omega))
      have C13 := Lib.hid (fun W u u' M (h1 : Se.IsP W u (spanL W1)) (h2 : Se.IsP W u' M) (hm : Se.Iset.Res Se.kAnd (spanL R) Sa M) => (Se.Like_any u u' (spanL W1) M W h1 h2 (by
          have h1 := Nat.le_trans (Se.Iset.nf_length _) (chosen_length (fun _ => true) W1)
          have := LW1.out
          unfold spanL
          omega) (by have := hm.len; have := LSP.out; have := LA.out; omega)).mono fun _ _ h => show _ = Ending.returned (.bool true) ∧ _ from by rw [show Se.sameL (spanL W1) M = true by rw [span_within HR.out HW1.out hm]; unfold Se.sameL; simp] at h; exact h)
      obtain ⟨X9, x9, rfl, hX9, _⟩ := WB8.out
      obtain ⟨X8, x8, rfl, hX8, _⟩ := WC8.out
      obtain ⟨X7, x7, rfl, hX7, _⟩ := WA8.out
      have WA8 := Lib.hid (show SL w8 (.slice X7 W1.length x7) W1 from WA8.out)
      have WB8 := Lib.hid (show SL w8 (.slice X9 W2.length x9) W2 from WB8.out)
      have WC8 := Lib.hid (show SL w8 (.slice X8 W3.length x8) W3 from WC8.out)
      clear hX9 hX8 hX7 CW CW2 CW3 CM OX4 A4 B4 P4 OX5 A5 B5 P5 OX6 A6 B6 P6 OX7 P7 A7 WA7 WB7 M7 WA5 WA6
      go_upto_region 10 with (first
        | (go_at_call 20; (with_reducible refine (C9.out _ _ _ WB8.out WC8.out).mono ?_); rintro e w9 ⟨rfl, hb⟩; have OX9 := Lib.hid (OX8.out.below hb); have P9 := Lib.hid (P8.out.below hb); have A9 := Lib.hid (A8.out.below hb); have WA9 := Lib.hid (WA8.out.below hb); have K9 := Lib.hid (K8.out.trans (hb.mono K8.out.size)); clear hb)
        | (go_at_call 27; (with_reducible refine (C10.out _ _ WA9.out).mono ?_); rintro e w10 ⟨u10', rfl, ho, hb⟩; have OX10 := Lib.hid (OX9.out.below hb); have P10 := Lib.hid (P9.out.below hb); have A10 := Lib.hid (A9.out.below hb); have K10 := Lib.hid (K9.out.trans (hb.mono K9.out.size)); have SW10 := Lib.hid ho.at; clear ho; clear hb)
        | (go_at_call 27; (with_reducible refine (C11.out _ OX10.out).mono ?_); rintro e w11 ⟨u11', rfl, ho, hb⟩; have OX11 := Lib.hid (OX10.out.below hb); have P11 := Lib.hid (P10.out.below hb); have A11 := Lib.hid (A10.out.below hb); have SW11 := Lib.hid (SW10.out.below hb); have K11 := Lib.hid (K10.out.trans (hb.mono K10.out.size)); have SX11 := Lib.hid ho.at; clear ho; clear hb)
        | (go_at_call 33; (with_reducible refine (C12.out _ _ SX11.out A11.out).mono ?_); rintro e w12 ⟨u12', M2, rfl, hr, ho, hb⟩; have OX12 := Lib.hid (OX11.out.below hb); have P12 := Lib.hid (P11.out.below hb); have SW12 := Lib.hid (SW11.out.below hb); have K12 := Lib.hid (K11.out.trans (hb.mono K11.out.size)); have MM12 := Lib.hid ho.at; have HM2 := Lib.hid hr; clear ho hr; clear hb)
        | (go_at_call 26; (with_reducible refine (C13.out _ _ _ _ SW12.out MM12.out HM2.out).mono ?_); rintro e w13 ⟨rfl, hb⟩; have OX13 := Lib.hid (OX12.out.below hb); have P13 := Lib.hid (P12.out.below hb); have K13 := Lib.hid (K12.out.trans (hb.mono K12.out.size)); clear hb)
        | fail)
      go_cut [18, 19] from 97 to 103 (fun u n wd => PutNull R c d u n w13 wd)
      case first =>
        have p0 := P13.out.c
        by_cases hp : c < d ∧ d ≤ 1099511627776
        · have HP := Lib.hid hp
          have CS := Lib.hid (Set_ok (.slice XA R.length xc) R c d ⟨0, false, 0, 0, ⟨#[]⟩⟩ w13 OX13.out (line_w HR.out) HR.out hp (show setP VP.none from ⟨none_may, by decide, by decide⟩) none_wide (by have := LR.out; omega))
          clear hp
          go_wp2_with (go_at_call 11; (refine (CS.out).mono ?_); rintro e w14 ⟨u, N, rfl, ho, hs, hb⟩; have HO := Lib.hid ho; have HS := Lib.hid hs; have HB := Lib.hid hb; clear ho hs hb)
          go_meet
          exact ⟨N, 0, HO.out.at, rfl, fun _ => ⟨rfl, HS.out⟩, fun h => absurd HP.out h, HB.out⟩
        · have HP := Lib.hid hp
          have CS := Lib.hid (Set_empty (.slice XA R.length xc) R c d ⟨0, false, 0, 0, ⟨#[]⟩⟩ w13 OX13.out (line_w HR.out) HR.out hp)
          clear hp
          go_wp2_with (go_at_call 11; (refine (CS.out).mono ?_); rintro e w14 ⟨rfl, hb⟩; have HB := Lib.hid hb; clear hb)
          go_meet
          exact ⟨[], 32, SL.nil _, rfl, fun h => absurd h HP.out, fun _ => rfl, HB.out⟩
      case rest =>
        have PN14 := Lib.hid hcut
        have hb : Below w13.heap.size w13 wc := by obtain ⟨_, _, _, _, _, _, hb⟩ := hcut; exact hb
        have OX14 := Lib.hid (OX13.out.below hb)
        have P14 := Lib.hid (P13.out.below hb)
        have K14 := Lib.hid (K13.out.trans (hb.mono K13.out.size))
        obtain ⟨w14, rfl⟩ : ∃ x : World, x = wc := ⟨_, rfl⟩
        clear hcut hb OX13 P13 K13
        have hb : Below w14.heap.size w14 (w14.alloc (.cells #[.int .u64 c, .int .u64 d] 25)) := (Below.refl _ _).alloc (Nat.le_refl _) _
        have Q0 := Lib.hid (show Se.IsP (w14.alloc (.cells #[.int .u64 c, .int .u64 d] 25)) (.slice (some ⟨w14.heap.size, 0, none⟩) 1 1) [(c, d)] from isP_new w14 [(c, d)] 25 1 1 rfl)
        have OX15 := Lib.hid (OX14.out.below hb)
        have P15 := Lib.hid (P14.out.below hb)
        have PN15 := Lib.hid (PN14.out.below hb)
        have K15 := Lib.hid (K14.out.trans (hb.mono K14.out.size))
        have CN := Lib.hid (Se.Not_any _ [(c, d)] _ Q0.out (fun p h => by rw [List.mem_singleton] at h; subst h; exact HCD.out) (by simp))
        have CW4 := Lib.hid (fun W u Q (hM : Se.IsP W u Q) (hx : SL W (.slice XA R.length xc) R) (hl : Q.length ≤ 3) => Within_ok (.slice XA R.length xc) u R Q W hx hM (line_w HR.out) HR.out (by have := LR.out; omega) (by omega))
        have p0 := P14.out.c
        clear hb
        go_upto_region 12 with (first
          | (go_at_call 34; (with_reducible refine (CN.out).mono ?_); rintro e w16 ⟨u16', Q, rfl, hq, ho, hb⟩; have OX16 := Lib.hid (OX15.out.below hb); have P16 := Lib.hid (P15.out.below hb); have PN16 := Lib.hid (PN15.out.below hb); have K16 := Lib.hid (K15.out.trans (hb.mono K15.out.size)); have Q16 := Lib.hid ho.at; have HQ := Lib.hid hq; have LQ := Lib.hid (show Q.length ≤ 3 from hq.2.2); clear ho hq; clear hb)
          | (go_at_call 13; (with_reducible refine (CW4.out _ _ _ Q16.out OX16.out LQ.out).mono ?_); rintro e w17 ⟨u17', W4, rfl, ho, hr, hb⟩; have OX17 := Lib.hid (OX16.out.below hb); have P17 := Lib.hid (P16.out.below hb); have PN17 := Lib.hid (PN16.out.below hb); have K17 := Lib.hid (K16.out.trans (hb.mono K16.out.size)); have WD17 := Lib.hid ho.at; have HW4 := Lib.hid hr; clear ho hr; clear hb)
          | fail)
        obtain ⟨X4, x4, rfl, hX4, _⟩ := WD17.out
        have WD17 := Lib.hid (show SL w17 (.slice X4 W4.length x4) W4 from WD17.out)
        clear hX4 CN CW4 p0 OX14 P14 K14 PN14 Q0 OX15 P15 PN15 K15 OX16 P16 PN16 K16 Q16
        go_cut [138] from 112 to 137 (fun t wd => t = .bool false ∧ Below w17.heap.size w17 wd)
        case first =>
          obtain ⟨N, m, hN, hm, h1, h2, _⟩ := PN17.out
          subst hm
          obtain ⟨XN, xn, rfl, hXN, _⟩ := hN
          have ON := Lib.hid (show SL w17 (.slice XN N.length xn) N from ⟨XN, xn, rfl, hXN, by assumption⟩)
          have p0 := P17.out.c
          clear hXN PN17
          by_cases hc : c < d
          · by_cases hd : d ≤ 1099511627776
            · obtain ⟨rfl, hs⟩ := h1 ⟨hc, hd⟩
              have EN := Lib.hid (null_within HRA.out ⟨hc, hd⟩ HR.out hs HQ.out HW4.out)
              have CE := Lib.hid ((pSame_any _ _ N W4 w17 ON.out WD17.out (fun p hp => ⟨(hs.line.good p hp).2.2.1, (hs.line.good p hp).2.2.2.1⟩) (fun p hp => ⟨(HW4.out.line.good p hp).2.2.1, (HW4.out.line.good p hp).2.2.2.1⟩)).mono fun _ _ h => h.yes EN.out)
              clear h1 h2 hs
              go_wp2_with (go_at_call 20; (with_reducible refine (CE.out).mono ?_); rintro e w18 ⟨rfl, hb⟩; have HB := Lib.hid hb; clear hb)
              go_meet
              exact ⟨rfl, HB.out⟩
            · obtain rfl := h2 fun h => hd h.2
              have td : decide (d ≤ 1099511627776) = false := by simpa using hd
              clear h1 h2
              go_wp2_with fail
              go_meet
              exact ⟨rfl, Below.refl _ _⟩
          · obtain rfl := h2 fun h => hc h.1
            have td : decide (c < d) = false := by simpa using hc
            clear h1 h2
            go_wp2_with fail
            go_meet
            exact ⟨rfl, Below.refl _ _⟩
        case rest =>
          obtain ⟨rfl, hb⟩ := hcut
          have OX18 := Lib.hid (OX17.out.below hb)
          have K18 := Lib.hid (K17.out.trans (hb.mono K17.out.size))
          obtain ⟨w18, rfl⟩ : ∃ x : World, x = wc := ⟨_, rfl⟩
          clear hb OX17 K17 P17 PN17 WD17
          have HXA : Hid (LAt w18 XA R) := Lib.hid (by
            obtain ⟨A', c', e, hL, _⟩ := OX18.out
            cases e
            exact hL)
          have CWh := Lib.hid (fun (x : VP) (hx : x.wide) W (hb : Below w18.heap.size w18 W) => Where_any (.slice XA R.length xc) R x W (OX18.out.below hb) HR.out (by have := LR.out; omega) hx)
          have WW := Lib.hid (fun v => where_wide v HR.out HRA.out)
          have WL := Lib.hid (fun v => Nat.le_trans (Nat.le_trans (Se.Iset.nf_length (chosen (isV v) R)) (chosen_length (isV v) R)) LR.out)
          go_upto_block 0 with fail
          go_cut [22, 23, 24, 25] from 139 to 185 (fun u _ _ _ wd => Se.OwnP w18.heap.size wd u (partsV R R.length) ∧ Below w18.heap.size w18 wd)
          case first =>
            clear SPW LSP
            go_wp2_with fail
            go_loopw [22, 23] (fun u i wr => ∃ k : Nat, k ≤ R.length ∧ i = .int .i64 k ∧ Se.OwnP w18.heap.size wr u (partsV R k) ∧ Below w18.heap.size w18 wr) (fun _ i _ => R.length - (intOf i).toNat)
            case atStart => exact ⟨0, Nat.zero_le _, rfl, Se.OwnP.nil _ _, Below.refl _ _⟩
            case round =>
              obtain ⟨k, hk, rfl, ho, hb⟩ := hrel
              have HO := Lib.hid ho
              have HB := Lib.hid hb
              clear ho hb
              have lr := LR.out
              by_cases hlt : k < R.length
              · obtain ⟨g, off, rfl, lg, cg⟩ := (HXA.out) (by omega)
                have LG := Lib.hid lg
                have CG := Lib.hid cg
                have i0 : (k : Int) < (R.length : Int) := by omega
                have i1 : (0 : Int) ≤ (k : Int) := by omega
                have YY := Lib.hid (partsV_succ R k hlt)
                have MX := Lib.hid (List.getElem_mem hlt)
                have RX := Lib.hid (cg k hlt)
                have LP := Lib.hid (partsV_length R k hk)
                clear lg cg
                obtain ⟨x, hx⟩ : ∃ x, R[k] = x := ⟨_, rfl⟩
                rw [hx] at YY MX RX
                clear hx
                have CX := Lib.hid (CWh.out x.v (RW.out x MX.out).1)
                have WX := Lib.hid (RW.out x MX.out)
                obtain ⟨a, b, ⟨kk, vb, nn, f, s⟩⟩ := x
                simp only at CX YY
                have onx : Hid (∀ W, Below w18.heap.size w18 W → ∀ j v, (Pie.cells ⟨a, b, ⟨kk, vb, nn, f, s⟩⟩).toList[j]? = some v → W.cell? ⟨g, off + k * 7 + j, none⟩ = some v) := Lib.hid fun W hb j v hv => (hb.cell (p := ⟨g, off + k * 7 + j, none⟩) LG.out).trans (RX.out j v hv)
                have r2 : wr.cell? ⟨g, off + k * 7 + 2, none⟩ = some (.int .i64 kk) := onx.out _ HB.out 2 _ rfl
                have r3 : wr.cell? ⟨g, off + k * 7 + 3, none⟩ = some (.bool vb) := onx.out _ HB.out 3 _ rfl
                have r4 : wr.cell? ⟨g, off + k * 7 + 4, none⟩ = some (.int .i64 nn) := onx.out _ HB.out 4 _ rfl
                have r5 : wr.cell? ⟨g, off + k * 7 + 5, none⟩ = some (.float .f64 f) := onx.out _ HB.out 5 _ rfl
                have r6 : wr.cell? ⟨g, off + k * 7 + 6, none⟩ = some (.string s) := onx.out _ HB.out 6 _ rfl
                go_upto_region 19 with (go_at_call 29; (with_reducible refine (CX.out _ HB.out).mono ?_); rintro e w19 ⟨uw, rfl, ho, hb⟩; have OW := Lib.hid ho; have HB19 := Lib.hid (HB.out.trans (hb.mono HB.out.size)); have HO19 := Lib.hid (HO.out.below hb); clear ho hb)
                clear r2 r3 r4 r5 r6
                have IW := Lib.hid OW.out.at
                go_upto_block 2 with fail
                go_cut [25] from 152 to 182 (fun _ wd => Below w19.heap.size w19 wd)
                case first =>
                  clear HO19 YY LP
                  go_wp2_with fail
                  go_loopw [25] (fun i wq => ∃ n : Nat, n ≤ R.length ∧ i = .int .i64 n ∧ Below w19.heap.size w19 wq) (fun i _ => R.length - (intOf i).toNat)
                  case atStart => exact ⟨0, Nat.zero_le _, rfl, Below.refl _ _⟩
                  case round =>
                    obtain ⟨n, hn, rfl, hb⟩ := hrel
                    have HQ2 := Lib.hid hb
                    have HB2 := Lib.hid (HB19.out.trans (hb.mono HB19.out.size))
                    clear hb
                    by_cases hln : n < R.length
                    · have j0 : (n : Int) < (R.length : Int) := by omega
                      have j1 : (0 : Int) ≤ (n : Int) := by omega
                      have MY := Lib.hid (List.getElem_mem hln)
                      have RY := Lib.hid (CG.out n hln)
                      obtain ⟨y, hy⟩ : ∃ y, R[n] = y := ⟨_, rfl⟩
                      rw [hy] at MY RY
                      clear hy
                      have CY := Lib.hid (CWh.out y.v (RW.out y MY.out).1)
                      have WY := Lib.hid (RW.out y MY.out)
                      have PA := Lib.hid (fun (hv : y.v ≠ _) M hm => parts_apart HR.out MY.out MX.out hv (M := M) hm)
                      obtain ⟨a', b', ⟨kk', vb', nn', f', s'⟩⟩ := y
                      simp only at CY PA
                      have ony : Hid (∀ W, Below w18.heap.size w18 W → ∀ j v, (Pie.cells ⟨a', b', ⟨kk', vb', nn', f', s'⟩⟩).toList[j]? = some v → W.cell? ⟨g, off + n * 7 + j, none⟩ = some v) := Lib.hid fun W hb j v hv => (hb.cell (p := ⟨g, off + n * 7 + j, none⟩) LG.out).trans (RY.out j v hv)
                      have CS := Lib.hid (fun W => valSame_any ⟨kk', vb', nn', f', s'⟩ ⟨kk, vb, nn, f, s⟩ WY.out.1 WX.out.1 WY.out.2 WX.out.2 W)
                      have K0 : Hid (∀ w', Below wr.heap.size wr w' → w'.cell? ⟨g, off + k * 7 + 2, none⟩ = some (.int .i64 kk) ∧ w'.cell? ⟨g, off + k * 7 + 3, none⟩ = some (.bool vb) ∧ w'.cell? ⟨g, off + k * 7 + 4, none⟩ = some (.int .i64 nn) ∧ w'.cell? ⟨g, off + k * 7 + 5, none⟩ = some (.float .f64 f) ∧ w'.cell? ⟨g, off + k * 7 + 6, none⟩ = some (.string s) ∧ w'.cell? ⟨g, off + n * 7 + 2, none⟩ = some (.int .i64 kk') ∧ w'.cell? ⟨g, off + n * 7 + 3, none⟩ = some (.bool vb') ∧ w'.cell? ⟨g, off + n * 7 + 4, none⟩ = some (.int .i64 nn') ∧ w'.cell? ⟨g, off + n * 7 + 5, none⟩ = some (.float .f64 f') ∧ w'.cell? ⟨g, off + n * 7 + 6, none⟩ = some (.string s')) := Lib.hid fun w' hb => by
                        have hb2 := HB2.out.trans (hb.mono HB2.out.size)
                        exact ⟨onx.out _ hb2 2 _ rfl, onx.out _ hb2 3 _ rfl, onx.out _ hb2 4 _ rfl, onx.out _ hb2 5 _ rfl, onx.out _ hb2 6 _ rfl, ony.out _ hb2 2 _ rfl, ony.out _ hb2 3 _ rfl, ony.out _ hb2 4 _ rfl, ony.out _ hb2 5 _ rfl, ony.out _ hb2 6 _ rfl⟩
                      by_cases hv : (⟨kk', vb', nn', f', s'⟩ : VP) = ⟨kk, vb, nn, f, s⟩
                      · have CS := Lib.hid (fun W => (CS.out W).mono fun _ _ h => h.yes hv)
                        clear PA hv
                        have K1 : Hid (∀ w', Below wr.heap.size wr w' → Below wr.heap.size wr w' ∧ w'.cell? ⟨g, off + k * 7 + 2, none⟩ = some (.int .i64 kk) ∧ w'.cell? ⟨g, off + k * 7 + 3, none⟩ = some (.bool vb) ∧ w'.cell? ⟨g, off + k * 7 + 4, none⟩ = some (.int .i64 nn) ∧ w'.cell? ⟨g, off + k * 7 + 5, none⟩ = some (.float .f64 f) ∧ w'.cell? ⟨g, off + k * 7 + 6, none⟩ = some (.string s) ∧ w'.cell? ⟨g, off + n * 7 + 2, none⟩ = some (.int .i64 kk') ∧ w'.cell? ⟨g, off + n * 7 + 3, none⟩ = some (.bool vb') ∧ w'.cell? ⟨g, off + n * 7 + 4, none⟩ = some (.int .i64 nn') ∧ w'.cell? ⟨g, off + n * 7 + 5, none⟩ = some (.float .f64 f') ∧ w'.cell? ⟨g, off + n * 7 + 6, none⟩ = some (.string s')) := Lib.hid fun w' hb => ⟨hb, K0.out w' hb⟩
                        go_upto_region 22 with fail
                        refine wp_region_held_drew (S := (fun w' => Below wr.heap.size wr w' ∧ w'.cell? ⟨g, off + k * 7 + 2, none⟩ = some (.int .i64 kk) ∧ w'.cell? ⟨g, off + k * 7 + 3, none⟩ = some (.bool vb) ∧ w'.cell? ⟨g, off + k * 7 + 4, none⟩ = some (.int .i64 nn) ∧ w'.cell? ⟨g, off + k * 7 + 5, none⟩ = some (.float .f64 f) ∧ w'.cell? ⟨g, off + k * 7 + 6, none⟩ = some (.string s) ∧ w'.cell? ⟨g, off + n * 7 + 2, none⟩ = some (.int .i64 kk') ∧ w'.cell? ⟨g, off + n * 7 + 3, none⟩ = some (.bool vb') ∧ w'.cell? ⟨g, off + n * 7 + 4, none⟩ = some (.int .i64 nn') ∧ w'.cell? ⟨g, off + n * 7 + 5, none⟩ = some (.float .f64 f') ∧ w'.cell? ⟨g, off + n * 7 + 6, none⟩ = some (.string s'))) (by kernel_rfl) (K1.out _ (Below.refl _ _).drew) (fun hHeld => ?_)
                        refine take_in (i := 0) (v := ?_) (some 158) rfl rfl (by kernel_rfl) (by kernel_rfl) (by kernel_rfl) (fun _ _ _ h => h) (Or.inl ⟨by rfl, ?_⟩) (by assumption) ?_
                        rotate_left
                        · (intro w hSw; (try dsimp only at hSw); (try go_split_ands); go_simp; try with_reducible rfl)
                        try simp only [Act.put, List.setIfInBounds_toArray, List.set_cons_zero, List.set_cons_succ]
                        refine take_in (i := 1) (v := ?_) (some 159) rfl rfl (by kernel_rfl) (by kernel_rfl) (by kernel_rfl) (fun _ _ _ h => h) (Or.inl ⟨by rfl, ?_⟩) (by assumption) ?_
                        rotate_left
                        · (intro w hSw; (try dsimp only at hSw); (try go_split_ands); go_simp; try with_reducible rfl)
                        try simp only [Act.put, List.setIfInBounds_toArray, List.set_cons_zero, List.set_cons_succ]
                        refine take_in (i := 2) (v := ?_) (some 160) rfl rfl (by kernel_rfl) (by kernel_rfl) (by kernel_rfl) (fun _ _ _ h => h) (Or.inl ⟨by rfl, ?_⟩) (by assumption) ?_
                        rotate_left
                        · (intro w hSw; (try dsimp only at hSw); (try go_split_ands); go_simp; try with_reducible rfl)
                        try simp only [Act.put, List.setIfInBounds_toArray, List.set_cons_zero, List.set_cons_succ]
                        refine take_in (i := 3) (v := ?_) (some 161) rfl rfl (by kernel_rfl) (by kernel_rfl) (by kernel_rfl) (fun _ _ _ h => h) (Or.inl ⟨by rfl, ?_⟩) (by assumption) ?_
                        rotate_left
                        · (intro w hSw; (try dsimp only at hSw); (try go_split_ands); go_simp; try with_reducible rfl)
                        try simp only [Act.put, List.setIfInBounds_toArray, List.set_cons_zero, List.set_cons_succ]
                        refine take_in (i := 4) (v := ?_) (some 162) rfl rfl (by kernel_rfl) (by kernel_rfl) (by kernel_rfl) (fun _ _ _ h => h) (Or.inl ⟨by rfl, ?_⟩) (by assumption) ?_
                        rotate_left
                        · (intro w hSw; (try dsimp only at hSw); (try go_split_ands); go_simp; try with_reducible rfl)
                        try simp only [Act.put, List.setIfInBounds_toArray, List.set_cons_zero, List.set_cons_succ]
                        refine take_in (i := 5) (v := ?_) (some 163) rfl rfl (by kernel_rfl) (by kernel_rfl) (by kernel_rfl) (fun _ _ _ h => h) (Or.inl ⟨by rfl, ?_⟩) (by assumption) ?_
                        rotate_left
                        · (intro w hSw; (try dsimp only at hSw); (try go_split_ands); go_simp; try with_reducible rfl)
                        try simp only [Act.put, List.setIfInBounds_toArray, List.set_cons_zero, List.set_cons_succ]
                        refine take_in (i := 6) (v := ?_) (some 164) rfl rfl (by kernel_rfl) (by kernel_rfl) (by kernel_rfl) (fun _ _ _ h => h) (Or.inl ⟨by rfl, ?_⟩) (by assumption) ?_
                        rotate_left
                        · (intro w hSw; (try dsimp only at hSw); (try go_split_ands); go_simp; try with_reducible rfl)
                        try simp only [Act.put, List.setIfInBounds_toArray, List.set_cons_zero, List.set_cons_succ]
                        refine take_in (i := 7) (v := ?_) (some 165) rfl rfl (by kernel_rfl) (by kernel_rfl) (by kernel_rfl) (fun _ _ _ h => h) (Or.inl ⟨by rfl, ?_⟩) (by assumption) ?_
                        rotate_left
                        · (intro w hSw; (try dsimp only at hSw); (try go_split_ands); go_simp; try with_reducible rfl)
                        try simp only [Act.put, List.setIfInBounds_toArray, List.set_cons_zero, List.set_cons_succ]
                        refine take_in (i := 8) (v := ?_) (some 166) rfl rfl (by kernel_rfl) (by kernel_rfl) (by kernel_rfl) (fun _ _ _ h => h) (Or.inl ⟨by rfl, ?_⟩) (by assumption) ?_
                        rotate_left
                        · (intro w hSw; (try dsimp only at hSw); (try go_split_ands); go_simp; try with_reducible rfl)
                        try simp only [Act.put, List.setIfInBounds_toArray, List.set_cons_zero, List.set_cons_succ]
                        refine take_in (i := 9) (v := ?_) (some 167) rfl rfl (by kernel_rfl) (by kernel_rfl) (by kernel_rfl) (fun _ _ _ h => h) (Or.inl ⟨by rfl, ?_⟩) (by assumption) ?_
                        rotate_left
                        · (intro w hSw; (try dsimp only at hSw); (try go_split_ands); go_simp; try with_reducible rfl)
                        try simp only [Act.put, List.setIfInBounds_toArray, List.set_cons_zero, List.set_cons_succ]
                        refine wpAnyH_ready (rs := [10]) (by kernel_rfl) (by simp) ?_
                        refine AllReadyH.cons rfl (fun K hK => ?_) AllReadyH.nil
                        go_simp
                        with_reducible refine (CS.out _).mono ?_
                        rintro e v1 ⟨rfl, hb⟩
                        go_wp2_with fail
                        refine hK.out _ _ (K1.out _ (hHeld.1.trans (hb.mono hHeld.1.size))) (fun hHeld => ?_)
                        clear hK K
                        try simp only [Act.put, List.setIfInBounds_toArray, List.set_cons_zero, List.set_cons_succ]
                        refine take_in (i := 11) (v := ?_) (some 169) rfl rfl (by kernel_rfl) (by kernel_rfl) (by kernel_rfl) (fun _ _ _ h => h) (Or.inl ⟨by rfl, ?_⟩) (by assumption) ?_
                        rotate_left
                        · (intro w hSw; (try dsimp only at hSw); (try go_split_ands); go_simp; try with_reducible rfl)
                        try simp only [Act.put, List.setIfInBounds_toArray, List.set_cons_zero, List.set_cons_succ]
                        refine take_in (i := 12) (v := ?_) (some 170) rfl rfl (by kernel_rfl) (by kernel_rfl) (by kernel_rfl) (fun _ _ _ h => h) (Or.inl ⟨by rfl, ?_⟩) (by assumption) ?_
                        rotate_left
                        · (intro w hSw; (try dsimp only at hSw); (try go_split_ands); go_simp; try with_reducible rfl)
                        try simp only [Act.put, List.setIfInBounds_toArray, List.set_cons_zero, List.set_cons_succ]
                        refine wpAnyH_skipd (by kernel_rfl) (fun _ _ d _ h => by cases d <;> exact h) [13, 14, 15] [171, 172, 173] 9 3 rfl _ _ _ _ (by kernel_rfl) (by kernel_rfl) rfl (by assumption) ?_
                        try simp only [List.foldl_cons, List.foldl_nil, Act.put, List.setIfInBounds_toArray, List.set_cons_zero, List.set_cons_succ]
                        refine wpAnyH_skipd (by kernel_rfl) (fun _ _ d _ h => by cases d <;> exact h) [16, 17, 18] [174, 175, 176] 6 3 rfl _ _ _ _ (by kernel_rfl) (by kernel_rfl) rfl (by assumption) ?_
                        try simp only [List.foldl_cons, List.foldl_nil, Act.put, List.setIfInBounds_toArray, List.set_cons_zero, List.set_cons_succ]
                        refine wpAnyH_skipd (by kernel_rfl) (fun _ _ d _ h => by cases d <;> exact h) [19, 20, 21] [177, 178, 179] 3 3 rfl _ _ _ _ (by kernel_rfl) (by kernel_rfl) rfl (by assumption) ?_
                        try simp only [List.foldl_cons, List.foldl_nil, Act.put, List.setIfInBounds_toArray, List.set_cons_zero, List.set_cons_succ]
                        refine wpAnyH_skipd (by kernel_rfl) (fun _ _ d _ h => by cases d <;> exact h) [22, 23] [180, 181] 1 2 rfl _ _ _ _ (by kernel_rfl) (by kernel_rfl) rfl (by assumption) ?_
                        try simp only [List.foldl_cons, List.foldl_nil, Act.put, List.setIfInBounds_toArray, List.set_cons_zero, List.set_cons_succ]
                        refine take_in (i := 24) (v := ?_) (some 182) rfl rfl (by kernel_rfl) (by kernel_rfl) (by kernel_rfl) (fun _ _ _ h => h) (Or.inl ⟨by rfl, ?_⟩) (by assumption) ?_
                        rotate_left
                        · (intro w hSw; (try dsimp only at hSw); (try go_split_ands); go_simp; try with_reducible rfl)
                        try simp only [Act.put, List.setIfInBounds_toArray, List.set_cons_zero, List.set_cons_succ]
                        refine wpAnyH_done (by kernel_rfl) ?_ _
                        go_wp2_with fail
                        exact ⟨⟨n + 1, by omega, by go_num, HQ2.out.trans (hHeld.1.mono HQ2.out.size)⟩, by simp [intOf]; omega⟩
                      · have CS := Lib.hid (fun W => (CS.out W).mono fun _ _ h => h.no hv)
                        have PA := Lib.hid (PA.out hv)
                        have CM := Lib.hid (fun W u' (h1 : Se.IsP W uw (Se.Iset.nf (chosen (isV ⟨kk, vb, nn, f, s⟩) R))) (h2 : Se.IsP W u' (Se.Iset.nf (chosen (isV ⟨kk', vb', nn', f', s'⟩) R))) => Se.Meet_any uw u' _ _ W h1 h2 (WW.out _) (WW.out _) (by have := WL.out ⟨kk, vb, nn, f, s⟩; omega) (by have := WL.out ⟨kk', vb', nn', f', s'⟩; omega))
                        clear hv
                        go_upto_region 22 with fail
                        go_region_held3 (fun w' => w'.cell? ⟨g, off + k * 7 + 2, none⟩ = some (.int .i64 kk) ∧ w'.cell? ⟨g, off + k * 7 + 3, none⟩ = some (.bool vb) ∧ w'.cell? ⟨g, off + k * 7 + 4, none⟩ = some (.int .i64 nn) ∧ w'.cell? ⟨g, off + k * 7 + 5, none⟩ = some (.float .f64 f) ∧ w'.cell? ⟨g, off + k * 7 + 6, none⟩ = some (.string s) ∧ w'.cell? ⟨g, off + n * 7 + 2, none⟩ = some (.int .i64 kk') ∧ w'.cell? ⟨g, off + n * 7 + 3, none⟩ = some (.bool vb') ∧ w'.cell? ⟨g, off + n * 7 + 4, none⟩ = some (.int .i64 nn') ∧ w'.cell? ⟨g, off + n * 7 + 5, none⟩ = some (.float .f64 f') ∧ w'.cell? ⟨g, off + n * 7 + 6, none⟩ = some (.string s')) (first
                          | exact K0.out _ (Below.refl _ _).drew
                          | exact K0.out _ HV3.out
                          | exact K0.out _ HV2.out
                          | exact K0.out _ HV1.out
                          | fail) (first
                          | (go_at_call 35; (with_reducible refine (CS.out _).mono ?_); rintro e v1 ⟨rfl, hb⟩; have HV1 := Lib.hid (show Below wr.heap.size wr v1 from (Below.refl _ _).drew.trans hb); clear hb)
                          | (go_at_call 29; (with_reducible refine (CY.out _ (HB2.out.trans (HV1.out.mono HB2.out.size))).mono ?_); rintro e v2 ⟨uy, rfl, ho, hb⟩; have OY := Lib.hid ho.at; have HV2 := Lib.hid (show Below wr.heap.size wr v2 from HV1.out.trans (hb.mono HV1.out.size)); clear ho hb)
                          | (go_at_call 33; (with_reducible refine (CM.out _ _ (IW.out.below (HQ2.out.trans (HV2.out.mono HQ2.out.size))) OY.out).mono ?_); rintro e v3 ⟨um, M, rfl, hm, ho, hb⟩; obtain rfl := PA.out M hm; obtain ⟨XM, cM, rfl, _⟩ := ho.at; have HV3 := Lib.hid (show Below wr.heap.size wr v3 from HV2.out.trans (hb.mono HV2.out.size)); clear ho hb hm)
                          | fail)
                        go_wp2_with fail
                        exact ⟨⟨n + 1, by omega, by go_num, HQ2.out.trans (HV3.out.mono HQ2.out.size)⟩, by simp [intOf]; omega⟩
                    · obtain rfl : n = R.length := by omega
                      go_wp2_with fail
                      go_meet
                      exact HQ2.out
                case rest =>
                  have HO20 := Lib.hid (HO19.out.below hcut)
                  have HB20 := Lib.hid (HB19.out.trans (hcut.mono HB19.out.size))
                  obtain ⟨Xw, cw, rfl, hz, hp⟩ := ownP_form OW.out
                  have HZ := Lib.hid hz
                  have HPw := Lib.hid (Se.PAt.below hp hcut)
                  obtain ⟨w20, rfl⟩ : ∃ x : World, x = wc := ⟨_, rfl⟩
                  have LP2 : Hid ((partsV R k).length ≤ 4000) := Lib.hid (by
                    have h1 := LP.out
                    have h2 := Nat.mul_le_mul hk LR.out
                    have h3 := Nat.mul_le_mul LR.out (Nat.le_refl 60)
                    have h4 := Nat.mul_le_mul hk (Nat.le_refl R.length)
                    have h5 := Nat.mul_le_mul LR.out LR.out
                    omega)
                  have LW2 := Lib.hid (WL.out ⟨kk, vb, nn, f, s⟩)
                  have hsz := HB20.out.size
                  clear hz hp hcut IW
                  go_wp2_with (at_builtin; refine Se.wpList_appPs _ rfl (.tmp 183) (.tmp 184) rfl w18.heap.size _ _ rfl HO20.out Xw _ cw _ rfl HPw.out HZ.out rfl (by have := LP2.out; have := LW2.out; omega) hsz ?_; intro v6 w6 ho6 hb6; have O6 := Lib.hid ho6; have B6 := Lib.hid hb6; clear ho6 hb6)
                  exact ⟨⟨k + 1, by omega, by go_num, by rw [YY.out]; exact O6.out, HB20.out.trans B6.out⟩, by simp [intOf]; omega⟩
              · obtain rfl : k = R.length := by omega
                go_wp2_with fail
                go_meet
                exact ⟨HO.out, HB.out⟩
          case rest =>
            obtain ⟨ho, hb⟩ := hcut
            have PT := Lib.hid ho.at
            have OX19 := Lib.hid (OX18.out.below hb)
            have K19 := Lib.hid (K18.out.trans (hb.mono K18.out.size))
            have HXA19 := Lib.hid (HXA.out.below hb)
            have hb19 := hb
            obtain ⟨w19, rfl⟩ : ∃ x : World, x = wc := ⟨_, rfl⟩
            clear ho hb
            have PL : Hid ((partsV R R.length).length ≤ 4000) := Lib.hid (by
              have h1 := partsV_length R R.length (Nat.le_refl _)
              have h2 := Nat.mul_le_mul LR.out LR.out
              omega)
            have C20 := Lib.hid (Se.Of_any u22 (partsV R R.length) w19 PT.out (by have := PL.out; omega))
            rw [parts_span HR.out] at C20
            have C23 := Lib.hid (fun W (hb : Below w18.heap.size w18 W) => Where_any (.slice XA R.length xc) R ⟨0, false, 0, 0, ⟨#[]⟩⟩ W (OX18.out.below hb) HR.out (by have := LR.out; omega) none_wide)
            rw [show Se.Iset.nf (chosen (isV ⟨0, false, 0, 0, ⟨#[]⟩⟩) R) = [] from null_nowhere HR.out] at C23
            have C22 := Lib.hid (fun W u u' (h1 : Se.IsP W u (spanL R)) (h2 : Se.IsP W u' (spanL R)) => (Se.Like_any u u' (spanL R) (spanL R) W h1 h2 (by have := LSP.out; omega) (by have := LSP.out; omega)).mono fun _ _ h => show _ = Ending.returned (.bool true) ∧ _ from by rw [show Se.sameL (spanL R) (spanL R) = true by unfold Se.sameL; simp] at h; exact h)
            have B19 := Lib.hid hb19
            clear CWh WW WL hb19
            go_upto_region 27 with (first
              | (go_at_call 36; (with_reducible refine (C20.out).mono ?_); rintro e w20 ⟨u20', rfl, ho, hb⟩; have OX20 := Lib.hid (OX19.out.below hb); have K20 := Lib.hid (K19.out.trans (hb.mono K19.out.size)); have QA20 := Lib.hid ho.at; have Z20 := Lib.hid (B19.out.trans (hb.mono B19.out.size)); clear ho; clear hb)
              | (go_at_call 27; (with_reducible refine (C11.out _ OX20.out).mono ?_); rintro e w21 ⟨u21', rfl, ho, hb⟩; have OX21 := Lib.hid (OX20.out.below hb); have QA21 := Lib.hid (QA20.out.below hb); have K21 := Lib.hid (K20.out.trans (hb.mono K20.out.size)); have QB21 := Lib.hid ho.at; have Z21 := Lib.hid (Z20.out.trans (hb.mono Z20.out.size)); clear ho; clear hb)
              | (go_at_call 26; (with_reducible refine (C22.out _ _ _ QA21.out QB21.out).mono ?_); rintro e w22 ⟨rfl, hb⟩; have OX22 := Lib.hid (OX21.out.below hb); have K22 := Lib.hid (K21.out.trans (hb.mono K21.out.size)); have Z22 := Lib.hid (Z21.out.trans (hb.mono Z21.out.size)); clear hb)
              | (go_at_call 29; (refine (C23.out _ Z22.out).mono ?_); rintro e w23 ⟨u23', rfl, ho, hb⟩; obtain ⟨Xn, cn, rfl, _⟩ := ho.at; have OX23 := Lib.hid (OX22.out.below hb); have K23 := Lib.hid (K22.out.trans (hb.mono K22.out.size)); clear ho hb)
              | fail)
            clear C20 C22 C23 OX19 PT SPW C11 OX20 OX21 OX22 Z22 Z21 Z20
            have C24 := Lib.hid (Ends_any (.slice XA R.length xc) R w23 OX23.out HR.out (by have := LR.out; omega))
            go_upto_region 28 with (go_at_call 17; (with_reducible refine (C24.out).mono ?_); rintro e w24 ⟨ue, E, rfl, ho, he, hb⟩; have HE := Lib.hid he; have OE := Lib.hid ho.at; have OX24 := Lib.hid (OX23.out.below hb); have K24 := Lib.hid (K23.out.trans (hb.mono K23.out.size)); clear ho he hb)
            obtain ⟨XE, ec, rfl, _, _, hEa⟩ := OE.out
            have HEA := Lib.hid hEa
            have ER := Lib.hid (ends_range HR.out HE.out HRA.out)
            have LE := Lib.hid (show E.length ≤ 120 by have := HE.out.len; have := LR.out; omega)
            have CAt : Hid (∀ t W (_ : Below w24.heap.size w24 W), Calls Tryz.prog 24 #[.slice XA R.length xc, .int .u64 t] W fun e w' => e = .returned (Pl.means VP.none R t).val ∧ Below W.heap.size W w') := Lib.hid fun t W hb => by
              have h := At_any (.slice XA R.length xc) R t W (OX24.out.below hb) (line_w HR.out) (by have := LR.out; omega)
              rwa [meansAt_line HR.out] at h
            have CSa := Lib.hid (fun x y W => valSame_any (Pl.means VP.none R x) (Pl.means VP.none R y) (means_fine HR.out x).1 (means_fine HR.out y).1 (means_fine HR.out x).2 (means_fine HR.out y).2 W)
            have EC := Lib.hid (fun t ht => ends_change HR.out HE.out (t := t) ht)
            have ES := Lib.hid (fun k hk => ends_same HR.out HE.out (k := k) hk)
            have EQ := Lib.hid (fun t => meansAt_line HR.out t)
            have EI := Lib.hid (fun i j hi hj (hij : i < j) => (List.pairwise_iff_getElem.1 HE.out.row) i j hi hj hij)
            clear hEa OE OX23 K23
            go_wp2_with fail
            go_loopw [27] (fun i wr => ∃ k : Nat, k ≤ E.length ∧ i = .int .i64 k ∧ Below w24.heap.size w24 wr) (fun i _ => E.length - (intOf i).toNat)
            case atStart => exact ⟨0, Nat.zero_le _, rfl, Below.refl _ _⟩
            case round =>
              obtain ⟨k, hk, rfl, hb⟩ := hrel
              have HB := Lib.hid hb
              clear hb
              by_cases hlt : k < E.length
              · obtain ⟨gE, oE, rfl, lgE, hcE⟩ := HEA.out (by omega)
                have le := LE.out
                have i0 : (k : Int) < (E.length : Int) := by omega
                have i1 : (0 : Int) ≤ (k : Int) := by omega
                have c0 : wr.cell? ⟨gE, oE + k, none⟩ = some (.int .u64 E[k]) := (HB.out.cell (p := ⟨gE, oE + k, none⟩) lgE).trans (hcE k hlt)
                have tr := ER.out E[k] (List.getElem_mem hlt)
                have HC := Lib.hid (EC.out E[k] (List.getElem_mem hlt))
                have HCE := Lib.hid hcE
                have LGE := Lib.hid lgE
                clear hcE lgE
                obtain ⟨t, ht⟩ : ∃ t, E[k] = t := ⟨_, rfl⟩
                have HT := Lib.hid ht
                rw [ht] at c0 tr HC
                clear ht
                go_upto_region 32 with fail
                clear c0
                go_cut [239] from 211 to 238 (fun u wd => u = .bool false ∧ Below w24.heap.size w24 wd)
                case first =>
                  have CA1 := Lib.hid (CAt.out (t - 1))
                  have CA0 := Lib.hid (CAt.out t)
                  have CS := Lib.hid (fun W => (CSa.out (t - 1) t W).mono fun _ _ h => h.no HC.out)
                  clear HC
                  obtain ⟨m1, hm1⟩ : ∃ m, Pl.means VP.none R (t - 1) = m := ⟨_, rfl⟩
                  obtain ⟨m0, hm0⟩ : ∃ m, Pl.means VP.none R t = m := ⟨_, rfl⟩
                  rw [hm1] at CA1 CS
                  rw [hm0] at CA0 CS
                  clear hm1 hm0
                  obtain ⟨k1, b1, n1, f1, s1⟩ := m1
                  obtain ⟨k0, b0, n0, f0, s0⟩ := m0
                  cases k with
                  | zero =>
                    by_cases hp : 0 < t
                    · by_cases hq : t < 1099511627776
                      · go_wp2_with (first
                          | (go_at_call 24; (with_reducible refine (CA1.out _ HB.out).mono ?_); rintro e v1 ⟨rfl, hb⟩; have HV1 := Lib.hid (HB.out.trans (hb.mono HB.out.size)); clear hb)
                          | (go_at_call 24; (with_reducible refine (CA0.out _ HV1.out).mono ?_); rintro e v2 ⟨rfl, hb⟩; have HV2 := Lib.hid (HV1.out.trans (hb.mono HV1.out.size)); clear hb)
                          | (go_at_call 35; (with_reducible refine (CS.out _).mono ?_); rintro e v3 ⟨rfl, hb⟩; have HV3 := Lib.hid (HV2.out.trans (hb.mono HV2.out.size)); clear hb)
                          | fail)
                        go_meet
                        exact ⟨rfl, HV3.out⟩
                      · have td : decide (t < 1099511627776) = false := by simpa using hq
                        go_wp2_with fail
                        go_meet
                        exact ⟨rfl, HB.out⟩
                    · have td : decide (0 < t) = false := by simpa using hp
                      obtain rfl : t = 0 := by omega
                      go_wp2_with fail
                      go_meet
                      exact ⟨rfl, HB.out⟩
                  | succ j =>
                    have hj : j < E.length := by omega
                    have CJ : Hid (∀ W, Below w24.heap.size w24 W → W.cell? ⟨gE, oE + j, none⟩ = some (.int .u64 E[j])) := Lib.hid fun W hb => (hb.cell (p := ⟨gE, oE + j, none⟩) LGE.out).trans (HCE.out j hj)
                    have hlt2 : E[j] < t := by have := EI.out j (j + 1) hj hlt (by omega); rw [HT.out] at this; exact this
                    obtain ⟨u, hu⟩ : ∃ u, E[j] = u := ⟨_, rfl⟩
                    rw [hu] at CJ hlt2
                    clear hu HT
                    obtain ⟨K, hK⟩ : ∃ K : Int, K = ((j + 1 : Nat) : Int) := ⟨_, rfl⟩
                    rw [← hK] at i0 i1 ⊢
                    have k1p : (0 : Int) < K := by omega
                    have k2 : K - 1 = (j : Int) := by omega
                    have k3 : (j : Int) < (E.length : Int) := by omega
                    have k4 : (0 : Int) ≤ (j : Int) := by omega
                    have kd : decide (t ≤ u) = false := by simp; omega
                    have HKK := Lib.hid hK
                    clear hK
                    by_cases hp : 0 < t
                    · by_cases hq : t < 1099511627776
                      · go_wp2_with (first
                          | (go_at_call 24; (with_reducible refine (CA1.out _ HB.out).mono ?_); rintro e v1 ⟨rfl, hb⟩; have HV1 := Lib.hid (HB.out.trans (hb.mono HB.out.size)); clear hb)
                          | (go_at_call 24; (with_reducible refine (CA0.out _ HV1.out).mono ?_); rintro e v2 ⟨rfl, hb⟩; have HV2 := Lib.hid (HV1.out.trans (hb.mono HV1.out.size)); clear hb)
                          | (go_at_call 35; (with_reducible refine (CS.out _).mono ?_); rintro e v3 ⟨rfl, hb⟩; have HV3 := Lib.hid (HV2.out.trans (hb.mono HV2.out.size)); have cj := CJ.out _ HV3.out; clear hb)
                          | fail)
                        have hK := HKK.out
                        subst hK
                        go_meet
                        exact ⟨rfl, HV3.out⟩
                      · have td : decide (t < 1099511627776) = false := by simpa using hq
                        have cj := CJ.out _ HB.out
                        go_wp2_with fail
                        have hK := HKK.out
                        subst hK
                        go_meet
                        exact ⟨rfl, HB.out⟩
                    · have td : decide (0 < t) = false := by simpa using hp
                      have cj := CJ.out _ HB.out
                      go_wp2_with fail
                      have hK := HKK.out
                      subst hK
                      go_meet
                      exact ⟨rfl, HB.out⟩
                case rest =>
                  obtain ⟨rfl, hb⟩ := hcut
                  have HB5 := Lib.hid hb
                  obtain ⟨w25, rfl⟩ : ∃ x : World, x = wc := ⟨_, rfl⟩
                  clear hb HC
                  cases k with
                  | zero =>
                    clear ES
                    go_wp2_with fail
                    exact ⟨⟨1, by omega, by go_num, HB5.out⟩, by simp [intOf]; omega⟩
                  | succ j =>
                    have hj : j < E.length := by omega
                    have CJ : Hid (∀ W, Below w24.heap.size w24 W → W.cell? ⟨gE, oE + j, none⟩ = some (.int .u64 E[j])) := Lib.hid fun W hb => (hb.cell (p := ⟨gE, oE + j, none⟩) LGE.out).trans (HCE.out j hj)
                    have hes := ES.out j hlt
                    have hlt2 : E[j] < t := by have := EI.out j (j + 1) hj hlt (by omega); rw [HT.out] at this; exact this
                    have huu := ER.out E[j] (List.getElem_mem hj)
                    rw [HT.out] at hes
                    obtain ⟨u, hu⟩ : ∃ u, E[j] = u := ⟨_, rfl⟩
                    rw [hu] at CJ hes hlt2 huu
                    have CA1 := Lib.hid (CAt.out u)
                    have CA0 := Lib.hid (CAt.out (t - 1))
                    have CS := Lib.hid (fun W => (CSa.out u (t - 1) W).mono fun _ _ h => h.yes hes)
                    clear hu HT hes ES
                    obtain ⟨m1, hm1⟩ : ∃ m, Pl.means VP.none R u = m := ⟨_, rfl⟩
                    obtain ⟨m0, hm0⟩ : ∃ m, Pl.means VP.none R (t - 1) = m := ⟨_, rfl⟩
                    rw [hm1] at CA1 CS
                    rw [hm0] at CA0 CS
                    clear hm1 hm0
                    obtain ⟨k1, b1, n1, f1, s1⟩ := m1
                    obtain ⟨k0, b0, n0, f0, s0⟩ := m0
                    obtain ⟨K, hK⟩ : ∃ K : Int, K = ((j + 1 : Nat) : Int) := ⟨_, rfl⟩
                    rw [← hK] at i0 i1 ⊢
                    have k1p : (0 : Int) < K := by omega
                    have k2 : K - 1 = (j : Int) := by omega
                    have k3 : (j : Int) < (E.length : Int) := by omega
                    have k4 : (0 : Int) ≤ (j : Int) := by omega
                    have cj := CJ.out _ HB5.out
                    have HKK := Lib.hid hK
                    clear hK
                    go_wp2_with (first
                          | (go_at_call 24; (with_reducible refine (CA1.out _ HB5.out).mono ?_); rintro e v1 ⟨rfl, hb⟩; have HV1 := Lib.hid (HB5.out.trans (hb.mono HB5.out.size)); clear hb)
                          | (go_at_call 24; (with_reducible refine (CA0.out _ HV1.out).mono ?_); rintro e v2 ⟨rfl, hb⟩; have HV2 := Lib.hid (HV1.out.trans (hb.mono HV1.out.size)); clear hb)
                          | (go_at_call 35; (with_reducible refine (CS.out _).mono ?_); rintro e v3 ⟨rfl, hb⟩; have HV3 := Lib.hid (HV2.out.trans (hb.mono HV2.out.size)); clear hb)
                          | fail)
                    exact ⟨⟨j + 1 + 1, by omega, by have := HKK.out; go_num, HV3.out⟩, by have := HKK.out; simp [intOf]; omega⟩
              · obtain rfl : k = E.length := by omega
                go_wp2_with fail
                go_ret
                exact ⟨rfl, K24.out.trans (HB.out.mono K24.out.size)⟩
end
end Go.Proofs.YtgmaompjhhomcaaGreat

