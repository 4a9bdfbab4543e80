/- The statement FrameSplits, walked. -/
import Derived.Test.YtbmhgmigcgeooaaDoorY8
namespace Go.Proofs.YtbmhgmigcgeooaaDoor
open Go.RowKit
set_option maxRecDepth 100000 in
set_option maxHeartbeats 2000000 in
theorem same_quiet (P1 P2 : Option Addr) (m c1 c2 n : Nat) (w : World) (h : RowsAt w P1 P2 m) (hm : m ≤ 256) :
    Calls Tryd.prog 18 #[.slice P1 m c1, .slice P2 m c2] (w.drewN n) fun e w' => e = .returned (.bool true) ∧ ∃ q, w' = w.drewN q := by
  have H := Lib.hid h
  clear h
  go_enter Tryd.func18, Tryd.ntmps18
  go_wp2
  go_loopw [5] (fun i wr => ∃ j q : Nat, j ≤ m ∧ i = .int .i64 j ∧ wr = w.drewN q) (fun i _ => m - (intOf i).toNat)
  case atStart => exact ⟨0, n, Nat.zero_le _, rfl, rfl⟩
  case round =>
    obtain ⟨j, p, hj, rfl, hw⟩ := hrel
    have hb : Below w.heap.size w wr := by rw [hw]; exact below_drewN' (Below.refl _ _) p
    have HW := Lib.hid hw
    clear hw
    by_cases hlt : j < m
    · obtain ⟨h1, h2, B1, B2, u, f1, f2, q, rfl, rfl, x1, x2, y1, y2, rfl⟩ := (H.out.later hb) j hlt
      have hji : (j : Int) < (m : Int) := by omega
      have k1 := fun nq => conv_text (wr.drewN nq) B1 q f1 (y1.below (below_drewN' (Below.refl _ _) nq))
      have k2 := fun nq => conv_text (wr.drewN nq) B2 q f2 (y2.below (below_drewN' (Below.refl _ _) nq))
      clear hb y1 y2 hlt
      go_upto_region 6 with fail
      go_quiet (fail)
      go_wp2
      exact ⟨⟨j + 1, p + nq, by omega, by go_num, by rw [HW.out, World.drewN_drewN]⟩, by simp [intOf]; omega⟩
    · have hji : ¬ (j : Int) < (m : Int) := by omega
      clear hb
      go_wp2
      go_ret
      exact ⟨rfl, p, HW.out⟩
theorem Flip.com_at {n3 base i g c : Nat} {v u vo : Value} {L : List Gx} {gs : List Hx} {W0 W : World} {k : Nat} (h : Flip n3 base v L gs u vo k W0 W) (hv : v = .slice (some ⟨g, 0, none⟩) L.length c) (hi : i < L.length) : W.cell? ⟨g, i * 2 + 1, none⟩ = some (bodyX (L[i]'hi).com) := by
  obtain ⟨g1, c1, e1, q1⟩ := row_form h.row (by omega)
  rw [hv] at e1
  injection e1 with e1 _ _
  injection e1 with e1
  injection e1 with e1
  subst e1
  exact q1 _ _ (cellsG_get L i hi).2
theorem groups_com : ∀ (L : List Fr) (ops : List (List UInt8)), ∀ g ∈ groupsL L ops, g.com.length ≤ sizeL L := by
  intro L
  induction L with
  | nil => intro ops g hg; cases hg
  | cons f L ih =>
    intro ops g hg
    rw [groupsL] at hg
    rw [sizeL_cons]
    split at hg
    · have := ih _ g hg; omega
    · split at hg
      · rw [List.mem_cons] at hg
        rcases hg with rfl | hg
        · rw [Fr.size]; dsimp only; omega
        · have := ih _ g hg; omega
      · cases hg
theorem body_le (X : List Fx) : ∀ x ∈ X, x.f.l.length ≤ sizeL (frs X) := by
  induction X with
  | nil => intro x hx; cases hx
  | cons y X ih =>
    intro x hx
    rw [frs, List.map_cons, sizeL_cons, Fr.size]
    rw [List.mem_cons] at hx
    rcases hx with rfl | hx
    · omega
    · have := ih x hx; rw [frs] at this; omega
/-- What stands of the frames while their bodies are turned over. -/
structure FrR (n1 : Nat) (v : Value) (X : List Fx) (W0 W : World) : Prop where
  row : W.ownsRow n1 27 2 v X.length (cellsX X)
  byt : ∀ x ∈ X, Bytes x.g x.f.l.length W
  ge : ∀ x ∈ X, n1 ≤ x.g
  below : Below n1 W0 W
theorem FrR.turn {n1 o : Nat} {v : Value} {X : List Fx} {W0 W : World} {x : Fx} {y z : UInt8} (h : FrR n1 v X W0 W) (hx : x ∈ X) (hc : W.cell? ⟨x.g, o, none⟩ = some (bv y)) : FrR n1 v X W0 (W.setCell ⟨x.g, o, none⟩ (bv z)) := by
  obtain ⟨c0, fr0, ht⟩ := (h.byt x hx).typ
  refine ⟨row_kept h.row fun j c fr _ hh => Below.heap_setCell _ _ _ _ (fun e => ?_), fun x' hx' => (h.byt x' hx').turn hc, h.ge, h.below.setCell (p := ⟨x.g, o, none⟩) (h.ge x hx) _⟩
  have e : j = x.g := e
  rw [e, ht] at hh
  simp at hh
theorem FrR.cell {n1 i g c : Nat} {v : Value} {X : List Fx} {W0 W : World} (h : FrR n1 v X W0 W) (hv : v = .slice (some ⟨g, 0, none⟩) X.length c) (hi : i < X.length) : W.cell? ⟨g, i * 2 + 1, none⟩ = some (.slice (bodyA (X[i]'hi).g (X[i]'hi).f.l.length) (X[i]'hi).f.l.length (X[i]'hi).f.l.length) := by
  obtain ⟨g1, c1, e1, q1⟩ := row_form h.row (by omega)
  rw [hv] at e1
  injection e1 with e1 _ _
  injection e1 with e1
  injection e1 with e1
  subst e1
  exact q1 _ _ (cellsX_get X i hi).2
set_option maxRecDepth 100000 in
set_option maxHeartbeats 16000000 in
theorem FrameSplits_cut (A : Option Addr) (cap : Nat) (b : List UInt8) (n : Nat) (hn : b.length = n) (n0 : Nat) (w : World) (hA : At w A b) (hz : A = none → cap = 0) (hc : b.length ≤ cap) (h0 : n = min n0 20000) (hE : Env w) (hcm : n0 ≤ 140737488355328) :
    Calls Tryd.prog 4 #[.slice A n0 cap] w fun e w' => e = .returned (.bool true) ∧ Below w.heap.size w w' := by
  have HE := Lib.hid hE
  have HA := Lib.hid hA
  have HZ := Lib.hid hz
  have HN := Lib.hid hn
  have hm2 : n ≤ 20000 := by omega
  have hmi : min (n0 : Int) 20000 = (n : Int) := by omega
  have hni : (n : Int) ≤ (cap : Int) := by omega
  have hn0i : (0 : Int) ≤ (n : Int) := by omega
  clear hE hA hz
  go_enter Tryd.func4, Tryd.ntmps4
  go_upto_region 2 with fail
  rw [← h0]
  clear h0 hmi hni hn0i hcm
  obtain ⟨sL, hsL⟩ : ∃ s, sizeL (framesL b) = s := ⟨_, rfl⟩
  obtain ⟨sG, hsG⟩ : ∃ s, sizeG (groupsL (framesL b) []) = s := ⟨_, rfl⟩
  have HSL := Lib.hid hsL
  have HSG := Lib.hid hsG
  have HFZ := Lib.hid (frames_size b.length b (Nat.le_refl _))
  have HGF := Lib.hid (groups_few (framesL b) [])
  have HGO := Lib.hid (groups_ops (framesL b) [] (by decide))
  have HGL := Lib.hid (sizeL_ge (framesL b))
  clear hsL hsG
  go_upto_region 7 with (first
    | (at_builtin; refine wpList_app _ rfl (.tmp 21) (.tmp 22) rfl w.heap.size (.slice (some ⟨w.heap.size, 0, none⟩) 0 0) [] rfl (Own1.made _ _ (Nat.le_refl _)) A n cap b rfl (HA.out.below ((Below.refl _ _).alloc (Nat.le_refl _) _)) HZ.out HN.out (by simp; omega) (by simp) w ((Below.refl _ _).alloc (Nat.le_refl _) _) ?_; intro v1 w1 ho1 hb1 _ _; have B1 := Lib.hid hb1; obtain ⟨A1, c1, rfl, z1, p1, l1, a1⟩ := Own1.plain ho1; have HA1 := Lib.hid a1; have SP := Lib.hid (SplitN A1 n c1 b w1 (HE.out.below hb1) a1 z1 p1 l1 (by omega) HN.out); rw [HSL.out] at SP; have GP := Lib.hid (fun w3 (h : Below w1.heap.size w1 w3) => GroupsN A1 n c1 b w3 ((HE.out.below hb1).below h) (a1.below h) z1 p1 l1 (by omega) HN.out); rw [HSG.out] at GP; rw [show (([] : List UInt8) ++ b).length = n from HN.out]; clear ho1 hb1 z1 p1 l1 a1)
    | (go_at_call 13; ((with_reducible refine (SP.out).mono ?_); rintro e2 w2 ⟨v2, X2, rfl, hs2⟩; have S2 := Lib.hid hs2; have RS := Lib.hid (rsplit_all A b n cap w2 (HA.out.below (B1.out.trans (hs2.below.mono B1.out.size))) hc (by omega) HN.out); unfold RSplits at RS; rw [HSL.out] at RS; clear hs2))
    | (go_at_call 14; ((with_reducible refine (RS.out).mono ?_); rintro e3 w3 ⟨v3, L3, rfl, hx3, he3, hb3⟩; have R3 := Lib.hid hx3; have E3 := Lib.hid he3; have B3 := Lib.hid hb3; have B13 := Lib.hid (S2.out.below.trans (hb3.mono S2.out.below.size)); clear hx3 he3 hb3))
    | (go_at_call 15; ((with_reducible refine (GP.out _ B13.out).mono ?_); rintro e4 w4 ⟨v4, gs4, rfl, hg4⟩; have G4 := Lib.hid hg4; have B14 := Lib.hid (B13.out.trans (hg4.below.mono B13.out.size)); have RG := Lib.hid (rgroups_all A b n cap w4 (HA.out.below (B1.out.trans (B14.out.mono B1.out.size))) hc (by omega) HN.out); unfold RGroups at RG; rw [HSG.out] at RG; clear hg4))
    | (go_at_call 16; ((with_reducible refine (RG.out).mono ?_); rintro e5 w5 ⟨v5, gs5, vo5, rfl, hd5, he5, hb5⟩; have D5 := Lib.hid hd5; have E5 := Lib.hid he5; have B5 := Lib.hid hb5; clear hd5 he5 hb5))
    | fail)
  have B15 := Lib.hid (B14.out.trans (B5.out.mono B14.out.size))
  have B35 := Lib.hid (G4.out.below.trans (B5.out.mono G4.out.below.size))
  have B25 := Lib.hid (B3.out.trans (B35.out.mono B3.out.size))
  have HE5 := Lib.hid (HE.out.below (B1.out.trans (B15.out.mono B1.out.size)))
  obtain ⟨P2, c2, P3, c3, e2', e3', hF5⟩ := frames_at S2.out R3.out E3.out B25.out B35.out
  have hx2 : X2.length = L3.length := by
    have h1 := split_len S2.out
    have h2 := congrArg List.length E3.out
    simp only [frsI, List.length_map] at h2
    omega
  subst e2' e3'
  have hl3 : L3.length ≤ 20000 := by
    have h2 := congrArg List.length E3.out
    simp only [frsI, List.length_map] at h2
    have h3 := HGL.out
    have h4 := HFZ.out
    have h5 := HN.out
    omega
  have HF5 := Lib.hid hF5
  have HEQ := Lib.hid (show gs4.map Gx.gr = gs5.map Hx.gr from G4.out.all.trans E5.out.symm)
  have hl45 : gs5.length = gs4.length := by simpa using (congrArg List.length HEQ.out).symm
  have hl4 : gs4.length ≤ 20000 := by
    have h1 := congrArg List.length G4.out.all
    rw [List.length_map] at h1
    have h2 := HGF.out
    have h3 := HGL.out
    have h4 := HFZ.out
    have h5 := HN.out
    omega
  obtain ⟨P4, c4, e4'⟩ := own_slice G4.out.row
  obtain ⟨P5, c5, e5'⟩ := own_slice D5.out.row
  rw [hl45] at e5'
  subst e4' e5'
  have FL5 := Lib.hid (show Flip w3.heap.size w4.heap.size (.slice P4 gs4.length c4) gs4 gs5 (.slice P5 gs4.length c5) vo5 0 w3 w5 from ⟨World.ownsRow.kept G4.out.row (grown_of B5.out) (by cases hv : (Value.slice P4 gs4.length c4).ownBlock <;> simp), fun g hg => World.ownsRow.kept (G4.out.olds g hg) (grown_of B5.out) (by cases hv : g.v.ownBlock <;> simp), fun k hk _ x hx => (G4.out.body x (List.mem_flatMap.2 ⟨gs4[k], List.getElem_mem hk, hx⟩)).below B5.out, D5.out, B35.out⟩)
  clear hF5 hl45
  go_upto_region 9 with (first
    | (go_at_call 11; ((with_reducible refine (awake_any w5 HE5.out).mono ?_); rintro e6 w6 ⟨rfl, hb6⟩; have B6 := Lib.hid hb6; have SF := Lib.hid (sameF_any P2 P3 L3.length c2 c3 w6 (HF5.out.later hb6) (by omega)); clear hb6))
    | (go_at_call 17; ((with_reducible refine (SF.out).mono ?_); rintro e7 w7 ⟨rfl, hb7⟩; have B57 := Lib.hid (B6.out.trans (hb7.mono B6.out.size)); clear hb7))
    | fail)
  have FL7 := Lib.hid (FL5.out.later B57.out B35.out.size)
  clear SF SP RS GP RG FL5 HF5
  go_wp2
  go_loopw [71] (fun i wr => ∃ j : Nat, j ≤ gs4.length ∧ i = .int .i64 j ∧ Flip w3.heap.size w4.heap.size (.slice P4 gs4.length c4) gs4 gs5 (.slice P5 gs4.length c5) vo5 j w3 wr) (fun i _ => gs4.length - (intOf i).toNat)
  case atStart => exact ⟨0, Nat.zero_le _, rfl, FL7.out⟩
  case round => as_aux_lemma =>
    obtain ⟨j, hj, rfl, hfl⟩ := hrel
    by_cases hlt : j < gs4.length
    · obtain ⟨g1, d1, g2, d2, P6, d6, P7, d7, A7, tc, PD⟩ := hfl.pair HEQ.out hlt
      have hgm : gs4[j].gr ∈ groupsL (framesL b) [] := by rw [← G4.out.all]; exact List.mem_map.2 ⟨gs4[j], List.getElem_mem hlt, rfl⟩
      have hm6 : gs4[j].ops.length ≤ 256 := by
        have := HGO.out _ hgm
        simpa [Gx.gr] using this
      have ht6 : gs4[j].com.f.l.length ≤ 20000 := by
        have h1 := groups_com _ _ _ hgm
        have h2 := HFZ.out
        have h3 := HN.out
        have h4 : gs4[j].gr.com.length = gs4[j].com.f.l.length := rfl
        omega
      have hbd := hfl.body j hlt (Nat.le_refl _) gs4[j].com (by simp)
      have hge := hbd.ge
      have hlt4 := (G4.out.body gs4[j].com (List.mem_flatMap.2 ⟨gs4[j], List.getElem_mem hlt, by simp⟩)).lt
      have hbl := hbd.bytes
      have TURN := Lib.hid (fun W o z t (h : Flip w3.heap.size w4.heap.size (.slice P4 gs4.length c4) gs4 gs5 (.slice P5 gs4.length c5) vo5 (j + 1) w3 W) (hb : Bytes gs4[j].com.g t W) => Flip.turn (o := o) (z := z) h G4.out.apart hlt hb hge hlt4)
      have CAT := Lib.hid (fun k W (g c : Nat) (h : Flip w3.heap.size w4.heap.size (.slice P4 gs4.length c4) gs4 gs5 (.slice P5 gs4.length c5) vo5 k w3 W) (hv : (Value.slice P4 gs4.length c4) = .slice (some ⟨g, 0, none⟩) gs4.length c) => h.com_at hv hlt)
      clear hgm hbd
      generalize gs4[j].ops.length = m at *
      generalize gs4[j].com = x at *
      obtain ⟨t0, ht0⟩ : ∃ t0, x.f.l.length = t0 := ⟨_, rfl⟩
      have HTL0 := Lib.hid ht0
      clear ht0
      have r1 := PD.e1
      have r2 := PD.e2
      injection r1 with r1 _ r3
      injection r2 with r2 _ r4
      subst r1 r2 r3 r4
      have hji : (j : Int) < (gs4.length : Int) := by omega
      have SQ := Lib.hid (fun nq => same_quiet P6 P7 m d6 d7 nq wr PD.each hm6)
      have CE := Lib.hid (fun nq => Equal_any (bodyA x.g x.f.l.length) A7 x.f.l x.f.l x.f.l.length x.f.l.length x.f.l.length tc (wr.drewN nq) (PD.a1.below (below_drewN' (Below.refl _ _) nq)) (PD.a2.below (below_drewN' (Below.refl _ _) nq)) rfl rfl)
      rw [beq_self_eq_true] at CE
      have o1 := PD.o1
      have o2 := PD.o2
      have b1 := PD.b1
      have b2 := PD.b2
      have HFL := Lib.hid hfl
      have HBL := Lib.hid hbl
      clear PD hfl hbl hge hlt4
      have HTL : Hid (x.f.l.length = t0) := HTL0
      rw [HTL.out] at b1 b2 CE HBL ht6
      clear HTL0
      generalize t0 = t at *
      go_upto_region 12 with fail
      go_quiet (first
        | (go_at_call 18; exact SQ.out _)
        | (go_at_call 10; exact quiet_l (CE.out _))
        | fail)
      obtain ⟨wE, hwE⟩ : ∃ wE, wr.drewN nq = wE := ⟨_, rfl⟩
      have bE : Below wr.heap.size wr wE := by rw [← hwE]; exact below_drewN' (Below.refl _ _) nq
      have HFE := Lib.hid ((HFL.out.later bE HFL.out.below.size).next)
      have HBE := Lib.hid (HBL.out.below bE)
      replace b1 := (bE.cell (cell_ltY b1)).trans b1
      rw [hwE]
      clear hwE bE HFL HBL o1 o2 b2 CE SQ
      have HB1 := Lib.hid b1
      go_wp2
      clear b1
      go_loopw [106] (fun k wz => ∃ q : Nat, q ≤ t ∧ k = .int .i64 q ∧ Flip w3.heap.size w4.heap.size (.slice (some ⟨g1, 0, none⟩) gs4.length c4) gs4 gs5 (.slice (some ⟨g2, 0, none⟩) gs4.length c5) vo5 (j + 1) w3 wz ∧ Bytes x.g t wz) (fun k _ => t - (intOf k).toNat)
      case atStart => exact ⟨0, Nat.zero_le _, rfl, HFE.out, HBE.out⟩
      case round => as_aux_lemma =>
        obtain ⟨q, hq, rfl, hfz, hbz⟩ := hrel
        by_cases hlt2 : q < t
        · obtain ⟨y, hy⟩ := hbz.cell q hlt2
          have b1 := CAT.out _ _ g1 c4 hfz rfl
          unfold bodyX at b1
          have yf := hbz.free (3 + q)
          have hqi : (q : Int) < (t : Int) := by omega
          have HFZ2 := Lib.hid hfz
          have HBZ2 := Lib.hid hbz
          have HY := Lib.hid hy
          have hbt := HTL.out
          rw [hbt, bodyA, if_neg (by omega)] at b1
          unfold bv at hy
          clear hfz hbz hbt
          go_wp2
          have hv := bv_turn y 255 (by decide)
          refine ⟨⟨q + 1, by omega, by go_num, TURN.out _ _ _ t HFZ2.out HBZ2.out, ?_⟩, by simp [intOf]; omega⟩
          have := HBZ2.out.turn (y := y ^^^ UInt8.ofNat 255) HY.out
          rw [hv] at this
          exact this
        · have hqi : ¬ (q : Int) < (t : Int) := by omega
          have HFZ2 := Lib.hid hfz
          clear hfz hbz
          go_wp2
          exact ⟨⟨j + 1, by omega, by go_num, HFZ2.out⟩, by simp [intOf]; omega⟩
    · have hji : ¬ (j : Int) < (gs4.length : Int) := by omega
      have b2a : Below w2.heap.size w2 wr := B3.out.trans (hfl.below.mono B3.out.size)
      have FR := Lib.hid (show FrR w1.heap.size (.slice P2 L3.length c2) X2 w1 wr from ⟨World.ownsRow.kept S2.out.row (grown_of b2a) (by cases hv : (Value.slice P2 L3.length c2).ownBlock <;> simp), fun x hx => ((S2.out.body x hx).below b2a).bytes, fun x hx => (S2.out.body x hx).ge, S2.out.below.trans (b2a.mono S2.out.below.size)⟩)
      clear hfl b2a
      have hsz2 : ∀ x ∈ X2, x.f.l.length ≤ 20000 := fun x hx => by
        have h1 := body_le X2 x hx
        have h2 := HFZ.out
        have h3 := HN.out
        have h4 := S2.out.read.all
        rw [List.append_nil] at h4
        rw [← h4] at h1
        omega
      have HS2 := Lib.hid hsz2
      have HX2 := Lib.hid hx2
      clear hsz2 hx2
      go_wp2
      go_loopw [123] (fun i wz => ∃ k : Nat, k ≤ L3.length ∧ i = .int .i64 k ∧ FrR w1.heap.size (.slice P2 L3.length c2) X2 w1 wz) (fun i _ => L3.length - (intOf i).toNat)
      case atStart => exact ⟨0, Nat.zero_le _, rfl, FR.out⟩
      case round => as_aux_lemma =>
        obtain ⟨k, hk, rfl, hfr⟩ := hrel
        by_cases hlt3 : k < L3.length
        · have hx2 := HX2.out
          have hk2 : k < X2.length := by omega
          obtain ⟨g, d, e, _⟩ := row_form hfr.row (by omega)
          rw [hx2] at e
          injection e with e1 _ e3
          subst e1 e3
          have hmem := List.getElem_mem hk2
          have hsz := HS2.out _ hmem
          have CEL := Lib.hid (fun W (h : FrR w1.heap.size (.slice (some ⟨g, 0, none⟩) L3.length c2) X2 w1 W) => h.cell (g := g) (c := c2) (by rw [hx2]) hk2)
          have TU := Lib.hid (fun W (o : Nat) (y z : UInt8) (h : FrR w1.heap.size (.slice (some ⟨g, 0, none⟩) L3.length c2) X2 w1 W) (hc' : W.cell? ⟨(X2[k]'hk2).g, o, none⟩ = some (bv y)) => FrR.turn (x := X2[k]'hk2) (o := o) (y := y) (z := z) h hmem hc')
          have BY := Lib.hid (fun W (h : FrR w1.heap.size (.slice (some ⟨g, 0, none⟩) L3.length c2) X2 w1 W) => h.byt X2[k] hmem)
          clear hmem
          generalize X2[k] = x at *
          obtain ⟨t, ht⟩ : ∃ t, x.f.l.length = t := ⟨_, rfl⟩
          have HTL := Lib.hid ht
          have b1 := CEL.out _ hfr
          rw [ht] at b1 hsz
          have hki : (k : Int) < (L3.length : Int) := by omega
          have HFR := Lib.hid hfr
          clear ht hfr hk2 hx2
          go_wp2
          clear b1
          go_loopw [132] (fun q wz => ∃ p : Nat, p ≤ t ∧ q = .int .i64 p ∧ FrR w1.heap.size (.slice (some ⟨g, 0, none⟩) L3.length c2) X2 w1 wz) (fun q _ => t - (intOf q).toNat)
          case atStart => exact ⟨0, Nat.zero_le _, rfl, HFR.out⟩
          case round => as_aux_lemma =>
            obtain ⟨q, hq, rfl, hz⟩ := hrel
            have HZ4 := Lib.hid hz
            by_cases hlt4 : q < t
            · obtain ⟨y, hy⟩ := (BY.out _ hz).cell q (by rw [HTL.out]; exact hlt4)
              have yf := (BY.out _ hz).free (3 + q)
              have b1 := CEL.out _ hz
              rw [HTL.out, bodyA, if_neg (by omega)] at b1
              have HY := Lib.hid hy
              unfold bv at hy
              have hqi : (q : Int) < (t : Int) := by omega
              clear hz
              go_wp2
              have hv := bv_turn y 255 (by decide)
              refine ⟨⟨q + 1, by omega, by go_num, ?_⟩, by simp [intOf]; omega⟩
              have := TU.out _ (3 + q) y (y ^^^ UInt8.ofNat 255) HZ4.out HY.out
              rw [hv] at this
              exact this
            · have hqi : ¬ (q : Int) < (t : Int) := by omega
              clear hz
              go_wp2
              exact ⟨⟨k + 1, by omega, by go_num, HZ4.out⟩, by simp [intOf]; omega⟩
        · have hki : ¬ (k : Int) < (L3.length : Int) := by omega
          have HB := Lib.hid hfr.below
          have CE := Lib.hid (Equal_any A1 A b b n n c1 cap _ (HA1.out.below HB.out) (HA.out.below (B1.out.trans (HB.out.mono B1.out.size))) HN.out HN.out)
          rw [beq_self_eq_true] at CE
          clear hfr
          go_wp2_with (first
            | (go_at_call 10; ((with_reducible refine (CE.out).mono ?_); rintro e8 w8 ⟨rfl, rfl⟩))
            | fail)
          go_ret
          exact ⟨rfl, B1.out.trans (HB.out.mono B1.out.size)⟩
theorem FrameSplits_walk (A : Option Addr) (cap : Nat) (l : List UInt8) (w : World) (hA : At w A l) (hz : A = none → cap = 0) (hm : l.length + 4 ≤ 140737488355328) (hc : l.length ≤ cap) (hE : Env w) :
    Calls Tryd.prog 4 #[.slice A l.length cap] w fun e w' => e = .returned (.bool true) ∧ Below w.heap.size w w' :=
  FrameSplits_cut A cap (l.take (min l.length 20000)) (min l.length 20000) (by rw [List.length_take]; omega) l.length w (take_at _ hA) hz (by rw [List.length_take]; omega) rfl hE (by omega)
end Go.Proofs.YtbmhgmigcgeooaaDoor
