/- The statement FrameGroups, walked. -/
import Derived.Test.YtbmhgmigcgeooaaDoorU2
namespace Go.Proofs.YtbmhgmigcgeooaaDoor
open Go.RowKit
set_option maxRecDepth 100000 in
set_option maxHeartbeats 16000000 in
theorem FrameGroups_walk (KA : Option Addr) (kc : Nat) (ks : List UInt8) (BA : Option Addr) (bn bc : Nat) (bf : Nat → Option Addr × Nat × List UInt8) (cut : Nat) (w : World) (hK : At w KA ks) (hm : ks.length ≤ maxLen) (hB : BAt w BA bn bf) (hbn : bn ≤ maxLen) (hcut : cut < 65536) (hE : Env w) :
    Calls Tryd.prog 6 #[.agg #[.slice KA ks.length kc, .slice BA bn bc], .int .u16 (cut : Int)] w fun e w' => e = .returned (.bool true) ∧ Below w.heap.size w w' := by
  obtain ⟨W, hW⟩ : ∃ W, w.alloc (.cells #[.slice KA ks.length kc, .slice BA bn bc] 55) = W := ⟨_, rfl⟩
  have b0 : Below w.heap.size w W := by rw [← hW]; exact (Below.refl _ _).alloc (Nat.le_refl _) _
  have f0 : C2 W w.heap.size 55 (.slice KA ks.length kc) (.slice BA bn bc) := by rw [← hW]; exact C2.new w _ _ _
  have c0 := f0.c0
  have c1 := f0.c1
  have LD := Lib.hid (laid_any KA kc ks BA bn bc bf W (hE.below b0) (hK.below b0) (hB.below b0) hm hbn)
  unfold LaidPost at LD
  have HE := Lib.hid (hE.below b0)
  have B0 := Lib.hid b0
  clear f0 b0 hE hK hB hm hbn
  go_enter Tryd.func6, Tryd.ntmps6
  go_upto_region 1 with fail
  try rw [hW]
  clear hW
  go_upto_region 3 with (first
    | (go_at_call 19; ((with_reducible refine (LD.out).mono ?_); rintro e1 w1 ⟨vl, vo, L, Ps, rfl, hM1, hL1⟩; have M1 := Lib.hid hM1; have JN := Lib.hid (join_laid hM1 hL1); clear hM1))
    | (go_at_call 20; ((with_reducible refine (JN.out).mono ?_); rintro e2 w2 ⟨v2, rfl, hp2, hb2⟩; have B2 := Lib.hid hb2; have M2 := Lib.hid (M1.out.later hb2); obtain ⟨A2, cA, rfl, z2, p2, l2, a2⟩ := hp2; clear hb2 c0 c1))
    | fail)
  have hok := Lib.hid (frsI_ok M2.out)
  have hsz : (allL (frsI L)).length ≤ 61650 := by
    rw [allL_length]
    have := sizeL_le (frsI L) hok.out
    rw [frsI, List.length_map] at this
    unfold frsI
    omega
  have HN := Lib.hid (allL_length (frsI L))
  have HFP := Lib.hid (fun n hn => frames_part (frsI L) hok.out n hn)
  have BW2 := Lib.hid M2.out.below
  have HA2 := Lib.hid a2
  have Z2 := Lib.hid z2
  have P2 := Lib.hid p2
  clear a2 z2 p2 LD JN M1
  generalize hall : allL (frsI L) = all at *
  clear hall
  have HNS : Hid (sizeL (frsI L) = all.length) := Lib.hid HN.out.symm
  obtain ⟨PL, cL, rfl⟩ := own_slice M2.out.rl
  obtain ⟨PO, cO, rfl⟩ := own_slice M2.out.ro
  have hlen := M2.out.len
  rw [hlen]
  clear hlen
  obtain ⟨en, hen⟩ : ∃ en, cut % (all.length + 1) = en := ⟨_, rfl⟩
  have henl : en ≤ all.length := by rw [← hen]; exact Nat.le_of_lt_succ (Nat.mod_lt _ (Nat.succ_pos _))
  have heni : (cut : Int) % ((all.length : Int) + 1) = (en : Int) := by rw [← hen, Int.natCast_emod]; rfl
  have t1 : (0 : Int) ≤ (cut : Int) := by omega
  have t2 : (0 : Int) < (all.length : Int) + 1 := by omega
  clear hen
  go_upto_region 4 with fail
  rw [heni]
  clear heni t1 t2
  go_upto_block 0 with fail
  go_cut [9, 10, 11, 12, 13, 14] from 34 to 70 (fun _ _ dn vw _ _ w' => (∃ pre gs ops vo, RunH pre gs ops ∧ pre.length ≤ 30 ∧ (∀ y ∈ pre, y ∈ L) ∧ HM w2.heap.size gs ops vw vo w' ∧ dn = .int .i64 (sizeG (gs.map Hx.gr) : Nat) ∧ groupsL (framesL (all.take en)) [] = gs.map Hx.gr) ∧ Below w2.heap.size w2 w')
  case first =>
    go_wp2_with fail
    go_loopw [34, 9, 10, 11, 12] (fun i vo av dn vw wr => ∃ (j : Nat) (gs : List Hx) (ops : List Fi), j ≤ L.length ∧ i = .int .i64 j ∧ RunH (L.take j) gs ops ∧ av = .int .i64 (sizeL ((frsI L).take j) : Nat) ∧ sizeL ((frsI L).take j) ≤ en ∧ dn = .int .i64 (sizeG (gs.map Hx.gr) : Nat) ∧ HM w2.heap.size gs ops vw vo wr ∧ Below w2.heap.size w2 wr) (fun i _ _ _ _ _ => L.length - (intOf i).toNat)
    case atStart => exact ⟨0, [], [], Nat.zero_le _, rfl, by rw [List.take_zero]; exact .nil, rfl, Nat.zero_le _, rfl, ⟨World.ownsRow_nil _ _ _ _, World.ownsRow_nil _ _ _ _, (fun g hg => by cases hg), (fun g hg => by cases hg)⟩, Below.refl _ _⟩
    case round =>
      obtain ⟨j, gs, ops, hj, rfl, hrun, rfl, hje, rfl, hm, hb⟩ := hrel
      have hle0 := hrun.le
      rw [List.length_take] at hle0
      have HSZ := Lib.hid hrun.sizes
      have HND : ∀ (e : ∀ h : j < L.length, en < sizeL ((frsI L).take j) + L[j].f.size ∨ L[j].f.k = 3), groupsL (framesL (all.take en)) [] = gs.map Hx.gr := fun e => by
        rw [HFP.out en (by rw [HNS.out]; exact henl)]
        exact RunH.whole hrun hL1 hj hje e
      obtain ⟨Po, co, rfl⟩ := own_slice hm.ro
      obtain ⟨Pg, cg, rfl⟩ := own_slice hm.rw_
      by_cases hlt : j < L.length
      · obtain ⟨g1, cc1, G1, gc1, r1, q1⟩ := M2.out.part hlt
        injection r1 with r1 _ r3
        subst r1 r3
        obtain ⟨g2, cc2, r2, q2⟩ := row_form M2.out.rl (Nat.zero_lt_of_lt hlt)
        injection r2 with r2 _ r4
        subst r2 r4
        obtain ⟨k1, k2⟩ := cellsI_get L j hlt
        have p0 := (hb.cell (cell_lt q1)).trans q1
        have p1 := (hb.cell (cell_lt (q2 _ _ k1))).trans (q2 _ _ k1)
        have p2 := (hb.cell (cell_lt (q2 _ _ k2))).trans (q2 _ _ k2)
        obtain ⟨hk1, hk3, hbl⟩ := M2.out.ok L[j] (List.getElem_mem hlt)
        have hT := takeI L j hlt
        have hTK := List.take_succ_eq_append_getElem hlt
        replace HND : en < sizeL ((frsI L).take j) + L[j].f.size ∨ L[j].f.k = 3 → groupsL (framesL (all.take en)) [] = gs.map Hx.gr := fun e => HND fun _ => e
        clear q1 q2 k1 k2
        generalize L[j] = y at *
        obtain ⟨⟨k, l⟩, A, c⟩ := y
        dsimp only at *
        have hszb : Fr.size ⟨k, l⟩ ≤ 2055 := by unfold Fr.size; dsimp only; omega
        have HG := Lib.hid (show ∀ vo, sizeG ((gs ++ ([⟨ops, vo, ⟨⟨k, l⟩, A, c⟩⟩] : List Hx)).map Hx.gr) = sizeL ((frsI L).take j) + Fr.size ⟨k, l⟩ from fun vo => by
          have h := HSZ.out
          rw [show frsI (L.take j) = (frsI L).take j by simp [frsI, List.map_take]] at h
          rw [List.map_append, List.map_cons, List.map_nil, sizeG_snoc, hx_size, h]
          dsimp only
          omega)
        generalize Fr.size ⟨k, l⟩ = sz at *
        have HTK := Lib.hid hTK
        have HT := Lib.hid hT
        have HN2 := Lib.hid HND
        have HR := Lib.hid hrun
        clear hTK hT HND hrun
        generalize hsm : sizeL ((frsI L).take j) = sm at *
        have HSM := Lib.hid hsm
        clear hsm
        have hlti : (j : Int) < (L.length : Int) := by omega
        go_upto_region 10 with fail
        obtain ⟨V, hV⟩ : ∃ V, wr.alloc (.cells #[.int .i64 (k : Int), .slice A l.length c] 27) = V := ⟨_, rfl⟩
        have bV : Below wr.heap.size wr V := by rw [← hV]; exact (Below.refl _ _).alloc (Nat.le_refl _) _
        have fV : C2 V wr.heap.size 27 (.int .i64 (k : Int)) (.slice A l.length c) := by rw [← hV]; exact C2.new wr _ _ _
        have hMV := hm.later bV
        have hbV := hb.trans (bV.mono hb.size)
        have HM2 := Lib.hid hMV
        have HBV := Lib.hid hbV
        have z0 := fV.c0
        have z1 := fV.c1
        replace p0 := (bV.cell (cell_lt p0)).trans p0
        rw [hV]
        clear hV hMV p1 p2 fV bV hbV
        by_cases hle : sm + sz ≤ en
        · have hlei : ¬ ((sm : Int) + (sz : Int) > (en : Int)) := by omega
          by_cases h3 : k = 3
          · subst h3
            have HX := Lib.hid (HN2.out (.inr rfl))
            go_wp2
            go_meet
            exact ⟨⟨L.take j, gs, ops, _, HR.out, by rw [List.length_take]; omega, fun y hy => List.mem_of_mem_take hy, HM2.out, rfl, HX.out⟩, HBV.out⟩
          · have h3i : ¬ (k : Int) = 3 := by omega
            have hVs := HBV.out.size
            by_cases h1 : k = 1
            · subst h1
              obtain ⟨j0, ji, jz0, jz1, jz2⟩ := info_parts infoOp
              have hro := HM2.out.ro
              go_wp2_with (first
                | (at_builtin; refine wpList_append_own_at _ rfl (.tmp 57) (.tmp 60) 49 rfl w2.heap.size 22 j0 _ 1 24 Tryd.underlying49 ji jz0 jz1 jz2 rfl (by decide) _ _ _ rfl (hro.alloc _) ⟨V.heap.size, 0, none⟩ 1 1 [.slice A l.length c] rfl rfl (cell_one _ _ _) (by simp [Value.oneCell']) (by unfold maxLen; omega) (by omega) (by simp; omega) ?_; intro v' w1' hown' hgrow _ hat; have HP := Lib.hid (HM2.out.op (y := ⟨⟨1, l⟩, A, c⟩) hown' hgrow hat hVs); clear hown' hgrow hat)
                | fail)
              exact ⟨⟨j + 1, gs, ops ++ [⟨⟨1, l⟩, A, c⟩], by omega, by go_num, by rw [HTK.out]; exact .op HR.out rfl, by rw [HT.out]; go_num, by rw [HT.out]; exact hle, rfl, HP.out.1, HBV.out.trans HP.out.2⟩, by simp [intOf]; omega⟩
            · obtain rfl : k = 2 := by omega
              obtain ⟨j0, ji, jz0, jz1, jz2⟩ := info_parts infoGr
              have hro := HM2.out.rw_
              go_wp2_with (first
                | (at_builtin; refine wpList_append_own_at _ rfl (.tmp 62) (.tmp 67) 41 rfl w2.heap.size 51 j0 _ 2 48 Tryd.underlying41 ji jz0 jz1 jz2 rfl (by decide) _ _ _ rfl (hro.alloc _) ⟨V.heap.size, 0, none⟩ 1 1 [.slice Po ops.length co, .slice A l.length c] rfl rfl (cell_two_new _ _ _ _) (by simp [Value.oneCell']) (by unfold maxLen; omega) (by omega) (by simp; omega) ?_; intro v' w1' hown' hgrow _ hat; have HP := Lib.hid (HM2.out.com (y := ⟨⟨2, l⟩, A, c⟩) hown' hgrow hVs); clear hown' hgrow hat)
                | fail)
              exact ⟨⟨j + 1, _, [], by omega, by go_num, by rw [HTK.out]; exact .com _ HR.out rfl, by rw [HT.out]; go_num, by rw [HT.out]; exact hle, by rw [HG.out]; go_num, HP.out.1, HBV.out.trans HP.out.2⟩, by simp [intOf]; omega⟩
        · have hlei : (sm : Int) + (sz : Int) > (en : Int) := by omega
          have HX := Lib.hid (HN2.out (.inl (by omega)))
          go_wp2
          go_meet
          exact ⟨⟨L.take j, gs, ops, _, HR.out, by rw [List.length_take]; omega, fun y hy => List.mem_of_mem_take hy, HM2.out, rfl, HX.out⟩, HBV.out⟩
      · have hlti : ¬ (j : Int) < (L.length : Int) := by omega
        have HX := Lib.hid (HND (fun h => absurd h hlt))
        have HR := Lib.hid hrun
        have HM2 := Lib.hid hm
        have HBV := Lib.hid hb
        clear HND hrun hm hb
        go_wp2
        go_meet
        exact ⟨⟨L.take j, gs, ops, _, HR.out, by rw [List.length_take]; omega, fun y hy => List.mem_of_mem_take hy, HM2.out, rfl, HX.out⟩, HBV.out⟩
  case rest =>
    obtain ⟨⟨pre, gs, ops, vo, hrun, hpl, hsub, hHM, rfl, hgr⟩, hb⟩ := hcut
    have hti : (all.take en).length = en := by rw [List.length_take]; omega
    have GP := Lib.hid (GroupsN A2 en cA (all.take en) wc ((HE.out.below BW2.out).below hb) (take_at _ (HA2.out.below hb)) Z2.out P2.out (by omega) (by omega) hti)
    rw [hgr] at GP
    have HGR := Lib.hid hgr
    have HR := Lib.hid hrun
    have HS := Lib.hid hsub
    have HM3 := Lib.hid hHM
    have HB3 := Lib.hid hb
    obtain ⟨Pg, cg, rfl⟩ := own_slice hHM.rw_
    have hgl : gs.length ≤ 30 := Nat.le_trans (Nat.le_trans (Nat.le_add_right _ _) hrun.le) hpl
    have henc : (en : Int) ≤ (cA : Int) := by omega
    have henz : (0 : Int) ≤ (en : Int) := by omega
    clear hgr hti hrun hsub hHM hb
    generalize sizeG (gs.map Hx.gr) = sm at *
    go_upto_region 20 with (first
      | (go_at_call 15; ((with_reducible refine (GP.out).mono ?_); rintro e5 w5 ⟨v5, X5, rfl, hg5⟩; have hx5 : X5.map Gx.gr = gs.map Hx.gr := hg5.all.trans HGR.out; have hl5 : X5.length = gs.length := (by simpa using congrArg List.length hx5); obtain ⟨P5, c5, e5'⟩ := own_slice hg5.row; rw [hl5] at e5'; subst e5'; have B5 := Lib.hid (HB3.out.trans (hg5.below.mono HB3.out.size)); have G5 := Lib.hid hg5; have X5' := Lib.hid hx5; clear hg5 hx5 hl5))
      | (go_at_call 11; ((with_reducible refine (awake_any _ ((HE.out.below BW2.out).below B5.out)).mono ?_); rintro e6 w6 ⟨rfl, hb6⟩; have B6 := Lib.hid hb6; clear hb6))
      | fail)
    clear GP henc henz
    have B36 := Lib.hid (B5.out.trans (B6.out.mono B5.out.size))
    have BG6 := Lib.hid (G5.out.below.trans (B6.out.mono G5.out.below.size))
    go_wp2
    go_loopw [94] (fun i wr => ∃ j : Nat, j ≤ gs.length ∧ i = .int .i64 j ∧ Below w6.heap.size w6 wr) (fun i _ => gs.length - (intOf i).toNat)
    case atStart => exact ⟨0, Nat.zero_le _, rfl, Below.refl _ _⟩
    case round =>
      obtain ⟨j, hj, rfl, hb⟩ := hrel
      by_cases hlt : j < gs.length
      · obtain ⟨g1, cc1, g2, cc2, Q1, d1, Q2, d2, m, A4, A5, t, tc, l, PR⟩ := groups_pair HR.out hpl HS.out HM3.out (fun y hy => (M2.out.at_ y hy).1) (V := wr) (BW2.out.trans ((B36.out.trans (hb.mono B36.out.size)).mono BW2.out.size)) (BG6.out.trans (hb.mono BG6.out.size)) G5.out X5'.out (B6.out.trans (hb.mono B6.out.size)) hlt
        have r1 := PR.e1
        have r2 := PR.e2
        injection r1 with r1 _ r3
        injection r2 with r2 _ r4
        subst r1 r2 r3 r4
        have hji : (j : Int) < (gs.length : Int) := by omega
        have CE := Lib.hid (fun nq => Equal_any A4 A5 l l t t t tc (wr.drewN nq) (PR.a1.below (below_drewN' (Below.refl _ _) nq)) (PR.a2.below (below_drewN' (Below.refl _ _) nq)) PR.len PR.len)
        rw [beq_self_eq_true] at CE
        have HB := Lib.hid hb
        have o1 := PR.o1
        have o2 := PR.o2
        have b1 := PR.b1
        have b2 := PR.b2
        have hml := PR.ml
        have HPR := Lib.hid PR
        clear hb hlt PR
        go_upto_region 23 with fail
        go_quiet ((go_at_call 10; exact quiet_l (CE.out _)))
        obtain ⟨wE, hwE⟩ : ∃ wE, wr.drewN nq = wE := ⟨_, rfl⟩
        have bE : Below wr.heap.size wr wE := by rw [← hwE]; exact below_drewN' (Below.refl _ _) nq
        have HPE := Lib.hid (HPR.out.later bE)
        have HBE := Lib.hid (HB.out.trans (bE.mono HB.out.size))
        rw [hwE]
        clear hwE bE HPR HB o1 o2 b1 b2 CE
        have o1 := HPE.out.o1
        go_wp2
        go_loopw [130] (fun k wz => ∃ q : Nat, q ≤ m ∧ k = .int .i64 q ∧ Below wE.heap.size wE wz) (fun k _ => m - (intOf k).toNat)
        case atStart => exact ⟨0, Nat.zero_le _, rfl, Below.refl _ _⟩
        case round =>
          obtain ⟨q, hq, rfl, hb2⟩ := hrel
          have HB2 := Lib.hid hb2
          by_cases hlt2 : q < m
          · have PL := HPE.out.later hb2
            have o3 := PL.o1
            have o4 := PL.o2
            obtain ⟨h1, h2, C4, C5, u, f2, ql, rfl, rfl, y1, y2, y3, y4, y5⟩ := PL.each q hlt2
            have hqi : (q : Int) < (m : Int) := by omega
            have CE := Lib.hid (fun nq => Equal_any C4 C5 ql ql u u u f2 (wr.drewN nq) (y3.below (below_drewN' (Below.refl _ _) nq)) (y4.below (below_drewN' (Below.refl _ _) nq)) y5 y5)
            rw [beq_self_eq_true] at CE
            clear hb2 hlt2 PL o1
            go_upto_region 28 with fail
            go_quiet ((go_at_call 10; exact quiet_l (CE.out _)))
            go_wp2
            exact ⟨⟨q + 1, by omega, by go_num, below_drewN' HB2.out _⟩, by simp [intOf]; omega⟩
          · have hqi : ¬ (q : Int) < (m : Int) := by omega
            clear hb2 o1
            go_wp2
            exact ⟨⟨j + 1, by omega, by go_num, HBE.out.trans (HB2.out.mono HBE.out.size)⟩, by simp [intOf]; omega⟩
      · have hji : ¬ (j : Int) < (gs.length : Int) := by omega
        have HB := Lib.hid (B36.out.trans (hb.mono B36.out.size))
        clear hb
        go_wp2
        go_ret
        exact ⟨rfl, B0.out.trans ((BW2.out.trans (HB.out.mono BW2.out.size)).mono B0.out.size)⟩
end Go.Proofs.YtbmhgmigcgeooaaDoor
