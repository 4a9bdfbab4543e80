/- The law IsetOrder, walked. -/
import Derived.Test.YtgjahnidjcfbiaaDoorJ20
namespace Go.Proofs.YtgjahnidjcfbiaaDoor
open Go.RowKit Go.Shelf Go.Lib
open Iset (nf has NF Res Wide NotL)
set_option maxRecDepth 100000 in
set_option maxHeartbeats 16000000 in
theorem Order_walk_11 (A B C : Option Addr) (ca cb cc : Nat) (a b c : List (Int × Int)) (w : World) (ha : PAt w A a) (hb : PAt w B b) (hc : PAt w C c) (la : a.length ≤ ca) (lb : b.length ≤ cb) (lc : c.length ≤ cc) (wa : Wide a) (wb : Wide b) (wc : Wide c) (henv : Env w)
    (ma : a.length ≤ 140737488355328) (mb : b.length ≤ 140737488355328) (mc : c.length ≤ 140737488355328)
    (h1 : Iset.covers (a.take 40) (b.take 40)) (h2 : Iset.covers (b.take 40) (a.take 40)) :
    Calls Tryd.prog 6 #[.slice A a.length ca, .slice B b.length cb, .slice C c.length cc] w fun e w' => e = .returned (.bool true) ∧ Below w.heap.size w w' := by
  obtain ⟨na, hna⟩ : ∃ n : Nat, min a.length 40 = n := ⟨_, rfl⟩
  obtain ⟨nb, hnb⟩ : ∃ n : Nat, min b.length 40 = n := ⟨_, rfl⟩
  obtain ⟨nc, hnc⟩ : ∃ n : Nat, min c.length 40 = n := ⟨_, rfl⟩
  have ia : min (a.length : Int) 40 = (na : Int) := by omega
  have ib : min (b.length : Int) 40 = (nb : Int) := by omega
  have ic : min (c.length : Int) 40 = (nc : Int) := by omega
  have ja : na ≤ ca := by omega
  have jb : nb ≤ cb := by omega
  have jc : nc ≤ cc := by omega
  have LV0 := Lib.hid ((((Live.nil w).cons (SetAt.cut (c := cc) hc wc hnc)).cons (SetAt.cut (c := cb) hb wb hnb)).cons (SetAt.cut (c := ca) ha wa hna))
  have HWa := Lib.hid (LV0.out.nth 0 rfl).wide
  have HE := Lib.hid henv
  clear hna hnb hnc ha hb hc wa wb wc henv
  have H1 := Lib.hid h1
  have H2 := Lib.hid h2
  clear h1 h2
  go_enter Tryd.func6, Tryd.ntmps6
  go_upto_region 1 with fail
  go_quiet (fail)
  clear ia ib ic ja jb jc
  have LV := Lib.hid (LV0.out.below (bel_drewN nq (Below.refl _ _)))
  have BV := Lib.hid (bel_drewN nq (Below.refl w.heap.size w))
  clear LV0
  generalize w.drewN nq = w0 at *
  go_wp2_with fail
  refine (cUnion (LV.out.nth 0 rfl) (LV.out.nth 1 rfl) (by decide)).mono ?_
  rintro e w1 ⟨v1, R1, rfl, hr1, hs1, hb1⟩
  obtain ⟨A1, c1, rfl, _⟩ := hs1.at_
  have LV1 := Lib.hid ((LV.out.below hb1).cons hs1)
  have BV1 := Lib.hid (BV.out.trans (hb1.mono BV.out.size))
  have Hhr1 := Lib.hid hr1
  clear hb1 hs1 hr1
  go_wp2_with fail
  refine (cMeet (LV1.out.nth 1 rfl) (LV1.out.nth 2 rfl) (by decide)).mono ?_
  rintro e w2 ⟨v2, R2, rfl, hr2, hs2, hb2⟩
  obtain ⟨A2, c2, rfl, _⟩ := hs2.at_
  have LV2 := Lib.hid ((LV1.out.below hb2).cons hs2)
  have BV2 := Lib.hid (BV1.out.trans (hb2.mono BV1.out.size))
  have Hhr2 := Lib.hid hr2
  clear hb2 hs2 hr2
  have HSA := Lib.hid (Iset.size_or_and (LV2.out.nth 2 rfl).wide (LV2.out.nth 3 rfl).wide Hhr1.out Hhr2.out (LV2.out.nth 1 rfl).wide (LV2.out.nth 0 rfl).wide)
  obtain ⟨x, hx⟩ : ∃ x, Iset.size (a.take 40) = x := ⟨_, rfl⟩
  have bdx := Iset.size_bd (a.take 40) (LV2.out.nth 2 rfl).wide
  rw [hx] at bdx
  obtain ⟨bdx1, bdx2⟩ := bdx
  obtain ⟨y, hy⟩ : ∃ y, Iset.size (b.take 40) = y := ⟨_, rfl⟩
  have bdy := Iset.size_bd (b.take 40) (LV2.out.nth 3 rfl).wide
  rw [hy] at bdy
  obtain ⟨bdy1, bdy2⟩ := bdy
  obtain ⟨p, hp⟩ : ∃ p, Iset.size R1 = p := ⟨_, rfl⟩
  have bdp := Iset.size_bd R1 (LV2.out.nth 1 rfl).wide
  rw [hp] at bdp
  obtain ⟨bdp1, bdp2⟩ := bdp
  obtain ⟨z, hz⟩ : ∃ z, Iset.size R2 = z := ⟨_, rfl⟩
  have bdz := Iset.size_bd R2 (LV2.out.nth 0 rfl).wide
  rw [hz] at bdz
  obtain ⟨bdz1, bdz2⟩ := bdz
  have hsum := HSA.out
  rw [hx, hy, hp, hz] at hsum
  have hsq : (p + z == x + y) = true := by simpa using hsum
  have hle : y ≤ x := by have := Iset.covers_size (LV2.out.nth 2 rfl).wide (LV2.out.nth 3 rfl).wide H1.out; rw [hx, hy] at this; exact this
  have hle2 : ¬ x < y := by omega
  have hle3 : decide (x < y) = false := by simpa using hle2
  have heq : (x == y) = true := by have := Iset.covers_size (LV2.out.nth 3 rfl).wide (LV2.out.nth 2 rfl).wide H2.out; rw [hx, hy] at this; rw [beq_iff_eq]; omega
  have HX := Lib.hid hx
  have HY := Lib.hid hy
  have HPs := Lib.hid hp
  have HZs := Lib.hid hz
  have HSQ := Lib.hid hsq
  clear hx hy hp hz hsum hsq HSA
  have HEQ := Lib.hid heq
  have HL3 := Lib.hid hle3
  have HL2 := Lib.hid hle2
  clear heq hle hle2 hle3
  go_wp2_with fail
  refine (cCoversYes (LV2.out.nth 2 rfl) (LV2.out.nth 3 rfl) (by decide) (H1.out)).mono ?_
  rintro e w3 ⟨rfl, hb3⟩
  have LV3 := Lib.hid ((LV2.out.below hb3))
  have BV3 := Lib.hid (BV2.out.trans (hb3.mono BV2.out.size))
  clear hb3
  go_wp2_with fail
  refine (cCoversYes (LV3.out.nth 3 rfl) (LV3.out.nth 2 rfl) (by decide) (H2.out)).mono ?_
  rintro e w4 ⟨rfl, hb4⟩
  have LV4 := Lib.hid ((LV3.out.below hb4))
  have BV4 := Lib.hid (BV3.out.trans (hb4.mono BV3.out.size))
  clear hb4
  go_wp2_with fail
  refine (cCoversYes (LV4.out.nth 1 rfl) (LV4.out.nth 2 rfl) (by decide) (Iset.or_covers Hhr1.out)).mono ?_
  rintro e w5 ⟨rfl, hb5⟩
  have LV5 := Lib.hid ((LV4.out.below hb5))
  have BV5 := Lib.hid (BV4.out.trans (hb5.mono BV4.out.size))
  clear hb5
  go_wp2_with fail
  refine (cCoversYes (LV5.out.nth 2 rfl) (LV5.out.nth 0 rfl) (by decide) (Iset.covers_and Hhr2.out)).mono ?_
  rintro e w6 ⟨rfl, hb6⟩
  have LV6 := Lib.hid ((LV5.out.below hb6))
  have BV6 := Lib.hid (BV5.out.trans (hb6.mono BV5.out.size))
  clear hb6
  go_wp2_with fail
  refine (cCoversYes (LV6.out.nth 2 rfl) (SetAt.nil _) (by decide) (Iset.covers_none _)).mono ?_
  rintro e w7 ⟨rfl, hb7⟩
  have LV7 := Lib.hid ((LV6.out.below hb7))
  have BV7 := Lib.hid (BV6.out.trans (hb7.mono BV6.out.size))
  clear hb7
  go_wp2_with fail
  refine (cSameYes (LV7.out.nth 2 rfl) (LV7.out.nth 3 rfl) (by decide) ((Iset.same_iff _ _).2 ⟨H1.out, H2.out⟩)).mono ?_
  rintro e w8 ⟨rfl, hb8⟩
  have LV8 := Lib.hid ((LV7.out.below hb8))
  have BV8 := Lib.hid (BV7.out.trans (hb8.mono BV7.out.size))
  clear hb8
  go_wp2_with fail
  refine (cSameYes (LV8.out.nth 1 rfl) (LV8.out.nth 2 rfl) (by decide) ((Iset.or_same Hhr1.out).2 H1.out)).mono ?_
  rintro e w9 ⟨rfl, hb9⟩
  have LV9 := Lib.hid ((LV8.out.below hb9))
  have BV9 := Lib.hid (BV8.out.trans (hb9.mono BV8.out.size))
  clear hb9
  go_wp2_with fail
  refine (cSameYes (LV9.out.nth 0 rfl) (LV9.out.nth 3 rfl) (by decide) ((Iset.and_same Hhr2.out).2 H1.out)).mono ?_
  rintro e w10 ⟨rfl, hb10⟩
  have LV10 := Lib.hid ((LV9.out.below hb10))
  have BV10 := Lib.hid (BV9.out.trans (hb10.mono BV9.out.size))
  clear hb10
  by_cases hcov : Iset.covers (b.take 40) (c.take 40)
  · have H3 := Lib.hid hcov
    clear hcov
    go_wp2_with fail
    refine (cCoversYes (LV10.out.nth 3 rfl) (LV10.out.nth 4 rfl) (by decide) (H3.out)).mono ?_
    rintro e w11 ⟨rfl, hb11⟩
    have LV11 := Lib.hid ((LV10.out.below hb11))
    have BV11 := Lib.hid (BV10.out.trans (hb11.mono BV10.out.size))
    clear hb11
    go_wp2_with fail
    refine (cCoversYes (LV11.out.nth 2 rfl) (LV11.out.nth 4 rfl) (by decide) (Iset.covers_trans H1.out H3.out)).mono ?_
    rintro e w12 ⟨rfl, hb12⟩
    have LV12 := Lib.hid ((LV11.out.below hb12))
    have BV12 := Lib.hid (BV11.out.trans (hb12.mono BV11.out.size))
    clear hb12
    go_wp2_with fail
    refine (cOf (LV12.out.nth 2 rfl) (by decide)).mono ?_
    rintro e w13 ⟨v13, rfl, hs13, hb13⟩
    obtain ⟨A13, c13, rfl, _⟩ := hs13.at_
    have LV13 := Lib.hid ((LV12.out.below hb13).cons hs13)
    have BV13 := Lib.hid (BV12.out.trans (hb13.mono BV12.out.size))
    clear hb13 hs13
    go_wp2_with fail
    refine (cCoversYes (LV13.out.nth 0 rfl) (LV13.out.nth 3 rfl) (by decide) (Iset.of_covers _)).mono ?_
    rintro e w14 ⟨rfl, hb14⟩
    have LV14 := Lib.hid ((LV13.out.below hb14))
    have BV14 := Lib.hid (BV13.out.trans (hb14.mono BV13.out.size))
    clear hb14
    go_wp2_with fail
    refine (cOf (LV14.out.nth 3 rfl) (by decide)).mono ?_
    rintro e w15 ⟨v15, rfl, hs15, hb15⟩
    obtain ⟨A15, c15, rfl, _⟩ := hs15.at_
    have LV15 := Lib.hid ((LV14.out.below hb15).cons hs15)
    have BV15 := Lib.hid (BV14.out.trans (hb15.mono BV14.out.size))
    clear hb15 hs15
    go_wp2_with fail
    refine (cCoversYes (LV15.out.nth 4 rfl) (LV15.out.nth 0 rfl) (by decide) (Iset.covers_of _)).mono ?_
    rintro e w16 ⟨rfl, hb16⟩
    have LV16 := Lib.hid ((LV15.out.below hb16))
    have BV16 := Lib.hid (BV15.out.trans (hb16.mono BV15.out.size))
    clear hb16
    have hle3 := HL3.out
    have hle2 := HL2.out
    have heq := HEQ.out
    go_wp2_with fail
    refine (cSizeAs (LV16.out.nth 4 rfl) (by decide) x (HX.out)).mono ?_
    rintro e w17 ⟨rfl, hb17⟩
    have LV17 := Lib.hid ((LV16.out.below hb17))
    have BV17 := Lib.hid (BV16.out.trans (hb17.mono BV16.out.size))
    clear hb17
    go_wp2_with fail
    refine (cSizeAs (LV17.out.nth 5 rfl) (by decide) y (HY.out)).mono ?_
    rintro e w18 ⟨rfl, hb18⟩
    have LV18 := Lib.hid ((LV17.out.below hb18))
    have BV18 := Lib.hid (BV17.out.trans (hb18.mono BV17.out.size))
    clear hb18
    go_wp2_with fail
    refine (cSizeAs (LV18.out.nth 4 rfl) (by decide) x (HX.out)).mono ?_
    rintro e w19 ⟨rfl, hb19⟩
    have LV19 := Lib.hid ((LV18.out.below hb19))
    have BV19 := Lib.hid (BV18.out.trans (hb19.mono BV18.out.size))
    clear hb19
    go_wp2_with fail
    refine (cSizeAs (LV19.out.nth 5 rfl) (by decide) y (HY.out)).mono ?_
    rintro e w20 ⟨rfl, hb20⟩
    have LV20 := Lib.hid ((LV19.out.below hb20))
    have BV20 := Lib.hid (BV19.out.trans (hb20.mono BV19.out.size))
    clear hb20
    go_wp2_with fail
    refine (cSizeAs (LV20.out.nth 3 rfl) (by decide) p (HPs.out)).mono ?_
    rintro e w21 ⟨rfl, hb21⟩
    have LV21 := Lib.hid ((LV20.out.below hb21))
    have BV21 := Lib.hid (BV20.out.trans (hb21.mono BV20.out.size))
    clear hb21
    go_wp2_with fail
    refine (cSizeAs (LV21.out.nth 2 rfl) (by decide) z (HZs.out)).mono ?_
    rintro e w22 ⟨rfl, hb22⟩
    have LV22 := Lib.hid ((LV21.out.below hb22))
    have BV22 := Lib.hid (BV21.out.trans (hb22.mono BV21.out.size))
    clear hb22
    go_wp2_with fail
    refine (cSizeAs (LV22.out.nth 4 rfl) (by decide) x (HX.out)).mono ?_
    rintro e w23 ⟨rfl, hb23⟩
    have LV23 := Lib.hid ((LV22.out.below hb23))
    have BV23 := Lib.hid (BV22.out.trans (hb23.mono BV22.out.size))
    clear hb23
    go_wp2_with fail
    refine (cSizeAs (LV23.out.nth 5 rfl) (by decide) y (HY.out)).mono ?_
    rintro e w24 ⟨rfl, hb24⟩
    have LV24 := Lib.hid ((LV23.out.below hb24))
    have BV24 := Lib.hid (BV23.out.trans (hb24.mono BV23.out.size))
    clear hb24
    clear hle3 hle2 heq
    have hsq := HSQ.out
    go_wp2_with fail
    refine (cSizeAs (LV24.out.nth 4 rfl) (by decide) x (HX.out)).mono ?_
    rintro e w25 ⟨rfl, hb25⟩
    have LV25 := Lib.hid ((LV24.out.below hb25))
    have BV25 := Lib.hid (BV24.out.trans (hb25.mono BV24.out.size))
    clear hb25
    go_wp2_with fail
    refine (cNot (LV25.out.nth 4 rfl) (by decide)).mono ?_
    rintro e w26 ⟨v26, R26, rfl, hr26, hs26, hb26⟩
    obtain ⟨A26, c26, rfl, _⟩ := hs26.at_
    have LV26 := Lib.hid ((LV25.out.below hb26).cons hs26)
    have BV26 := Lib.hid (BV25.out.trans (hb26.mono BV25.out.size))
    have Hhr26 := Lib.hid hr26
    clear hb26 hs26 hr26
    have hnn := Iset.not_size HWa.out (LV26.out.nth 0 rfl).wide Hhr26.out
    obtain ⟨n, hn⟩ : ∃ n, Iset.size R26 = n := ⟨_, rfl⟩
    have bn := Iset.size_bd R26 (LV26.out.nth 0 rfl).wide
    rw [hn] at bn
    obtain ⟨bn1, bn2⟩ := bn
    rw [HX.out, hn] at hnn
    have hnq : (x + n == 1099511627776) = true := by simpa using hnn
    have HN := Lib.hid hn
    clear hn hnn
    go_wp2_with fail
    refine (cSizeAs (LV26.out.nth 0 rfl) (by decide) n (HN.out)).mono ?_
    rintro e w27 ⟨rfl, hb27⟩
    have LV27 := Lib.hid ((LV26.out.below hb27))
    have BV27 := Lib.hid (BV26.out.trans (hb27.mono BV26.out.size))
    clear hb27
    go_wp2_with fail
    refine (wakes_any _ (HE.out.below BV27.out)).mono ?_
    rintro e w28 ⟨rfl, hb28⟩
    have LV28 := Lib.hid ((LV27.out.below hb28))
    have BV28 := Lib.hid (BV27.out.trans (hb28.mono BV27.out.size))
    clear hb28
    go_wp2
    go_ret
    exact ⟨rfl, BV28.out⟩
  · have H3 := Lib.hid hcov
    clear hcov
    go_wp2_with fail
    refine (cCoversNo (LV10.out.nth 3 rfl) (LV10.out.nth 4 rfl) (by decide) (H3.out)).mono ?_
    rintro e w11 ⟨rfl, hb11⟩
    have LV11 := Lib.hid ((LV10.out.below hb11))
    have BV11 := Lib.hid (BV10.out.trans (hb11.mono BV10.out.size))
    clear hb11
    go_wp2_with fail
    refine (cOf (LV11.out.nth 2 rfl) (by decide)).mono ?_
    rintro e w12 ⟨v12, rfl, hs12, hb12⟩
    obtain ⟨A12, c12, rfl, _⟩ := hs12.at_
    have LV12 := Lib.hid ((LV11.out.below hb12).cons hs12)
    have BV12 := Lib.hid (BV11.out.trans (hb12.mono BV11.out.size))
    clear hb12 hs12
    go_wp2_with fail
    refine (cCoversYes (LV12.out.nth 0 rfl) (LV12.out.nth 3 rfl) (by decide) (Iset.of_covers _)).mono ?_
    rintro e w13 ⟨rfl, hb13⟩
    have LV13 := Lib.hid ((LV12.out.below hb13))
    have BV13 := Lib.hid (BV12.out.trans (hb13.mono BV12.out.size))
    clear hb13
    go_wp2_with fail
    refine (cOf (LV13.out.nth 3 rfl) (by decide)).mono ?_
    rintro e w14 ⟨v14, rfl, hs14, hb14⟩
    obtain ⟨A14, c14, rfl, _⟩ := hs14.at_
    have LV14 := Lib.hid ((LV13.out.below hb14).cons hs14)
    have BV14 := Lib.hid (BV13.out.trans (hb14.mono BV13.out.size))
    clear hb14 hs14
    go_wp2_with fail
    refine (cCoversYes (LV14.out.nth 4 rfl) (LV14.out.nth 0 rfl) (by decide) (Iset.covers_of _)).mono ?_
    rintro e w15 ⟨rfl, hb15⟩
    have LV15 := Lib.hid ((LV14.out.below hb15))
    have BV15 := Lib.hid (BV14.out.trans (hb15.mono BV14.out.size))
    clear hb15
    have hle3 := HL3.out
    have hle2 := HL2.out
    have heq := HEQ.out
    go_wp2_with fail
    refine (cSizeAs (LV15.out.nth 4 rfl) (by decide) x (HX.out)).mono ?_
    rintro e w16 ⟨rfl, hb16⟩
    have LV16 := Lib.hid ((LV15.out.below hb16))
    have BV16 := Lib.hid (BV15.out.trans (hb16.mono BV15.out.size))
    clear hb16
    go_wp2_with fail
    refine (cSizeAs (LV16.out.nth 5 rfl) (by decide) y (HY.out)).mono ?_
    rintro e w17 ⟨rfl, hb17⟩
    have LV17 := Lib.hid ((LV16.out.below hb17))
    have BV17 := Lib.hid (BV16.out.trans (hb17.mono BV16.out.size))
    clear hb17
    go_wp2_with fail
    refine (cSizeAs (LV17.out.nth 4 rfl) (by decide) x (HX.out)).mono ?_
    rintro e w18 ⟨rfl, hb18⟩
    have LV18 := Lib.hid ((LV17.out.below hb18))
    have BV18 := Lib.hid (BV17.out.trans (hb18.mono BV17.out.size))
    clear hb18
    go_wp2_with fail
    refine (cSizeAs (LV18.out.nth 5 rfl) (by decide) y (HY.out)).mono ?_
    rintro e w19 ⟨rfl, hb19⟩
    have LV19 := Lib.hid ((LV18.out.below hb19))
    have BV19 := Lib.hid (BV18.out.trans (hb19.mono BV18.out.size))
    clear hb19
    go_wp2_with fail
    refine (cSizeAs (LV19.out.nth 3 rfl) (by decide) p (HPs.out)).mono ?_
    rintro e w20 ⟨rfl, hb20⟩
    have LV20 := Lib.hid ((LV19.out.below hb20))
    have BV20 := Lib.hid (BV19.out.trans (hb20.mono BV19.out.size))
    clear hb20
    go_wp2_with fail
    refine (cSizeAs (LV20.out.nth 2 rfl) (by decide) z (HZs.out)).mono ?_
    rintro e w21 ⟨rfl, hb21⟩
    have LV21 := Lib.hid ((LV20.out.below hb21))
    have BV21 := Lib.hid (BV20.out.trans (hb21.mono BV20.out.size))
    clear hb21
    go_wp2_with fail
    refine (cSizeAs (LV21.out.nth 4 rfl) (by decide) x (HX.out)).mono ?_
    rintro e w22 ⟨rfl, hb22⟩
    have LV22 := Lib.hid ((LV21.out.below hb22))
    have BV22 := Lib.hid (BV21.out.trans (hb22.mono BV21.out.size))
    clear hb22
    go_wp2_with fail
    refine (cSizeAs (LV22.out.nth 5 rfl) (by decide) y (HY.out)).mono ?_
    rintro e w23 ⟨rfl, hb23⟩
    have LV23 := Lib.hid ((LV22.out.below hb23))
    have BV23 := Lib.hid (BV22.out.trans (hb23.mono BV22.out.size))
    clear hb23
    clear hle3 hle2 heq
    have hsq := HSQ.out
    go_wp2_with fail
    refine (cSizeAs (LV23.out.nth 4 rfl) (by decide) x (HX.out)).mono ?_
    rintro e w24 ⟨rfl, hb24⟩
    have LV24 := Lib.hid ((LV23.out.below hb24))
    have BV24 := Lib.hid (BV23.out.trans (hb24.mono BV23.out.size))
    clear hb24
    go_wp2_with fail
    refine (cNot (LV24.out.nth 4 rfl) (by decide)).mono ?_
    rintro e w25 ⟨v25, R25, rfl, hr25, hs25, hb25⟩
    obtain ⟨A25, c25, rfl, _⟩ := hs25.at_
    have LV25 := Lib.hid ((LV24.out.below hb25).cons hs25)
    have BV25 := Lib.hid (BV24.out.trans (hb25.mono BV24.out.size))
    have Hhr25 := Lib.hid hr25
    clear hb25 hs25 hr25
    have hnn := Iset.not_size HWa.out (LV25.out.nth 0 rfl).wide Hhr25.out
    obtain ⟨n, hn⟩ : ∃ n, Iset.size R25 = n := ⟨_, rfl⟩
    have bn := Iset.size_bd R25 (LV25.out.nth 0 rfl).wide
    rw [hn] at bn
    obtain ⟨bn1, bn2⟩ := bn
    rw [HX.out, hn] at hnn
    have hnq : (x + n == 1099511627776) = true := by simpa using hnn
    have HN := Lib.hid hn
    clear hn hnn
    go_wp2_with fail
    refine (cSizeAs (LV25.out.nth 0 rfl) (by decide) n (HN.out)).mono ?_
    rintro e w26 ⟨rfl, hb26⟩
    have LV26 := Lib.hid ((LV25.out.below hb26))
    have BV26 := Lib.hid (BV25.out.trans (hb26.mono BV25.out.size))
    clear hb26
    go_wp2_with fail
    refine (wakes_any _ (HE.out.below BV26.out)).mono ?_
    rintro e w27 ⟨rfl, hb27⟩
    have LV27 := Lib.hid ((LV26.out.below hb27))
    have BV27 := Lib.hid (BV26.out.trans (hb27.mono BV26.out.size))
    clear hb27
    go_wp2
    go_ret
    exact ⟨rfl, BV27.out⟩
set_option maxRecDepth 100000 in
set_option maxHeartbeats 16000000 in
theorem Order_walk_10 (A B C : Option Addr) (ca cb cc : Nat) (a b c : List (Int × Int)) (w : World) (ha : PAt w A a) (hb : PAt w B b) (hc : PAt w C c) (la : a.length ≤ ca) (lb : b.length ≤ cb) (lc : c.length ≤ cc) (wa : Wide a) (wb : Wide b) (wc : Wide c) (henv : Env w)
    (ma : a.length ≤ 140737488355328) (mb : b.length ≤ 140737488355328) (mc : c.length ≤ 140737488355328)
    (h1 : Iset.covers (a.take 40) (b.take 40)) (h2 : ¬ Iset.covers (b.take 40) (a.take 40)) :
    Calls Tryd.prog 6 #[.slice A a.length ca, .slice B b.length cb, .slice C c.length cc] w fun e w' => e = .returned (.bool true) ∧ Below w.heap.size w w' := by
  obtain ⟨na, hna⟩ : ∃ n : Nat, min a.length 40 = n := ⟨_, rfl⟩
  obtain ⟨nb, hnb⟩ : ∃ n : Nat, min b.length 40 = n := ⟨_, rfl⟩
  obtain ⟨nc, hnc⟩ : ∃ n : Nat, min c.length 40 = n := ⟨_, rfl⟩
  have ia : min (a.length : Int) 40 = (na : Int) := by omega
  have ib : min (b.length : Int) 40 = (nb : Int) := by omega
  have ic : min (c.length : Int) 40 = (nc : Int) := by omega
  have ja : na ≤ ca := by omega
  have jb : nb ≤ cb := by omega
  have jc : nc ≤ cc := by omega
  have LV0 := Lib.hid ((((Live.nil w).cons (SetAt.cut (c := cc) hc wc hnc)).cons (SetAt.cut (c := cb) hb wb hnb)).cons (SetAt.cut (c := ca) ha wa hna))
  have HWa := Lib.hid (LV0.out.nth 0 rfl).wide
  have HE := Lib.hid henv
  clear hna hnb hnc ha hb hc wa wb wc henv
  have H1 := Lib.hid h1
  have H2 := Lib.hid h2
  clear h1 h2
  go_enter Tryd.func6, Tryd.ntmps6
  go_upto_region 1 with fail
  go_quiet (fail)
  clear ia ib ic ja jb jc
  have LV := Lib.hid (LV0.out.below (bel_drewN nq (Below.refl _ _)))
  have BV := Lib.hid (bel_drewN nq (Below.refl w.heap.size w))
  clear LV0
  generalize w.drewN nq = w0 at *
  go_wp2_with fail
  refine (cUnion (LV.out.nth 0 rfl) (LV.out.nth 1 rfl) (by decide)).mono ?_
  rintro e w1 ⟨v1, R1, rfl, hr1, hs1, hb1⟩
  obtain ⟨A1, c1, rfl, _⟩ := hs1.at_
  have LV1 := Lib.hid ((LV.out.below hb1).cons hs1)
  have BV1 := Lib.hid (BV.out.trans (hb1.mono BV.out.size))
  have Hhr1 := Lib.hid hr1
  clear hb1 hs1 hr1
  go_wp2_with fail
  refine (cMeet (LV1.out.nth 1 rfl) (LV1.out.nth 2 rfl) (by decide)).mono ?_
  rintro e w2 ⟨v2, R2, rfl, hr2, hs2, hb2⟩
  obtain ⟨A2, c2, rfl, _⟩ := hs2.at_
  have LV2 := Lib.hid ((LV1.out.below hb2).cons hs2)
  have BV2 := Lib.hid (BV1.out.trans (hb2.mono BV1.out.size))
  have Hhr2 := Lib.hid hr2
  clear hb2 hs2 hr2
  have HSA := Lib.hid (Iset.size_or_and (LV2.out.nth 2 rfl).wide (LV2.out.nth 3 rfl).wide Hhr1.out Hhr2.out (LV2.out.nth 1 rfl).wide (LV2.out.nth 0 rfl).wide)
  obtain ⟨x, hx⟩ : ∃ x, Iset.size (a.take 40) = x := ⟨_, rfl⟩
  have bdx := Iset.size_bd (a.take 40) (LV2.out.nth 2 rfl).wide
  rw [hx] at bdx
  obtain ⟨bdx1, bdx2⟩ := bdx
  obtain ⟨y, hy⟩ : ∃ y, Iset.size (b.take 40) = y := ⟨_, rfl⟩
  have bdy := Iset.size_bd (b.take 40) (LV2.out.nth 3 rfl).wide
  rw [hy] at bdy
  obtain ⟨bdy1, bdy2⟩ := bdy
  obtain ⟨p, hp⟩ : ∃ p, Iset.size R1 = p := ⟨_, rfl⟩
  have bdp := Iset.size_bd R1 (LV2.out.nth 1 rfl).wide
  rw [hp] at bdp
  obtain ⟨bdp1, bdp2⟩ := bdp
  obtain ⟨z, hz⟩ : ∃ z, Iset.size R2 = z := ⟨_, rfl⟩
  have bdz := Iset.size_bd R2 (LV2.out.nth 0 rfl).wide
  rw [hz] at bdz
  obtain ⟨bdz1, bdz2⟩ := bdz
  have hsum := HSA.out
  rw [hx, hy, hp, hz] at hsum
  have hsq : (p + z == x + y) = true := by simpa using hsum
  have hle : y ≤ x := by have := Iset.covers_size (LV2.out.nth 2 rfl).wide (LV2.out.nth 3 rfl).wide H1.out; rw [hx, hy] at this; exact this
  have hle2 : ¬ x < y := by omega
  have hle3 : decide (x < y) = false := by simpa using hle2
  have heq : (x == y) = false := by
    rw [beq_eq_false_iff_ne]
    intro e
    exact H2.out (Iset.covers_size_eq (LV2.out.nth 2 rfl).wide (LV2.out.nth 3 rfl).wide H1.out (by rw [hx, hy, e]))
  have HX := Lib.hid hx
  have HY := Lib.hid hy
  have HPs := Lib.hid hp
  have HZs := Lib.hid hz
  have HSQ := Lib.hid hsq
  clear hx hy hp hz hsum hsq HSA
  have HEQ := Lib.hid heq
  have HL3 := Lib.hid hle3
  have HL2 := Lib.hid hle2
  clear heq hle hle2 hle3
  go_wp2_with fail
  refine (cCoversYes (LV2.out.nth 2 rfl) (LV2.out.nth 3 rfl) (by decide) (H1.out)).mono ?_
  rintro e w3 ⟨rfl, hb3⟩
  have LV3 := Lib.hid ((LV2.out.below hb3))
  have BV3 := Lib.hid (BV2.out.trans (hb3.mono BV2.out.size))
  clear hb3
  go_wp2_with fail
  refine (cCoversNo (LV3.out.nth 3 rfl) (LV3.out.nth 2 rfl) (by decide) (H2.out)).mono ?_
  rintro e w4 ⟨rfl, hb4⟩
  have LV4 := Lib.hid ((LV3.out.below hb4))
  have BV4 := Lib.hid (BV3.out.trans (hb4.mono BV3.out.size))
  clear hb4
  go_wp2_with fail
  refine (cCoversYes (LV4.out.nth 1 rfl) (LV4.out.nth 2 rfl) (by decide) (Iset.or_covers Hhr1.out)).mono ?_
  rintro e w5 ⟨rfl, hb5⟩
  have LV5 := Lib.hid ((LV4.out.below hb5))
  have BV5 := Lib.hid (BV4.out.trans (hb5.mono BV4.out.size))
  clear hb5
  go_wp2_with fail
  refine (cCoversYes (LV5.out.nth 2 rfl) (LV5.out.nth 0 rfl) (by decide) (Iset.covers_and Hhr2.out)).mono ?_
  rintro e w6 ⟨rfl, hb6⟩
  have LV6 := Lib.hid ((LV5.out.below hb6))
  have BV6 := Lib.hid (BV5.out.trans (hb6.mono BV5.out.size))
  clear hb6
  go_wp2_with fail
  refine (cCoversYes (LV6.out.nth 2 rfl) (SetAt.nil _) (by decide) (Iset.covers_none _)).mono ?_
  rintro e w7 ⟨rfl, hb7⟩
  have LV7 := Lib.hid ((LV6.out.below hb7))
  have BV7 := Lib.hid (BV6.out.trans (hb7.mono BV6.out.size))
  clear hb7
  go_wp2_with fail
  refine (cSameNo (LV7.out.nth 2 rfl) (LV7.out.nth 3 rfl) (by decide) (fun h => H2.out ((Iset.same_iff _ _).1 h).2)).mono ?_
  rintro e w8 ⟨rfl, hb8⟩
  have LV8 := Lib.hid ((LV7.out.below hb8))
  have BV8 := Lib.hid (BV7.out.trans (hb8.mono BV7.out.size))
  clear hb8
  go_wp2_with fail
  refine (cSameYes (LV8.out.nth 1 rfl) (LV8.out.nth 2 rfl) (by decide) ((Iset.or_same Hhr1.out).2 H1.out)).mono ?_
  rintro e w9 ⟨rfl, hb9⟩
  have LV9 := Lib.hid ((LV8.out.below hb9))
  have BV9 := Lib.hid (BV8.out.trans (hb9.mono BV8.out.size))
  clear hb9
  go_wp2_with fail
  refine (cSameYes (LV9.out.nth 0 rfl) (LV9.out.nth 3 rfl) (by decide) ((Iset.and_same Hhr2.out).2 H1.out)).mono ?_
  rintro e w10 ⟨rfl, hb10⟩
  have LV10 := Lib.hid ((LV9.out.below hb10))
  have BV10 := Lib.hid (BV9.out.trans (hb10.mono BV9.out.size))
  clear hb10
  by_cases hcov : Iset.covers (b.take 40) (c.take 40)
  · have H3 := Lib.hid hcov
    clear hcov
    go_wp2_with fail
    refine (cCoversYes (LV10.out.nth 3 rfl) (LV10.out.nth 4 rfl) (by decide) (H3.out)).mono ?_
    rintro e w11 ⟨rfl, hb11⟩
    have LV11 := Lib.hid ((LV10.out.below hb11))
    have BV11 := Lib.hid (BV10.out.trans (hb11.mono BV10.out.size))
    clear hb11
    go_wp2_with fail
    refine (cCoversYes (LV11.out.nth 2 rfl) (LV11.out.nth 4 rfl) (by decide) (Iset.covers_trans H1.out H3.out)).mono ?_
    rintro e w12 ⟨rfl, hb12⟩
    have LV12 := Lib.hid ((LV11.out.below hb12))
    have BV12 := Lib.hid (BV11.out.trans (hb12.mono BV11.out.size))
    clear hb12
    go_wp2_with fail
    refine (cOf (LV12.out.nth 2 rfl) (by decide)).mono ?_
    rintro e w13 ⟨v13, rfl, hs13, hb13⟩
    obtain ⟨A13, c13, rfl, _⟩ := hs13.at_
    have LV13 := Lib.hid ((LV12.out.below hb13).cons hs13)
    have BV13 := Lib.hid (BV12.out.trans (hb13.mono BV12.out.size))
    clear hb13 hs13
    go_wp2_with fail
    refine (cCoversYes (LV13.out.nth 0 rfl) (LV13.out.nth 3 rfl) (by decide) (Iset.of_covers _)).mono ?_
    rintro e w14 ⟨rfl, hb14⟩
    have LV14 := Lib.hid ((LV13.out.below hb14))
    have BV14 := Lib.hid (BV13.out.trans (hb14.mono BV13.out.size))
    clear hb14
    go_wp2_with fail
    refine (cOf (LV14.out.nth 3 rfl) (by decide)).mono ?_
    rintro e w15 ⟨v15, rfl, hs15, hb15⟩
    obtain ⟨A15, c15, rfl, _⟩ := hs15.at_
    have LV15 := Lib.hid ((LV14.out.below hb15).cons hs15)
    have BV15 := Lib.hid (BV14.out.trans (hb15.mono BV14.out.size))
    clear hb15 hs15
    go_wp2_with fail
    refine (cCoversYes (LV15.out.nth 4 rfl) (LV15.out.nth 0 rfl) (by decide) (Iset.covers_of _)).mono ?_
    rintro e w16 ⟨rfl, hb16⟩
    have LV16 := Lib.hid ((LV15.out.below hb16))
    have BV16 := Lib.hid (BV15.out.trans (hb16.mono BV15.out.size))
    clear hb16
    have hle3 := HL3.out
    have hle2 := HL2.out
    have heq := HEQ.out
    go_wp2_with fail
    refine (cSizeAs (LV16.out.nth 4 rfl) (by decide) x (HX.out)).mono ?_
    rintro e w17 ⟨rfl, hb17⟩
    have LV17 := Lib.hid ((LV16.out.below hb17))
    have BV17 := Lib.hid (BV16.out.trans (hb17.mono BV16.out.size))
    clear hb17
    go_wp2_with fail
    refine (cSizeAs (LV17.out.nth 5 rfl) (by decide) y (HY.out)).mono ?_
    rintro e w18 ⟨rfl, hb18⟩
    have LV18 := Lib.hid ((LV17.out.below hb18))
    have BV18 := Lib.hid (BV17.out.trans (hb18.mono BV17.out.size))
    clear hb18
    go_wp2_with fail
    refine (cSizeAs (LV18.out.nth 4 rfl) (by decide) x (HX.out)).mono ?_
    rintro e w19 ⟨rfl, hb19⟩
    have LV19 := Lib.hid ((LV18.out.below hb19))
    have BV19 := Lib.hid (BV18.out.trans (hb19.mono BV18.out.size))
    clear hb19
    go_wp2_with fail
    refine (cSizeAs (LV19.out.nth 5 rfl) (by decide) y (HY.out)).mono ?_
    rintro e w20 ⟨rfl, hb20⟩
    have LV20 := Lib.hid ((LV19.out.below hb20))
    have BV20 := Lib.hid (BV19.out.trans (hb20.mono BV19.out.size))
    clear hb20
    go_wp2_with fail
    refine (cSizeAs (LV20.out.nth 3 rfl) (by decide) p (HPs.out)).mono ?_
    rintro e w21 ⟨rfl, hb21⟩
    have LV21 := Lib.hid ((LV20.out.below hb21))
    have BV21 := Lib.hid (BV20.out.trans (hb21.mono BV20.out.size))
    clear hb21
    go_wp2_with fail
    refine (cSizeAs (LV21.out.nth 2 rfl) (by decide) z (HZs.out)).mono ?_
    rintro e w22 ⟨rfl, hb22⟩
    have LV22 := Lib.hid ((LV21.out.below hb22))
    have BV22 := Lib.hid (BV21.out.trans (hb22.mono BV21.out.size))
    clear hb22
    go_wp2_with fail
    refine (cSizeAs (LV22.out.nth 4 rfl) (by decide) x (HX.out)).mono ?_
    rintro e w23 ⟨rfl, hb23⟩
    have LV23 := Lib.hid ((LV22.out.below hb23))
    have BV23 := Lib.hid (BV22.out.trans (hb23.mono BV22.out.size))
    clear hb23
    go_wp2_with fail
    refine (cSizeAs (LV23.out.nth 5 rfl) (by decide) y (HY.out)).mono ?_
    rintro e w24 ⟨rfl, hb24⟩
    have LV24 := Lib.hid ((LV23.out.below hb24))
    have BV24 := Lib.hid (BV23.out.trans (hb24.mono BV23.out.size))
    clear hb24
    clear hle3 hle2 heq
    have hsq := HSQ.out
    go_wp2_with fail
    refine (cSizeAs (LV24.out.nth 4 rfl) (by decide) x (HX.out)).mono ?_
    rintro e w25 ⟨rfl, hb25⟩
    have LV25 := Lib.hid ((LV24.out.below hb25))
    have BV25 := Lib.hid (BV24.out.trans (hb25.mono BV24.out.size))
    clear hb25
    go_wp2_with fail
    refine (cNot (LV25.out.nth 4 rfl) (by decide)).mono ?_
    rintro e w26 ⟨v26, R26, rfl, hr26, hs26, hb26⟩
    obtain ⟨A26, c26, rfl, _⟩ := hs26.at_
    have LV26 := Lib.hid ((LV25.out.below hb26).cons hs26)
    have BV26 := Lib.hid (BV25.out.trans (hb26.mono BV25.out.size))
    have Hhr26 := Lib.hid hr26
    clear hb26 hs26 hr26
    have hnn := Iset.not_size HWa.out (LV26.out.nth 0 rfl).wide Hhr26.out
    obtain ⟨n, hn⟩ : ∃ n, Iset.size R26 = n := ⟨_, rfl⟩
    have bn := Iset.size_bd R26 (LV26.out.nth 0 rfl).wide
    rw [hn] at bn
    obtain ⟨bn1, bn2⟩ := bn
    rw [HX.out, hn] at hnn
    have hnq : (x + n == 1099511627776) = true := by simpa using hnn
    have HN := Lib.hid hn
    clear hn hnn
    go_wp2_with fail
    refine (cSizeAs (LV26.out.nth 0 rfl) (by decide) n (HN.out)).mono ?_
    rintro e w27 ⟨rfl, hb27⟩
    have LV27 := Lib.hid ((LV26.out.below hb27))
    have BV27 := Lib.hid (BV26.out.trans (hb27.mono BV26.out.size))
    clear hb27
    go_wp2_with fail
    refine (wakes_any _ (HE.out.below BV27.out)).mono ?_
    rintro e w28 ⟨rfl, hb28⟩
    have LV28 := Lib.hid ((LV27.out.below hb28))
    have BV28 := Lib.hid (BV27.out.trans (hb28.mono BV27.out.size))
    clear hb28
    go_wp2
    go_ret
    exact ⟨rfl, BV28.out⟩
  · have H3 := Lib.hid hcov
    clear hcov
    go_wp2_with fail
    refine (cCoversNo (LV10.out.nth 3 rfl) (LV10.out.nth 4 rfl) (by decide) (H3.out)).mono ?_
    rintro e w11 ⟨rfl, hb11⟩
    have LV11 := Lib.hid ((LV10.out.below hb11))
    have BV11 := Lib.hid (BV10.out.trans (hb11.mono BV10.out.size))
    clear hb11
    go_wp2_with fail
    refine (cOf (LV11.out.nth 2 rfl) (by decide)).mono ?_
    rintro e w12 ⟨v12, rfl, hs12, hb12⟩
    obtain ⟨A12, c12, rfl, _⟩ := hs12.at_
    have LV12 := Lib.hid ((LV11.out.below hb12).cons hs12)
    have BV12 := Lib.hid (BV11.out.trans (hb12.mono BV11.out.size))
    clear hb12 hs12
    go_wp2_with fail
    refine (cCoversYes (LV12.out.nth 0 rfl) (LV12.out.nth 3 rfl) (by decide) (Iset.of_covers _)).mono ?_
    rintro e w13 ⟨rfl, hb13⟩
    have LV13 := Lib.hid ((LV12.out.below hb13))
    have BV13 := Lib.hid (BV12.out.trans (hb13.mono BV12.out.size))
    clear hb13
    go_wp2_with fail
    refine (cOf (LV13.out.nth 3 rfl) (by decide)).mono ?_
    rintro e w14 ⟨v14, rfl, hs14, hb14⟩
    obtain ⟨A14, c14, rfl, _⟩ := hs14.at_
    have LV14 := Lib.hid ((LV13.out.below hb14).cons hs14)
    have BV14 := Lib.hid (BV13.out.trans (hb14.mono BV13.out.size))
    clear hb14 hs14
    go_wp2_with fail
    refine (cCoversYes (LV14.out.nth 4 rfl) (LV14.out.nth 0 rfl) (by decide) (Iset.covers_of _)).mono ?_
    rintro e w15 ⟨rfl, hb15⟩
    have LV15 := Lib.hid ((LV14.out.below hb15))
    have BV15 := Lib.hid (BV14.out.trans (hb15.mono BV14.out.size))
    clear hb15
    have hle3 := HL3.out
    have hle2 := HL2.out
    have heq := HEQ.out
    go_wp2_with fail
    refine (cSizeAs (LV15.out.nth 4 rfl) (by decide) x (HX.out)).mono ?_
    rintro e w16 ⟨rfl, hb16⟩
    have LV16 := Lib.hid ((LV15.out.below hb16))
    have BV16 := Lib.hid (BV15.out.trans (hb16.mono BV15.out.size))
    clear hb16
    go_wp2_with fail
    refine (cSizeAs (LV16.out.nth 5 rfl) (by decide) y (HY.out)).mono ?_
    rintro e w17 ⟨rfl, hb17⟩
    have LV17 := Lib.hid ((LV16.out.below hb17))
    have BV17 := Lib.hid (BV16.out.trans (hb17.mono BV16.out.size))
    clear hb17
    go_wp2_with fail
    refine (cSizeAs (LV17.out.nth 4 rfl) (by decide) x (HX.out)).mono ?_
    rintro e w18 ⟨rfl, hb18⟩
    have LV18 := Lib.hid ((LV17.out.below hb18))
    have BV18 := Lib.hid (BV17.out.trans (hb18.mono BV17.out.size))
    clear hb18
    go_wp2_with fail
    refine (cSizeAs (LV18.out.nth 5 rfl) (by decide) y (HY.out)).mono ?_
    rintro e w19 ⟨rfl, hb19⟩
    have LV19 := Lib.hid ((LV18.out.below hb19))
    have BV19 := Lib.hid (BV18.out.trans (hb19.mono BV18.out.size))
    clear hb19
    go_wp2_with fail
    refine (cSizeAs (LV19.out.nth 3 rfl) (by decide) p (HPs.out)).mono ?_
    rintro e w20 ⟨rfl, hb20⟩
    have LV20 := Lib.hid ((LV19.out.below hb20))
    have BV20 := Lib.hid (BV19.out.trans (hb20.mono BV19.out.size))
    clear hb20
    go_wp2_with fail
    refine (cSizeAs (LV20.out.nth 2 rfl) (by decide) z (HZs.out)).mono ?_
    rintro e w21 ⟨rfl, hb21⟩
    have LV21 := Lib.hid ((LV20.out.below hb21))
    have BV21 := Lib.hid (BV20.out.trans (hb21.mono BV20.out.size))
    clear hb21
    go_wp2_with fail
    refine (cSizeAs (LV21.out.nth 4 rfl) (by decide) x (HX.out)).mono ?_
    rintro e w22 ⟨rfl, hb22⟩
    have LV22 := Lib.hid ((LV21.out.below hb22))
    have BV22 := Lib.hid (BV21.out.trans (hb22.mono BV21.out.size))
    clear hb22
    go_wp2_with fail
    refine (cSizeAs (LV22.out.nth 5 rfl) (by decide) y (HY.out)).mono ?_
    rintro e w23 ⟨rfl, hb23⟩
    have LV23 := Lib.hid ((LV22.out.below hb23))
    have BV23 := Lib.hid (BV22.out.trans (hb23.mono BV22.out.size))
    clear hb23
    clear hle3 hle2 heq
    have hsq := HSQ.out
    go_wp2_with fail
    refine (cSizeAs (LV23.out.nth 4 rfl) (by decide) x (HX.out)).mono ?_
    rintro e w24 ⟨rfl, hb24⟩
    have LV24 := Lib.hid ((LV23.out.below hb24))
    have BV24 := Lib.hid (BV23.out.trans (hb24.mono BV23.out.size))
    clear hb24
    go_wp2_with fail
    refine (cNot (LV24.out.nth 4 rfl) (by decide)).mono ?_
    rintro e w25 ⟨v25, R25, rfl, hr25, hs25, hb25⟩
    obtain ⟨A25, c25, rfl, _⟩ := hs25.at_
    have LV25 := Lib.hid ((LV24.out.below hb25).cons hs25)
    have BV25 := Lib.hid (BV24.out.trans (hb25.mono BV24.out.size))
    have Hhr25 := Lib.hid hr25
    clear hb25 hs25 hr25
    have hnn := Iset.not_size HWa.out (LV25.out.nth 0 rfl).wide Hhr25.out
    obtain ⟨n, hn⟩ : ∃ n, Iset.size R25 = n := ⟨_, rfl⟩
    have bn := Iset.size_bd R25 (LV25.out.nth 0 rfl).wide
    rw [hn] at bn
    obtain ⟨bn1, bn2⟩ := bn
    rw [HX.out, hn] at hnn
    have hnq : (x + n == 1099511627776) = true := by simpa using hnn
    have HN := Lib.hid hn
    clear hn hnn
    go_wp2_with fail
    refine (cSizeAs (LV25.out.nth 0 rfl) (by decide) n (HN.out)).mono ?_
    rintro e w26 ⟨rfl, hb26⟩
    have LV26 := Lib.hid ((LV25.out.below hb26))
    have BV26 := Lib.hid (BV25.out.trans (hb26.mono BV25.out.size))
    clear hb26
    go_wp2_with fail
    refine (wakes_any _ (HE.out.below BV26.out)).mono ?_
    rintro e w27 ⟨rfl, hb27⟩
    have LV27 := Lib.hid ((LV26.out.below hb27))
    have BV27 := Lib.hid (BV26.out.trans (hb27.mono BV26.out.size))
    clear hb27
    go_wp2
    go_ret
    exact ⟨rfl, BV27.out⟩
set_option maxRecDepth 100000 in
set_option maxHeartbeats 16000000 in
theorem Order_walk_01 (A B C : Option Addr) (ca cb cc : Nat) (a b c : List (Int × Int)) (w : World) (ha : PAt w A a) (hb : PAt w B b) (hc : PAt w C c) (la : a.length ≤ ca) (lb : b.length ≤ cb) (lc : c.length ≤ cc) (wa : Wide a) (wb : Wide b) (wc : Wide c) (henv : Env w)
    (ma : a.length ≤ 140737488355328) (mb : b.length ≤ 140737488355328) (mc : c.length ≤ 140737488355328)
    (h1 : ¬ Iset.covers (a.take 40) (b.take 40)) (h2 : Iset.covers (b.take 40) (a.take 40)) :
    Calls Tryd.prog 6 #[.slice A a.length ca, .slice B b.length cb, .slice C c.length cc] w fun e w' => e = .returned (.bool true) ∧ Below w.heap.size w w' := by
  obtain ⟨na, hna⟩ : ∃ n : Nat, min a.length 40 = n := ⟨_, rfl⟩
  obtain ⟨nb, hnb⟩ : ∃ n : Nat, min b.length 40 = n := ⟨_, rfl⟩
  obtain ⟨nc, hnc⟩ : ∃ n : Nat, min c.length 40 = n := ⟨_, rfl⟩
  have ia : min (a.length : Int) 40 = (na : Int) := by omega
  have ib : min (b.length : Int) 40 = (nb : Int) := by omega
  have ic : min (c.length : Int) 40 = (nc : Int) := by omega
  have ja : na ≤ ca := by omega
  have jb : nb ≤ cb := by omega
  have jc : nc ≤ cc := by omega
  have LV0 := Lib.hid ((((Live.nil w).cons (SetAt.cut (c := cc) hc wc hnc)).cons (SetAt.cut (c := cb) hb wb hnb)).cons (SetAt.cut (c := ca) ha wa hna))
  have HWa := Lib.hid (LV0.out.nth 0 rfl).wide
  have HE := Lib.hid henv
  clear hna hnb hnc ha hb hc wa wb wc henv
  have H1 := Lib.hid h1
  have H2 := Lib.hid h2
  clear h1 h2
  go_enter Tryd.func6, Tryd.ntmps6
  go_upto_region 1 with fail
  go_quiet (fail)
  clear ia ib ic ja jb jc
  have LV := Lib.hid (LV0.out.below (bel_drewN nq (Below.refl _ _)))
  have BV := Lib.hid (bel_drewN nq (Below.refl w.heap.size w))
  clear LV0
  generalize w.drewN nq = w0 at *
  go_wp2_with fail
  refine (cUnion (LV.out.nth 0 rfl) (LV.out.nth 1 rfl) (by decide)).mono ?_
  rintro e w1 ⟨v1, R1, rfl, hr1, hs1, hb1⟩
  obtain ⟨A1, c1, rfl, _⟩ := hs1.at_
  have LV1 := Lib.hid ((LV.out.below hb1).cons hs1)
  have BV1 := Lib.hid (BV.out.trans (hb1.mono BV.out.size))
  have Hhr1 := Lib.hid hr1
  clear hb1 hs1 hr1
  go_wp2_with fail
  refine (cMeet (LV1.out.nth 1 rfl) (LV1.out.nth 2 rfl) (by decide)).mono ?_
  rintro e w2 ⟨v2, R2, rfl, hr2, hs2, hb2⟩
  obtain ⟨A2, c2, rfl, _⟩ := hs2.at_
  have LV2 := Lib.hid ((LV1.out.below hb2).cons hs2)
  have BV2 := Lib.hid (BV1.out.trans (hb2.mono BV1.out.size))
  have Hhr2 := Lib.hid hr2
  clear hb2 hs2 hr2
  have HSA := Lib.hid (Iset.size_or_and (LV2.out.nth 2 rfl).wide (LV2.out.nth 3 rfl).wide Hhr1.out Hhr2.out (LV2.out.nth 1 rfl).wide (LV2.out.nth 0 rfl).wide)
  obtain ⟨x, hx⟩ : ∃ x, Iset.size (a.take 40) = x := ⟨_, rfl⟩
  have bdx := Iset.size_bd (a.take 40) (LV2.out.nth 2 rfl).wide
  rw [hx] at bdx
  obtain ⟨bdx1, bdx2⟩ := bdx
  obtain ⟨y, hy⟩ : ∃ y, Iset.size (b.take 40) = y := ⟨_, rfl⟩
  have bdy := Iset.size_bd (b.take 40) (LV2.out.nth 3 rfl).wide
  rw [hy] at bdy
  obtain ⟨bdy1, bdy2⟩ := bdy
  obtain ⟨p, hp⟩ : ∃ p, Iset.size R1 = p := ⟨_, rfl⟩
  have bdp := Iset.size_bd R1 (LV2.out.nth 1 rfl).wide
  rw [hp] at bdp
  obtain ⟨bdp1, bdp2⟩ := bdp
  obtain ⟨z, hz⟩ : ∃ z, Iset.size R2 = z := ⟨_, rfl⟩
  have bdz := Iset.size_bd R2 (LV2.out.nth 0 rfl).wide
  rw [hz] at bdz
  obtain ⟨bdz1, bdz2⟩ := bdz
  have hsum := HSA.out
  rw [hx, hy, hp, hz] at hsum
  have hsq : (p + z == x + y) = true := by simpa using hsum
  have HX := Lib.hid hx
  have HY := Lib.hid hy
  have HPs := Lib.hid hp
  have HZs := Lib.hid hz
  have HSQ := Lib.hid hsq
  clear hx hy hp hz hsum hsq HSA
  go_wp2_with fail
  refine (cCoversNo (LV2.out.nth 2 rfl) (LV2.out.nth 3 rfl) (by decide) (H1.out)).mono ?_
  rintro e w3 ⟨rfl, hb3⟩
  have LV3 := Lib.hid ((LV2.out.below hb3))
  have BV3 := Lib.hid (BV2.out.trans (hb3.mono BV2.out.size))
  clear hb3
  go_wp2_with fail
  refine (cCoversYes (LV3.out.nth 3 rfl) (LV3.out.nth 2 rfl) (by decide) (H2.out)).mono ?_
  rintro e w4 ⟨rfl, hb4⟩
  have LV4 := Lib.hid ((LV3.out.below hb4))
  have BV4 := Lib.hid (BV3.out.trans (hb4.mono BV3.out.size))
  clear hb4
  go_wp2_with fail
  refine (cCoversYes (LV4.out.nth 1 rfl) (LV4.out.nth 2 rfl) (by decide) (Iset.or_covers Hhr1.out)).mono ?_
  rintro e w5 ⟨rfl, hb5⟩
  have LV5 := Lib.hid ((LV4.out.below hb5))
  have BV5 := Lib.hid (BV4.out.trans (hb5.mono BV4.out.size))
  clear hb5
  go_wp2_with fail
  refine (cCoversYes (LV5.out.nth 2 rfl) (LV5.out.nth 0 rfl) (by decide) (Iset.covers_and Hhr2.out)).mono ?_
  rintro e w6 ⟨rfl, hb6⟩
  have LV6 := Lib.hid ((LV5.out.below hb6))
  have BV6 := Lib.hid (BV5.out.trans (hb6.mono BV5.out.size))
  clear hb6
  go_wp2_with fail
  refine (cCoversYes (LV6.out.nth 2 rfl) (SetAt.nil _) (by decide) (Iset.covers_none _)).mono ?_
  rintro e w7 ⟨rfl, hb7⟩
  have LV7 := Lib.hid ((LV6.out.below hb7))
  have BV7 := Lib.hid (BV6.out.trans (hb7.mono BV6.out.size))
  clear hb7
  go_wp2_with fail
  refine (cSameNo (LV7.out.nth 2 rfl) (LV7.out.nth 3 rfl) (by decide) (fun h => H1.out ((Iset.same_iff _ _).1 h).1)).mono ?_
  rintro e w8 ⟨rfl, hb8⟩
  have LV8 := Lib.hid ((LV7.out.below hb8))
  have BV8 := Lib.hid (BV7.out.trans (hb8.mono BV7.out.size))
  clear hb8
  go_wp2_with fail
  refine (cSameNo (LV8.out.nth 1 rfl) (LV8.out.nth 2 rfl) (by decide) (fun h => H1.out ((Iset.or_same Hhr1.out).1 h))).mono ?_
  rintro e w9 ⟨rfl, hb9⟩
  have LV9 := Lib.hid ((LV8.out.below hb9))
  have BV9 := Lib.hid (BV8.out.trans (hb9.mono BV8.out.size))
  clear hb9
  go_wp2_with fail
  refine (cSameNo (LV9.out.nth 0 rfl) (LV9.out.nth 3 rfl) (by decide) (fun h => H1.out ((Iset.and_same Hhr2.out).1 h))).mono ?_
  rintro e w10 ⟨rfl, hb10⟩
  have LV10 := Lib.hid ((LV9.out.below hb10))
  have BV10 := Lib.hid (BV9.out.trans (hb10.mono BV9.out.size))
  clear hb10
  go_wp2_with fail
  refine (cOf (LV10.out.nth 2 rfl) (by decide)).mono ?_
  rintro e w11 ⟨v11, rfl, hs11, hb11⟩
  obtain ⟨A11, c11, rfl, _⟩ := hs11.at_
  have LV11 := Lib.hid ((LV10.out.below hb11).cons hs11)
  have BV11 := Lib.hid (BV10.out.trans (hb11.mono BV10.out.size))
  clear hb11 hs11
  go_wp2_with fail
  refine (cCoversYes (LV11.out.nth 0 rfl) (LV11.out.nth 3 rfl) (by decide) (Iset.of_covers _)).mono ?_
  rintro e w12 ⟨rfl, hb12⟩
  have LV12 := Lib.hid ((LV11.out.below hb12))
  have BV12 := Lib.hid (BV11.out.trans (hb12.mono BV11.out.size))
  clear hb12
  go_wp2_with fail
  refine (cOf (LV12.out.nth 3 rfl) (by decide)).mono ?_
  rintro e w13 ⟨v13, rfl, hs13, hb13⟩
  obtain ⟨A13, c13, rfl, _⟩ := hs13.at_
  have LV13 := Lib.hid ((LV12.out.below hb13).cons hs13)
  have BV13 := Lib.hid (BV12.out.trans (hb13.mono BV12.out.size))
  clear hb13 hs13
  go_wp2_with fail
  refine (cCoversYes (LV13.out.nth 4 rfl) (LV13.out.nth 0 rfl) (by decide) (Iset.covers_of _)).mono ?_
  rintro e w14 ⟨rfl, hb14⟩
  have LV14 := Lib.hid ((LV13.out.below hb14))
  have BV14 := Lib.hid (BV13.out.trans (hb14.mono BV13.out.size))
  clear hb14
  go_wp2_with fail
  refine (cSizeAs (LV14.out.nth 3 rfl) (by decide) p (HPs.out)).mono ?_
  rintro e w15 ⟨rfl, hb15⟩
  have LV15 := Lib.hid ((LV14.out.below hb15))
  have BV15 := Lib.hid (BV14.out.trans (hb15.mono BV14.out.size))
  clear hb15
  go_wp2_with fail
  refine (cSizeAs (LV15.out.nth 2 rfl) (by decide) z (HZs.out)).mono ?_
  rintro e w16 ⟨rfl, hb16⟩
  have LV16 := Lib.hid ((LV15.out.below hb16))
  have BV16 := Lib.hid (BV15.out.trans (hb16.mono BV15.out.size))
  clear hb16
  go_wp2_with fail
  refine (cSizeAs (LV16.out.nth 4 rfl) (by decide) x (HX.out)).mono ?_
  rintro e w17 ⟨rfl, hb17⟩
  have LV17 := Lib.hid ((LV16.out.below hb17))
  have BV17 := Lib.hid (BV16.out.trans (hb17.mono BV16.out.size))
  clear hb17
  go_wp2_with fail
  refine (cSizeAs (LV17.out.nth 5 rfl) (by decide) y (HY.out)).mono ?_
  rintro e w18 ⟨rfl, hb18⟩
  have LV18 := Lib.hid ((LV17.out.below hb18))
  have BV18 := Lib.hid (BV17.out.trans (hb18.mono BV17.out.size))
  clear hb18
  have hsq := HSQ.out
  go_wp2_with fail
  refine (cSizeAs (LV18.out.nth 4 rfl) (by decide) x (HX.out)).mono ?_
  rintro e w19 ⟨rfl, hb19⟩
  have LV19 := Lib.hid ((LV18.out.below hb19))
  have BV19 := Lib.hid (BV18.out.trans (hb19.mono BV18.out.size))
  clear hb19
  go_wp2_with fail
  refine (cNot (LV19.out.nth 4 rfl) (by decide)).mono ?_
  rintro e w20 ⟨v20, R20, rfl, hr20, hs20, hb20⟩
  obtain ⟨A20, c20, rfl, _⟩ := hs20.at_
  have LV20 := Lib.hid ((LV19.out.below hb20).cons hs20)
  have BV20 := Lib.hid (BV19.out.trans (hb20.mono BV19.out.size))
  have Hhr20 := Lib.hid hr20
  clear hb20 hs20 hr20
  have hnn := Iset.not_size HWa.out (LV20.out.nth 0 rfl).wide Hhr20.out
  obtain ⟨n, hn⟩ : ∃ n, Iset.size R20 = n := ⟨_, rfl⟩
  have bn := Iset.size_bd R20 (LV20.out.nth 0 rfl).wide
  rw [hn] at bn
  obtain ⟨bn1, bn2⟩ := bn
  rw [HX.out, hn] at hnn
  have hnq : (x + n == 1099511627776) = true := by simpa using hnn
  have HN := Lib.hid hn
  clear hn hnn
  go_wp2_with fail
  refine (cSizeAs (LV20.out.nth 0 rfl) (by decide) n (HN.out)).mono ?_
  rintro e w21 ⟨rfl, hb21⟩
  have LV21 := Lib.hid ((LV20.out.below hb21))
  have BV21 := Lib.hid (BV20.out.trans (hb21.mono BV20.out.size))
  clear hb21
  go_wp2_with fail
  refine (wakes_any _ (HE.out.below BV21.out)).mono ?_
  rintro e w22 ⟨rfl, hb22⟩
  have LV22 := Lib.hid ((LV21.out.below hb22))
  have BV22 := Lib.hid (BV21.out.trans (hb22.mono BV21.out.size))
  clear hb22
  go_wp2
  go_ret
  exact ⟨rfl, BV22.out⟩
set_option maxRecDepth 100000 in
set_option maxHeartbeats 16000000 in
theorem Order_walk_00 (A B C : Option Addr) (ca cb cc : Nat) (a b c : List (Int × Int)) (w : World) (ha : PAt w A a) (hb : PAt w B b) (hc : PAt w C c) (la : a.length ≤ ca) (lb : b.length ≤ cb) (lc : c.length ≤ cc) (wa : Wide a) (wb : Wide b) (wc : Wide c) (henv : Env w)
    (ma : a.length ≤ 140737488355328) (mb : b.length ≤ 140737488355328) (mc : c.length ≤ 140737488355328)
    (h1 : ¬ Iset.covers (a.take 40) (b.take 40)) (h2 : ¬ Iset.covers (b.take 40) (a.take 40)) :
    Calls Tryd.prog 6 #[.slice A a.length ca, .slice B b.length cb, .slice C c.length cc] w fun e w' => e = .returned (.bool true) ∧ Below w.heap.size w w' := by
  obtain ⟨na, hna⟩ : ∃ n : Nat, min a.length 40 = n := ⟨_, rfl⟩
  obtain ⟨nb, hnb⟩ : ∃ n : Nat, min b.length 40 = n := ⟨_, rfl⟩
  obtain ⟨nc, hnc⟩ : ∃ n : Nat, min c.length 40 = n := ⟨_, rfl⟩
  have ia : min (a.length : Int) 40 = (na : Int) := by omega
  have ib : min (b.length : Int) 40 = (nb : Int) := by omega
  have ic : min (c.length : Int) 40 = (nc : Int) := by omega
  have ja : na ≤ ca := by omega
  have jb : nb ≤ cb := by omega
  have jc : nc ≤ cc := by omega
  have LV0 := Lib.hid ((((Live.nil w).cons (SetAt.cut (c := cc) hc wc hnc)).cons (SetAt.cut (c := cb) hb wb hnb)).cons (SetAt.cut (c := ca) ha wa hna))
  have HWa := Lib.hid (LV0.out.nth 0 rfl).wide
  have HE := Lib.hid henv
  clear hna hnb hnc ha hb hc wa wb wc henv
  have H1 := Lib.hid h1
  have H2 := Lib.hid h2
  clear h1 h2
  go_enter Tryd.func6, Tryd.ntmps6
  go_upto_region 1 with fail
  go_quiet (fail)
  clear ia ib ic ja jb jc
  have LV := Lib.hid (LV0.out.below (bel_drewN nq (Below.refl _ _)))
  have BV := Lib.hid (bel_drewN nq (Below.refl w.heap.size w))
  clear LV0
  generalize w.drewN nq = w0 at *
  go_wp2_with fail
  refine (cUnion (LV.out.nth 0 rfl) (LV.out.nth 1 rfl) (by decide)).mono ?_
  rintro e w1 ⟨v1, R1, rfl, hr1, hs1, hb1⟩
  obtain ⟨A1, c1, rfl, _⟩ := hs1.at_
  have LV1 := Lib.hid ((LV.out.below hb1).cons hs1)
  have BV1 := Lib.hid (BV.out.trans (hb1.mono BV.out.size))
  have Hhr1 := Lib.hid hr1
  clear hb1 hs1 hr1
  go_wp2_with fail
  refine (cMeet (LV1.out.nth 1 rfl) (LV1.out.nth 2 rfl) (by decide)).mono ?_
  rintro e w2 ⟨v2, R2, rfl, hr2, hs2, hb2⟩
  obtain ⟨A2, c2, rfl, _⟩ := hs2.at_
  have LV2 := Lib.hid ((LV1.out.below hb2).cons hs2)
  have BV2 := Lib.hid (BV1.out.trans (hb2.mono BV1.out.size))
  have Hhr2 := Lib.hid hr2
  clear hb2 hs2 hr2
  have HSA := Lib.hid (Iset.size_or_and (LV2.out.nth 2 rfl).wide (LV2.out.nth 3 rfl).wide Hhr1.out Hhr2.out (LV2.out.nth 1 rfl).wide (LV2.out.nth 0 rfl).wide)
  obtain ⟨x, hx⟩ : ∃ x, Iset.size (a.take 40) = x := ⟨_, rfl⟩
  have bdx := Iset.size_bd (a.take 40) (LV2.out.nth 2 rfl).wide
  rw [hx] at bdx
  obtain ⟨bdx1, bdx2⟩ := bdx
  obtain ⟨y, hy⟩ : ∃ y, Iset.size (b.take 40) = y := ⟨_, rfl⟩
  have bdy := Iset.size_bd (b.take 40) (LV2.out.nth 3 rfl).wide
  rw [hy] at bdy
  obtain ⟨bdy1, bdy2⟩ := bdy
  obtain ⟨p, hp⟩ : ∃ p, Iset.size R1 = p := ⟨_, rfl⟩
  have bdp := Iset.size_bd R1 (LV2.out.nth 1 rfl).wide
  rw [hp] at bdp
  obtain ⟨bdp1, bdp2⟩ := bdp
  obtain ⟨z, hz⟩ : ∃ z, Iset.size R2 = z := ⟨_, rfl⟩
  have bdz := Iset.size_bd R2 (LV2.out.nth 0 rfl).wide
  rw [hz] at bdz
  obtain ⟨bdz1, bdz2⟩ := bdz
  have hsum := HSA.out
  rw [hx, hy, hp, hz] at hsum
  have hsq : (p + z == x + y) = true := by simpa using hsum
  have HX := Lib.hid hx
  have HY := Lib.hid hy
  have HPs := Lib.hid hp
  have HZs := Lib.hid hz
  have HSQ := Lib.hid hsq
  clear hx hy hp hz hsum hsq HSA
  go_wp2_with fail
  refine (cCoversNo (LV2.out.nth 2 rfl) (LV2.out.nth 3 rfl) (by decide) (H1.out)).mono ?_
  rintro e w3 ⟨rfl, hb3⟩
  have LV3 := Lib.hid ((LV2.out.below hb3))
  have BV3 := Lib.hid (BV2.out.trans (hb3.mono BV2.out.size))
  clear hb3
  go_wp2_with fail
  refine (cCoversNo (LV3.out.nth 3 rfl) (LV3.out.nth 2 rfl) (by decide) (H2.out)).mono ?_
  rintro e w4 ⟨rfl, hb4⟩
  have LV4 := Lib.hid ((LV3.out.below hb4))
  have BV4 := Lib.hid (BV3.out.trans (hb4.mono BV3.out.size))
  clear hb4
  go_wp2_with fail
  refine (cCoversYes (LV4.out.nth 1 rfl) (LV4.out.nth 2 rfl) (by decide) (Iset.or_covers Hhr1.out)).mono ?_
  rintro e w5 ⟨rfl, hb5⟩
  have LV5 := Lib.hid ((LV4.out.below hb5))
  have BV5 := Lib.hid (BV4.out.trans (hb5.mono BV4.out.size))
  clear hb5
  go_wp2_with fail
  refine (cCoversYes (LV5.out.nth 2 rfl) (LV5.out.nth 0 rfl) (by decide) (Iset.covers_and Hhr2.out)).mono ?_
  rintro e w6 ⟨rfl, hb6⟩
  have LV6 := Lib.hid ((LV5.out.below hb6))
  have BV6 := Lib.hid (BV5.out.trans (hb6.mono BV5.out.size))
  clear hb6
  go_wp2_with fail
  refine (cCoversYes (LV6.out.nth 2 rfl) (SetAt.nil _) (by decide) (Iset.covers_none _)).mono ?_
  rintro e w7 ⟨rfl, hb7⟩
  have LV7 := Lib.hid ((LV6.out.below hb7))
  have BV7 := Lib.hid (BV6.out.trans (hb7.mono BV6.out.size))
  clear hb7
  go_wp2_with fail
  refine (cSameNo (LV7.out.nth 2 rfl) (LV7.out.nth 3 rfl) (by decide) (fun h => H1.out ((Iset.same_iff _ _).1 h).1)).mono ?_
  rintro e w8 ⟨rfl, hb8⟩
  have LV8 := Lib.hid ((LV7.out.below hb8))
  have BV8 := Lib.hid (BV7.out.trans (hb8.mono BV7.out.size))
  clear hb8
  go_wp2_with fail
  refine (cSameNo (LV8.out.nth 1 rfl) (LV8.out.nth 2 rfl) (by decide) (fun h => H1.out ((Iset.or_same Hhr1.out).1 h))).mono ?_
  rintro e w9 ⟨rfl, hb9⟩
  have LV9 := Lib.hid ((LV8.out.below hb9))
  have BV9 := Lib.hid (BV8.out.trans (hb9.mono BV8.out.size))
  clear hb9
  go_wp2_with fail
  refine (cSameNo (LV9.out.nth 0 rfl) (LV9.out.nth 3 rfl) (by decide) (fun h => H1.out ((Iset.and_same Hhr2.out).1 h))).mono ?_
  rintro e w10 ⟨rfl, hb10⟩
  have LV10 := Lib.hid ((LV9.out.below hb10))
  have BV10 := Lib.hid (BV9.out.trans (hb10.mono BV9.out.size))
  clear hb10
  go_wp2_with fail
  refine (cOf (LV10.out.nth 2 rfl) (by decide)).mono ?_
  rintro e w11 ⟨v11, rfl, hs11, hb11⟩
  obtain ⟨A11, c11, rfl, _⟩ := hs11.at_
  have LV11 := Lib.hid ((LV10.out.below hb11).cons hs11)
  have BV11 := Lib.hid (BV10.out.trans (hb11.mono BV10.out.size))
  clear hb11 hs11
  go_wp2_with fail
  refine (cCoversYes (LV11.out.nth 0 rfl) (LV11.out.nth 3 rfl) (by decide) (Iset.of_covers _)).mono ?_
  rintro e w12 ⟨rfl, hb12⟩
  have LV12 := Lib.hid ((LV11.out.below hb12))
  have BV12 := Lib.hid (BV11.out.trans (hb12.mono BV11.out.size))
  clear hb12
  go_wp2_with fail
  refine (cOf (LV12.out.nth 3 rfl) (by decide)).mono ?_
  rintro e w13 ⟨v13, rfl, hs13, hb13⟩
  obtain ⟨A13, c13, rfl, _⟩ := hs13.at_
  have LV13 := Lib.hid ((LV12.out.below hb13).cons hs13)
  have BV13 := Lib.hid (BV12.out.trans (hb13.mono BV12.out.size))
  clear hb13 hs13
  go_wp2_with fail
  refine (cCoversYes (LV13.out.nth 4 rfl) (LV13.out.nth 0 rfl) (by decide) (Iset.covers_of _)).mono ?_
  rintro e w14 ⟨rfl, hb14⟩
  have LV14 := Lib.hid ((LV13.out.below hb14))
  have BV14 := Lib.hid (BV13.out.trans (hb14.mono BV13.out.size))
  clear hb14
  go_wp2_with fail
  refine (cSizeAs (LV14.out.nth 3 rfl) (by decide) p (HPs.out)).mono ?_
  rintro e w15 ⟨rfl, hb15⟩
  have LV15 := Lib.hid ((LV14.out.below hb15))
  have BV15 := Lib.hid (BV14.out.trans (hb15.mono BV14.out.size))
  clear hb15
  go_wp2_with fail
  refine (cSizeAs (LV15.out.nth 2 rfl) (by decide) z (HZs.out)).mono ?_
  rintro e w16 ⟨rfl, hb16⟩
  have LV16 := Lib.hid ((LV15.out.below hb16))
  have BV16 := Lib.hid (BV15.out.trans (hb16.mono BV15.out.size))
  clear hb16
  go_wp2_with fail
  refine (cSizeAs (LV16.out.nth 4 rfl) (by decide) x (HX.out)).mono ?_
  rintro e w17 ⟨rfl, hb17⟩
  have LV17 := Lib.hid ((LV16.out.below hb17))
  have BV17 := Lib.hid (BV16.out.trans (hb17.mono BV16.out.size))
  clear hb17
  go_wp2_with fail
  refine (cSizeAs (LV17.out.nth 5 rfl) (by decide) y (HY.out)).mono ?_
  rintro e w18 ⟨rfl, hb18⟩
  have LV18 := Lib.hid ((LV17.out.below hb18))
  have BV18 := Lib.hid (BV17.out.trans (hb18.mono BV17.out.size))
  clear hb18
  have hsq := HSQ.out
  go_wp2_with fail
  refine (cSizeAs (LV18.out.nth 4 rfl) (by decide) x (HX.out)).mono ?_
  rintro e w19 ⟨rfl, hb19⟩
  have LV19 := Lib.hid ((LV18.out.below hb19))
  have BV19 := Lib.hid (BV18.out.trans (hb19.mono BV18.out.size))
  clear hb19
  go_wp2_with fail
  refine (cNot (LV19.out.nth 4 rfl) (by decide)).mono ?_
  rintro e w20 ⟨v20, R20, rfl, hr20, hs20, hb20⟩
  obtain ⟨A20, c20, rfl, _⟩ := hs20.at_
  have LV20 := Lib.hid ((LV19.out.below hb20).cons hs20)
  have BV20 := Lib.hid (BV19.out.trans (hb20.mono BV19.out.size))
  have Hhr20 := Lib.hid hr20
  clear hb20 hs20 hr20
  have hnn := Iset.not_size HWa.out (LV20.out.nth 0 rfl).wide Hhr20.out
  obtain ⟨n, hn⟩ : ∃ n, Iset.size R20 = n := ⟨_, rfl⟩
  have bn := Iset.size_bd R20 (LV20.out.nth 0 rfl).wide
  rw [hn] at bn
  obtain ⟨bn1, bn2⟩ := bn
  rw [HX.out, hn] at hnn
  have hnq : (x + n == 1099511627776) = true := by simpa using hnn
  have HN := Lib.hid hn
  clear hn hnn
  go_wp2_with fail
  refine (cSizeAs (LV20.out.nth 0 rfl) (by decide) n (HN.out)).mono ?_
  rintro e w21 ⟨rfl, hb21⟩
  have LV21 := Lib.hid ((LV20.out.below hb21))
  have BV21 := Lib.hid (BV20.out.trans (hb21.mono BV20.out.size))
  clear hb21
  go_wp2_with fail
  refine (wakes_any _ (HE.out.below BV21.out)).mono ?_
  rintro e w22 ⟨rfl, hb22⟩
  have LV22 := Lib.hid ((LV21.out.below hb22))
  have BV22 := Lib.hid (BV21.out.trans (hb22.mono BV21.out.size))
  clear hb22
  go_wp2
  go_ret
  exact ⟨rfl, BV22.out⟩
theorem Order_walk (A B C : Option Addr) (ca cb cc : Nat) (a b c : List (Int × Int)) (w : World) (ha : PAt w A a) (hb : PAt w B b) (hc : PAt w C c) (la : a.length ≤ ca) (lb : b.length ≤ cb) (lc : c.length ≤ cc) (wa : Wide a) (wb : Wide b) (wc : Wide c) (henv : Env w)
    (ma : a.length ≤ 140737488355328) (mb : b.length ≤ 140737488355328) (mc : c.length ≤ 140737488355328) :
    Calls Tryd.prog 6 #[.slice A a.length ca, .slice B b.length cb, .slice C c.length cc] w fun e w' => e = .returned (.bool true) ∧ Below w.heap.size w w' := by
  by_cases h1 : Iset.covers (a.take 40) (b.take 40) <;> by_cases h2 : Iset.covers (b.take 40) (a.take 40)
  · exact Order_walk_11 A B C ca cb cc a b c w ha hb hc la lb lc wa wb wc henv ma mb mc h1 h2
  · exact Order_walk_10 A B C ca cb cc a b c w ha hb hc la lb lc wa wb wc henv ma mb mc h1 h2
  · exact Order_walk_01 A B C ca cb cc a b c w ha hb hc la lb lc wa wb wc henv ma mb mc h1 h2
  · exact Order_walk_00 A B C ca cb cc a b c w ha hb hc la lb lc wa wb wc henv ma mb mc h1 h2
end Go.Proofs.YtgjahnidjcfbiaaDoor
