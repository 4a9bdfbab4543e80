/- The law IsetAlgebra, walked. -/
import Derived.Test.YtgjahnidjcfbiaaDoorJ20
namespace Go.Proofs.YtgjahnidjcfbiaaDoor
open Go.RowKit Go.Shelf Go.Lib
open Iset (nf has NF Res Wide NotL)
set_option maxRecDepth 100000 in
set_option maxHeartbeats 16000000 in
theorem Algebra_walk (A B C : Option Addr) (ca cb cc : Nat) (a b c : List (Int × Int)) (w : World) (ha : PAt w A a) (hb : PAt w B b) (hc : PAt w C c) (la : a.length ≤ ca) (lb : b.length ≤ cb) (lc : c.length ≤ cc) (wa : Wide a) (wb : Wide b) (wc : Wide c) (henv : Env w)
    (ma : a.length ≤ 140737488355328) (mb : b.length ≤ 140737488355328) (mc : c.length ≤ 140737488355328) :
    Calls Tryd.prog 5 #[.slice A a.length ca, .slice B b.length cb, .slice C c.length cc] w fun e w' => e = .returned (.bool true) ∧ Below w.heap.size w w' := by
  obtain ⟨na, hna⟩ : ∃ n : Nat, min a.length 40 = n := ⟨_, rfl⟩
  obtain ⟨nb, hnb⟩ : ∃ n : Nat, min b.length 40 = n := ⟨_, rfl⟩
  obtain ⟨nc, hnc⟩ : ∃ n : Nat, min c.length 40 = n := ⟨_, rfl⟩
  have ia : min (a.length : Int) 40 = (na : Int) := by omega
  have ib : min (b.length : Int) 40 = (nb : Int) := by omega
  have ic : min (c.length : Int) 40 = (nc : Int) := by omega
  have ja : na ≤ ca := by omega
  have jb : nb ≤ cb := by omega
  have jc : nc ≤ cc := by omega
  have LV0 := Lib.hid ((((Live.nil w).cons (SetAt.cut (c := cc) hc wc hnc)).cons (SetAt.cut (c := cb) hb wb hnb)).cons (SetAt.cut (c := ca) ha wa hna))
  have HWa := Lib.hid (LV0.out.nth 0 rfl).wide
  have HE := Lib.hid henv
  clear hna hnb hnc ha hb hc wa wb wc henv
  go_enter Tryd.func5, Tryd.ntmps5
  go_upto_region 1 with fail
  go_quiet (fail)
  clear ia ib ic ja jb jc
  have LV := Lib.hid (LV0.out.below (bel_drewN nq (Below.refl _ _)))
  have BV := Lib.hid (bel_drewN nq (Below.refl w.heap.size w))
  clear LV0
  generalize w.drewN nq = w0 at *
  go_wp2_with fail
  refine (cUnion (LV.out.nth 1 rfl) (LV.out.nth 2 rfl) (by decide)).mono ?_
  rintro e w1 ⟨v1, R1, rfl, hr1, hs1, hb1⟩
  obtain ⟨A1, c1, rfl, _⟩ := hs1.at_
  have LV1 := Lib.hid ((LV.out.below hb1).cons hs1)
  have BV1 := Lib.hid (BV.out.trans (hb1.mono BV.out.size))
  have Hhr1 := Lib.hid hr1
  clear hb1 hs1 hr1
  go_wp2_with fail
  refine (cUnion (LV1.out.nth 1 rfl) (LV1.out.nth 2 rfl) (by decide)).mono ?_
  rintro e w2 ⟨v2, R2, rfl, hr2, hs2, hb2⟩
  obtain ⟨A2, c2, rfl, _⟩ := hs2.at_
  have LV2 := Lib.hid ((LV1.out.below hb2).cons hs2)
  have BV2 := Lib.hid (BV1.out.trans (hb2.mono BV1.out.size))
  have Hhr2 := Lib.hid hr2
  clear hb2 hs2 hr2
  go_wp2_with fail
  refine (cMeet (LV2.out.nth 3 rfl) (LV2.out.nth 4 rfl) (by decide)).mono ?_
  rintro e w3 ⟨v3, R3, rfl, hr3, hs3, hb3⟩
  obtain ⟨A3, c3, rfl, _⟩ := hs3.at_
  have LV3 := Lib.hid ((LV2.out.below hb3).cons hs3)
  have BV3 := Lib.hid (BV2.out.trans (hb3.mono BV2.out.size))
  have Hhr3 := Lib.hid hr3
  clear hb3 hs3 hr3
  go_wp2_with fail
  refine (cMeet (LV3.out.nth 3 rfl) (LV3.out.nth 4 rfl) (by decide)).mono ?_
  rintro e w4 ⟨v4, R4, rfl, hr4, hs4, hb4⟩
  obtain ⟨A4, c4, rfl, _⟩ := hs4.at_
  have LV4 := Lib.hid ((LV3.out.below hb4).cons hs4)
  have BV4 := Lib.hid (BV3.out.trans (hb4.mono BV3.out.size))
  have Hhr4 := Lib.hid hr4
  clear hb4 hs4 hr4
  go_wp2_with fail
  refine (cUnion (LV4.out.nth 5 rfl) (LV4.out.nth 4 rfl) (by decide)).mono ?_
  rintro e w5 ⟨v5, R5, rfl, hr5, hs5, hb5⟩
  obtain ⟨A5, c5, rfl, _⟩ := hs5.at_
  have LV5 := Lib.hid ((LV4.out.below hb5).cons hs5)
  have BV5 := Lib.hid (BV4.out.trans (hb5.mono BV4.out.size))
  have Hhr5 := Lib.hid hr5
  clear hb5 hs5 hr5
  go_wp2_with fail
  refine (cSame2 (LV5.out.nth 3 rfl) (LV5.out.nth 0 rfl) (by decide) (Iset.or_comm Hhr2.out Hhr5.out)).mono ?_
  rintro e w6 ⟨rfl, hb6⟩
  have LV6 := Lib.hid ((LV5.out.below hb6))
  have BV6 := Lib.hid (BV5.out.trans (hb6.mono BV5.out.size))
  clear hb6
  go_wp2_with fail
  refine (cMeet (LV6.out.nth 6 rfl) (LV6.out.nth 5 rfl) (by decide)).mono ?_
  rintro e w7 ⟨v7, R7, rfl, hr7, hs7, hb7⟩
  obtain ⟨A7, c7, rfl, _⟩ := hs7.at_
  have LV7 := Lib.hid ((LV6.out.below hb7).cons hs7)
  have BV7 := Lib.hid (BV6.out.trans (hb7.mono BV6.out.size))
  have Hhr7 := Lib.hid hr7
  clear hb7 hs7 hr7
  go_wp2_with fail
  refine (cSame2 (LV7.out.nth 2 rfl) (LV7.out.nth 0 rfl) (by decide) (Iset.and_comm Hhr4.out Hhr7.out)).mono ?_
  rintro e w8 ⟨rfl, hb8⟩
  have LV8 := Lib.hid ((LV7.out.below hb8))
  have BV8 := Lib.hid (BV7.out.trans (hb8.mono BV7.out.size))
  clear hb8
  go_wp2_with fail
  refine (cUnion (LV8.out.nth 6 rfl) (LV8.out.nth 5 rfl) (by decide)).mono ?_
  rintro e w9 ⟨v9, R9, rfl, hr9, hs9, hb9⟩
  obtain ⟨A9, c9, rfl, _⟩ := hs9.at_
  have LV9 := Lib.hid ((LV8.out.below hb9).cons hs9)
  have BV9 := Lib.hid (BV8.out.trans (hb9.mono BV8.out.size))
  have Hhr9 := Lib.hid hr9
  clear hb9 hs9 hr9
  go_wp2_with fail
  refine (cUnion (LV9.out.nth 5 rfl) (LV9.out.nth 9 rfl) (by decide)).mono ?_
  rintro e w10 ⟨v10, R10, rfl, hr10, hs10, hb10⟩
  obtain ⟨A10, c10, rfl, _⟩ := hs10.at_
  have LV10 := Lib.hid ((LV9.out.below hb10).cons hs10)
  have BV10 := Lib.hid (BV9.out.trans (hb10.mono BV9.out.size))
  have Hhr10 := Lib.hid hr10
  clear hb10 hs10 hr10
  go_wp2_with fail
  refine (cSame2 (LV10.out.nth 1 rfl) (LV10.out.nth 0 rfl) (by decide) (Iset.or_assoc Hhr1.out Hhr9.out Hhr2.out Hhr10.out)).mono ?_
  rintro e w11 ⟨rfl, hb11⟩
  have LV11 := Lib.hid ((LV10.out.below hb11))
  have BV11 := Lib.hid (BV10.out.trans (hb11.mono BV10.out.size))
  clear hb11
  go_wp2_with fail
  refine (cMeet (LV11.out.nth 8 rfl) (LV11.out.nth 5 rfl) (by decide)).mono ?_
  rintro e w12 ⟨v12, R12, rfl, hr12, hs12, hb12⟩
  obtain ⟨A12, c12, rfl, _⟩ := hs12.at_
  have LV12 := Lib.hid ((LV11.out.below hb12).cons hs12)
  have BV12 := Lib.hid (BV11.out.trans (hb12.mono BV11.out.size))
  have Hhr12 := Lib.hid hr12
  clear hb12 hs12 hr12
  go_wp2_with fail
  refine (cMeet (LV12.out.nth 5 rfl) (LV12.out.nth 11 rfl) (by decide)).mono ?_
  rintro e w13 ⟨v13, R13, rfl, hr13, hs13, hb13⟩
  obtain ⟨A13, c13, rfl, _⟩ := hs13.at_
  have LV13 := Lib.hid ((LV12.out.below hb13).cons hs13)
  have BV13 := Lib.hid (BV12.out.trans (hb13.mono BV12.out.size))
  have Hhr13 := Lib.hid hr13
  clear hb13 hs13 hr13
  go_wp2_with fail
  refine (cSame2 (LV13.out.nth 1 rfl) (LV13.out.nth 0 rfl) (by decide) (Iset.and_assoc Hhr3.out Hhr12.out Hhr4.out Hhr13.out)).mono ?_
  rintro e w14 ⟨rfl, hb14⟩
  have LV14 := Lib.hid ((LV13.out.below hb14))
  have BV14 := Lib.hid (BV13.out.trans (hb14.mono BV13.out.size))
  clear hb14
  go_wp2_with fail
  refine (cMeet (LV14.out.nth 10 rfl) (LV14.out.nth 9 rfl) (by decide)).mono ?_
  rintro e w15 ⟨v15, R15, rfl, hr15, hs15, hb15⟩
  obtain ⟨A15, c15, rfl, _⟩ := hs15.at_
  have LV15 := Lib.hid ((LV14.out.below hb15).cons hs15)
  have BV15 := Lib.hid (BV14.out.trans (hb15.mono BV14.out.size))
  have Hhr15 := Lib.hid hr15
  clear hb15 hs15 hr15
  go_wp2_with fail
  refine (cMeet (LV15.out.nth 11 rfl) (LV15.out.nth 13 rfl) (by decide)).mono ?_
  rintro e w16 ⟨v16, R16, rfl, hr16, hs16, hb16⟩
  obtain ⟨A16, c16, rfl, _⟩ := hs16.at_
  have LV16 := Lib.hid ((LV15.out.below hb16).cons hs16)
  have BV16 := Lib.hid (BV15.out.trans (hb16.mono BV15.out.size))
  have Hhr16 := Lib.hid hr16
  clear hb16 hs16 hr16
  go_wp2_with fail
  refine (cUnion (LV16.out.nth 8 rfl) (LV16.out.nth 0 rfl) (by decide)).mono ?_
  rintro e w17 ⟨v17, R17, rfl, hr17, hs17, hb17⟩
  obtain ⟨A17, c17, rfl, _⟩ := hs17.at_
  have LV17 := Lib.hid ((LV16.out.below hb17).cons hs17)
  have BV17 := Lib.hid (BV16.out.trans (hb17.mono BV16.out.size))
  have Hhr17 := Lib.hid hr17
  clear hb17 hs17 hr17
  go_wp2_with fail
  refine (cSame2 (LV17.out.nth 2 rfl) (LV17.out.nth 0 rfl) (by decide) (Iset.and_or Hhr1.out Hhr15.out Hhr4.out Hhr16.out Hhr17.out)).mono ?_
  rintro e w18 ⟨rfl, hb18⟩
  have LV18 := Lib.hid ((LV17.out.below hb18))
  have BV18 := Lib.hid (BV17.out.trans (hb18.mono BV17.out.size))
  clear hb18
  go_wp2_with fail
  refine (cUnion (LV18.out.nth 13 rfl) (LV18.out.nth 10 rfl) (by decide)).mono ?_
  rintro e w19 ⟨v19, R19, rfl, hr19, hs19, hb19⟩
  obtain ⟨A19, c19, rfl, _⟩ := hs19.at_
  have LV19 := Lib.hid ((LV18.out.below hb19).cons hs19)
  have BV19 := Lib.hid (BV18.out.trans (hb19.mono BV18.out.size))
  have Hhr19 := Lib.hid hr19
  clear hb19 hs19 hr19
  go_wp2_with fail
  refine (cUnion (LV19.out.nth 14 rfl) (LV19.out.nth 16 rfl) (by decide)).mono ?_
  rintro e w20 ⟨v20, R20, rfl, hr20, hs20, hb20⟩
  obtain ⟨A20, c20, rfl, _⟩ := hs20.at_
  have LV20 := Lib.hid ((LV19.out.below hb20).cons hs20)
  have BV20 := Lib.hid (BV19.out.trans (hb20.mono BV19.out.size))
  have Hhr20 := Lib.hid hr20
  clear hb20 hs20 hr20
  go_wp2_with fail
  refine (cMeet (LV20.out.nth 13 rfl) (LV20.out.nth 0 rfl) (by decide)).mono ?_
  rintro e w21 ⟨v21, R21, rfl, hr21, hs21, hb21⟩
  obtain ⟨A21, c21, rfl, _⟩ := hs21.at_
  have LV21 := Lib.hid ((LV20.out.below hb21).cons hs21)
  have BV21 := Lib.hid (BV20.out.trans (hb21.mono BV20.out.size))
  have Hhr21 := Lib.hid hr21
  clear hb21 hs21 hr21
  go_wp2_with fail
  refine (cSame2 (LV21.out.nth 2 rfl) (LV21.out.nth 0 rfl) (by decide) (Iset.or_and Hhr3.out Hhr19.out Hhr2.out Hhr20.out Hhr21.out)).mono ?_
  rintro e w22 ⟨rfl, hb22⟩
  have LV22 := Lib.hid ((LV21.out.below hb22))
  have BV22 := Lib.hid (BV21.out.trans (hb22.mono BV21.out.size))
  clear hb22
  go_wp2_with fail
  refine (cNot (LV22.out.nth 16 rfl) (by decide)).mono ?_
  rintro e w23 ⟨v23, R23, rfl, hr23, hs23, hb23⟩
  obtain ⟨A23, c23, rfl, _⟩ := hs23.at_
  have LV23 := Lib.hid ((LV22.out.below hb23).cons hs23)
  have BV23 := Lib.hid (BV22.out.trans (hb23.mono BV22.out.size))
  have Hhr23 := Lib.hid hr23
  clear hb23 hs23 hr23
  go_wp2_with fail
  refine (cNot (LV23.out.nth 18 rfl) (by decide)).mono ?_
  rintro e w24 ⟨v24, R24, rfl, hr24, hs24, hb24⟩
  obtain ⟨A24, c24, rfl, _⟩ := hs24.at_
  have LV24 := Lib.hid ((LV23.out.below hb24).cons hs24)
  have BV24 := Lib.hid (BV23.out.trans (hb24.mono BV23.out.size))
  have Hhr24 := Lib.hid hr24
  clear hb24 hs24 hr24
  go_wp2_with fail
  refine (cNot (LV24.out.nth 16 rfl) (by decide)).mono ?_
  rintro e w25 ⟨v25, R25, rfl, hr25, hs25, hb25⟩
  obtain ⟨A25, c25, rfl, _⟩ := hs25.at_
  have LV25 := Lib.hid ((LV24.out.below hb25).cons hs25)
  have BV25 := Lib.hid (BV24.out.trans (hb25.mono BV24.out.size))
  have Hhr25 := Lib.hid hr25
  clear hb25 hs25 hr25
  go_wp2_with fail
  refine (cMeet (LV25.out.nth 2 rfl) (LV25.out.nth 1 rfl) (by decide)).mono ?_
  rintro e w26 ⟨v26, R26, rfl, hr26, hs26, hb26⟩
  obtain ⟨A26, c26, rfl, _⟩ := hs26.at_
  have LV26 := Lib.hid ((LV25.out.below hb26).cons hs26)
  have BV26 := Lib.hid (BV25.out.trans (hb26.mono BV25.out.size))
  have Hhr26 := Lib.hid hr26
  clear hb26 hs26 hr26
  go_wp2_with fail
  refine (cSame2 (LV26.out.nth 1 rfl) (LV26.out.nth 0 rfl) (by decide) (Iset.not_or Hhr2.out Hhr25.out Hhr23.out Hhr24.out Hhr26.out)).mono ?_
  rintro e w27 ⟨rfl, hb27⟩
  have LV27 := Lib.hid ((LV26.out.below hb27))
  have BV27 := Lib.hid (BV26.out.trans (hb27.mono BV26.out.size))
  clear hb27
  go_wp2_with fail
  refine (cNot (LV27.out.nth 16 rfl) (by decide)).mono ?_
  rintro e w28 ⟨v28, R28, rfl, hr28, hs28, hb28⟩
  obtain ⟨A28, c28, rfl, _⟩ := hs28.at_
  have LV28 := Lib.hid ((LV27.out.below hb28).cons hs28)
  have BV28 := Lib.hid (BV27.out.trans (hb28.mono BV27.out.size))
  have Hhr28 := Lib.hid hr28
  clear hb28 hs28 hr28
  go_wp2_with fail
  refine (cUnion (LV28.out.nth 4 rfl) (LV28.out.nth 3 rfl) (by decide)).mono ?_
  rintro e w29 ⟨v29, R29, rfl, hr29, hs29, hb29⟩
  obtain ⟨A29, c29, rfl, _⟩ := hs29.at_
  have LV29 := Lib.hid ((LV28.out.below hb29).cons hs29)
  have BV29 := Lib.hid (BV28.out.trans (hb29.mono BV28.out.size))
  have Hhr29 := Lib.hid hr29
  clear hb29 hs29 hr29
  go_wp2_with fail
  refine (cSame2 (LV29.out.nth 1 rfl) (LV29.out.nth 0 rfl) (by decide) (Iset.not_and Hhr4.out Hhr28.out Hhr23.out Hhr24.out Hhr29.out)).mono ?_
  rintro e w30 ⟨rfl, hb30⟩
  have LV30 := Lib.hid ((LV29.out.below hb30))
  have BV30 := Lib.hid (BV29.out.trans (hb30.mono BV29.out.size))
  clear hb30
  go_wp2_with fail
  refine (cNot (LV30.out.nth 5 rfl) (by decide)).mono ?_
  rintro e w31 ⟨v31, R31, rfl, hr31, hs31, hb31⟩
  obtain ⟨A31, c31, rfl, _⟩ := hs31.at_
  have LV31 := Lib.hid ((LV30.out.below hb31).cons hs31)
  have BV31 := Lib.hid (BV30.out.trans (hb31.mono BV30.out.size))
  have Hhr31 := Lib.hid hr31
  clear hb31 hs31 hr31
  go_wp2_with fail
  refine (cOf (LV31.out.nth 23 rfl) (by decide)).mono ?_
  rintro e w32 ⟨v32, rfl, hs32, hb32⟩
  obtain ⟨A32, c32, rfl, _⟩ := hs32.at_
  have LV32 := Lib.hid ((LV31.out.below hb32).cons hs32)
  have BV32 := Lib.hid (BV31.out.trans (hb32.mono BV31.out.size))
  clear hb32 hs32
  go_wp2_with fail
  refine (cSame2 (LV32.out.nth 1 rfl) (LV32.out.nth 0 rfl) (by decide) (Iset.not_not HWa.out Hhr23.out Hhr31.out)).mono ?_
  rintro e w33 ⟨rfl, hb33⟩
  have LV33 := Lib.hid ((LV32.out.below hb33))
  have BV33 := Lib.hid (BV32.out.trans (hb33.mono BV32.out.size))
  clear hb33
  go_wp2_with fail
  refine (cMinus (LV33.out.nth 24 rfl) (LV33.out.nth 25 rfl) (by decide)).mono ?_
  rintro e w34 ⟨v34, R34, rfl, hr34, hs34, hb34⟩
  obtain ⟨A34, c34, rfl, _⟩ := hs34.at_
  have LV34 := Lib.hid ((LV33.out.below hb34).cons hs34)
  have BV34 := Lib.hid (BV33.out.trans (hb34.mono BV33.out.size))
  have Hhr34 := Lib.hid hr34
  clear hb34 hs34 hr34
  go_wp2_with fail
  refine (cMeet (LV34.out.nth 25 rfl) (LV34.out.nth 7 rfl) (by decide)).mono ?_
  rintro e w35 ⟨v35, R35, rfl, hr35, hs35, hb35⟩
  obtain ⟨A35, c35, rfl, _⟩ := hs35.at_
  have LV35 := Lib.hid ((LV34.out.below hb35).cons hs35)
  have BV35 := Lib.hid (BV34.out.trans (hb35.mono BV34.out.size))
  have Hhr35 := Lib.hid hr35
  clear hb35 hs35 hr35
  go_wp2_with fail
  refine (cSame2 (LV35.out.nth 1 rfl) (LV35.out.nth 0 rfl) (by decide) (Iset.less_not HWa.out Hhr34.out Hhr24.out Hhr35.out)).mono ?_
  rintro e w36 ⟨rfl, hb36⟩
  have LV36 := Lib.hid ((LV35.out.below hb36))
  have BV36 := Lib.hid (BV35.out.trans (hb36.mono BV35.out.size))
  clear hb36
  go_wp2_with fail
  refine (cUnion (LV36.out.nth 26 rfl) (LV36.out.nth 9 rfl) (by decide)).mono ?_
  rintro e w37 ⟨v37, R37, rfl, hr37, hs37, hb37⟩
  obtain ⟨A37, c37, rfl, _⟩ := hs37.at_
  have LV37 := Lib.hid ((LV36.out.below hb37).cons hs37)
  have BV37 := Lib.hid (BV36.out.trans (hb37.mono BV36.out.size))
  have Hhr37 := Lib.hid hr37
  clear hb37 hs37 hr37
  go_wp2_with fail
  refine (cP [0, 1099511627776] [(0, 1099511627776)] 1 w37 (by decide) rfl (by decide) (by decide)).mono ?_
  rintro e w38 ⟨v38, rfl, hs38, hb38⟩
  obtain ⟨A38, c38, rfl, _⟩ := hs38.at_
  have LV38 := Lib.hid ((LV37.out.below hb38).cons hs38)
  have BV38 := Lib.hid (BV37.out.trans (hb38.mono BV37.out.size))
  clear hb38 hs38
  go_wp2_with fail
  refine (cSame2 (LV38.out.nth 1 rfl) (LV38.out.nth 0 rfl) (by decide) (Iset.or_not HWa.out Hhr23.out Hhr37.out)).mono ?_
  rintro e w39 ⟨rfl, hb39⟩
  have LV39 := Lib.hid ((LV38.out.below hb39))
  have BV39 := Lib.hid (BV38.out.trans (hb39.mono BV38.out.size))
  clear hb39
  go_wp2_with fail
  refine (cMeetNone (LV39.out.nth 28 rfl) (LV39.out.nth 11 rfl) (by decide) (fun R h => Iset.and_not Hhr23.out h)).mono ?_
  rintro e w40 ⟨A40, c40, rfl, hb40⟩
  have LV40 := Lib.hid ((LV39.out.below hb40))
  have BV40 := Lib.hid (BV39.out.trans (hb40.mono BV39.out.size))
  clear hb40
  go_wp2_with fail
  refine (cUnion (LV40.out.nth 28 rfl) (LV40.out.nth 24 rfl) (by decide)).mono ?_
  rintro e w41 ⟨v41, R41, rfl, hr41, hs41, hb41⟩
  obtain ⟨A41, c41, rfl, _⟩ := hs41.at_
  have LV41 := Lib.hid ((LV40.out.below hb41).cons hs41)
  have BV41 := Lib.hid (BV40.out.trans (hb41.mono BV40.out.size))
  have Hhr41 := Lib.hid hr41
  clear hb41 hs41 hr41
  go_wp2_with fail
  refine (cMeet (LV41.out.nth 29 rfl) (LV41.out.nth 27 rfl) (by decide)).mono ?_
  rintro e w42 ⟨v42, R42, rfl, hr42, hs42, hb42⟩
  obtain ⟨A42, c42, rfl, _⟩ := hs42.at_
  have LV42 := Lib.hid ((LV41.out.below hb42).cons hs42)
  have BV42 := Lib.hid (BV41.out.trans (hb42.mono BV41.out.size))
  have Hhr42 := Lib.hid hr42
  clear hb42 hs42 hr42
  go_wp2_with fail
  refine (cOf (LV42.out.nth 30 rfl) (by decide)).mono ?_
  rintro e w43 ⟨v43, rfl, hs43, hb43⟩
  obtain ⟨A43, c43, rfl, _⟩ := hs43.at_
  have LV43 := Lib.hid ((LV42.out.below hb43).cons hs43)
  have BV43 := Lib.hid (BV42.out.trans (hb43.mono BV42.out.size))
  clear hb43 hs43
  go_wp2_with fail
  refine (cSame3 (LV43.out.nth 2 rfl) (LV43.out.nth 1 rfl) (LV43.out.nth 0 rfl) (by decide) ((Iset.or_within Hhr4.out Hhr41.out).trans (Iset.and_within Hhr2.out Hhr42.out).symm) (Iset.and_within Hhr2.out Hhr42.out)).mono ?_
  rintro e w44 ⟨rfl, hb44⟩
  have LV44 := Lib.hid ((LV43.out.below hb44))
  have BV44 := Lib.hid (BV43.out.trans (hb44.mono BV43.out.size))
  clear hb44
  go_wp2_with fail
  refine (wakes_any _ (HE.out.below BV44.out)).mono ?_
  rintro e w45 ⟨rfl, hb45⟩
  have LV45 := Lib.hid ((LV44.out.below hb45))
  have BV45 := Lib.hid (BV44.out.trans (hb45.mono BV44.out.size))
  clear hb45
  go_wp2
  go_ret
  exact ⟨rfl, BV45.out⟩
end Go.Proofs.YtgjahnidjcfbiaaDoor
