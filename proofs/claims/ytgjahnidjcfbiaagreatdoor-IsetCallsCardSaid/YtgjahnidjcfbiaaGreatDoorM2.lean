/- IsetCalls' walk. -/
import Derived.Test.YtgjahnidjcfbiaaGreatDoorM1
import Derived.IntWalk
namespace Go.Proofs.YtgjahnidjcfbiaaGreatDoor
open Go.RowKit Go.Shelf Go.Lib
open Iset (nf has NF Res Wide KL opOr opAnd opLess opNot)
theorem OwnP.room {base : Nat} {w : World} {v : Value} {L : List (Int × Int)} (h : OwnP base w v L) : ∃ A c, v = .slice A L.length c ∧ PAt w A L ∧ (A = none → c = 0) ∧ L.length ≤ c := by
  obtain ⟨A, c, e, k, z⟩ := h.isZ
  refine ⟨A, c, e, k, z, ?_⟩
  rcases h.2 with ⟨rfl, h0⟩ | ⟨g, cap, cur, rfl, _, _, h1, _⟩
  · omega
  · injection e with _ _ e
    omega
theorem cutV_any {base : Nat} {v : Value} {L : List (Int × Int)} {w0 : World} (h : OwnP base w0 v L) (hl : L.length ≤ 60) (w : World) (hb : Below w0.heap.size w0 w) :
    Calls Tryz.prog 4 #[v] w fun e w' => ∃ v', e = .returned v' ∧ OwnP w.heap.size w' v' L ∧ Below w.heap.size w w' := by
  obtain ⟨A, c, rfl, k, z, hc⟩ := h.room
  have := cutO_any A c L w (k.below hb) z hc
  rwa [List.take_of_length_le hl] at this
theorem sameL_self (L : List (Int × Int)) : sameL L L = true := decide_eq_true rfl
theorem same_like (va vb : Value) (L : List (Int × Int)) (w : World) (ha : IsP w va L) (hb : IsP w vb L) (hl : L.length ≤ 4000000000000) :
    Calls Tryz.prog 15 #[va, vb] w fun e w' => e = .returned (.bool true) ∧ Below w.heap.size w w' := by
  have := Like_any va vb L L w ha hb hl hl
  rwa [sameL_self] at this
theorem less_nil {a b R : List (Int × Int)} (wb : Wide b) (h : KL opLess b a R) : R.length = 0 ↔ Iset.covers a b := by
  rw [List.length_eq_zero_iff]
  constructor
  · rintro rfl t ht
    have := h.has t
    rw [Iset.has_nil, ht] at this
    have hi := Iset.in_has wb t
    rw [ht, Bool.and_true] at hi
    rw [hi] at this
    cases hh : has a t
    · rw [hh] at this; simp [opLess] at this
    · rfl
  · intro hc
    refine Iset.NF.ext h.nf NF.nil fun t => ?_
    rw [h.has, Iset.has_nil]
    cases hb : has b t
    · simp [opLess]
    · rw [hc t hb]; simp [opLess]
theorem arr5 (w : World) (a b c d e : Value) (t : TypeId) : (w.alloc (.cells #[a, b, c, d, e] t)).cell? ⟨w.heap.size, 0, none⟩ = some a ∧ (w.alloc (.cells #[a, b, c, d, e] t)).cell? ⟨w.heap.size, 1, none⟩ = some b ∧ (w.alloc (.cells #[a, b, c, d, e] t)).cell? ⟨w.heap.size, 2, none⟩ = some c ∧ (w.alloc (.cells #[a, b, c, d, e] t)).cell? ⟨w.heap.size, 3, none⟩ = some d ∧ (w.alloc (.cells #[a, b, c, d, e] t)).cell? ⟨w.heap.size, 4, none⟩ = some e := by
  refine ⟨?_, ?_, ?_, ?_, ?_⟩ <;> simp [World.cell?_alloc_new]
set_option maxRecDepth 100000 in
set_option maxHeartbeats 32000000 in
theorem Calls_walk (A B : Option Addr) (ca cb : Nat) (a b : List (Int × Int)) (n : Int) (w : World) (ha : PAt w A a) (hb : PAt w B b) (za : A = none → ca = 0) (zb : B = none → cb = 0) (la : a.length ≤ ca) (lb : b.length ≤ cb) (wa : Wide a) (wb : Wide b) (henv : Env w) :
    Calls Tryz.prog 3 #[.slice A a.length ca, .slice B b.length cb, .int .u64 n] w fun e w' => e = .returned (.bool true) ∧ Below w.heap.size w w' := by
  have HE := Lib.hid henv
  have CA := Lib.hid (cutO_any A ca a w ha za la)
  have CB := Lib.hid (fun w1 (h : Below w.heap.size w w1) => cutO_any B cb b w1 (hb.below h) zb lb)
  have WA : Hid (Wide (a.take 60)) := Lib.hid fun p hp => wa p (List.mem_of_mem_take hp)
  have WB : Hid (Wide (b.take 60)) := Lib.hid fun p hp => wb p (List.mem_of_mem_take hp)
  have h60 : (a.take 60).length ≤ 60 := by rw [List.length_take]; omega
  have k60 : (b.take 60).length ≤ 60 := by rw [List.length_take]; omega
  generalize a.take 60 = La at *
  generalize b.take 60 = Lb at *
  have hnf := Iset.nf_length La
  clear ha hb za zb wa wb henv
  go_enter Tryz.func3, Tryz.ntmps3
  go_wp2_with fail
  refine (CA.out).mono ?_
  rintro e w1 ⟨a1, rfl, ho, hb⟩
  have OA1 := Lib.hid ho
  have B1 := Lib.hid hb
  clear ho hb
  go_wp2_with fail
  refine (CB.out _ B1.out).mono ?_
  rintro e w2 ⟨b1, rfl, ho, hb⟩
  have OB1 := Lib.hid ho
  have b2 := Lib.hid hb
  have OA2 := Lib.hid (OA1.out.below hb)
  have B2 := Lib.hid (B1.out.trans (hb.mono B1.out.size))
  clear ho hb
  go_wp2_with fail
  refine (cutV_any OA2.out h60 _ (Below.refl _ _)).mono ?_
  rintro e w3 ⟨x1, rfl, ho, hb⟩
  have OX := Lib.hid ho
  have B3 := Lib.hid (B2.out.trans (hb.mono B2.out.size))
  have OA3 := Lib.hid (OA2.out.below hb)
  have OB3 := Lib.hid (OB1.out.below hb)
  clear ho hb
  go_wp2_with fail
  refine (cutV_any OB3.out k60 _ (Below.refl _ _)).mono ?_
  rintro e w4 ⟨y1, rfl, ho, hb⟩
  have B4 := Lib.hid (B3.out.trans (hb.mono B3.out.size))
  have LA := Lib.hid (Lies.zero (OA3.out.below hb))
  have LB := Lib.hid (Lies.zero (OB3.out.below hb))
  have LX := Lib.hid (Lies.zero (OX.out.below hb))
  have LY := Lib.hid (Lies.zero ho)
  clear ho hb OA1 OB1 OA2 OA3 OB3 OX B1 B2 B3 b2
  have N4 := Lib.hid (Below.refl w4.heap.size w4)
  go_wp2_with fail
  refine (Of_any _ La _ (LX.out.below N4.out).isZ.isP (by omega)).mono ?_
  rintro e w5 ⟨t0, rfl, ho, hb⟩
  have T0 := Lib.hid (Lies.of ho)
  have n5 := Lib.hid hb
  have N5 := Lib.hid (N4.out.trans (hb.mono N4.out.size))
  clear ho hb
  obtain ⟨P0, c0, rfl, _, _⟩ := T0.out
  go_wp2_with fail
  refine (Union_any _ _ La Lb _ (LX.out.below N5.out).isZ.isP (LY.out.below N5.out).isZ.isP WA.out WB.out (by omega) (by omega)).mono ?_
  rintro e w6 ⟨t1, R1, rfl, hr, ho, hb⟩
  have T1 := Lib.hid (Lies.of ho)
  have n6 := Lib.hid hb
  have N6 := Lib.hid (N5.out.trans (hb.mono N5.out.size))
  have S1 := Lib.hid hr
  clear ho hb hr
  obtain ⟨P1, c1, rfl, _, _⟩ := T1.out
  go_wp2_with fail
  refine (Meet_any _ _ La Lb _ (LX.out.below N6.out).isZ.isP (LY.out.below N6.out).isZ.isP WA.out WB.out (by omega) (by omega)).mono ?_
  rintro e w7 ⟨t2, R2, rfl, hr, ho, hb⟩
  have T2 := Lib.hid (Lies.of ho)
  have n7 := Lib.hid hb
  have N7 := Lib.hid (N6.out.trans (hb.mono N6.out.size))
  have S2 := Lib.hid hr
  clear ho hb hr
  obtain ⟨P2, c2, rfl, _, _⟩ := T2.out
  go_wp2_with fail
  refine (Minus_any _ _ La Lb _ (LX.out.below N7.out).isZ.isP (LY.out.below N7.out).isZ.isP WA.out WB.out (by omega) (by omega)).mono ?_
  rintro e w8 ⟨t3, R3, rfl, hr, ho, hb⟩
  have T3 := Lib.hid (Lies.of ho)
  have n8 := Lib.hid hb
  have N8 := Lib.hid (N7.out.trans (hb.mono N7.out.size))
  have S3 := Lib.hid hr
  clear ho hb hr
  obtain ⟨P3, c3, rfl, _, _⟩ := T3.out
  go_wp2_with fail
  refine (Not_any _ La _ (LX.out.below N8.out).isZ.isP WA.out (by omega)).mono ?_
  rintro e w9 ⟨t4, R4, rfl, hr, ho, hb⟩
  have T4 := Lib.hid (Lies.of ho)
  have n9 := Lib.hid hb
  have N9 := Lib.hid (N8.out.trans (hb.mono N8.out.size))
  have S4 := Lib.hid hr
  clear ho hb hr
  obtain ⟨P4, c4, rfl, _, _⟩ := T4.out
  go_upto_region 4 with fail
  obtain ⟨V, hV⟩ : ∃ V, w9.alloc (.cells #[.slice P0 (nf La).length c0, .slice P1 R1.length c1, .slice P2 R2.length c2, .slice P3 R3.length c3, .slice P4 R4.length c4] 26) = V := ⟨_, rfl⟩
  have nV := Lib.hid (show Below w9.heap.size w9 V by rw [← hV]; exact (Below.refl _ _).alloc (Nat.le_refl _) _)
  have sV : V.heap.size = w9.heap.size + 1 := by rw [← hV]; simp
  have CV : Hid (V.cell? ⟨w9.heap.size, 0, none⟩ = some (.slice P0 (nf La).length c0) ∧ V.cell? ⟨w9.heap.size, 1, none⟩ = some (.slice P1 R1.length c1) ∧ V.cell? ⟨w9.heap.size, 2, none⟩ = some (.slice P2 R2.length c2) ∧ V.cell? ⟨w9.heap.size, 3, none⟩ = some (.slice P3 R3.length c3) ∧ V.cell? ⟨w9.heap.size, 4, none⟩ = some (.slice P4 R4.length c4)) := Lib.hid (by rw [← hV]; exact arr5 _ _ _ _ _ _ _)
  rw [hV]
  clear hV
  have NV := Lib.hid (N9.out.trans (nV.out.mono N9.out.size))
  go_wp2_with fail
  refine (docOf_any _ La _ (LA.out.below NV.out).isZ WA.out (by omega)).mono ?_
  rintro e w10 ⟨u0, rfl, ho, hb⟩
  have U0 := Lib.hid (Lies.of ho)
  have m10 := Lib.hid hb
  have M10 := Lib.hid (NV.out.trans (hb.mono NV.out.size))
  clear ho hb
  obtain ⟨G0, d0, rfl, _, _⟩ := U0.out
  go_wp2_with fail
  refine (docUnion_any _ _ La Lb _ (LA.out.below M10.out).isZ (LB.out.below M10.out).isZ WA.out WB.out (by omega) (by omega)).mono ?_
  rintro e w11 ⟨u1, Q1, rfl, hk, ho, hb⟩
  have U1 := Lib.hid (Lies.of ho)
  have m11 := Lib.hid hb
  have M11 := Lib.hid (M10.out.trans (hb.mono M10.out.size))
  have eq1 : R1 = Q1 := KL.res rfl WA.out WB.out S1.out hk
  have hl1 : R1.length ≤ 1000 := by rw [eq1]; have := hk.len; omega
  subst eq1
  clear hk
  clear ho hb
  obtain ⟨G1, d1, rfl, _, _⟩ := U1.out
  go_wp2_with fail
  refine (docMeet_any _ _ La Lb _ (LA.out.below M11.out).isZ (LB.out.below M11.out).isZ WA.out WB.out (by omega) (by omega)).mono ?_
  rintro e w12 ⟨u2, Q2, rfl, hk, ho, hb⟩
  have U2 := Lib.hid (Lies.of ho)
  have m12 := Lib.hid hb
  have M12 := Lib.hid (M11.out.trans (hb.mono M11.out.size))
  have eq2 : R2 = Q2 := KL.res rfl WA.out WB.out S2.out hk
  have hl2 : R2.length ≤ 1000 := by rw [eq2]; have := hk.len; omega
  subst eq2
  clear hk
  clear ho hb
  obtain ⟨G2, d2, rfl, _, _⟩ := U2.out
  go_wp2_with fail
  refine (docMinus_any _ _ La Lb _ (LA.out.below M12.out).isZ (LB.out.below M12.out).isZ WA.out WB.out (by omega) (by omega)).mono ?_
  rintro e w13 ⟨u3, Q3, rfl, hk, ho, hb⟩
  have U3 := Lib.hid (Lies.of ho)
  have m13 := Lib.hid hb
  have M13 := Lib.hid (M12.out.trans (hb.mono M12.out.size))
  have eq3 : R3 = Q3 := KL.res rfl WA.out WB.out S3.out hk
  have hl3 : R3.length ≤ 1000 := by rw [eq3]; have := hk.len; omega
  subst eq3
  clear hk
  clear ho hb
  obtain ⟨G3, d3, rfl, _, _⟩ := U3.out
  go_wp2_with fail
  refine (docNot_any _ La _ (LA.out.below M13.out).isZ WA.out (by omega)).mono ?_
  rintro e w14 ⟨u4, Q4, rfl, hk, ho, hb⟩
  have U4 := Lib.hid (Lies.of ho)
  have m14 := Lib.hid hb
  have M14 := Lib.hid (M13.out.trans (hb.mono M13.out.size))
  have eq4 : R4 = Q4 := KL.not S4.out hk
  have hl4 : R4.length ≤ 1000 := by rw [eq4]; have := hk.len; simp only [List.length_nil] at this; omega
  subst eq4
  clear hk
  clear ho hb
  obtain ⟨G4, d4, rfl, _, _⟩ := U4.out
  go_upto_region 5 with fail
  obtain ⟨W0, hV⟩ : ∃ W0, w14.alloc (.cells #[.slice G0 (nf La).length d0, .slice G1 R1.length d1, .slice G2 R2.length d2, .slice G3 R3.length d3, .slice G4 R4.length d4] 26) = W0 := ⟨_, rfl⟩
  have nW := Lib.hid (show Below w14.heap.size w14 W0 by rw [← hV]; exact (Below.refl _ _).alloc (Nat.le_refl _) _)
  have sW : W0.heap.size = w14.heap.size + 1 := by rw [← hV]; simp
  have CW : Hid (W0.cell? ⟨w14.heap.size, 0, none⟩ = some (.slice G0 (nf La).length d0) ∧ W0.cell? ⟨w14.heap.size, 1, none⟩ = some (.slice G1 R1.length d1) ∧ W0.cell? ⟨w14.heap.size, 2, none⟩ = some (.slice G2 R2.length d2) ∧ W0.cell? ⟨w14.heap.size, 3, none⟩ = some (.slice G3 R3.length d3) ∧ W0.cell? ⟨w14.heap.size, 4, none⟩ = some (.slice G4 R4.length d4)) := Lib.hid (by rw [← hV]; exact arr5 _ _ _ _ _ _ _)
  rw [hV]
  clear hV
  have NW := Lib.hid (M14.out.trans (nW.out.mono M14.out.size))
  have E14 := Lib.hid nW.out
  have E13 := Lib.hid (m14.out.trans (E14.out.mono m14.out.size))
  have E12 := Lib.hid (m13.out.trans (E13.out.mono m13.out.size))
  have E11 := Lib.hid (m12.out.trans (E12.out.mono m12.out.size))
  have E10 := Lib.hid (m11.out.trans (E11.out.mono m11.out.size))
  have EV := Lib.hid (m10.out.trans (E10.out.mono m10.out.size))
  have E9 := Lib.hid (nV.out.trans (EV.out.mono nV.out.size))
  have E8 := Lib.hid (n9.out.trans (E9.out.mono n9.out.size))
  have E7 := Lib.hid (n8.out.trans (E8.out.mono n8.out.size))
  have E6 := Lib.hid (n7.out.trans (E7.out.mono n7.out.size))
  have E5 := Lib.hid (n6.out.trans (E6.out.mono n6.out.size))
  have z5 := n5.out.size
  have z6 := n6.out.size
  have z7 := n7.out.size
  have z8 := n8.out.size
  have z9 := n9.out.size
  have z10 := m10.out.size
  have z11 := m11.out.size
  have z12 := m12.out.size
  have z13 := m13.out.size
  have z14 := m14.out.size
  obtain ⟨tp, tp0, tp1, tp2, tp3, tp4, tp5⟩ : ∃ tp : Nat → Nat, tp 0 = w4.heap.size ∧ tp 1 = w5.heap.size ∧ tp 2 = w6.heap.size ∧ tp 3 = w7.heap.size ∧ tp 4 = w8.heap.size ∧ tp 5 = w9.heap.size := ⟨fun k => match k with
    | 0 => w4.heap.size
    | 1 => w5.heap.size
    | 2 => w6.heap.size
    | 3 => w7.heap.size
    | 4 => w8.heap.size
    | _ => w9.heap.size, rfl, rfl, rfl, rfl, rfl, rfl⟩
  have HT : Hid (∀ k, k < 5 → tp 0 ≤ tp k ∧ tp k ≤ tp (k + 1) ∧ tp (k + 1) ≤ w9.heap.size) := Lib.hid fun k hk => by
    match k, hk with
    | 0, _ => rw [tp0, tp1]; omega
    | 1, _ => rw [tp0, tp1, tp2]; omega
    | 2, _ => rw [tp0, tp2, tp3]; omega
    | 3, _ => rw [tp0, tp3, tp4]; omega
    | 4, _ => rw [tp0, tp4, tp5]; omega
  have hw9 : w9.heap.size < V.heap.size := by omega
  have hw14 : w14.heap.size < W0.heap.size := by omega
  have HF : Hid (∀ k, k < 5 → ∃ f g T, W0.cell? ⟨w9.heap.size, k, none⟩ = some f ∧ W0.cell? ⟨w14.heap.size, k, none⟩ = some g ∧ Lies W0 f T (tp k) (tp (k + 1)) ∧ Lies W0 g T V.heap.size W0.heap.size ∧ T.length ≤ 1000) := Lib.hid fun k hk => by
    have hz := EV.out.size
    have y0 := E10.out.size
    have y1 := E11.out.size
    have y2 := E12.out.size
    have y3 := E13.out.size
    have y4 := E14.out.size
    match k, hk with
    | 0, _ => exact ⟨_, _, (nf La), (EV.out.cell (p := ⟨w9.heap.size, 0, none⟩) hw9).trans CV.out.1, CW.out.1, by rw [tp0, tp1]; exact T0.out.below E5.out, (U0.out.below E10.out).more (by omega) (by omega), by omega⟩
    | 1, _ => exact ⟨_, _, R1, (EV.out.cell (p := ⟨w9.heap.size, 1, none⟩) hw9).trans CV.out.2.1, CW.out.2.1, by rw [tp1, tp2]; exact T1.out.below E6.out, (U1.out.below E11.out).more (by omega) (by omega), by omega⟩
    | 2, _ => exact ⟨_, _, R2, (EV.out.cell (p := ⟨w9.heap.size, 2, none⟩) hw9).trans CV.out.2.2.1, CW.out.2.2.1, by rw [tp2, tp3]; exact T2.out.below E7.out, (U2.out.below E12.out).more (by omega) (by omega), by omega⟩
    | 3, _ => exact ⟨_, _, R3, (EV.out.cell (p := ⟨w9.heap.size, 3, none⟩) hw9).trans CV.out.2.2.2.1, CW.out.2.2.2.1, by rw [tp3, tp4]; exact T3.out.below E8.out, (U3.out.below E13.out).more (by omega) (by omega), by omega⟩
    | 4, _ => exact ⟨_, _, R4, (EV.out.cell (p := ⟨w9.heap.size, 4, none⟩) hw9).trans CV.out.2.2.2.2, CW.out.2.2.2.2, by rw [tp4, tp5]; exact T4.out.below E9.out, (U4.out.below E14.out).more (by omega) (by omega), by omega⟩
  have hV0 : w9.heap.size < W0.heap.size := by have := EV.out.size; omega
  have HW0 := Lib.hid (CW.out.1)
  have hVs := EV.out.size
  have U0' := Lib.hid ((U0.out.below E10.out).more (Nat.le_refl _) E10.out.size)
  have WLA := Lib.hid (LA.out.below NW.out)
  have WLB := Lib.hid (LB.out.below NW.out)
  have WLX := Lib.hid (LX.out.below NW.out)
  have WLY := Lib.hid (LY.out.below NW.out)
  have BW := Lib.hid (B4.out.trans (NW.out.mono B4.out.size))
  have hs40 : tp 0 ≤ W0.heap.size := by have := NW.out.size; omega
  have hs4w : w.heap.size ≤ tp 0 := by have := B4.out.size; omega
  have hV14 : V.heap.size ≤ w14.heap.size := by omega
  clear E5 E6 E7 E8 E9 E10 E11 E12 E13 E14 EV n5 n6 n7 n8 n9 nV m10 m11 m12 m13 m14 nW N4 N5 N6 N7 N8 N9 NV M10 M11 M12 M13 M14 NW T0 T1 T2 T3 T4 U0 U1 U2 U3 U4 CV CW LA LB LX LY B4 S1 S2 S3 S4 z5 z6 z7 z8 z9 z10 z11 z12 z13 z14 sV sW tp1 tp2 tp3 tp4
  go_wp2_with fail
  go_loopw [11, 12] (fun i _ wr => ∃ k : Nat, k ≤ 5 ∧ i = .int .i64 k ∧ Left (tp 0) (tp k) W0 wr) (fun i _ _ => 5 - (intOf i).toNat)
  case atStart => exact ⟨0, by omega, rfl, Left.refl _ _ _⟩
  case round =>
    obtain ⟨k, hk, rfl, hL⟩ := hrel
    by_cases hlt : k < 5
    · obtain ⟨f, g, T, hf, hg, lf, lg, hT⟩ := HF.out k hlt
      obtain ⟨t1, t2, t3⟩ := HT.out k hlt
      have HL := Lib.hid hL
      have hsz := hL.below.size
      have f0 := (hL.cell w9.heap.size k hV0 (.inr (by omega))).trans hf
      have g0 := (hL.cell w14.heap.size k hw14 (.inr (by omega))).trans hg
      have lf1 := lf.left hL (.inr (Nat.le_refl _))
      have lg1 := lg.left hL (.inr (by omega))
      have LK := Lib.hid (fun W (h : Below wr.heap.size wr W) => Like_any f g T T W (lf1.below h).isZ.isP (lg1.below h).isZ.isP (by omega) (by omega))
      obtain ⟨FA, fc, rfl, fz, fk⟩ := lf1
      obtain ⟨GA, gc, rfl, _, _⟩ := lg1
      have FK := Lib.hid fk
      have K0 := Lib.hid (fun w' (hb : Below wr.heap.size wr w') => (⟨hb, (hb.cell (p := ⟨w9.heap.size, k, none⟩) (by show w9.heap.size < wr.heap.size; omega)).trans f0, (hb.cell (p := ⟨w14.heap.size, k, none⟩) (by show w14.heap.size < wr.heap.size; omega)).trans g0⟩ : Below wr.heap.size wr w' ∧ w'.cell? ⟨w9.heap.size, k, none⟩ = some (.slice FA T.length fc) ∧ w'.cell? ⟨w14.heap.size, k, none⟩ = some (.slice GA T.length gc)))
      have i0 : (k : Int) < 5 := by omega
      have i1 : (0 : Int) ≤ (k : Int) := by omega
      rw [sameL_self] at LK
      clear fk fz lf lg hf hg hL
      go_upto_region 8 with fail
      go_region_held3 (fun w' => Below wr.heap.size wr w' ∧ w'.cell? ⟨w9.heap.size, k, none⟩ = some (.slice FA T.length fc) ∧ w'.cell? ⟨w14.heap.size, k, none⟩ = some (.slice GA T.length gc)) (first | exact K0.out _ (by assumption) | (go_split_ands; exact K0.out _ (by assumption)) | exact K0.out _ (Below.drew (Below.refl _ _)) | fail) (first
        | (go_at_call 15; (go_split_ands; (with_reducible refine (LK.out _ (by assumption)).mono ?_); rintro e v1 ⟨rfl, hb⟩; have hB1 := ch1 (w0 := wr) (by assumption) hb; clear hb))
        | fail)
      have HL1 := Lib.hid ((HL.out.on hB1 hs40).more t2)
      have FK1 : Hid (∀ j (h : j < T.length), 0 ≤ j → ∃ b off, FA = some ⟨b, off, none⟩ ∧ tp k ≤ b ∧ b < tp (k + 1) ∧ b < v1.heap.size ∧ (∀ o, v1.frozen? ⟨b, o, none⟩ = false) ∧ v1.cell? ⟨b, off + j * 2, none⟩ = some (.int .u64 (T[j].1))) := Lib.hid fun j h _ => by
        obtain ⟨b, off, e, h1, h2, h3, h4, h5⟩ := FK.out (by omega)
        exact ⟨b, off, e, h1, h2, Nat.lt_of_lt_of_le h3 hB1.size, fun o => (hB1.frozen (p := ⟨b, o, none⟩) h3).trans (h4 o), (hB1.cell (p := ⟨b, off + j * 2, none⟩) h3).trans (h5 j h).1⟩
      have FC := Lib.hid (fun w' (h : Left (tp 0) (tp (k + 1)) v1 w') => (h.cell w9.heap.size k (Nat.lt_of_lt_of_le hV0 (Nat.le_trans hsz hB1.size)) (.inr t3)).trans (K0.out _ hB1).2.1)
      obtain ⟨v9, rfl⟩ : ∃ x : World, x = v1 := ⟨_, rfl⟩
      clear hB1 f0 g0 K0 LK FK
      go_wp2_with fail
      go_loopw [12] (fun c wr => ∃ m : Nat, m ≤ T.length ∧ c = .int .i64 m ∧ Left (tp 0) (tp (k + 1)) v9 wr ∧ (∀ j (h : j < T.length), m ≤ j → ∃ b off, FA = some ⟨b, off, none⟩ ∧ tp k ≤ b ∧ b < tp (k + 1) ∧ b < wr.heap.size ∧ (∀ o, wr.frozen? ⟨b, o, none⟩ = false) ∧ wr.cell? ⟨b, off + j * 2, none⟩ = some (.int .u64 (T[j].1)))) (fun c _ => T.length - (intOf c).toNat)
      case atStart => exact ⟨0, Nat.zero_le _, rfl, Left.refl _ _ _, FK1.out⟩
      case round =>
        obtain ⟨m, hm, rfl, hl, hc⟩ := hrel
        have f1 := FC.out _ hl
        have HL2 := Lib.hid hl
        have HC := Lib.hid hc
        by_cases hmt : m < T.length
        · obtain ⟨b, off, rfl, h1, h2, h3, h4, h5⟩ := hc m hmt (Nat.le_refl _)
          have HN := Lib.hid (fun j (hj : j < T.length) (hmj : m + 1 ≤ j) (u : Value) => by
            obtain ⟨b2, off2, e, q1, q2, q3, q4, q5⟩ := HC.out j hj (by omega)
            have e2 : b = b2 ∧ off = off2 := by
              injection e with e
              injection e with e1 e2 _
              exact ⟨e1, e2⟩
            obtain ⟨rfl, rfl⟩ := e2
            exact (World.cell?_setCell_other (w := wr) (a := ⟨b, off + m * 2, none⟩) (b := ⟨b, off + j * 2, none⟩) (v := u) (by intro e; injection e with _ e _; omega)).trans q5)
          have H3 := Lib.hid h3
          have H4 := Lib.hid h4
          have t4 : tp 0 ≤ b := by omega
          clear hl hc
          go_wp2
          exact ⟨⟨m + 1, by omega, by go_num, HL2.out.set t4 h2 _, fun j hj hmj => ⟨b, off, rfl, h1, h2, by simpa [World.setCell] using H3.out, fun o => by rw [World.frozen?_setCell]; exact H4.out o, HN.out j hj hmj _⟩⟩, by simp [intOf]; omega⟩
        · clear hl hc
          go_wp2
          exact ⟨⟨k + 1, by omega, by go_num, HL1.out.trans HL2.out⟩, by simp [intOf]; omega⟩
    · obtain rfl : k = 5 := by omega
      rw [tp5] at hL
      obtain ⟨cvb, hcv⟩ : ∃ r : Bool, (r = true ↔ Iset.covers La Lb) := by
        by_cases h : Iset.covers La Lb
        · exact ⟨true, by simp [h]⟩
        · exact ⟨false, by simp [h]⟩
      have hsz := hL.below.size
      have HX := Lib.hid (WLX.out.left hL (.inl (Nat.le_of_eq tp0.symm)))
      have HY := Lib.hid (WLY.out.left hL (.inl (Nat.le_of_eq tp0.symm)))
      have HA := Lib.hid (WLA.out.left hL (.inl (Nat.le_of_eq tp0.symm)))
      have HB := Lib.hid (WLB.out.left hL (.inl (Nat.le_of_eq tp0.symm)))
      have HU := Lib.hid (U0'.out.left hL (.inr (by omega)))
      have g0 := (hL.cell w14.heap.size 0 hw14 (.inr (by omega))).trans HW0.out
      have hgr : w14.heap.size < wr.heap.size := by omega
      have BR := Lib.hid (BW.out.trans (hL.below.mono hs4w))
      have hwr : w.heap.size ≤ wr.heap.size := BR.out.size
      clear hL WLX WLY WLA WLB U0' HW0 BW hk hlt
      have C0 := Lib.hid (fun W (h : Below wr.heap.size wr W) => Is_any x1 La W (HX.out.below h).isZ.isP (by omega))
      have C1 := Lib.hid (fun W (h : Below wr.heap.size wr W) => Like_any (.slice G0 (nf La).length d0) a1 (nf La) La W (HU.out.below h).isZ.isP (HA.out.below h).isZ.isP (by omega) (by omega))
      have C2 := Lib.hid (fun W (h : Below wr.heap.size wr W) => HasI_any x1 La n W (HX.out.below h).isZ.isP (by omega))
      have C3 := Lib.hid (fun W (h : Below wr.heap.size wr W) => docHas_any a1 La n W (HA.out.below h).isZ.isP (by omega))
      have C4 := Lib.hid (fun W (h : Below wr.heap.size wr W) => (Covers_any x1 y1 La Lb W (HX.out.below h).isZ.isP (HY.out.below h).isZ.isP WA.out WB.out (by omega) (by omega)).mono (R' := fun e w' => e = .returned (.bool cvb) ∧ Below W.heap.size W w') (fun e w' ⟨r, he, hr, hw⟩ => ⟨by rw [he, show r = cvb from Bool.eq_iff_iff.2 (hr.trans hcv.symm)], hw⟩))
      have C5 := Lib.hid (fun W (h : Below wr.heap.size wr W) => (docMinus_any b1 a1 Lb La W (HB.out.below h).isZ (HA.out.below h).isZ WB.out WA.out (by omega) (by omega)).mono (R' := fun e w' => ∃ (A : Option Addr) (m c : Nat), e = .returned (.slice A m c) ∧ ((m : Int) == 0) = cvb ∧ Below W.heap.size W w') (fun e w' ⟨v, R, he, hk, ho, hw⟩ => by obtain ⟨A, c, rfl, _⟩ := ho.isZ; exact ⟨A, R.length, c, he, by rw [Bool.eq_iff_iff, hcv, ← less_nil WB.out hk, beq_iff_eq]; omega, hw⟩))
      have C6 := Lib.hid (fun W (h : Below wr.heap.size wr W) => Same_any x1 y1 La Lb W (HX.out.below h).isZ.isP (HY.out.below h).isZ.isP (by omega) (by omega))
      have C7 := Lib.hid (fun W (h : Below wr.heap.size wr W) => docSame_any a1 b1 La Lb W (HA.out.below h).isZ (HB.out.below h).isZ WA.out WB.out (by omega) (by omega))
      have C8 := Lib.hid (fun W (h : Below wr.heap.size wr W) => Size_any x1 La W (HX.out.below h).isZ.isP WA.out (by omega))
      have C9 := Lib.hid (fun W (h : Below wr.heap.size wr W) => docSize_any a1 La W (HA.out.below h).isZ WA.out (by omega))
      have C10 := Lib.hid (fun W (h : Below wr.heap.size wr W) => same_like x1 a1 La W (HX.out.below h).isZ.isP (HA.out.below h).isZ.isP (by omega))
      have C11 := Lib.hid (fun W (h : Below wr.heap.size wr W) => same_like y1 b1 Lb W (HY.out.below h).isZ.isP (HB.out.below h).isZ.isP (by omega))
      have C12 := Lib.hid (fun W (h : Below wr.heap.size wr W) => wakes_any W (HE.out.below (BR.out.trans (h.mono hwr))))
      clear HX HY HA HB HU hcv HE
      generalize sameL (nf La) La = s1 at *
      generalize has La n = s2 at *
      generalize sameL (nf La) (nf Lb) = s3 at *
      generalize Iset.size La = s4 at *
      have K0 := Lib.hid (fun w' (hb : Below wr.heap.size wr w') => (⟨hb, (hb.cell (p := ⟨w14.heap.size, 0, none⟩) hgr).trans g0⟩ : Below wr.heap.size wr w' ∧ w'.cell? ⟨w14.heap.size, 0, none⟩ = some (.slice G0 (nf La).length d0)))
      go_upto_region 14 with fail
      go_region_held3 (fun w' => Below wr.heap.size wr w' ∧ w'.cell? ⟨w14.heap.size, 0, none⟩ = some (.slice G0 (nf La).length d0)) (first | exact K0.out _ (by assumption) | (go_split_ands; exact K0.out _ (by assumption)) | exact K0.out _ (Below.drew (Below.refl _ _)) | fail) (first
        | (go_at_call 16; (go_split_ands; (with_reducible refine (C0.out _ (by assumption)).mono ?_); rintro e v0 ⟨rfl, hb⟩; have hB1 := ch1 (w0 := wr) (by assumption) hb; clear hb))
        | (go_at_call 15; (go_split_ands; (with_reducible refine (C1.out _ (by assumption)).mono ?_); rintro e v1 ⟨rfl, hb⟩; have hB1 := ch1 (w0 := wr) (by assumption) hb; clear hb))
        | (go_at_call 17; (go_split_ands; (with_reducible refine (C2.out _ (by assumption)).mono ?_); rintro e v2 ⟨rfl, hb⟩; have hB1 := ch1 (w0 := wr) (by assumption) hb; clear hb))
        | (go_at_call 18; (go_split_ands; (with_reducible refine (C3.out _ (by assumption)).mono ?_); rintro e v3 ⟨rfl, hb⟩; have hB1 := ch1 (w0 := wr) (by assumption) hb; clear hb))
        | (go_at_call 19; (go_split_ands; (with_reducible refine (C4.out _ (by assumption)).mono ?_); rintro e v4 ⟨rfl, hb⟩; have hB1 := ch1 (w0 := wr) (by assumption) hb; clear hb))
        | (go_at_call 13; (go_split_ands; (with_reducible refine (C5.out _ (by assumption)).mono ?_); rintro e v5 ⟨mA, mm, mc, rfl, hmm, hb⟩; have hB1 := ch1 (w0 := wr) (by assumption) hb; clear hb))
        | (go_at_call 20; (go_split_ands; (with_reducible refine (C6.out _ (by assumption)).mono ?_); rintro e v6 ⟨rfl, hb⟩; have hB1 := ch1 (w0 := wr) (by assumption) hb; clear hb))
        | (go_at_call 21; (go_split_ands; (with_reducible refine (C7.out _ (by assumption)).mono ?_); rintro e v7 ⟨rfl, hb⟩; have hB1 := ch1 (w0 := wr) (by assumption) hb; clear hb))
        | (go_at_call 22; (go_split_ands; (with_reducible refine (C8.out _ (by assumption)).mono ?_); rintro e v8 ⟨rfl, hb⟩; have hB1 := ch1 (w0 := wr) (by assumption) hb; clear hb))
        | (go_at_call 23; (go_split_ands; (with_reducible refine (C9.out _ (by assumption)).mono ?_); rintro e v9 ⟨rfl, hb⟩; have hB1 := ch1 (w0 := wr) (by assumption) hb; clear hb))
        | (go_at_call 15; (go_split_ands; (with_reducible refine (C10.out _ (by assumption)).mono ?_); rintro e v10 ⟨rfl, hb⟩; have hB1 := ch1 (w0 := wr) (by assumption) hb; clear hb))
        | (go_at_call 15; (go_split_ands; (with_reducible refine (C11.out _ (by assumption)).mono ?_); rintro e v11 ⟨rfl, hb⟩; have hB1 := ch1 (w0 := wr) (by assumption) hb; clear hb))
        | (go_at_call 24; (go_split_ands; (with_reducible refine (C12.out _ (by assumption)).mono ?_); rintro e v12 ⟨rfl, hb⟩; have hB1 := ch1 (w0 := wr) (by assumption) hb; clear hb))
        | fail)
      go_wp2
      go_ret
      exact ⟨rfl, BR.out.trans (hB1.mono hwr)⟩
end Go.Proofs.YtgjahnidjcfbiaaGreatDoor
