/- The document's Kept, kind 2. -/
import Derived.Test.YtgjahnidjcfbiaaGreatDoorK4
namespace Go.Proofs.YtgjahnidjcfbiaaGreatDoor
open Go.RowKit Go.Shelf Go.Lib
open Iset (nf has NF Res Wide hasP mayP EndsOf Grid Kin KL opOr opAnd opLess opNot)
set_option maxRecDepth 100000 in
set_option maxHeartbeats 16000000 in
theorem docKept2_any (va vb : Value) (a b : List (Int × Int)) (w : World) (ha : IsZ w va a) (hb : IsZ w vb b) (wa : Wide a) (wb : Wide b) (la : a.length ≤ 100000) (lb : b.length ≤ 100000) :
    Calls Tryz.prog 30 #[va, vb, .int .i64 2] w fun e w' => ∃ v' R, e = .returned v' ∧ KL opLess a b R ∧ OwnP w.heap.size w' v' R ∧ Below w.heap.size w w' := by
  obtain ⟨A, ca, rfl, hA, zA⟩ := ha
  obtain ⟨B, cb, rfl, hB, zB⟩ := hb
  have HA := Lib.hid hA
  have HZ := Lib.hid zA
  have HBB := Lib.hid hB
  have HZB := Lib.hid zB
  have GR := Lib.hid (fun E (h : EndsOf ([] ++ a ++ b) E) => Grid.of wa wb h)
  have KS := Lib.hid (Kin.start (k := opLess) (a := a) (b := b))
  have KD := Lib.hid (fun R i h => Kin.done (k := opLess) (a := a) (b := b) (R := R) (i := i) h)
  clear hA zA hB zB wa wb
  go_enter Tryz.func30, Tryz.ntmps30
  go_upto_region 3 with (at_builtin; refine wpList_appPs _ rfl (.tmp 15) (.tmp 16) rfl w.heap.size (.slice none 0 0) [] rfl (OwnP.nil _ _) A a.length ca a rfl HA.out HZ.out rfl (by simp; omega) (Nat.le_refl _) ?_; intro v1 w1 ho1 hb1; have HO1 := Lib.hid ho1; have HB1 := Lib.hid hb1; clear ho1 hb1)
  have hs1 := HB1.out.size
  go_upto_region 4 with (at_builtin; refine wpList_appPs _ rfl (.tmp 18) (.tmp 19) rfl w.heap.size _ ([] ++ a) rfl HO1.out B b.length cb b rfl (HBB.out.below HB1.out) HZB.out rfl (by simp; omega) hs1 ?_; intro v2 w2 ho2 hb2; have HO2 := Lib.hid ho2; have HB2 := Lib.hid (HB1.out.trans hb2); clear ho2 hb2)
  have HC := Lib.hid (docEnds_any v2 _ w2 HO2.out.at (by simp; omega))
  go_wp2_with fail
  refine (HC.out).mono ?_
  rintro e w3 ⟨v3, E, rfl, ie, he, hb3⟩
  have hg := GR.out E he
  have G := Lib.hid hg
  have hpos := hg.pos
  have hlen := hg.len
  obtain ⟨A8, c8, rfl, _, _, hA8⟩ := ie
  obtain ⟨b8, o8, rfl, hb8, hc8⟩ := hA8 (by omega)
  have HC8 := Lib.hid hc8
  have HB3 := Lib.hid (HB2.out.trans (hb3.mono HB2.out.size))
  have KS1 := Lib.hid (show Kin opLess a b (E[0]'(by omega)) 0 [] by rw [hg.first (by omega)]; exact KS.out)
  clear he hg hA8 hc8 hb3 GR HO2 HO1 HC KS
  have HA3 := Lib.hid (HA.out.below HB3.out)
  have HB33 := Lib.hid (HBB.out.below HB3.out)
  go_wp2_with fail
  go_loopw [9, 10, 11, 12, 13, 14] (fun o i _ _ _ _ wr => ∃ (n : Nat) (out : List (Int × Int)) (h : n < E.length), i = .int .i64 n ∧ OwnP w3.heap.size wr o out ∧ Kin opLess a b (E[n]'h) n out ∧ Below w3.heap.size w3 wr) (fun _ i _ _ _ _ _ => E.length - (intOf i).toNat)
  case atStart => exact ⟨0, [], by omega, rfl, OwnP.nil _ _, KS1.out, Below.refl _ _⟩
  case round =>
    obtain ⟨n, out, hn, rfl, ho, hin, hb⟩ := hrel
    have hs := hb.size
    by_cases hlt : n + 1 < E.length
    · have hr := G.out.rise n hlt
      have h0 := G.out.lo (E[n]'hn) (List.getElem_mem hn)
      have hF := G.out.hi (E[n + 1]'hlt) (List.getElem_mem hlt)
      have SK := Lib.hid (hin.skip hr (G.out.onA n hlt) (G.out.onB n hlt))
      have AP := Lib.hid (fun hl => hin.app hl h0 hr hF (G.out.onA n hlt) (G.out.onB n hlt))
      have JN := Lib.hid (fun s q (e : out = s ++ [q]) hq => Kin.join (e ▸ hin) hq hr hF (G.out.onA n hlt) (G.out.onB n hlt))
      have d0 := (hb.cell (p := ⟨b8, o8 + n, none⟩) hb8).trans (HC8.out n hn)
      have d1 := (hb.cell (p := ⟨b8, o8 + (n + 1), none⟩) hb8).trans (HC8.out (n + 1) hlt)
      have hlo := hin.len
      generalize hE0 : E[n]'hn = e0 at *
      have HE0 := Lib.hid hE0
      clear hE0
      generalize hE1 : E[n + 1]'hlt = e1 at *
      have HE1 := Lib.hid hE1
      clear hE1
      have hb8r := Nat.lt_of_lt_of_le hb8 hb.size
      have HHA := Lib.hid (fun W (h : Below wr.heap.size wr W) => docHas_any (.slice A a.length ca) a e0 W ⟨A, ca, rfl, (HA3.out.below hb).below h⟩ (by omega))
      have HHB := Lib.hid (fun W (h : Below wr.heap.size wr W) => docHas_any (.slice B b.length cb) b e0 W ⟨B, cb, rfl, (HB33.out.below hb).below h⟩ (by omega))
      have HO := Lib.hid ho
      have HB := Lib.hid hb
      clear ho hb hin
      generalize has a e0 = x at *
      generalize has b e0 = y at *
      have i0 : (n : Int) < (E.length : Int) := by omega
      have i1 : (0 : Int) ≤ (n : Int) := by omega
      go_upto_region 9 with fail
      have K0 := Lib.hid (fun w' (hb : Below wr.heap.size wr w') => (⟨hb, (hb.cell (p := ⟨b8, o8 + n, none⟩) hb8r).trans d0⟩ : Below wr.heap.size wr w' ∧ w'.cell? ⟨b8, o8 + n, none⟩ = some (.int .u64 e0)))
      go_region_held3 (fun w' => Below wr.heap.size wr w' ∧ w'.cell? ⟨b8, o8 + n, none⟩ = some (.int .u64 e0)) (first | exact K0.out _ (by assumption) | (go_split_ands; exact K0.out _ (by assumption)) | exact K0.out _ (Below.drew (Below.refl _ _)) | fail) (first
        | (go_at_call 18; (go_split_ands; (with_reducible refine (HHA.out _ (by assumption)).mono ?_); rintro e v1 ⟨rfl, hb⟩; have hB1 := ch1 (w0 := wr) (by assumption) hb; clear hb))
        | (go_at_call 18; (go_split_ands; (with_reducible refine (HHB.out _ (by assumption)).mono ?_); rintro e v2 ⟨rfl, hb⟩; have hB1 := ch1 (w0 := wr) (by assumption) hb; clear hb))
        | fail)
      have q0 := HC8.out n hn
      have q1 := HC8.out (n + 1) hlt
      rw [HE1.out] at q1
      rw [HE0.out] at q0
      have f0 := (hB1.cell (p := ⟨b8, o8 + n, none⟩) hb8r).trans d0
      have f1 := (hB1.cell (p := ⟨b8, o8 + (n + 1), none⟩) hb8r).trans d1
      have HO1 := Lib.hid (HO.out.below hB1)
      have HB1 := Lib.hid (HB.out.trans (hB1.mono hs))
      clear d0 d1 HO HB hB1 HHA HHB K0 hs hb8r
      have hs1 := HB1.out.size
      obtain ⟨W1, rfl⟩ : ∃ x : World, x = v2 := ⟨_, rfl⟩
      have d0 := f0
      have d1 := f1
      clear f0 f1
      cases x
      · cases y
        · skip
          have HZ := Lib.hid (SK.out rfl)
          clear SK AP JN
          go_wp2
          exact ⟨⟨n + 1, out, hlt, by go_num, HO1.out, by rw [HE1.out]; exact HZ.out, HB1.out⟩, by simp [intOf]; omega⟩
        · skip
          have HZ := Lib.hid (SK.out rfl)
          clear SK AP JN
          go_wp2
          exact ⟨⟨n + 1, out, hlt, by go_num, HO1.out, by rw [HE1.out]; exact HZ.out, HB1.out⟩, by simp [intOf]; omega⟩
      · cases y
        · skip
          rcases Iset.nil_or_snoc out with rfl | ⟨s, z, rfl⟩
          · have HZ := Lib.hid (AP.out (fun s q e => by simp at e) rfl)
            clear SK AP JN
            obtain ⟨A2, c2, rfl, _⟩ := HO1.out.at
            rw [List.length_nil] at HO1 ⊢
            go_upto_region 13 with fail
            go_quiet (fail)
            have HO2 := Lib.hid (HO1.out.below (bel_drewN nq (Below.refl _ _)))
            have HB2 := Lib.hid (bel_drewN nq HB1.out)
            have hs2 := HB2.out.size
            generalize W1.drewN nq = W at *
            have K0 := Lib.hid (fun w' (hb : Below w3.heap.size w3 w') => (⟨(hb.cell (p := ⟨b8, o8 + n, none⟩) hb8).trans q0, (hb.cell (p := ⟨b8, o8 + (n + 1), none⟩) hb8).trans q1⟩ : w'.cell? ⟨b8, o8 + n, none⟩ = some (.int .u64 e0) ∧ w'.cell? ⟨b8, o8 + (n + 1), none⟩ = some (.int .u64 e1)))
            have i2 : IntKind.i64.wrap ((n : Int) + 1) = (n : Int) + 1 := by rw [IntWalk.i64_in]; constructor <;> omega
            have i3 : (n : Int) + 1 < (E.length : Int) := by omega
            have i4 : (0 : Int) ≤ (n : Int) + 1 := by omega
            have i5 : ((n : Int) + 1).toNat = n + 1 := by omega
            clear d0 d1
            go_upto_region 15 with fail
            go_region_held3 (fun w' => w'.cell? ⟨b8, o8 + n, none⟩ = some (.int .u64 e0) ∧ w'.cell? ⟨b8, o8 + (n + 1), none⟩ = some (.int .u64 e1)) (first | exact K0.out _ HB2.out | exact K0.out _ (HB2.out.alloc hs2 _) | exact K0.out _ HB2.out.drew | exact K0.out _ (HB2.out.alloc hs2 _).drew | exact K0.out _ HB3.out | fail) (first
              | (refine step_appP rfl (.tmp 107) (.tmp 118) rfl w3.heap.size _ [] rfl (OwnP.below HO2.out (((Below.refl _ _).alloc (Nat.le_refl _) _).drew)) W.heap.size e0 e1 rfl (by go_simp) (by go_simp) (by simp) (by simp [World.drew]; omega) ?_; intro v2 w2 ho2 hb2; have HO3 := Lib.hid ho2; have HB3 := Lib.hid ((HB2.out.alloc hs2 (.cells #[.int .u64 e0, .int .u64 e1] 29)).drew.trans hb2); clear ho2 hb2)
              | fail)
            clear i2 i4 i5
            go_wp2
            exact ⟨⟨n + 1, _, hlt, by go_num, HO3.out, by rw [HE1.out]; exact HZ.out, HB3.out⟩, by simp [intOf]; omega⟩
          · have hn2 : (s ++ [z]).length = s.length + 1 := by simp
            rw [hn2] at hlo
            obtain ⟨g, c2, rfl, hg1, hg2, hfr, hcl⟩ := HO1.out.form (by omega)
            have hz := hcl s.length (by omega)
            have ez : (s ++ [z])[s.length]'(by omega) = z := by simp
            rw [ez] at hz
            obtain ⟨z1, z2⟩ := hz
            rw [hn2] at HO1 ⊢
            clear hcl ez hn2
            have hneg : ¬ (s.length : Int) < 0 := by omega
            go_upto_region 13 with fail
            by_cases hq : z.2 = e0
            · have HZ := Lib.hid (JN.out s z rfl hq rfl)
              have hq1 : (z.2 == e0) = true := by simpa using hq
              clear SK AP JN hq
              go_quiet (fail)
              have HO2 := Lib.hid (HO1.out.below (bel_drewN nq (Below.refl _ _)))
              have HB2 := Lib.hid (bel_drewN nq HB1.out)
              have y1 : (W1.drewN nq).cell? ⟨g, s.length * 2, none⟩ = some (.int .u64 z.1) := z1
              have y2 : (W1.drewN nq).cell? ⟨g, s.length * 2 + 1, none⟩ = some (.int .u64 z.2) := z2
              have y3 : ∀ o, (W1.drewN nq).frozen? ⟨g, o, none⟩ = false := hfr
              have y4 : (W1.drewN nq).cell? ⟨b8, o8 + (n + 1), none⟩ = some (.int .u64 e1) := d1
              clear z1 z2 hfr d0 d1
              generalize W1.drewN nq = W at *
              go_wp2
              exact ⟨⟨n + 1, _, hlt, by go_num, OwnP.stored HO2.out e1, by rw [HE1.out]; exact HZ.out, HB2.out.setCell hg1 _⟩, by simp [intOf]; omega⟩
            · have HZ := Lib.hid (AP.out (fun s' q e => by have := List.append_inj_right' e rfl; injection this with this; rw [← this]; exact hq) rfl)
              have hq1 : (z.2 == e0) = false := by simpa using hq
              clear SK AP JN hq
              go_quiet (fail)
              have HO2 := Lib.hid (HO1.out.below (bel_drewN nq (Below.refl _ _)))
              have HB2 := Lib.hid (bel_drewN nq HB1.out)
              have hs2 := HB2.out.size
              clear z1 z2 hfr
              generalize W1.drewN nq = W at *
              have K0 := Lib.hid (fun w' (hb : Below w3.heap.size w3 w') => (⟨(hb.cell (p := ⟨b8, o8 + n, none⟩) hb8).trans q0, (hb.cell (p := ⟨b8, o8 + (n + 1), none⟩) hb8).trans q1⟩ : w'.cell? ⟨b8, o8 + n, none⟩ = some (.int .u64 e0) ∧ w'.cell? ⟨b8, o8 + (n + 1), none⟩ = some (.int .u64 e1)))
              have i2 : IntKind.i64.wrap ((n : Int) + 1) = (n : Int) + 1 := by rw [IntWalk.i64_in]; constructor <;> omega
              have i3 : (n : Int) + 1 < (E.length : Int) := by omega
              have i4 : (0 : Int) ≤ (n : Int) + 1 := by omega
              have i5 : ((n : Int) + 1).toNat = n + 1 := by omega
              clear d0 d1
              go_upto_region 15 with fail
              go_region_held3 (fun w' => w'.cell? ⟨b8, o8 + n, none⟩ = some (.int .u64 e0) ∧ w'.cell? ⟨b8, o8 + (n + 1), none⟩ = some (.int .u64 e1)) (first | exact K0.out _ HB2.out | exact K0.out _ (HB2.out.alloc hs2 _) | exact K0.out _ HB2.out.drew | exact K0.out _ (HB2.out.alloc hs2 _).drew | exact K0.out _ HB3.out | fail) (first
                | (refine step_appP rfl (.tmp 107) (.tmp 118) rfl w3.heap.size _ (s ++ [z]) rfl (OwnP.below HO2.out (((Below.refl _ _).alloc (Nat.le_refl _) _).drew)) W.heap.size e0 e1 rfl (by go_simp) (by go_simp) (by simp; omega) (by simp [World.drew]; omega) ?_; intro v2 w2 ho2 hb2; have HO3 := Lib.hid ho2; have HB3 := Lib.hid ((HB2.out.alloc hs2 (.cells #[.int .u64 e0, .int .u64 e1] 29)).drew.trans hb2); clear ho2 hb2)
                | fail)
              clear i2 i4 i5
              go_wp2
              exact ⟨⟨n + 1, _, hlt, by go_num, HO3.out, by rw [HE1.out]; exact HZ.out, HB3.out⟩, by simp [intOf]; omega⟩
        · skip
          have HZ := Lib.hid (SK.out rfl)
          clear SK AP JN
          go_wp2
          exact ⟨⟨n + 1, out, hlt, by go_num, HO1.out, by rw [HE1.out]; exact HZ.out, HB1.out⟩, by simp [intOf]; omega⟩
    · have hE : n + 1 = E.length := by omega
      rw [G.out.last n hn hE] at hin
      have HR := Lib.hid (KD.out _ _ hin (by omega))
      have HO := Lib.hid ho
      have HB := Lib.hid hb
      clear ho hb hin
      go_wp2
      go_ret
      exact ⟨_, _, rfl, HR.out, HO.out.mono HB3.out.size, HB3.out.trans (HB.out.mono HB3.out.size)⟩
end Go.Proofs.YtgjahnidjcfbiaaGreatDoor
