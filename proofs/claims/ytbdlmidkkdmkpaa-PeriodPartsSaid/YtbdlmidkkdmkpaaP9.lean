/- Compose. -/
import Derived.Test.YtbdlmidkkdmkpaaM2
import Derived.Deep.LoopGhost
namespace Go.Proofs.Ytbdlmidkkdmkpaa
open Go.RowKit
theorem Got.fresh {B : Nat} {w : World} {v : Value} {S : List Int} (h : Got B w v S) {k : Nat} (hk : v.ownBlock = some k) : k < w.heap.size := by
  obtain ⟨L, h1, _⟩ := h
  exact (World.ownsRow.lt h1 k hk).2
theorem Got.apart {B : Nat} {w : World} {v : Value} {S : List Int} (h : Got B w v S) {g : Nat} (hg : w.heap.size ≤ g) : v.ownBlock ≠ some g := fun e => by
  have := h.fresh e
  omega
theorem Box.grown {w w' : World} {g : Nat} {a b : Int} {row : Option Nat} (h : Box w g a b) (hg : w.grownBy w' row) (hr : row ≠ some g) : Box w' g a b := by
  have hk := hg.block g h.lt (fun e => hr e.symm)
  have hc : ∀ o, w'.cell? ⟨g, o, none⟩ = w.cell? ⟨g, o, none⟩ := fun o => by simp [World.cell?, hk]
  have hf : ∀ o, w'.frozen? ⟨g, o, none⟩ = w.frozen? ⟨g, o, none⟩ := fun o => by simp [World.frozen?, hk]
  exact ⟨(hc 0).trans h.c0, (hc 1).trans h.c1, fun o => (hf o).trans (h.fr o), Nat.lt_of_lt_of_le h.lt hg.size⟩
theorem getP {w : World} {g i : Nat} {L : List (Int × Int)} {p : Int × Int} (hi : i < L.length) (hp : L[i] = p) (h : w.cell? ⟨g, i * 2, none⟩ = some (.int .u64 (L[i].1)) ∧ w.cell? ⟨g, i * 2 + 1, none⟩ = some (.int .u64 (L[i].2))) : w.cell? ⟨g, i * 2, none⟩ = some (.int .u64 p.1) ∧ w.cell? ⟨g, i * 2 + 1, none⟩ = some (.int .u64 p.2) := by
  subst hp
  exact h
set_option maxRecDepth 100000 in
set_option maxHeartbeats 4000000 in
theorem Compose_any (r s : Nat) (hr1 : 1 ≤ r) (hr2 : r ≤ 13) (hs1 : 1 ≤ s) (hs2 : s ≤ 13) (w : World) :
    Calls Try.prog 25 #[.int .i64 (r : Int), .int .i64 (s : Int)] w fun e w' => ∃ A c, e = .returned (.tuple #[.slice A (compL r s).length c, .int .i64 0]) ∧ AtI w' A (compL r s) ∧ Below w.heap.size w w' := by
  have k1 := known_any (r : Int)
  have k2 := known_any (s : Int)
  rw [show knownB (r : Int) = true by simp [knownB]; omega] at k1
  rw [show knownB (s : Int) = true by simp [knownB]; omega] at k2
  have K1 := Lib.hid k1
  have K2 := Lib.hid k2
  clear k1 k2
  have T1 := Lib.hid (fun W => test_any r hr1 hr2 W)
  have T2 := Lib.hid (fun W => test_any s hs1 hs2 W)
  have TP := Lib.hid (fun W => placings_any W)
  go_enter Try.func25, Try.ntmps25
  go_wp2_with fail
  go_step3
  go_wp2_with fail
  refine (K1.out _).mono ?_
  rintro e w0 ⟨rfl, rfl⟩
  go_wp2_with fail
  refine (K2.out _).mono ?_
  rintro e w0 ⟨rfl, rfl⟩
  go_wp2_with fail
  refine (T1.out _).mono ?_
  rintro e w1 ⟨v1, rfl, f1, hb1⟩
  have F1 := Lib.hid f1
  clear f1
  go_wp2_with fail
  refine (T2.out _).mono ?_
  rintro e w2 ⟨v2, rfl, f2, hb2⟩
  have F2 := Lib.hid f2
  clear f2
  go_wp2_with fail
  refine (TP.out _).mono ?_
  rintro e w3 ⟨v3, rfl, ho3, hb3⟩
  obtain ⟨A, c, rfl, hA⟩ := ho3.at
  have hl15 : (plAll 6).length = 15 := pl_length
  obtain ⟨gP, rfl, ltP, cP⟩ := hA (by omega)
  have HP := Lib.hid cP
  have F1' := Lib.hid ((F1.out.below hb2).below hb3)
  have F2' := Lib.hid (F2.out.below hb3)
  have B3 := Lib.hid ((hb1.trans (hb2.mono hb1.size)).trans (hb3.mono (Nat.le_trans hb1.size hb2.size)))
  rw [hl15]
  clear hA ho3 cP F1 F2 hb1 hb2 hb3 T1 T2 TP K1 K2
  obtain ⟨Fa, capa, rfl, hFa, hCa⟩ := F1'.out
  obtain ⟨Fb, capb, rfl, hFb, hCb⟩ := F2'.out
  have CA := Lib.hid hCa
  have CB := Lib.hid hCb
  have HL := Lib.hid pl_length
  clear hCa hCb F1' F2' hl15
  obtain ⟨B, hB⟩ : ∃ B, w3.heap.size = B := ⟨_, rfl⟩
  have HBs := Lib.hid hB
  rw [hB] at ltP CA CB
  clear hB
  go_wp2
  go_step3
  go_wp2
  go_loopw [9, 33] (fun v x wr => ∃ i : Nat, i ≤ 15 ∧ x = .int .i64 i ∧ Got B wr v (seen1 r s (PL.take i)) ∧ Below B w3 wr) (fun _ x _ => 15 - (intOf x).toNat)
  case atStart => exact ⟨0, by omega, rfl, Got.nil _ _, Below.refl _ _⟩
  case round =>
    obtain ⟨i, hi, rfl, hG, hb⟩ := hrel
    have HG := Lib.hid hG
    have HB := Lib.hid hb
    clear hG hb
    by_cases hlt : i < 15
    · have hi0 : i < PL.length := by rw [HL.out]; exact hlt
      obtain ⟨p, hp⟩ : ∃ p, PL[i] = p := ⟨_, rfl⟩
      have hs1 := HB.out.size
      rw [HBs.out] at hs1
      obtain ⟨x0, x1⟩ := getP hi0 hp (HP.out i hi0)
      rw [← HB.out.cell (p := ⟨gP, i * 2, none⟩) (by simpa using ltP)] at x0
      rw [← HB.out.cell (p := ⟨gP, i * 2 + 1, none⟩) (by simpa using ltP)] at x1
      have i0 : (i : Int) < 15 := by omega
      have i1 : (0 : Int) ≤ (i : Int) := by omega
      have HPi := Lib.hid hp
      clear hp
      obtain ⟨wo, rfl⟩ : ∃ wo : World, wo = wr := ⟨_, rfl⟩
      obtain ⟨w5, hw5⟩ : ∃ w5, wo.alloc (.cells #[.int .u64 p.1, .int .u64 p.2] 24) = w5 := ⟨_, rfl⟩
      obtain ⟨g1, hg1⟩ : ∃ g1, wo.heap.size = g1 := ⟨_, rfl⟩
      have hX5 : Box w5 g1 p.1 p.2 := by rw [← hw5]; exact box_at _ _ _ _ _ hg1
      have hB5 : Below wo.heap.size wo w5 := by rw [← hw5]; exact (Below.refl _ _).alloc (Nat.le_refl _) _
      have X5 := Lib.hid hX5
      have G5 := Lib.hid (HG.out.below hB5)
      have N5 := Lib.hid (HG.out.apart (Nat.le_of_eq hg1))
      have B5 := Lib.hid (HB.out.trans (hB5.mono hs1))
      have hs5 := hX5.lt
      have hs6 : B ≤ g1 := by omega
      clear hX5 hB5
      go_wp2
      try rw [hw5]
      try rw [hg1]
      clear hw5 hg1 x0 x1
      go_loopw [9, 39] (fun v x wr => ∃ j : Nat, j ≤ 15 ∧ x = .int .i64 j ∧ Got B wr v (seenB r s i j p) ∧ Below B w3 wr ∧ Box wr g1 p.1 p.2 ∧ v.ownBlock ≠ some g1) (fun _ x _ => 15 - (intOf x).toNat)
      case atStart => exact ⟨0, by omega, rfl, by rw [seenB_zero]; exact G5.out, B5.out, X5.out, N5.out⟩
      case round =>
        obtain ⟨j, hj, rfl, hG2, hb2, hX2, hN2⟩ := hrel
        have HG2 := Lib.hid hG2
        have HB2 := Lib.hid hb2
        have HX2 := Lib.hid hX2
        have HN2 := Lib.hid hN2
        clear hG2 hb2 hX2 hN2
        by_cases hlt2 : j < 15
        · have hj0 : j < PL.length := by rw [HL.out]; exact hlt2
          obtain ⟨q, hq⟩ : ∃ q, PL[j] = q := ⟨_, rfl⟩
          have hs2 := HB2.out.size
          rw [HBs.out] at hs2
          have hs7 := HX2.out.lt
          obtain ⟨x0, x1⟩ := getP hj0 hq (HP.out j hj0)
          rw [← HB2.out.cell (p := ⟨gP, j * 2, none⟩) (by simpa using ltP)] at x0
          rw [← HB2.out.cell (p := ⟨gP, j * 2 + 1, none⟩) (by simpa using ltP)] at x1
          have j0 : (j : Int) < 15 := by omega
          have j1 : (0 : Int) ≤ (j : Int) := by omega
          have HQj := Lib.hid hq
          clear hq
          obtain ⟨wm, rfl⟩ : ∃ wm : World, wm = wr := ⟨_, rfl⟩
          obtain ⟨w6, hw6⟩ : ∃ w6, wm.alloc (.cells #[.int .u64 q.1, .int .u64 q.2] 24) = w6 := ⟨_, rfl⟩
          obtain ⟨g2, hg2⟩ : ∃ g2, wm.heap.size = g2 := ⟨_, rfl⟩
          have hY6 : Box w6 g2 q.1 q.2 := by rw [← hw6]; exact box_at _ _ _ _ _ hg2
          have hB6 : Below wm.heap.size wm w6 := by rw [← hw6]; exact (Below.refl _ _).alloc (Nat.le_refl _) _
          have Y6 := Lib.hid hY6
          have X6 := Lib.hid (HX2.out.below hB6)
          have G6 := Lib.hid (HG2.out.below hB6)
          have N6 := Lib.hid (HG2.out.apart (Nat.le_of_eq hg2))
          have B6 := Lib.hid (HB2.out.trans (hB6.mono hs2))
          have hs8 := hY6.lt
          have hs9 : g1 < g2 := by omega
          have C6 := Lib.hid (CA.out w6 B6.out p.1 p.2 q.1 q.2)
          obtain ⟨a0, a1, a2, a3⟩ := X6.out
          obtain ⟨b0, b1, b2, b3⟩ := Y6.out
          clear hY6 hB6
          cases e : tq r p q
          · have E := Lib.hid e
            have C7 : Hid (Calls Try.prog Fa (#[.agg #[.int .u64 p.1, .int .u64 p.2], .agg #[.int .u64 q.1, .int .u64 q.2]] ++ capa) w6 fun e W' => e = .returned (.bool false) ∧ Below w6.heap.size w6 W') := by
              have := C6.out
              rw [show tst r p.1 p.2 q.1 q.2 = false from e] at this
              exact this
            clear e C6
            go_wp2_with fail
            refine (C7.out).mono ?_
            rintro e w7 ⟨rfl, hb7⟩
            have HB7 := Lib.hid hb7
            have G7 := Lib.hid (G6.out.below hb7)
            have X7 := Lib.hid (X6.out.below hb7)
            have B7 := Lib.hid (B6.out.trans (hb7.mono (by omega)))
            clear hb7 a0 a1 a2 a3 b0 b1 b2 b3
            go_wp2
            exact ⟨⟨j + 1, by omega, by go_num, by rw [seenB_no hj0 HQj.out E.out]; exact G7.out, B7.out, X7.out, HN2.out⟩, by simp [intOf]; omega⟩
          · have E := Lib.hid e
            have C7 : Hid (Calls Try.prog Fa (#[.agg #[.int .u64 p.1, .int .u64 p.2], .agg #[.int .u64 q.1, .int .u64 q.2]] ++ capa) w6 fun e W' => e = .returned (.bool true) ∧ Below w6.heap.size w6 W') := by
              have := C6.out
              rw [show tst r p.1 p.2 q.1 q.2 = true from e] at this
              exact this
            clear e C6
            go_wp2_with fail
            refine (C7.out).mono ?_
            rintro e w7 ⟨rfl, hb7⟩
            have G7 := Lib.hid (G6.out.below hb7)
            have X7 := Lib.hid (X6.out.below hb7)
            have Y7 := Lib.hid (Y6.out.below hb7)
            have B7 := Lib.hid (B6.out.trans (hb7.mono (by omega)))
            clear hb7 a0 a1 a2 a3 b0 b1 b2 b3 C7
            go_wp2
            go_loopw [9, 50] (fun v x wr => ∃ k : Nat, k ≤ 15 ∧ x = .int .i64 k ∧ Got B wr v (seenA r s i j k p q) ∧ Below B w3 wr ∧ Box wr g1 p.1 p.2 ∧ Box wr g2 q.1 q.2 ∧ v.ownBlock ≠ some g1 ∧ v.ownBlock ≠ some g2) (fun _ x _ => 15 - (intOf x).toNat)
            case atStart => exact ⟨0, by omega, rfl, by rw [seenA_zero]; exact G7.out, B7.out, X7.out, Y7.out, HN2.out, N6.out⟩
            case round =>
              obtain ⟨k, hk, rfl, hG3, hb3, hX3, hY3, hN3, hM3⟩ := hrel
              have HG3 := Lib.hid hG3
              have HB3 := Lib.hid hb3
              have HX3 := Lib.hid hX3
              have HY3 := Lib.hid hY3
              have HN3 := Lib.hid hN3
              have HM3 := Lib.hid hM3
              clear hG3 hb3 hX3 hY3 hN3 hM3
              by_cases hlt3 : k < 15
              · have hk0 : k < PL.length := by rw [HL.out]; exact hlt3
                obtain ⟨u, hu⟩ : ∃ u, PL[k] = u := ⟨_, rfl⟩
                have ht2 := HB3.out.size
                rw [HBs.out] at ht2
                have ht7 := HX3.out.lt
                have ht8 := HY3.out.lt
                obtain ⟨x0, x1⟩ := getP hk0 hu (HP.out k hk0)
                rw [← HB3.out.cell (p := ⟨gP, k * 2, none⟩) (by simpa using ltP)] at x0
                rw [← HB3.out.cell (p := ⟨gP, k * 2 + 1, none⟩) (by simpa using ltP)] at x1
                have kk0 : (k : Int) < 15 := by omega
                have kk1 : (0 : Int) ≤ (k : Int) := by omega
                have HUk := Lib.hid hu
                clear hu
                obtain ⟨wi, rfl⟩ : ∃ wi : World, wi = wr := ⟨_, rfl⟩
                obtain ⟨w8, hw8⟩ : ∃ w8, wi.alloc (.cells #[.int .u64 u.1, .int .u64 u.2] 24) = w8 := ⟨_, rfl⟩
                obtain ⟨g3, hg3⟩ : ∃ g3, wi.heap.size = g3 := ⟨_, rfl⟩
                have hZ8 : Box w8 g3 u.1 u.2 := by rw [← hw8]; exact box_at _ _ _ _ _ hg3
                have hB8 : Below wi.heap.size wi w8 := by rw [← hw8]; exact (Below.refl _ _).alloc (Nat.le_refl _) _
                have Z8 := Lib.hid hZ8
                have Y8 := Lib.hid (HY3.out.below hB8)
                have X8 := Lib.hid (HX3.out.below hB8)
                have G8 := Lib.hid (HG3.out.below hB8)
                have B8 := Lib.hid (HB3.out.trans (hB8.mono ht2))
                have ht9 := hZ8.lt
                have C8 := Lib.hid (CB.out w8 B8.out q.1 q.2 u.1 u.2)
                obtain ⟨a0, a1, a2, a3⟩ := X8.out
                obtain ⟨b0, b1, b2, b3⟩ := Y8.out
                obtain ⟨c0, c1, c2, c3⟩ := Z8.out
                clear hZ8 hB8
                cases e : tq s q u
                · have E2 := Lib.hid e
                  have C9 : Hid (Calls Try.prog Fb (#[.agg #[.int .u64 q.1, .int .u64 q.2], .agg #[.int .u64 u.1, .int .u64 u.2]] ++ capb) w8 fun e W' => e = .returned (.bool false) ∧ Below w8.heap.size w8 W') := by
                    have := C8.out
                    rw [show tst s q.1 q.2 u.1 u.2 = false from e] at this
                    exact this
                  clear e C8
                  go_wp2_with fail
                  refine (C9.out).mono ?_
                  rintro e w9 ⟨rfl, hb9⟩
                  have G9 := Lib.hid (G8.out.below hb9)
                  have X9 := Lib.hid (X8.out.below hb9)
                  have Y9 := Lib.hid (Y8.out.below hb9)
                  have B9 := Lib.hid (B8.out.trans (hb9.mono (by omega)))
                  clear hb9 a0 a1 a2 a3 b0 b1 b2 b3 c0 c1 c2 c3
                  go_wp2
                  exact ⟨⟨k + 1, by omega, by go_num, by rw [seenA_no hk0 HUk.out E2.out]; exact G9.out, B9.out, X9.out, Y9.out, HN3.out, HM3.out⟩, by simp [intOf]; omega⟩
                · have E2 := Lib.hid e
                  have C9 : Hid (Calls Try.prog Fb (#[.agg #[.int .u64 q.1, .int .u64 q.2], .agg #[.int .u64 u.1, .int .u64 u.2]] ++ capb) w8 fun e W' => e = .returned (.bool true) ∧ Below w8.heap.size w8 W') := by
                    have := C8.out
                    rw [show tst s q.1 q.2 u.1 u.2 = true from e] at this
                    exact this
                  clear e C8
                  go_wp2_with fail
                  refine (C9.out).mono ?_
                  rintro e w9 ⟨rfl, hb9⟩
                  have G9 := Lib.hid (G8.out.below hb9)
                  have X9 := Lib.hid (X8.out.below hb9)
                  have Y9 := Lib.hid (Y8.out.below hb9)
                  have Z9 := Lib.hid (Z8.out.below hb9)
                  have B9 := Lib.hid (B8.out.trans (hb9.mono (by omega)))
                  clear hb9 a0 a1 a2 a3 b0 b1 b2 b3 c0 c1 c2 c3 C9
                  obtain ⟨a0, a1, a2, a3⟩ := X9.out
                  obtain ⟨c0, c1, c2, c3⟩ := Z9.out
                  have C10 := Relation_any p.1 p.2 u.1 u.2 w9
                  rw [(pl_both hi0 HPi.out hk0 HUk.out).1, (pl_both hi0 HPi.out hk0 HUk.out).2] at C10
                  have D10 := Lib.hid C10
                  clear C10
                  go_wp2_with fail
                  refine (D10.out).mono ?_
                  rintro e w10 ⟨rfl, hb10⟩
                  have G10 := Lib.hid (G9.out.below hb10)
                  have X10 := Lib.hid (X9.out.below hb10)
                  have Y10 := Lib.hid (Y9.out.below hb10)
                  have B10 := Lib.hid (B9.out.trans (hb10.mono (by omega)))
                  have HR := Lib.hid (show 1 ≤ rq p u ∧ rq p u ≤ 13 from relV_range _ _ _ _)
                  have HSub := Lib.hid (fun t (ht : t ∈ seenA r s i j (k + 1) p q) => seenA_sub hi0 HPi.out hj0 HQj.out E.out ht)
                  rw [seenA_yes hk0 HUk.out E2.out] at HSub
                  have HS1 := Lib.hid (seenA_yes (r := r) (i := i) (j := j) (p := p) hk0 HUk.out E2.out)
                  generalize rq p u = t at *
                  clear hb10 a0 a1 a2 a3 c0 c1 c2 c3 D10
                  obtain ⟨L, ho, hn, hm⟩ := G10.out
                  obtain ⟨A9, c9, rfl, hA9⟩ := ho.at
                  have HO := Lib.hid ho
                  have HNd := Lib.hid hn
                  have HM := Lib.hid hm
                  have h13 : L.length ≤ 13 := most13 hn fun t ht => seen_range (HSub.out t (by rw [List.mem_append]; exact .inl ((hm t).1 ht)))
                  have C11 := Lib.hid (Contains_any A9 L c9 t w10 hA9 (by omega))
                  clear ho hn hm hA9
                  go_wp2_with fail
                  refine (C11.out).mono ?_
                  rintro e w11 ⟨rfl, rfl⟩
                  cases ec : L.contains t
                  · have hnt : t ∉ L := by
                      intro h
                      rw [List.contains_eq_mem, decide_eq_true h] at ec
                      cases ec
                    have HNt := Lib.hid hnt
                    clear ec hnt C11
                    have hs10 := B10.out.size
                    rw [HBs.out] at hs10
                    have lg1 := X10.out.lt
                    have lg2 := Y10.out.lt
                    obtain ⟨L', hL'⟩ : ∃ L', L ++ [t] = L' := ⟨_, rfl⟩
                    have hlen : L'.length ≤ 14 := by rw [← hL']; simp; omega
                    have HNd2 : Hid L'.Nodup := Lib.hid (hL' ▸ snoc_nodup HNd.out HNt.out)
                    have HM2 := Lib.hid (fun x => (show x ∈ L' ↔ x ∈ seenA r s i j k p q ++ [t] by
                      rw [← hL', List.mem_append, List.mem_append, HM.out x]))
                    by_cases h13' : L'.length = 13
                    · have h14 : ((L'.length : Int) == 13) = true := by simp; omega
                      have HM3 := Lib.hid (fun x => (show x ∈ L' ↔ x ∈ seen1 r s PL from ⟨fun h => HSub.out x ((HM2.out x).1 h), fun h => all13 HNd2.out (fun y hy => seen_range (HSub.out y ((HM2.out y).1 hy))) h13' x (seen_range h).1 (seen_range h).2⟩))
                      clear h13'
                      go_wp2_with (at_builtin; refine wpList_appI rfl (.tmp 69) (.tmp 71) rfl B _ L rfl (HO.out.alloc _) w10.heap.size t rfl (by go_simp) (by omega) (by simp; omega) ?_; intro v' w11 ho11 hg11 hw11; rw [hL'] at ho11; obtain ⟨A11, c11, rfl, hA11⟩ := ho11.at; have HO11 := Lib.hid ho11; have HG11 := Lib.hid hg11; have HW11 := Lib.hid hw11; clear ho11 hg11 hw11 hA11)
                      have HB11 := Lib.hid ((B10.out.alloc hs10 (.cells #[.int .i64 t] 3)).grown HG11.out (by simp; omega) (fun k hk => (World.ownsRow.lt HO.out k hk).1))
                      have hs11 := HB11.out.size
                      rw [HBs.out] at hs11
                      refine (Sort_own B _ _ w11 HO11.out hs11 (by omega)).mono ?_
                      rintro e w12 ⟨rfl, ho12, hb12⟩
                      rw [sorted_comp HNd2.out HM3.out] at ho12
                      obtain ⟨A12, c12, e12, hA12⟩ := ho12.at
                      have HE := Lib.hid e12
                      have HA12 := Lib.hid hA12
                      have HB12 := Lib.hid (B3.out.trans ((HB11.out.trans hb12).mono (Nat.le_trans B3.out.size (Nat.le_of_eq HBs.out))))
                      clear e12 hA12 hb12 ho12
                      go_wp2
                      try rw [Exit.noGoto_ret]
                      go_ret2
                      exact ⟨A12, c12, retv (by rw [← HE.out]; rfl), HA12.out, HB12.out⟩
                    · have h14 : ((L'.length : Int) == 13) = false := by simp; omega
                      clear h13'
                      go_wp2_with (at_builtin; refine wpList_appI rfl (.tmp 69) (.tmp 71) rfl B _ L rfl (HO.out.alloc _) w10.heap.size t rfl (by go_simp) (by omega) (by simp; omega) ?_; intro v' w11 ho11 hg11 hw11; rw [hL'] at ho11; obtain ⟨A11, c11, rfl, hA11⟩ := ho11.at; have HO11 := Lib.hid ho11; have HG11 := Lib.hid hg11; have HW11 := Lib.hid hw11; clear ho11 hg11 hw11 hA11)
                      have HB11 := (B10.out.alloc hs10 (.cells #[.int .i64 t] 3)).grown HG11.out (by simp; omega) (fun k hk => (World.ownsRow.lt HO.out k hk).1)
                      have HX11 := (X10.out.alloc (.cells #[.int .i64 t] 3)).grown HG11.out HN3.out
                      have HY11 := (Y10.out.alloc (.cells #[.int .i64 t] 3)).grown HG11.out HM3.out
                      refine ⟨⟨k + 1, by omega, by go_num, by rw [HS1.out]; exact ⟨L', HO11.out, HNd2.out, HM2.out⟩, HB11, HX11, HY11, ?_, ?_⟩, by simp [intOf]; omega⟩
                      · rcases HW11.out with h | h
                        · rw [h]; exact HN3.out
                        · rw [h]; simp; omega
                      · rcases HW11.out with h | h
                        · rw [h]; exact HM3.out
                        · rw [h]; simp; omega
                  · have hnt : t ∈ L := by
                      rw [List.contains_eq_mem] at ec
                      exact of_decide_eq_true ec
                    have HM2 := Lib.hid (fun x => (show x ∈ L ↔ x ∈ seenA r s i j k p q ++ [t] by
                      rw [List.mem_append, List.mem_singleton, ← HM.out x]
                      exact ⟨.inl, fun h => h.elim id (fun h => h ▸ hnt)⟩))
                    clear ec hnt C11
                    by_cases h13' : L.length = 13
                    · have h14 : ((L.length : Int) == 13) = true := by simp; omega
                      have HM3 := Lib.hid (fun x => (show x ∈ L ↔ x ∈ seen1 r s PL from ⟨fun h => HSub.out x ((HM2.out x).1 h), fun h => all13 HNd.out (fun y hy => seen_range (HSub.out y ((HM2.out y).1 hy))) h13' x (seen_range h).1 (seen_range h).2⟩))
                      have hs10 := B10.out.size
                      rw [HBs.out] at hs10
                      have HBX := Lib.hid (Below.refl B w10)
                      clear h13'
                      go_wp2_with fail
                      refine (Sort_own B _ _ w10 HO.out hs10 (by omega)).mono ?_
                      rintro e w12 ⟨rfl, ho12, hb12⟩
                      rw [sorted_comp HNd.out HM3.out] at ho12
                      obtain ⟨A12, c12, e12, hA12⟩ := ho12.at
                      have HE := Lib.hid e12
                      have HA12 := Lib.hid hA12
                      have HB12 := Lib.hid (B3.out.trans ((B10.out.trans hb12).mono (Nat.le_trans B3.out.size (Nat.le_of_eq HBs.out))))
                      clear e12 hA12 hb12 ho12
                      go_wp2
                      try rw [Exit.noGoto_ret]
                      go_ret2
                      exact ⟨A12, c12, retv (by rw [← HE.out]; rfl), HA12.out, HB12.out⟩
                    · have h14 : ((L.length : Int) == 13) = false := by simp; omega
                      clear h13'
                      go_wp2
                      exact ⟨⟨k + 1, by omega, by go_num, by rw [HS1.out]; exact ⟨L, HO.out, HNd.out, HM2.out⟩, B10.out, X10.out, Y10.out, HN3.out, HM3.out⟩, by simp [intOf]; omega⟩
              · obtain rfl : k = 15 := by omega
                have := seenA_full (i := i) (s := s) (p := p) hj0 HQj.out E.out
                rw [HL.out] at this
                rw [this] at HG3
                clear this
                go_wp2
                exact ⟨⟨j + 1, by omega, by go_num, HG3.out, HB3.out, HX3.out, HN3.out⟩, by simp [intOf]; omega⟩
        · obtain rfl : j = 15 := by omega
          have := seenB_full (r := r) (s := s) hi0 HPi.out
          rw [HL.out] at this
          rw [this] at HG2
          clear this
          go_wp2
          exact ⟨⟨i + 1, by omega, by go_num, HG2.out, HB2.out⟩, by simp [intOf]; omega⟩
    · obtain rfl : i = 15 := by omega
      obtain ⟨L, ho, hn, hm⟩ := HG.out
      obtain ⟨A9, c9, rfl, hA9⟩ := ho.at
      have e15 : PL.take 15 = PL := by rw [← HL.out]; exact List.take_length
      rw [e15] at hm
      have HO := Lib.hid ho
      have HNd := Lib.hid hn
      have HM := Lib.hid hm
      have h13 : L.length ≤ 13 := most13 hn fun t ht => seen_range ((hm t).1 ht)
      have hs10 := HB.out.size
      rw [HBs.out] at hs10
      clear ho hn hm hA9 e15
      go_wp2_with fail
      refine (Sort_own B _ _ wr HO.out hs10 (by omega)).mono ?_
      rintro e w12 ⟨rfl, ho12, hb12⟩
      rw [sorted_comp HNd.out HM.out] at ho12
      obtain ⟨A12, c12, e12, hA12⟩ := ho12.at
      have HE := Lib.hid e12
      have HA12 := Lib.hid hA12
      have HB12 := Lib.hid (B3.out.trans ((HB.out.trans hb12).mono (Nat.le_trans B3.out.size (Nat.le_of_eq HBs.out))))
      clear e12 hA12 hb12 ho12
      go_wp2
      try rw [Exit.noGoto_ret]
      go_ret2
      exact ⟨A12, c12, retv (by rw [← HE.out]; rfl), HA12.out, HB12.out⟩
end Go.Proofs.Ytbdlmidkkdmkpaa
