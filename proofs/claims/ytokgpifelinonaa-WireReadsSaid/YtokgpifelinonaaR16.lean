/- The statement WireReads, walked. -/
import Derived.Test.YtokgpifelinonaaR15
import Derived.Deep.CutBlock
namespace Go.Proofs.Ytokgpifelinonaa
open Go.RowKit
/-- A row of calls. -/
def CallsAt (w : World) (B : Option Addr) (n : Nat) : Prop := 0 < n → ∃ b off, B = some ⟨b, off, none⟩ ∧ b < w.heap.size ∧ ∀ i, i < n → ∃ (what most : Int) (num : Nat),
  w.cell? ⟨b, off + i * 3, none⟩ = some (.int .i64 what) ∧ w.cell? ⟨b, off + i * 3 + 1, none⟩ = some (.int .u64 (num : Int)) ∧ w.cell? ⟨b, off + i * 3 + 2, none⟩ = some (.int .i64 most) ∧ most ≤ 9223372036854775807
theorem numM_le (m : Nat) (L : List UInt8) : numM m L ≤ L.length := by unfold numM; have := numC_le L; split <;> omega
theorem intM_le (L : List UInt8) : intM L ≤ L.length := by unfold intM; have := intC_le L; split <;> omega
theorem floatM_le (L : List UInt8) : floatM L ≤ L.length := by unfold floatM; have := floatC_le L; split <;> omega
theorem textM_le (m : Nat) (L : List UInt8) : textM m L ≤ L.length := by unfold textM; have := scanT_le m L.length [] L (Nat.le_refl _); split <;> omega
theorem step_le {k m : Nat} {L : List UInt8} (hk : k ≤ L.length) (h : m ≤ (L.drop k).length) : k + m ≤ L.length := by rw [List.length_drop] at h; omega
set_option maxRecDepth 100000 in
set_option maxHeartbeats 20000000 in
theorem WireReads_walk (A : Option Addr) (cap cap2 : Nat) (B : Option Addr) (l : List UInt8) (n : Nat) (w : World) (hA : At w A l) (zA : A = none → cap = 0) (hlc : l.length ≤ cap) (ml : l.length ≤ 140737488355328) (hR : CallsAt w B n) : Calls Try.prog 3 #[.slice A l.length cap, .slice B n cap2] w fun e w' => e = .returned (.bool true) ∧ Below w.heap.size w w' := by
  have CW := Lib.hid (awake_any)
  have HR := Lib.hid hR
  clear hR
  obtain ⟨L, hL⟩ : ∃ L, l.take 1000 = L := ⟨_, rfl⟩
  have hn0 : min l.length 1000 = L.length := by rw [← hL, List.length_take, Nat.min_comm]
  have HA : Hid (At w A L) := Lib.hid fun h0 => by
    obtain ⟨b, off, e, hlt, hc⟩ := hA (by omega)
    refine ⟨b, off, e, hlt, fun i hi => ?_⟩
    rw [hc i (by omega), ← hL]
    congr 2
    rw [List.getD, List.getD, List.getElem?_take, if_pos (by omega)]
  have ZA := Lib.hid zA
  have m0 : min (l.length : Int) 1000 = (L.length : Int) := by omega
  have m1 : (0 : Int) ≤ (L.length : Int) := by omega
  have m2 : (L.length : Int) ≤ (cap : Int) := by omega
  have hsmall : L.length ≤ 1000 := by omega
  clear hA zA hn0 hlc hL
  go_enter Try.func3, Try.ntmps3
  go_wp2_with (go_at_call 4; ((refine (CW.out _).mono ?_); rintro e w1 ⟨rfl, hb1⟩; have B1 := Lib.hid hb1; clear hb1))
  refine (refOwn_any A L cap w1 (HA.out.below B1.out) ZA.out (by omega)).mono ?_
  rintro e w2 ⟨v2, rfl, ho2, hb2⟩
  obtain ⟨O, cO, rfl, zO, _, hO⟩ := ho2.at
  have OP := Lib.hid ho2.parts
  have B2 := Lib.hid (B1.out.trans (hb2.mono B1.out.size))
  have s12 := hb2.size
  have s01 := B1.out.size
  clear ho2 hb2 B1
  go_wp2_with fail
  refine (New_fresh O L cO w2 hO zO (by omega)).mono ?_
  rintro e w3 ⟨g, P, c, rfl, hg, hr, hb3, hP⟩
  have PF := Lib.hid hP
  clear hP
  have R3 := Lib.hid hr
  have B3 := Lib.hid (B2.out.trans (hb3.mono B2.out.size))
  have HB3 := Lib.hid hb3
  have s23 := hb3.size
  clear hr hb3 B2 hO
  go_wp2_with fail
  refine (refOwn_any A L cap w3 (HA.out.below B3.out) ZA.out (by omega)).mono ?_
  rintro e w4 ⟨v4, rfl, ho4, hb4⟩
  obtain ⟨D, cD, rfl, zD, lD, hD⟩ := ho4.at
  have fD := Lib.hid ho4.fresh
  have s34 := hb4.size
  have hlt3 := R3.out.lt
  obtain ⟨ob, hob⟩ : ∃ ob, (O = none ∧ L.length = 0 ∧ ob = w4.heap.size + 5) ∨ (O = some ⟨ob, 0, none⟩ ∧ Mine w2 ob L ∧ w1.heap.size ≤ ob) := by
    rcases OP.out with ⟨h1, h2⟩ | ⟨g', h1, h2, h3⟩
    · exact ⟨_, .inl ⟨h1, h2, rfl⟩⟩
    · exact ⟨g', .inr ⟨h1, h2, h3⟩⟩
  obtain ⟨w5, hw5⟩ : ∃ w5, w4.alloc (.cells #[.slice D L.length cD] 30) = w5 := ⟨_, rfl⟩
  have hs5 : w5.heap.size = w4.heap.size + 1 := by rw [← hw5]; simp
  have b45 : Below w4.heap.size w4 w5 := by rw [← hw5]; exact (Below.refl _ _).alloc (Nat.le_refl _) _
  have b35 : Below w3.heap.size w3 w5 := hb4.trans (b45.mono s34)
  have B5 := Lib.hid (B3.out.trans (b35.mono B3.out.size))
  have R5 := Lib.hid (R3.out.below b35)
  have Q5 : Hid (Qd w5 w4.heap.size L) := Lib.hid (by rw [← hw5]; exact Qd.new hD zD lD hsmall)
  have Q5c : Hid (w5.cell? ⟨w4.heap.size, 0, none⟩ = some (.slice D L.length cD)) := Lib.hid (by rw [← hw5, cell_of_row _ _ _ _ _ _ (heap_alloc_new w4 _)]; rfl)
  have HO5 : Hid ((O = none ∧ L.length = 0) ∨ (O = some ⟨ob, 0, none⟩ ∧ Mine w5 ob L)) := Lib.hid (hob.imp (fun h => ⟨h.1, h.2.1⟩) fun h => ⟨h.1, (h.2.1.below HB3.out).below b35⟩)
  have HOB : Hid (w1.heap.size ≤ ob ∧ (ob < w2.heap.size ∨ (L.length = 0 ∧ ob = w4.heap.size + 5))) := Lib.hid (hob.elim (fun h => ⟨by omega, .inr h.2⟩) fun h => ⟨h.2.2, .inl h.2.1.lt⟩)
  go_wp2_with fail
  try rw [hw5]
  clear hob hb4 ho4 hD zD lD b45 b35 hw5
  have HT : Hid (Turning w5 w5 (fun _ => ob) 0 L.length O) := Lib.hid ⟨Fl.refl _ _, HO5.out.imp id fun h => ⟨h.1, L, rfl, h.2⟩⟩
  go_loopw [41] (fun v wr => ∃ j : Nat, j ≤ L.length ∧ v = .int .i64 j ∧ Turning w5 wr (fun _ => ob) 0 L.length O) (fun v _ => L.length - (intOf v).toNat)
  case atStart => exact ⟨0, Nat.zero_le _, rfl, HT.out⟩
  case round =>
    obtain ⟨j, hj, rfl, hTu⟩ := hrel
    by_cases hlt2 : j < L.length
    · obtain ⟨eD, x, p1, p2⟩ := hTu.cell hlt2
      have HV := Lib.hid (flip_val x)
      have HS := Lib.hid (hTu.set eD j (x ^^^ 255))
      unfold bv at HS
      subst eD
      have j1 : (j : Int) < (L.length : Int) := by omega
      have j2 : (0 : Int) ≤ (j : Int) := by omega
      clear hTu
      go_wp2
      rw [HV.out]
      exact ⟨⟨j + 1, by omega, by go_num, HS.out⟩, by simp [intOf]; omega⟩
    · obtain rfl : j = L.length := by omega
      have hfl := hTu.1
      have nb : ∀ b, b ≠ ob → ¬ Upto (fun _ => ob) (0 + 1) b := fun b hb ⟨_, _, e⟩ => hb e
      have ho2 := HOB.out
      have hst : Both w wr g w4.heap.size P c L 0 := by
        refine ⟨R5.out.fl hfl (nb g (by omega)) (fun h0 b off e => nb b (by have := PF.out b off e; omega)), ?_, by omega, by omega, by omega, hfl.below (fun b ⟨_, _, e⟩ => by have e2 : b = ob := e; omega) B5.out (Nat.le_refl _), Nat.zero_le _⟩
        rw [List.drop_zero]
        refine Q5.out.fl hfl (nb _ (by omega)) (fun h0 A' c' b off hc' e => nb b ?_)
        rw [Q5c.out] at hc'
        injection hc' with hc'
        injection hc' with hA' _ _
        have := fD.out b off (hA'.trans e)
        omega
      have HB := Lib.hid hst
      clear hTu hfl nb ho2 hst
      clear hlt2 hj HT HO5 HOB Q5 Q5c R5 B5 PF fD OP R3 B3 HB3 CW HA ZA
      obtain ⟨Q, hQ⟩ : ∃ Q, w4.heap.size = Q := ⟨_, rfl⟩
      rw [hQ] at HB ⊢
      obtain ⟨w6, rfl⟩ : ∃ w6 : World, w6 = wr := ⟨_, rfl⟩
      go_wp2
      go_loopw [53] (fun v wr => ∃ i k : Nat, i ≤ n ∧ i ≤ 100 ∧ v = .int .i64 i ∧ Both w wr g Q P c L k) (fun v _ => n - (intOf v).toNat)
      case atStart => exact ⟨0, 0, Nat.zero_le _, Nat.zero_le _, rfl, HB.out⟩
      case round => as_aux_lemma =>
        clear HB
        obtain ⟨i, k, hi, hi100, rfl, hB⟩ := hrel
        have HB := Lib.hid hB
        clear hB
        obtain ⟨w7, rfl⟩ : ∃ w7 : World, w7 = wr := ⟨_, rfl⟩
        by_cases hlt : i < n
        · obtain ⟨b, off, rfl, hbl, hc⟩ := HR.out (by omega)
          obtain ⟨what, most, num, c0, c1, c2, hm⟩ := hc i hlt
          clear hc
          rw [← HB.out.below.cell (p := ⟨b, off + i * 3, none⟩) hbl] at c0
          rw [← HB.out.below.cell (p := ⟨b, off + i * 3 + 1, none⟩) hbl] at c1
          rw [← HB.out.below.cell (p := ⟨b, off + i * 3 + 2, none⟩) hbl] at c2
          have i1 : (i : Int) < (n : Int) := by omega
          have i2 : (0 : Int) ≤ (i : Int) := by omega
          by_cases h100 : i = 100
          · subst h100
            go_wp2
            go_ret
            exact ⟨rfl, HB.out.below.alloc HB.out.below.size _⟩
          · have i3 : ¬ (i : Int) = 100 := by omega
            have i4 : (i : Int) < 100 := by omega
            obtain ⟨gc, hgc⟩ : ∃ gc, w7.heap.size = gc := ⟨_, rfl⟩
            obtain ⟨w8, hw8⟩ : ∃ w8, w7.alloc (.cells #[.int .i64 what, .int .u64 (num : Int), .int .i64 most] 33) = w8 := ⟨_, rfl⟩
            have b78 : Below w7.heap.size w7 w8 := by rw [← hw8]; exact (Below.refl _ _).alloc (Nat.le_refl _) _
            have x0 : w8.cell? ⟨gc, 0, none⟩ = some (.int .i64 what) := by rw [← hw8, ← hgc]; simp
            have x1 : w8.cell? ⟨gc, 1, none⟩ = some (.int .u64 (num : Int)) := by rw [← hw8, ← hgc]; simp
            have x2 : w8.cell? ⟨gc, 2, none⟩ = some (.int .i64 most) := by rw [← hw8, ← hgc]; simp
            have hs8 : w8.heap.size = gc + 1 := by rw [← hw8, ← hgc]; simp
            have B8 := Lib.hid (HB.out.over b78)
            have hgr := HB.out.rd.lt
            have hgq := HB.out.qd.lt
            have n1 : gc ≠ g := by omega
            have n2 : gc ≠ Q := by omega
            go_upto_block 4 with fail
            try rw [hw8]
            try rw [hgc]
            clear hw8 hgc b78 hgr hgq c0 c1 c2
            go_cut [11, 12, 13] (fun e f s w' => s = .bool true ∧ ∃ E k' : Nat, e = .int .i64 (E : Int) ∧ f = .int .i64 (E : Int) ∧ Both w w' g Q P c L k')
            case first => as_aux_lemma =>
              by_cases w0 : what = 0
              · subst w0
                have C1 := Lib.hid (RNum_any g k c num P L w8 B8.out.rd)
                go_wp2_with fail
                refine C1.out.mono ?_
                rintro e w9 ⟨rfl, hmv⟩
                have y1 := (hmv.cell (o := 1) (show gc < w8.heap.size by omega) n1).trans x1
                have C2 := Lib.hid (qNum_any Q num (L.drop k) w9 (B8.out.qd.moved B8.out.rd B8.out.ne hmv))
                clear x0 x1 x2
                go_wp2_with fail
                refine C2.out.mono ?_
                rintro e w10 ⟨rfl, hq, hs⟩
                have hmv2 := hmv
                have B10 := Lib.hid (B8.out.go (m := numM num (L.drop k)) (step_le B8.out.le (numM_le _ _)) hmv2 hq hs)
                generalize numV num (L.drop k) = vv at *
                generalize numE num (L.drop k) = ee at *
                clear C1 C2 hmv hmv2 hq hs
                go_wp2
                go_meet
                exact ⟨rfl, _, _, rfl, rfl, B10.out⟩
              · by_cases w1 : what = 1
                · subst w1
                  clear w0
                  have C1 := Lib.hid (RInt_any g k c P L w8 B8.out.rd)
                  go_wp2_with fail
                  refine C1.out.mono ?_
                  rintro e w9 ⟨rfl, hmv⟩
                  have C2 := Lib.hid (qInt_any Q (L.drop k) w9 (B8.out.qd.moved B8.out.rd B8.out.ne hmv))
                  clear x0 x1 x2
                  go_wp2_with fail
                  refine C2.out.mono ?_
                  rintro e w10 ⟨rfl, hq, hs⟩
                  have hmv2 := hmv
                  have B10 := Lib.hid (B8.out.go (m := intM (L.drop k)) (step_le B8.out.le (intM_le _)) hmv2 hq hs)
                  clear C1 C2 hmv hmv2 hq hs
                  go_wp2
                  go_meet
                  exact ⟨rfl, _, _, rfl, rfl, B10.out⟩
                · by_cases w2 : what = 2
                  · subst w2
                    clear w0 w1
                    have C1 := Lib.hid (RFloat_any g k c P L w8 B8.out.rd)
                    go_wp2_with fail
                    refine C1.out.mono ?_
                    rintro e w9 ⟨rfl, hmv⟩
                    have C2 := Lib.hid (qFloat_any Q (L.drop k) w9 (B8.out.qd.moved B8.out.rd B8.out.ne hmv))
                    clear x0 x1 x2
                    go_wp2_with fail
                    refine C2.out.mono ?_
                    rintro e w10 ⟨rfl, hq, hs⟩
                    have hmv2 := hmv
                    have B10 := Lib.hid (B8.out.go (m := floatM (L.drop k)) (step_le B8.out.le (floatM_le _)) hmv2 hq hs)
                    clear C1 C2 hmv hmv2 hq hs
                    have C3 := Lib.hid (Bits_same (floatV (L.drop k)))
                    go_wp2_with fail
                    refine (C3.out _).mono ?_
                    rintro e w11 ⟨rfl, rfl⟩
                    go_wp2
                    go_meet
                    exact ⟨rfl, _, _, rfl, rfl, B10.out⟩
                  · by_cases w3 : what = 3
                    · subst w3
                      clear w0 w1 w2
                      by_cases hneg : most < 0
                      · have C1 := Lib.hid (RText_neg g k c most P L w8 B8.out.rd hneg)
                        go_wp2_with fail
                        refine C1.out.mono ?_
                        rintro e w9 ⟨rfl, hmv⟩
                        have y1 := (hmv.cell (o := 2) (show gc < w8.heap.size by omega) n1).trans x2
                        have C2 := Lib.hid (qText_neg Q most (L.drop k) w9 (B8.out.qd.moved B8.out.rd B8.out.ne hmv) hneg)
                        clear x0 x1 x2
                        go_wp2_with fail
                        refine C2.out.mono ?_
                        rintro e w10 ⟨rfl, wq, hbq, hq, hs⟩
                        have hmv2 := hmv.then hbq
                        have B10 := Lib.hid (B8.out.go (m := 0) (by simpa using B8.out.le) hmv2 hq hs)
                        clear C1 C2 hmv hmv2 hq hs
                        go_wp2
                        go_meet
                        exact ⟨rfl, _, _, rfl, rfl, B10.out⟩
                      · obtain ⟨mm, rfl⟩ : ∃ mm : Nat, most = mm := ⟨most.toNat, by omega⟩
                        have C1 := Lib.hid (RText_any g k c mm P L w8 B8.out.rd (by omega))
                        go_wp2_with fail
                        refine C1.out.mono ?_
                        rintro e w9 ⟨rfl, hmv⟩
                        have y1 := (hmv.cell (o := 2) (show gc < w8.heap.size by omega) n1).trans x2
                        have C2 := Lib.hid (qText_any Q mm (L.drop k) w9 (B8.out.qd.moved B8.out.rd B8.out.ne hmv) (by omega))
                        clear x0 x1 x2
                        go_wp2_with fail
                        refine C2.out.mono ?_
                        rintro e w10 ⟨rfl, wq, hbq, hq, hs⟩
                        have hmv2 := hmv.then hbq
                        have B10 := Lib.hid (B8.out.go (m := textM mm (L.drop k)) (step_le B8.out.le (textM_le _ _)) hmv2 hq hs)
                        clear C1 C2 hmv hmv2 hq hs
                        go_wp2
                        go_meet
                        exact ⟨rfl, _, _, rfl, rfl, B10.out⟩
                    · by_cases w4' : what = 4
                      · subst w4'
                        clear w0 w1 w2 w3
                        have C1 := Lib.hid (RByte_any g k c P L w8 B8.out.rd)
                        go_wp2_with fail
                        refine C1.out.mono ?_
                        rintro e w9 ⟨rfl, hmv⟩
                        have C2 := Lib.hid (qByte_any Q (L.drop k) w9 (B8.out.qd.moved B8.out.rd B8.out.ne hmv))
                        clear x0 x1 x2
                        go_wp2_with fail
                        refine C2.out.mono ?_
                        rintro e w10 ⟨rfl, hq, hs⟩
                        have hmv2 := hmv
                        have B10 := Lib.hid (B8.out.go (m := byteM (L.drop k)) (step_le B8.out.le (byteM_le _)) hmv2 hq hs)
                        clear C1 C2 hmv hmv2 hq hs
                        go_wp2
                        go_meet
                        exact ⟨rfl, _, _, rfl, rfl, B10.out⟩
                      · go_wp2
                        go_meet
                        exact ⟨rfl, 0, _, rfl, rfl, B8.out⟩
            case rest => as_aux_lemma =>
              obtain ⟨rfl, ee, k', rfl, rfl, hB9⟩ := hcut
              obtain ⟨w9, rfl⟩ : ∃ w9 : World, w9 = wc := ⟨_, rfl⟩
              have B9 := Lib.hid hB9
              clear hB9 B8 x0 x1 x2 HR
              obtain ⟨A3, d3, hc3, _, _, _⟩ := B9.out.qd.some_
              have hlQ := B9.out.qd.lt
              rw [List.length_drop] at hc3
              have CL := Lib.hid (fun wk (h : Below w9.heap.size w9 wk) => quiet_r (Left_any g k' c P L wk (B9.out.over h).rd))
              have CE := Lib.hid (fun wk (h : Below w9.heap.size w9 wk) => End_any g k' c P L wk (B9.out.over h).rd)
              obtain ⟨m, hm⟩ : ∃ m, L.length - k' = m := ⟨_, rfl⟩
              rw [hm] at CL CE hc3
              clear hm
              go_upto_region 43 with fail
              go_cut [173] (fun v w' => v = .bool false ∧ Below w9.heap.size w9 w')
              case first => as_aux_lemma =>
                have KQ := Lib.hid (fun wk (h : Below w9.heap.size w9 wk) => (⟨h, (h.cell (p := ⟨Q, 0, none⟩) hlQ).trans hc3⟩ : Below w9.heap.size w9 wk ∧ wk.cell? ⟨Q, 0, none⟩ = some (.slice A3 m d3)))
                clear hc3
                by_cases hm0 : m = 0
                · subst hm0
                  rw [show endE 0 = 0 from rfl] at CE
                  refine wp_region_held_drew (S := (fun wk => Below w9.heap.size w9 wk ∧ wk.cell? ⟨Q, 0, none⟩ = some (.slice A3 0 d3))) (by kernel_rfl) (KQ.out _ (Below.refl _ _).drew) (fun hHeld => ?_)
                  refine take_in (i := 0) (v := ?_) (some 145) rfl rfl (by kernel_rfl) (by kernel_rfl) (by kernel_rfl) (fun _ _ _ h => h) (Or.inl ⟨by rfl, ?_⟩) (by assumption) ?_
                  rotate_left
                  · (intro w hSw; (try dsimp only at hSw); (try go_split_ands); go_simp; try with_reducible rfl)
                  try simp only [Act.put, List.setIfInBounds_toArray, List.set_cons_zero, List.set_cons_succ]
                  refine take_in (i := 1) (v := ?_) (some 146) rfl rfl (by kernel_rfl) (by kernel_rfl) (by kernel_rfl) (fun _ _ _ h => h) (Or.inl ⟨by rfl, ?_⟩) (by assumption) ?_
                  rotate_left
                  · (intro w hSw; (try dsimp only at hSw); (try go_split_ands); go_simp; try with_reducible rfl)
                  try simp only [Act.put, List.setIfInBounds_toArray, List.set_cons_zero, List.set_cons_succ]
                  refine take_in (i := 2) (v := ?_) (some 147) rfl rfl (by kernel_rfl) (by kernel_rfl) (by kernel_rfl) (fun _ _ _ h => h) (Or.inl ⟨by rfl, ?_⟩) (by assumption) ?_
                  rotate_left
                  · (intro w hSw; (try dsimp only at hSw); (try go_split_ands); go_simp; try with_reducible rfl)
                  try simp only [Act.put, List.setIfInBounds_toArray, List.set_cons_zero, List.set_cons_succ]
                  refine take_in (i := 3) (v := ?_) (some 148) rfl rfl (by kernel_rfl) (by kernel_rfl) (by kernel_rfl) (fun _ _ _ h => h) (Or.inl ⟨by rfl, ?_⟩) (by assumption) ?_
                  rotate_left
                  · (intro w hSw; (try dsimp only at hSw); (try go_split_ands); go_simp; try with_reducible rfl)
                  try simp only [Act.put, List.setIfInBounds_toArray, List.set_cons_zero, List.set_cons_succ]
                  refine take_in (i := 4) (v := ?_) (some 149) rfl rfl (by kernel_rfl) (by kernel_rfl) (by kernel_rfl) (fun _ _ _ h => h) (Or.inl ⟨by rfl, ?_⟩) (by assumption) ?_
                  rotate_left
                  · (intro w hSw; (try dsimp only at hSw); (try go_split_ands); go_simp; try with_reducible rfl)
                  try simp only [Act.put, List.setIfInBounds_toArray, List.set_cons_zero, List.set_cons_succ]
                  refine take_in (i := 5) (v := ?_) (some 150) rfl rfl (by kernel_rfl) (by kernel_rfl) (by kernel_rfl) (fun _ _ _ h => h) (Or.inl ⟨by rfl, ?_⟩) (by assumption) ?_
                  rotate_left
                  · (intro w hSw; (try dsimp only at hSw); (try go_split_ands); go_simp; try with_reducible rfl)
                  try simp only [Act.put, List.setIfInBounds_toArray, List.set_cons_zero, List.set_cons_succ]
                  refine take_in (i := 6) (v := ?_) (some 151) rfl rfl (by kernel_rfl) (by kernel_rfl) (by kernel_rfl) (fun _ _ _ h => h) (Or.inl ⟨by rfl, ?_⟩) (by assumption) ?_
                  rotate_left
                  · (intro w hSw; (try dsimp only at hSw); (try go_split_ands); go_simp; try with_reducible rfl)
                  try simp only [Act.put, List.setIfInBounds_toArray, List.set_cons_zero, List.set_cons_succ]
                  refine take_in (i := 7) (v := ?_) (some 152) rfl rfl (by kernel_rfl) (by kernel_rfl) (by kernel_rfl) (fun _ _ _ h => h) (Or.inl ⟨by rfl, ?_⟩) (by assumption) ?_
                  rotate_left
                  · (intro w hSw; (try dsimp only at hSw); (try go_split_ands); go_simp; try with_reducible rfl)
                  try simp only [Act.put, List.setIfInBounds_toArray, List.set_cons_zero, List.set_cons_succ]
                  refine take_in (i := 8) (v := ?_) (some 153) rfl rfl (by kernel_rfl) (by kernel_rfl) (by kernel_rfl) (fun _ _ _ h => h) (Or.inl ⟨by rfl, ?_⟩) (by assumption) ?_
                  rotate_left
                  · (intro w hSw; (try dsimp only at hSw); (try go_split_ands); go_simp; try with_reducible rfl)
                  try simp only [Act.put, List.setIfInBounds_toArray, List.set_cons_zero, List.set_cons_succ]
                  refine take_in (i := 10) (v := ?_) (some 155) rfl rfl (by kernel_rfl) (by kernel_rfl) (by kernel_rfl) (fun _ _ _ h => h) (Or.inl ⟨by rfl, ?_⟩) (by assumption) ?_
                  rotate_left
                  · (intro w hSw; (try dsimp only at hSw); (try go_split_ands); go_simp; try with_reducible rfl)
                  try simp only [Act.put, List.setIfInBounds_toArray, List.set_cons_zero, List.set_cons_succ]
                  refine take_in (i := 11) (v := ?_) (some 156) rfl rfl (by kernel_rfl) (by kernel_rfl) (by kernel_rfl) (fun _ _ _ h => h) (Or.inl ⟨by rfl, ?_⟩) (by assumption) ?_
                  rotate_left
                  · (intro w hSw; (try dsimp only at hSw); (try go_split_ands); go_simp; try with_reducible rfl)
                  try simp only [Act.put, List.setIfInBounds_toArray, List.set_cons_zero, List.set_cons_succ]
                  refine take_in (i := 12) (v := ?_) (some 157) rfl rfl (by kernel_rfl) (by kernel_rfl) (by kernel_rfl) (fun _ _ _ h => h) (Or.inl ⟨by rfl, ?_⟩) (by assumption) ?_
                  rotate_left
                  · (intro w hSw; (try dsimp only at hSw); (try go_split_ands); go_simp; try with_reducible rfl)
                  try simp only [Act.put, List.setIfInBounds_toArray, List.set_cons_zero, List.set_cons_succ]
                  refine take_in (i := 13) (v := ?_) (some 158) rfl rfl (by kernel_rfl) (by kernel_rfl) (by kernel_rfl) (fun _ _ _ h => h) (Or.inl ⟨by rfl, ?_⟩) (by assumption) ?_
                  rotate_left
                  · (intro w hSw; (try dsimp only at hSw); (try go_split_ands); go_simp; try with_reducible rfl)
                  try simp only [Act.put, List.setIfInBounds_toArray, List.set_cons_zero, List.set_cons_succ]
                  refine take_in (i := 14) (v := ?_) (some 159) rfl rfl (by kernel_rfl) (by kernel_rfl) (by kernel_rfl) (fun _ _ _ h => h) (Or.inl ⟨by rfl, ?_⟩) (by assumption) ?_
                  rotate_left
                  · (intro w hSw; (try dsimp only at hSw); (try go_split_ands); go_simp; try with_reducible rfl)
                  try simp only [Act.put, List.setIfInBounds_toArray, List.set_cons_zero, List.set_cons_succ]
                  refine wpAnyH_ready (rs := [9]) (by kernel_rfl) (by simp) ?_
                  refine AllReadyH.cons rfl (fun K hK => ?_) AllReadyH.nil
                  go_simp
                  refine (CL.out _ hHeld.1).mono ?_
                  rintro e a1 ⟨rfl, p1⟩
                  have hB := hHeld.1.trans (p1.mono hHeld.1.size)
                  go_wp2_with fail
                  refine hK.out _ _ (KQ.out _ hB) (fun hHeld => ?_)
                  clear hK K
                  try simp only [Act.put, List.setIfInBounds_toArray, List.set_cons_zero, List.set_cons_succ]
                  refine take_in (i := 15) (v := ?_) (some 160) rfl rfl (by kernel_rfl) (by kernel_rfl) (by kernel_rfl) (fun _ _ _ h => h) (Or.inl ⟨by rfl, ?_⟩) (by assumption) ?_
                  rotate_left
                  · (intro w hSw; (try dsimp only at hSw); (try go_split_ands); go_simp; try with_reducible rfl)
                  try simp only [Act.put, List.setIfInBounds_toArray, List.set_cons_zero, List.set_cons_succ]
                  refine take_in (i := 16) (v := ?_) (some 161) rfl rfl (by kernel_rfl) (by kernel_rfl) (by kernel_rfl) (fun _ _ _ h => h) (Or.inl ⟨by rfl, ?_⟩) (by assumption) ?_
                  rotate_left
                  · (intro w hSw; (try dsimp only at hSw); (try go_split_ands); go_simp; try with_reducible rfl)
                  try simp only [Act.put, List.setIfInBounds_toArray, List.set_cons_zero, List.set_cons_succ]
                  refine take_in (i := 17) (v := ?_) (some 162) rfl rfl (by kernel_rfl) (by kernel_rfl) (by kernel_rfl) (fun _ _ _ h => h) (Or.inl ⟨by rfl, ?_⟩) (by assumption) ?_
                  rotate_left
                  · (intro w hSw; (try dsimp only at hSw); (try go_split_ands); go_simp; try with_reducible rfl)
                  try simp only [Act.put, List.setIfInBounds_toArray, List.set_cons_zero, List.set_cons_succ]
                  refine take_in (i := 18) (v := ?_) (some 163) rfl rfl (by kernel_rfl) (by kernel_rfl) (by kernel_rfl) (fun _ _ _ h => h) (Or.inl ⟨by rfl, ?_⟩) (by assumption) ?_
                  rotate_left
                  · (intro w hSw; (try dsimp only at hSw); (try go_split_ands); go_simp; try with_reducible rfl)
                  try simp only [Act.put, List.setIfInBounds_toArray, List.set_cons_zero, List.set_cons_succ]
                  refine take_in (i := 21) (v := ?_) (some 166) rfl rfl (by kernel_rfl) (by kernel_rfl) (by kernel_rfl) (fun _ _ _ h => h) (Or.inl ⟨by rfl, ?_⟩) (by assumption) ?_
                  rotate_left
                  · (intro w hSw; (try dsimp only at hSw); (try go_split_ands); go_simp; try with_reducible rfl)
                  try simp only [Act.put, List.setIfInBounds_toArray, List.set_cons_zero, List.set_cons_succ]
                  refine take_in (i := 22) (v := ?_) (some 167) rfl rfl (by kernel_rfl) (by kernel_rfl) (by kernel_rfl) (fun _ _ _ h => h) (Or.inl ⟨by rfl, ?_⟩) (by assumption) ?_
                  rotate_left
                  · (intro w hSw; (try dsimp only at hSw); (try go_split_ands); go_simp; try with_reducible rfl)
                  try simp only [Act.put, List.setIfInBounds_toArray, List.set_cons_zero, List.set_cons_succ]
                  refine take_in (i := 23) (v := ?_) (some 168) rfl rfl (by kernel_rfl) (by kernel_rfl) (by kernel_rfl) (fun _ _ _ h => h) (Or.inl ⟨by rfl, ?_⟩) (by assumption) ?_
                  rotate_left
                  · (intro w hSw; (try dsimp only at hSw); (try go_split_ands); go_simp; try with_reducible rfl)
                  try simp only [Act.put, List.setIfInBounds_toArray, List.set_cons_zero, List.set_cons_succ]
                  refine take_in (i := 24) (v := ?_) (some 169) rfl rfl (by kernel_rfl) (by kernel_rfl) (by kernel_rfl) (fun _ _ _ h => h) (Or.inl ⟨by rfl, ?_⟩) (by assumption) ?_
                  rotate_left
                  · (intro w hSw; (try dsimp only at hSw); (try go_split_ands); go_simp; try with_reducible rfl)
                  try simp only [Act.put, List.setIfInBounds_toArray, List.set_cons_zero, List.set_cons_succ]
                  refine take_in (i := 25) (v := ?_) (some 170) rfl rfl (by kernel_rfl) (by kernel_rfl) (by kernel_rfl) (fun _ _ _ h => h) (Or.inl ⟨by rfl, ?_⟩) (by assumption) ?_
                  rotate_left
                  · (intro w hSw; (try dsimp only at hSw); (try go_split_ands); go_simp; try with_reducible rfl)
                  try simp only [Act.put, List.setIfInBounds_toArray, List.set_cons_zero, List.set_cons_succ]
                  refine take_in (i := 26) (v := ?_) (some 171) rfl rfl (by kernel_rfl) (by kernel_rfl) (by kernel_rfl) (fun _ _ _ h => h) (Or.inl ⟨by rfl, ?_⟩) (by assumption) ?_
                  rotate_left
                  · (intro w hSw; (try dsimp only at hSw); (try go_split_ands); go_simp; try with_reducible rfl)
                  try simp only [Act.put, List.setIfInBounds_toArray, List.set_cons_zero, List.set_cons_succ]
                  refine wpAnyH_ready (rs := [19]) (by kernel_rfl) (by simp) ?_
                  refine AllReadyH.cons rfl (fun K hK => ?_) AllReadyH.nil
                  go_simp
                  refine (CE.out _ hHeld.1).mono ?_
                  rintro e a2 ⟨rfl, p2⟩
                  have hB := hHeld.1.trans (p2.mono hHeld.1.size)
                  go_wp2_with fail
                  refine hK.out _ _ (KQ.out _ hB) (fun hHeld => ?_)
                  clear hK K
                  try simp only [Act.put, List.setIfInBounds_toArray, List.set_cons_zero, List.set_cons_succ]
                  refine take_in (i := 20) (v := ?_) (some 165) rfl rfl (by kernel_rfl) (by kernel_rfl) (by kernel_rfl) (fun _ _ _ h => h) (Or.inl ⟨by rfl, ?_⟩) (by assumption) ?_
                  rotate_left
                  · (intro w hSw; (try dsimp only at hSw); (try go_split_ands); go_simp; try with_reducible rfl)
                  try simp only [Act.put, List.setIfInBounds_toArray, List.set_cons_zero, List.set_cons_succ]
                  refine take_in (i := 27) (v := ?_) (some 172) rfl rfl (by kernel_rfl) (by kernel_rfl) (by kernel_rfl) (fun _ _ _ h => h) (Or.inl ⟨by rfl, ?_⟩) (by assumption) ?_
                  rotate_left
                  · (intro w hSw; (try dsimp only at hSw); (try go_split_ands); go_simp; try with_reducible rfl)
                  try simp only [Act.put, List.setIfInBounds_toArray, List.set_cons_zero, List.set_cons_succ]
                  refine take_in (i := 28) (v := ?_) (some 173) rfl rfl (by kernel_rfl) (by kernel_rfl) (by kernel_rfl) (fun _ _ _ h => h) (Or.inl ⟨by rfl, ?_⟩) (by assumption) ?_
                  rotate_left
                  · (intro w hSw; (try dsimp only at hSw); (try go_split_ands); go_simp; try with_reducible rfl)
                  try simp only [Act.put, List.setIfInBounds_toArray, List.set_cons_zero, List.set_cons_succ]
                  refine wpAnyH_done (by kernel_rfl) ?_ _
                  go_wp2
                  go_meet
                  exact ⟨rfl, hHeld.1⟩
                · rw [show endE m = 3 from if_neg hm0] at CE
                  have hm1 : ¬ (m : Int) = 0 := by omega
                  have hm2 : ((m : Int) == 0) = false := by simpa using hm1
                  clear hm0
                  refine wp_region_held_drew (S := (fun wk => Below w9.heap.size w9 wk ∧ wk.cell? ⟨Q, 0, none⟩ = some (.slice A3 m d3))) (by kernel_rfl) (KQ.out _ (Below.refl _ _).drew) (fun hHeld => ?_)
                  refine take_in (i := 0) (v := ?_) (some 145) rfl rfl (by kernel_rfl) (by kernel_rfl) (by kernel_rfl) (fun _ _ _ h => h) (Or.inl ⟨by rfl, ?_⟩) (by assumption) ?_
                  rotate_left
                  · (intro w hSw; (try dsimp only at hSw); (try go_split_ands); go_simp; try with_reducible rfl)
                  try simp only [Act.put, List.setIfInBounds_toArray, List.set_cons_zero, List.set_cons_succ]
                  refine take_in (i := 1) (v := ?_) (some 146) rfl rfl (by kernel_rfl) (by kernel_rfl) (by kernel_rfl) (fun _ _ _ h => h) (Or.inl ⟨by rfl, ?_⟩) (by assumption) ?_
                  rotate_left
                  · (intro w hSw; (try dsimp only at hSw); (try go_split_ands); go_simp; try with_reducible rfl)
                  try simp only [Act.put, List.setIfInBounds_toArray, List.set_cons_zero, List.set_cons_succ]
                  refine take_in (i := 2) (v := ?_) (some 147) rfl rfl (by kernel_rfl) (by kernel_rfl) (by kernel_rfl) (fun _ _ _ h => h) (Or.inl ⟨by rfl, ?_⟩) (by assumption) ?_
                  rotate_left
                  · (intro w hSw; (try dsimp only at hSw); (try go_split_ands); go_simp; try with_reducible rfl)
                  try simp only [Act.put, List.setIfInBounds_toArray, List.set_cons_zero, List.set_cons_succ]
                  refine take_in (i := 3) (v := ?_) (some 148) rfl rfl (by kernel_rfl) (by kernel_rfl) (by kernel_rfl) (fun _ _ _ h => h) (Or.inl ⟨by rfl, ?_⟩) (by assumption) ?_
                  rotate_left
                  · (intro w hSw; (try dsimp only at hSw); (try go_split_ands); go_simp; try with_reducible rfl)
                  try simp only [Act.put, List.setIfInBounds_toArray, List.set_cons_zero, List.set_cons_succ]
                  refine take_in (i := 4) (v := ?_) (some 149) rfl rfl (by kernel_rfl) (by kernel_rfl) (by kernel_rfl) (fun _ _ _ h => h) (Or.inl ⟨by rfl, ?_⟩) (by assumption) ?_
                  rotate_left
                  · (intro w hSw; (try dsimp only at hSw); (try go_split_ands); go_simp; try with_reducible rfl)
                  try simp only [Act.put, List.setIfInBounds_toArray, List.set_cons_zero, List.set_cons_succ]
                  refine take_in (i := 5) (v := ?_) (some 150) rfl rfl (by kernel_rfl) (by kernel_rfl) (by kernel_rfl) (fun _ _ _ h => h) (Or.inl ⟨by rfl, ?_⟩) (by assumption) ?_
                  rotate_left
                  · (intro w hSw; (try dsimp only at hSw); (try go_split_ands); go_simp; try with_reducible rfl)
                  try simp only [Act.put, List.setIfInBounds_toArray, List.set_cons_zero, List.set_cons_succ]
                  refine take_in (i := 6) (v := ?_) (some 151) rfl rfl (by kernel_rfl) (by kernel_rfl) (by kernel_rfl) (fun _ _ _ h => h) (Or.inl ⟨by rfl, ?_⟩) (by assumption) ?_
                  rotate_left
                  · (intro w hSw; (try dsimp only at hSw); (try go_split_ands); go_simp; try with_reducible rfl)
                  try simp only [Act.put, List.setIfInBounds_toArray, List.set_cons_zero, List.set_cons_succ]
                  refine take_in (i := 7) (v := ?_) (some 152) rfl rfl (by kernel_rfl) (by kernel_rfl) (by kernel_rfl) (fun _ _ _ h => h) (Or.inl ⟨by rfl, ?_⟩) (by assumption) ?_
                  rotate_left
                  · (intro w hSw; (try dsimp only at hSw); (try go_split_ands); go_simp; try with_reducible rfl)
                  try simp only [Act.put, List.setIfInBounds_toArray, List.set_cons_zero, List.set_cons_succ]
                  refine take_in (i := 8) (v := ?_) (some 153) rfl rfl (by kernel_rfl) (by kernel_rfl) (by kernel_rfl) (fun _ _ _ h => h) (Or.inl ⟨by rfl, ?_⟩) (by assumption) ?_
                  rotate_left
                  · (intro w hSw; (try dsimp only at hSw); (try go_split_ands); go_simp; try with_reducible rfl)
                  try simp only [Act.put, List.setIfInBounds_toArray, List.set_cons_zero, List.set_cons_succ]
                  refine take_in (i := 10) (v := ?_) (some 155) rfl rfl (by kernel_rfl) (by kernel_rfl) (by kernel_rfl) (fun _ _ _ h => h) (Or.inl ⟨by rfl, ?_⟩) (by assumption) ?_
                  rotate_left
                  · (intro w hSw; (try dsimp only at hSw); (try go_split_ands); go_simp; try with_reducible rfl)
                  try simp only [Act.put, List.setIfInBounds_toArray, List.set_cons_zero, List.set_cons_succ]
                  refine take_in (i := 11) (v := ?_) (some 156) rfl rfl (by kernel_rfl) (by kernel_rfl) (by kernel_rfl) (fun _ _ _ h => h) (Or.inl ⟨by rfl, ?_⟩) (by assumption) ?_
                  rotate_left
                  · (intro w hSw; (try dsimp only at hSw); (try go_split_ands); go_simp; try with_reducible rfl)
                  try simp only [Act.put, List.setIfInBounds_toArray, List.set_cons_zero, List.set_cons_succ]
                  refine take_in (i := 12) (v := ?_) (some 157) rfl rfl (by kernel_rfl) (by kernel_rfl) (by kernel_rfl) (fun _ _ _ h => h) (Or.inl ⟨by rfl, ?_⟩) (by assumption) ?_
                  rotate_left
                  · (intro w hSw; (try dsimp only at hSw); (try go_split_ands); go_simp; try with_reducible rfl)
                  try simp only [Act.put, List.setIfInBounds_toArray, List.set_cons_zero, List.set_cons_succ]
                  refine take_in (i := 13) (v := ?_) (some 158) rfl rfl (by kernel_rfl) (by kernel_rfl) (by kernel_rfl) (fun _ _ _ h => h) (Or.inl ⟨by rfl, ?_⟩) (by assumption) ?_
                  rotate_left
                  · (intro w hSw; (try dsimp only at hSw); (try go_split_ands); go_simp; try with_reducible rfl)
                  try simp only [Act.put, List.setIfInBounds_toArray, List.set_cons_zero, List.set_cons_succ]
                  refine take_in (i := 14) (v := ?_) (some 159) rfl rfl (by kernel_rfl) (by kernel_rfl) (by kernel_rfl) (fun _ _ _ h => h) (Or.inl ⟨by rfl, ?_⟩) (by assumption) ?_
                  rotate_left
                  · (intro w hSw; (try dsimp only at hSw); (try go_split_ands); go_simp; try with_reducible rfl)
                  try simp only [Act.put, List.setIfInBounds_toArray, List.set_cons_zero, List.set_cons_succ]
                  refine wpAnyH_ready (rs := [9]) (by kernel_rfl) (by simp) ?_
                  refine AllReadyH.cons rfl (fun K hK => ?_) AllReadyH.nil
                  go_simp
                  refine (CL.out _ hHeld.1).mono ?_
                  rintro e a1 ⟨rfl, p1⟩
                  have hB := hHeld.1.trans (p1.mono hHeld.1.size)
                  go_wp2_with fail
                  refine hK.out _ _ (KQ.out _ hB) (fun hHeld => ?_)
                  clear hK K
                  try simp only [Act.put, List.setIfInBounds_toArray, List.set_cons_zero, List.set_cons_succ]
                  refine take_in (i := 15) (v := ?_) (some 160) rfl rfl (by kernel_rfl) (by kernel_rfl) (by kernel_rfl) (fun _ _ _ h => h) (Or.inl ⟨by rfl, ?_⟩) (by assumption) ?_
                  rotate_left
                  · (intro w hSw; (try dsimp only at hSw); (try go_split_ands); go_simp; try with_reducible rfl)
                  try simp only [Act.put, List.setIfInBounds_toArray, List.set_cons_zero, List.set_cons_succ]
                  refine take_in (i := 16) (v := ?_) (some 161) rfl rfl (by kernel_rfl) (by kernel_rfl) (by kernel_rfl) (fun _ _ _ h => h) (Or.inl ⟨by rfl, ?_⟩) (by assumption) ?_
                  rotate_left
                  · (intro w hSw; (try dsimp only at hSw); (try go_split_ands); go_simp; try with_reducible rfl)
                  try simp only [Act.put, List.setIfInBounds_toArray, List.set_cons_zero, List.set_cons_succ]
                  refine take_in (i := 17) (v := ?_) (some 162) rfl rfl (by kernel_rfl) (by kernel_rfl) (by kernel_rfl) (fun _ _ _ h => h) (Or.inl ⟨by rfl, ?_⟩) (by assumption) ?_
                  rotate_left
                  · (intro w hSw; (try dsimp only at hSw); (try go_split_ands); go_simp; try with_reducible rfl)
                  try simp only [Act.put, List.setIfInBounds_toArray, List.set_cons_zero, List.set_cons_succ]
                  refine take_in (i := 18) (v := ?_) (some 163) rfl rfl (by kernel_rfl) (by kernel_rfl) (by kernel_rfl) (fun _ _ _ h => h) (Or.inl ⟨by rfl, ?_⟩) (by assumption) ?_
                  rotate_left
                  · (intro w hSw; (try dsimp only at hSw); (try go_split_ands); go_simp; try with_reducible rfl)
                  try simp only [Act.put, List.setIfInBounds_toArray, List.set_cons_zero, List.set_cons_succ]
                  refine take_in (i := 21) (v := ?_) (some 166) rfl rfl (by kernel_rfl) (by kernel_rfl) (by kernel_rfl) (fun _ _ _ h => h) (Or.inl ⟨by rfl, ?_⟩) (by assumption) ?_
                  rotate_left
                  · (intro w hSw; (try dsimp only at hSw); (try go_split_ands); go_simp; try with_reducible rfl)
                  try simp only [Act.put, List.setIfInBounds_toArray, List.set_cons_zero, List.set_cons_succ]
                  refine take_in (i := 22) (v := ?_) (some 167) rfl rfl (by kernel_rfl) (by kernel_rfl) (by kernel_rfl) (fun _ _ _ h => h) (Or.inl ⟨by rfl, ?_⟩) (by assumption) ?_
                  rotate_left
                  · (intro w hSw; (try dsimp only at hSw); (try go_split_ands); go_simp; try with_reducible rfl)
                  try simp only [Act.put, List.setIfInBounds_toArray, List.set_cons_zero, List.set_cons_succ]
                  refine take_in (i := 23) (v := ?_) (some 168) rfl rfl (by kernel_rfl) (by kernel_rfl) (by kernel_rfl) (fun _ _ _ h => h) (Or.inl ⟨by rfl, ?_⟩) (by assumption) ?_
                  rotate_left
                  · (intro w hSw; (try dsimp only at hSw); (try go_split_ands); go_simp; try with_reducible rfl)
                  try simp only [Act.put, List.setIfInBounds_toArray, List.set_cons_zero, List.set_cons_succ]
                  refine take_in (i := 24) (v := ?_) (some 169) rfl rfl (by kernel_rfl) (by kernel_rfl) (by kernel_rfl) (fun _ _ _ h => h) (Or.inl ⟨by rfl, ?_⟩) (by assumption) ?_
                  rotate_left
                  · (intro w hSw; (try dsimp only at hSw); (try go_split_ands); go_simp; try with_reducible rfl)
                  try simp only [Act.put, List.setIfInBounds_toArray, List.set_cons_zero, List.set_cons_succ]
                  refine take_in (i := 25) (v := ?_) (some 170) rfl rfl (by kernel_rfl) (by kernel_rfl) (by kernel_rfl) (fun _ _ _ h => h) (Or.inl ⟨by rfl, ?_⟩) (by assumption) ?_
                  rotate_left
                  · (intro w hSw; (try dsimp only at hSw); (try go_split_ands); go_simp; try with_reducible rfl)
                  try simp only [Act.put, List.setIfInBounds_toArray, List.set_cons_zero, List.set_cons_succ]
                  refine take_in (i := 26) (v := ?_) (some 171) rfl rfl (by kernel_rfl) (by kernel_rfl) (by kernel_rfl) (fun _ _ _ h => h) (Or.inl ⟨by rfl, ?_⟩) (by assumption) ?_
                  rotate_left
                  · (intro w hSw; (try dsimp only at hSw); (try go_split_ands); go_simp; try with_reducible rfl)
                  try simp only [Act.put, List.setIfInBounds_toArray, List.set_cons_zero, List.set_cons_succ]
                  refine wpAnyH_ready (rs := [19]) (by kernel_rfl) (by simp) ?_
                  refine AllReadyH.cons rfl (fun K hK => ?_) AllReadyH.nil
                  go_simp
                  refine (CE.out _ hHeld.1).mono ?_
                  rintro e a2 ⟨rfl, p2⟩
                  have hB := hHeld.1.trans (p2.mono hHeld.1.size)
                  go_wp2_with fail
                  refine hK.out _ _ (KQ.out _ hB) (fun hHeld => ?_)
                  clear hK K
                  try simp only [Act.put, List.setIfInBounds_toArray, List.set_cons_zero, List.set_cons_succ]
                  refine take_in (i := 20) (v := ?_) (some 165) rfl rfl (by kernel_rfl) (by kernel_rfl) (by kernel_rfl) (fun _ _ _ h => h) (Or.inl ⟨by rfl, ?_⟩) (by assumption) ?_
                  rotate_left
                  · (intro w hSw; (try dsimp only at hSw); (try go_split_ands); go_simp; try with_reducible rfl)
                  try simp only [Act.put, List.setIfInBounds_toArray, List.set_cons_zero, List.set_cons_succ]
                  refine take_in (i := 27) (v := ?_) (some 172) rfl rfl (by kernel_rfl) (by kernel_rfl) (by kernel_rfl) (fun _ _ _ h => h) (Or.inl ⟨by rfl, ?_⟩) (by assumption) ?_
                  rotate_left
                  · (intro w hSw; (try dsimp only at hSw); (try go_split_ands); go_simp; try with_reducible rfl)
                  try simp only [Act.put, List.setIfInBounds_toArray, List.set_cons_zero, List.set_cons_succ]
                  refine take_in (i := 28) (v := ?_) (some 173) rfl rfl (by kernel_rfl) (by kernel_rfl) (by kernel_rfl) (fun _ _ _ h => h) (Or.inl ⟨by rfl, ?_⟩) (by assumption) ?_
                  rotate_left
                  · (intro w hSw; (try dsimp only at hSw); (try go_split_ands); go_simp; try with_reducible rfl)
                  try simp only [Act.put, List.setIfInBounds_toArray, List.set_cons_zero, List.set_cons_succ]
                  refine wpAnyH_done (by kernel_rfl) ?_ _
                  go_wp2
                  go_meet
                  exact ⟨rfl, hHeld.1⟩
              case rest => as_aux_lemma =>
                obtain ⟨rfl, b10⟩ := hcut
                have B10 := Lib.hid (B9.out.over b10)
                clear b10 B9 CL CE
                go_wp2
                exact ⟨⟨i + 1, k', by omega, by omega, by go_num, B10.out⟩, by simp [intOf]; omega⟩
        · obtain rfl : i = n := by omega
          clear hlt hi
          go_wp2
          go_ret
          exact ⟨rfl, HB.out.below⟩
end Go.Proofs.Ytokgpifelinonaa
