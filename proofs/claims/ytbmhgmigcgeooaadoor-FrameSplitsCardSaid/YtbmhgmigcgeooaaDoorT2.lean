/- The statement FrameTorn, walked: up to the first loop and behind it. -/
import Derived.Test.YtbmhgmigcgeooaaDoorT1
import Derived.Deep.CutBlock
namespace Go.Proofs.YtbmhgmigcgeooaaDoor
open Go.RowKit
theorem bv_xor (x : UInt8) (n : Nat) (hn : n < 256) : bv (x ^^^ UInt8.ofNat n) = .int .u8 (bits .xor .u8 (x.toNat : Int) (n : Int)) := by
  rw [bv, UInt8.toNat_xor, u8_xor_nat _ _ x.toNat_lt hn, byte_ofNat, Nat.mod_eq_of_lt hn]
theorem plainS_len {W : World} {v : Value} {l : List UInt8} (h : PlainS W v l) : ∃ A c, v = .slice A l.length c := by
  obtain ⟨A, c, e, _⟩ := h
  exact ⟨A, c, e⟩
set_option maxRecDepth 100000 in
set_option maxHeartbeats 16000000 in
theorem FrameTorn_walk (KA : Option Addr) (kc : Nat) (ks : List UInt8) (BA : Option Addr) (bn bc : Nat) (bf : Nat → Option Addr × Nat × List UInt8) (cut bit : Nat) (w : World) (hE : Env w) (hK : At w KA ks) (hB : BAt w BA bn bf) (hm : ks.length ≤ maxLen) (hbn : bn ≤ maxLen) (hcut : cut < 65536) (hbit : bit < 65536) :
    Calls Tryd.prog 5 #[.agg #[.slice KA ks.length kc, .slice BA bn bc], .int .u16 (cut : Int), .int .u16 (bit : Int)] w fun e w' => e = .returned (.bool true) ∧ Below w.heap.size w w' := by
  obtain ⟨W, hW⟩ : ∃ W, w.alloc (.cells #[.slice KA ks.length kc, .slice BA bn bc] 55) = W := ⟨_, rfl⟩
  have b0 : Below w.heap.size w W := by rw [← hW]; exact (Below.refl _ _).alloc (Nat.le_refl _) _
  have f0 : C2 W w.heap.size 55 (.slice KA ks.length kc) (.slice BA bn bc) := by rw [← hW]; exact C2.new w _ _ _
  have c0 := f0.c0
  have c1 := f0.c1
  have LD := Lib.hid (laid_any KA kc ks BA bn bc bf W (hE.below b0) (hK.below b0) (hB.below b0) hm hbn)
  unfold LaidPost at LD
  have HE := Lib.hid (hE.below b0)
  have B0 := Lib.hid b0
  clear f0 b0 hE hK hB hm hbn
  go_enter Tryd.func5, Tryd.ntmps5
  go_upto_region 1 with fail
  try rw [hW]
  clear hW
  go_upto_region 3 with (first
    | (go_at_call 19; ((with_reducible refine (LD.out).mono ?_); rintro e1 w1 ⟨vl, vo, L, Ps, rfl, hM1, hL1⟩; have M1 := Lib.hid hM1; have JN := Lib.hid (join_laid hM1 hL1); clear hM1))
    | (go_at_call 20; ((with_reducible refine (JN.out).mono ?_); rintro e2 w2 ⟨v2, rfl, hp2, hb2⟩; have B2 := Lib.hid hb2; have M2 := Lib.hid (M1.out.later hb2); obtain ⟨A2, cA, rfl, z2, p2, l2, a2⟩ := hp2; clear hb2 c0 c1))
    | fail)
  have hok := Lib.hid (frsI_ok M2.out)
  have hsz : (allL (frsI L)).length ≤ 61650 := by
    rw [allL_length]
    have := sizeL_le (frsI L) hok.out
    rw [frsI, List.length_map] at this
    unfold frsI
    omega
  have HFW := Lib.hid (frames_whole (frsI L) hok.out)
  have HN := Lib.hid (allL_length (frsI L))
  have HFP := Lib.hid (fun n hn => frames_part (frsI L) hok.out n hn)
  have HFT := Lib.hid (fun A B f (e : frsI L = A ++ f :: B) => frames_turned (A := A) (f := f) (B := B) (by rw [← e]; exact hok.out))
  have HFA := Lib.hid (fun A B f (e : frsI L = A ++ f :: B) => frames_turned_any (A := A) (f := f) (B := B) (by rw [← e]; exact hok.out))
  have BW2 := Lib.hid M2.out.below
  have SP := Lib.hid (SplitN A2 (allL (frsI L)).length cA (allL (frsI L)) w2 (HE.out.below BW2.out) a2 z2 p2 l2 (by omega) rfl)
  rw [HFW.out] at SP
  have HA2 := Lib.hid a2
  have Z2 := Lib.hid z2
  have P2 := Lib.hid p2
  clear a2 z2 p2 LD JN M1
  generalize hall : allL (frsI L) = all at *
  have HALL := Lib.hid hall
  clear hall
  have hNs : sizeL (frsI L) = all.length := by rw [HN.out]
  rw [hNs] at SP
  have HNS := Lib.hid hNs
  clear hNs
  have htl : vl = .slice none 0 0 ∧ L.length = 0 ∨ ∃ g c, vl = .slice (some ⟨g, 0, none⟩) L.length c := by
    rcases M2.out.rl.2 with ⟨e, e2⟩ | ⟨g, cap, _, e, _⟩
    · exact .inl ⟨e, e2⟩
    · exact .inr ⟨g, cap, e⟩
  obtain ⟨PL, cL, rfl⟩ := own_slice M2.out.rl
  obtain ⟨PO, cO, rfl⟩ := own_slice M2.out.ro
  have hlen := M2.out.len
  rw [hlen]
  have HLE := Lib.hid hlen
  clear htl hlen
  go_upto_region 6 with (first
    | (go_at_call 13; ((with_reducible refine (SP.out).mono ?_); rintro e3 w3 ⟨v3, X3, rfl, hs3⟩; have S3 := Lib.hid hs3; have hl3 : X3.length = L.length := (split_len hs3).trans (by rw [HFW.out]; simp [frsI]); obtain ⟨P3, c3, e3'⟩ := own_slice hs3.row; rw [hl3] at e3'; subst e3'; have HL3 := Lib.hid hl3; clear hs3 hl3))
    | (go_at_call 11; ((with_reducible refine (awake_any w3 ((HE.out.below BW2.out).below S3.out.below)).mono ?_); rintro e4 w4 ⟨rfl, hb4⟩; have B4 := Lib.hid hb4; clear hb4))
    | fail)
  have B43 := Lib.hid (S3.out.below.trans (B4.out.mono S3.out.below.size))
  clear SP
  go_wp2
  go_loopw [51] (fun i wr => ∃ j : Nat, j ≤ L.length ∧ i = .int .i64 j ∧ Below w4.heap.size w4 wr) (fun i _ => L.length - (intOf i).toNat)
  case atStart => exact ⟨0, Nat.zero_le _, rfl, Below.refl _ _⟩
  case round =>
    obtain ⟨j, hj, rfl, hb⟩ := hrel
    by_cases hlt : j < L.length
    · obtain ⟨g1, cc1, g2, cc2, k, n, A4, cc, A5, l, r1, r2, q1, q2, q3, q4, a1, a4, ln⟩ := rows_pair M2.out S3.out HFW.out (B43.out.trans (hb.mono B43.out.size)) (B4.out.trans (hb.mono B4.out.size)) hlt
      injection r1 with r1 _ r3
      injection r2 with r2 _ r4
      subst r1 r2 r3 r4
      have hji : (j : Int) < (L.length : Int) := by omega
      have CE := Lib.hid (fun nq => Equal_any A4 A5 l l n n n cc (wr.drewN nq) (a4.below (below_drewN' (Below.refl _ _) nq)) (a1.below (below_drewN' (Below.refl _ _) nq)) ln ln)
      rw [beq_self_eq_true] at CE
      have HB := Lib.hid hb
      clear a1 a4 ln hb hlt
      go_upto_region 9 with fail
      go_quiet ((go_at_call 10; exact quiet_l (CE.out _)))
      go_wp2
      exact ⟨⟨j + 1, by omega, by go_num, below_drewN' HB.out _⟩, by simp [intOf]; omega⟩
    · have hji : ¬ (j : Int) < (L.length : Int) := by omega
      obtain hjl : j = L.length := by omega
      have HB := Lib.hid hb
      clear hb hlt hjl hj
      obtain ⟨en, hen⟩ : ∃ en, cut % (all.length + 1) = en := ⟨_, rfl⟩
      have henl : en ≤ all.length := by rw [← hen]; exact Nat.le_of_lt_succ (Nat.mod_lt _ (Nat.succ_pos _))
      have heni : (cut : Int) % ((all.length : Int) + 1) = (en : Int) := by rw [← hen, Int.natCast_emod]; rfl
      have t1 : (0 : Int) ≤ (cut : Int) := by omega
      have t2 : (0 : Int) < (all.length : Int) + 1 := by omega
      clear hen
      have BW := Lib.hid (B43.out.trans (HB.out.mono B43.out.size))
      go_upto_region 13 with fail
      rw [heni]
      clear heni t1 t2
      obtain ⟨wA, rfl⟩ : ∃ wA, wA = wr := ⟨_, rfl⟩
      clear hji
      go_upto_block 2 with fail
      go_cut [14, 15] from 86 to 109 (fun wh n w' => (∃ j : Nat, j ≤ L.length ∧ n = .int .i64 j ∧ wh = .int .i64 (sizeL ((frsI L).take j) : Nat) ∧ framesL (all.take en) = (frsI L).take j) ∧ wA = w')
      case first =>
        go_wp2_with fail
        go_loopw [14, 15] (fun wh n wz => ∃ j : Nat, j ≤ L.length ∧ n = .int .i64 j ∧ wh = .int .i64 (sizeL ((frsI L).take j) : Nat) ∧ sizeL ((frsI L).take j) ≤ en ∧ wz = wA) (fun _ n _ => L.length - (intOf n).toNat)
        case atStart => exact ⟨0, Nat.zero_le _, rfl, rfl, Nat.zero_le _, rfl⟩
        case round =>
          obtain ⟨i, hi, rfl, rfl, hie, rfl⟩ := hrel
          by_cases hlt : i < L.length
          · obtain ⟨g1, cc1, G1, gc1, r1, q1⟩ := M2.out.part hlt
            injection r1 with r1 _ r3
            subst r1 r3
            have hq : wr.cell? ⟨g1, i, none⟩ = some (.slice (some ⟨G1, 0, none⟩) L[i].f.size gc1) := (BW.out.cell (p := ⟨g1, i, none⟩) (by
              obtain ⟨o, ho, _⟩ := cells_of_cell q1
              exact (Array.getElem?_eq_some_iff.1 ho).1)).trans q1
            by_cases hle : sizeL ((frsI L).take i) + L[i].f.size ≤ en
            · have HT := Lib.hid (takeI L i hlt)
              generalize L[i].f.size = sz at *
              generalize sizeL ((frsI L).take i) = sm at *
              have hlti : (i : Int) < (L.length : Int) := by omega
              have hlei : (sm : Int) + (sz : Int) ≤ (en : Int) := by omega
              clear q1
              go_wp2
              exact ⟨⟨i + 1, by omega, by go_num, by rw [HT.out]; go_num, by rw [HT.out]; exact hle, trivial⟩, by simp [intOf]; omega⟩
            · have HW := Lib.hid (show framesL (all.take en) = (frsI L).take i by
                rw [HFP.out en (by rw [HNS.out]; exact henl)]
                exact wholeL_stop (frsI L) en i (by simpa [frsI] using hi) hie (fun h => by simp [frsI] at h ⊢; simp [frsI] at hle; omega))
              have hszb : L[i].f.size ≤ 2055 := by have := (M2.out.ok L[i] (List.getElem_mem hlt)).2.2; rw [Fr.size]; omega
              generalize L[i].f.size = sz at *
              generalize hsm : sizeL ((frsI L).take i) = sm at *
              have HSM := Lib.hid hsm
              have hlti : (i : Int) < (L.length : Int) := by omega
              have hlei : (en : Int) < (sm : Int) + (sz : Int) := by omega
              clear q1 hsm hle
              go_wp2
              go_meet
              exact ⟨⟨i, hi, rfl, by rw [HSM.out], HW.out⟩, rfl⟩
          · have HW := Lib.hid (show framesL (all.take en) = (frsI L).take i by
              rw [HFP.out en (by rw [HNS.out]; exact henl)]
              exact wholeL_stop (frsI L) en i (by simpa [frsI] using hi) hie (fun h => by simp [frsI] at h; omega))
            have hlti : ¬ (i : Int) < (L.length : Int) := by omega
            go_wp2
            go_meet
            exact ⟨⟨i, hi, rfl, rfl, HW.out⟩, rfl⟩
      case rest =>
        obtain ⟨⟨i, hi, rfl, rfl, hfr⟩, rfl⟩ := hcut
        have hti : (all.take en).length = en := by rw [List.length_take]; omega
        have SP2 := Lib.hid (SplitN A2 en cA (all.take en) wA ((HE.out.below BW2.out).below BW.out) (take_at _ (HA2.out.below BW.out)) Z2.out P2.out (by omega) (by omega) hti)
        rw [hfr] at SP2
        have HLI := Lib.hid (show ((frsI L).take i).length = i by rw [List.length_take, frsI, List.length_map]; omega)
        have HFR := Lib.hid hfr
        have hsb : sizeL ((frsI L).take i) ≤ 61650 := by have := sizeL_take_le (frsI L) i; rw [HNS.out] at this; omega
        clear hfr hti
        generalize sizeL ((frsI L).take i) = sm at *
        have henc : (en : Int) ≤ (cA : Int) := by omega
        have henz : (0 : Int) ≤ (en : Int) := by omega
        go_upto_region 20 with (first
          | (go_at_call 13; ((with_reducible refine (SP2.out).mono ?_); rintro e5 w5 ⟨v5, X5, rfl, hs5⟩; have hl5 : X5.length = i := (split_len hs5).trans (by rw [HFR.out]; exact HLI.out); obtain ⟨P5, c5, e5'⟩ := own_slice hs5.row; rw [hl5] at e5'; subst e5'; have B5 := Lib.hid (BW.out.trans (hs5.below.mono BW.out.size)); clear hs5 hl5))
          | fail)
        clear SP2 HLI HFR hsb henc henz
        by_cases hz : all.length = 0
        · have hzi : ((all.length : Int) == 0) = true := by simpa using (show (all.length : Int) = 0 by omega)
          clear hz
          go_wp2
          go_ret
          exact ⟨rfl, B0.out.trans (BW2.out.trans (B5.out.mono BW2.out.size) |>.mono B0.out.size)⟩
        · have hzi : ((all.length : Int) == 0) = false := by simpa using (show ¬ (all.length : Int) = 0 by omega)
          obtain ⟨pl, hpl⟩ : ∃ pl, bit % (8 * all.length) = pl := ⟨_, rfl⟩
          have hpll : pl < 8 * all.length := by rw [← hpl]; exact Nat.mod_lt _ (by omega)
          have hpli : (bit : Int) % (8 * (all.length : Int)) = (pl : Int) := by rw [← hpl, Int.natCast_emod]; rfl
          have t1 : (0 : Int) ≤ (bit : Int) := by omega
          have t2 : (0 : Int) < 8 * (all.length : Int) := by omega
          clear hpl
          have HA5 := Lib.hid (HA2.out.below B5.out)
          go_upto_region 23 with fail
          rw [hpli]
          clear hpli t1 t2 hzi
          have hs5 := BW2.out.size
          go_upto_region 24 with (first
            | (at_builtin; refine wpList_app _ rfl (.tmp 135) (.tmp 136) rfl w5.heap.size (.slice (some ⟨w5.heap.size, 0, none⟩) 0 0) [] rfl (Own1.made _ _ (Nat.le_refl _)) A2 all.length cA all rfl (HA5.out.below ((Below.refl _ _).alloc (Nat.le_refl _) _)) Z2.out rfl (by simp; omega) (by simp) w5 ((Below.refl _ _).alloc (Nat.le_refl _) _) ?_; intro v6 w6 ho6 hb6 _ _; have B6 := Lib.hid hb6; obtain ⟨g6, c6, e6, _, _⟩ := World.ownsRow.form ho6 (by simp; omega); subst e6; have O6 := Lib.hid (show Mine w5.heap.size w6 g6 all from own_mine ho6); have HC6 : Hid (all.length ≤ c6) := Lib.hid (by rcases ho6.2 with ⟨e, _⟩ | ⟨_, _, _, e, _, _, hn, _⟩ <;> (injection e with e1 e2 e3; simp at *; try omega)); clear ho6 hb6)
            | fail)
          obtain ⟨q, hqd⟩ : ∃ q, pl / 8 = q := ⟨_, rfl⟩
          obtain ⟨r, hrd⟩ : ∃ r, pl % 8 = r := ⟨_, rfl⟩
          have hq : q < all.length := by omega
          have hr8 : r < 8 := by omega
          have hplq : pl = 8 * q + r := by omega
          have hx1 : (pl : Int) / 8 = (q : Int) := by omega
          have hx2 : (pl : Int) % 8 = (r : Int) := by omega
          have hx3 : (pl : Int).tdiv 8 = (q : Int) := by rw [Int.tdiv_eq_ediv_of_nonneg (by omega)]; exact hx1
          have hx4 : (pl : Int).tmod 8 = (r : Int) := by rw [Int.tmod_eq_emod_of_nonneg (by omega)]; exact hx2
          clear hqd hrd
          obtain ⟨xb, hxb⟩ : ∃ xb, all.getD q 0 = xb := ⟨_, rfl⟩
          have HXB := Lib.hid hxb
          have hcq := O6.out.cell q hq
          rw [hxb] at hcq
          unfold bv at hcq
          have HCQ := Lib.hid hcq
          clear hxb hcq
          go_cut [138] from 138 to 147 (fun _ w' => ∃ d : UInt8, d ≠ 0 ∧ Mine w5.heap.size w' g6 (all.set q (xb ^^^ d)) ∧ Below w5.heap.size w5 w')
          case first =>
            have hcq := HCQ.out
            have hfq := O6.out.free q
            have hqi : (q : Int) < (all.length : Int) := by omega
            have SETB := Lib.hid (fun v => set_bytes O6.out q v)
            have SETW := Lib.hid (fun v => below_set B6.out O6.out.ge q v)
            clear hplq hx1
            rcases (show r = 0 ∨ r = 1 ∨ r = 2 ∨ r = 3 ∨ r = 4 ∨ r = 5 ∨ r = 6 ∨ r = 7 by omega) with rfl | rfl | rfl | rfl | rfl | rfl | rfl | rfl
            · have h1 := SETB.out (xb ^^^ UInt8.ofNat 1)
              have h2 := SETW.out (bv (xb ^^^ UInt8.ofNat 1))
              rw [show bv (xb ^^^ UInt8.ofNat 1) = .int .u8 (bits .xor .u8 (xb.toNat : Int) 1) from bv_xor xb 1 (by decide)] at h1 h2
              have HH := Lib.hid (And.intro (h1.below (Below.refl _ _).drew) h2.drew)
              clear h1 h2
              go_region
              go_wp2
              go_meet
              exact ⟨UInt8.ofNat 1, by decide, HH.out.1, HH.out.2⟩
            · have h1 := SETB.out (xb ^^^ UInt8.ofNat 2)
              have h2 := SETW.out (bv (xb ^^^ UInt8.ofNat 2))
              rw [show bv (xb ^^^ UInt8.ofNat 2) = .int .u8 (bits .xor .u8 (xb.toNat : Int) 2) from bv_xor xb 2 (by decide)] at h1 h2
              have HH := Lib.hid (And.intro (h1.below (Below.refl _ _).drew) h2.drew)
              clear h1 h2
              go_region
              go_wp2
              go_meet
              exact ⟨UInt8.ofNat 2, by decide, HH.out.1, HH.out.2⟩
            · have h1 := SETB.out (xb ^^^ UInt8.ofNat 4)
              have h2 := SETW.out (bv (xb ^^^ UInt8.ofNat 4))
              rw [show bv (xb ^^^ UInt8.ofNat 4) = .int .u8 (bits .xor .u8 (xb.toNat : Int) 4) from bv_xor xb 4 (by decide)] at h1 h2
              have HH := Lib.hid (And.intro (h1.below (Below.refl _ _).drew) h2.drew)
              clear h1 h2
              go_region
              go_wp2
              go_meet
              exact ⟨UInt8.ofNat 4, by decide, HH.out.1, HH.out.2⟩
            · have h1 := SETB.out (xb ^^^ UInt8.ofNat 8)
              have h2 := SETW.out (bv (xb ^^^ UInt8.ofNat 8))
              rw [show bv (xb ^^^ UInt8.ofNat 8) = .int .u8 (bits .xor .u8 (xb.toNat : Int) 8) from bv_xor xb 8 (by decide)] at h1 h2
              have HH := Lib.hid (And.intro (h1.below (Below.refl _ _).drew) h2.drew)
              clear h1 h2
              go_region
              go_wp2
              go_meet
              exact ⟨UInt8.ofNat 8, by decide, HH.out.1, HH.out.2⟩
            · have h1 := SETB.out (xb ^^^ UInt8.ofNat 16)
              have h2 := SETW.out (bv (xb ^^^ UInt8.ofNat 16))
              rw [show bv (xb ^^^ UInt8.ofNat 16) = .int .u8 (bits .xor .u8 (xb.toNat : Int) 16) from bv_xor xb 16 (by decide)] at h1 h2
              have HH := Lib.hid (And.intro (h1.below (Below.refl _ _).drew) h2.drew)
              clear h1 h2
              go_region
              go_wp2
              go_meet
              exact ⟨UInt8.ofNat 16, by decide, HH.out.1, HH.out.2⟩
            · have h1 := SETB.out (xb ^^^ UInt8.ofNat 32)
              have h2 := SETW.out (bv (xb ^^^ UInt8.ofNat 32))
              rw [show bv (xb ^^^ UInt8.ofNat 32) = .int .u8 (bits .xor .u8 (xb.toNat : Int) 32) from bv_xor xb 32 (by decide)] at h1 h2
              have HH := Lib.hid (And.intro (h1.below (Below.refl _ _).drew) h2.drew)
              clear h1 h2
              go_region
              go_wp2
              go_meet
              exact ⟨UInt8.ofNat 32, by decide, HH.out.1, HH.out.2⟩
            · have h1 := SETB.out (xb ^^^ UInt8.ofNat 64)
              have h2 := SETW.out (bv (xb ^^^ UInt8.ofNat 64))
              rw [show bv (xb ^^^ UInt8.ofNat 64) = .int .u8 (bits .xor .u8 (xb.toNat : Int) 64) from bv_xor xb 64 (by decide)] at h1 h2
              have HH := Lib.hid (And.intro (h1.below (Below.refl _ _).drew) h2.drew)
              clear h1 h2
              go_region
              go_wp2
              go_meet
              exact ⟨UInt8.ofNat 64, by decide, HH.out.1, HH.out.2⟩
            · have h1 := SETB.out (xb ^^^ UInt8.ofNat 128)
              have h2 := SETW.out (bv (xb ^^^ UInt8.ofNat 128))
              rw [show bv (xb ^^^ UInt8.ofNat 128) = .int .u8 (bits .xor .u8 (xb.toNat : Int) 128) from bv_xor xb 128 (by decide)] at h1 h2
              have HH := Lib.hid (And.intro (h1.below (Below.refl _ _).drew) h2.drew)
              clear h1 h2
              go_region
              go_wp2
              go_meet
              exact ⟨UInt8.ofNat 128, by decide, HH.out.1, HH.out.2⟩
          case rest =>
            obtain ⟨d, hd, hM7, hB7⟩ := hcut
            have M7 := Lib.hid hM7
            have B7 := Lib.hid hB7
            have HD := Lib.hid hd
            have BW7 := Lib.hid (B5.out.trans (hB7.mono B5.out.size))
            have HPL := Lib.hid hplq
            clear hM7 hB7 hd hplq hx2 hx4 hr8 B6 O6 HCQ
            go_upto_block 4 with fail
            go_cut [15, 20] from 148 to 166 (fun n ah w' => (∃ j : Nat, ∃ h : j < L.length, n = .int .i64 j ∧ ah = .int .i64 (sizeL ((frsI L).take j) : Nat) ∧ sizeL ((frsI L).take j) ≤ q ∧ q < sizeL ((frsI L).take j) + L[j].f.size) ∧ wc = w')
            case first =>
              go_wp2_with fail
              go_loopw [15, 20] (fun n ah wz => ∃ j : Nat, j ≤ L.length ∧ n = .int .i64 j ∧ ah = .int .i64 (sizeL ((frsI L).take j) : Nat) ∧ sizeL ((frsI L).take j) ≤ q ∧ wz = wc) (fun n _ _ => L.length - (intOf n).toNat)
              case atStart => exact ⟨0, Nat.zero_le _, rfl, rfl, Nat.zero_le _, rfl⟩
              case round =>
                obtain ⟨j, hj, rfl, rfl, hje, rfl⟩ := hrel
                have hlt : j < L.length := by
                  refine Nat.lt_of_not_le fun h => ?_
                  have e : (frsI L).take j = frsI L := List.take_of_length_le (by simpa [frsI] using h)
                  rw [e, HNS.out] at hje
                  omega
                obtain ⟨g1, cc1, G1, gc1, r1, q1⟩ := M2.out.part hlt
                injection r1 with r1 _ r3
                subst r1 r3
                have hq7 : wr.cell? ⟨g1, j, none⟩ = some (.slice (some ⟨G1, 0, none⟩) L[j].f.size gc1) := (BW7.out.cell (p := ⟨g1, j, none⟩) (by
                  obtain ⟨o, ho, _⟩ := cells_of_cell q1
                  exact (Array.getElem?_eq_some_iff.1 ho).1)).trans q1
                have hszb : L[j].f.size ≤ 2055 := by have := (M2.out.ok L[j] (List.getElem_mem hlt)).2.2; rw [Fr.size]; omega
                have hlti : (j : Int) < (L.length : Int) := by omega
                have hpl0 : (0 : Int) ≤ (pl : Int) := by omega
                by_cases hle : sizeL ((frsI L).take j) + L[j].f.size ≤ q
                · have HT := Lib.hid (takeI L j hlt)
                  generalize L[j].f.size = sz at *
                  generalize sizeL ((frsI L).take j) = sm2 at *
                  have hlei : (sm2 : Int) + (sz : Int) ≤ (q : Int) := by omega
                  clear q1 hle
                  go_wp2
                  exact ⟨⟨j + 1, by omega, by go_num, by rw [HT.out]; go_num, by rw [HT.out]; omega, trivial⟩, by simp [intOf]; omega⟩
                · have HLT := Lib.hid (show q < sizeL ((frsI L).take j) + L[j].f.size by omega)
                  have HJE := Lib.hid hje
                  generalize hsz2 : L[j].f.size = sz at *
                  generalize hsm : sizeL ((frsI L).take j) = sm2 at *
                  have HSM := Lib.hid hsm
                  have HSZ := Lib.hid hsz2
                  have hlei : (q : Int) < (sm2 : Int) + (sz : Int) := by omega
                  clear q1 hsm hle hsz2
                  go_wp2
                  go_meet
                  exact ⟨⟨j, hlt, rfl, by rw [HSM.out], by rw [HSM.out]; exact HJE.out, by rw [HSM.out, HSZ.out]; exact HLT.out⟩, rfl⟩
            case rest =>
              obtain ⟨⟨j, hlt, rfl, rfl, hje, hjl⟩, rfl⟩ := hcut
              have hall2 : all = allL (frsI L) := HALL.out.symm
              have hsp : frsI L = (frsI L).take j ++ L[j].f :: (frsI L).drop (j + 1) := by
                have := split_at (frsI L) j (by simpa [frsI] using hlt)
                have e : (frsI L)[j]'(by simpa [frsI] using hlt) = L[j].f := by simp [frsI]
                rw [e] at this
                exact this
              have hlj : ((frsI L).take j).length = j := by rw [List.length_take, frsI, List.length_map]; omega
              have hxq : all.getD q 0 = xb := HXB.out
              have ht7 : (all.set q (xb ^^^ d)).length = all.length := List.length_set ..
              have SP7 := Lib.hid (SplitN (some ⟨g6, 0, none⟩) all.length c6 (all.set q (xb ^^^ d)) wc ((HE.out.below BW2.out).below BW7.out) M7.out.at_ (fun h => by cases h) (fun ad h => by cases h; exact ⟨_, _, rfl⟩) (by rw [ht7]; exact HC6.out) (by omega) ht7)
              have hany : ∃ R, framesL (all.set q (xb ^^^ d)) = (frsI L).take j ++ R := by
                obtain ⟨R, hR⟩ := HFA.out _ _ _ hsp q hje (xb ^^^ d)
                rw [← hsp, ← hall2] at hR
                exact ⟨R, hR⟩
              have hnot : q - sizeL ((frsI L).take j) ≠ 1 → q - sizeL ((frsI L).take j) ≠ 2 → framesL (all.set q (xb ^^^ d)) = (frsI L).take j := fun h1 h2 => by
                have := HFT.out _ _ _ hsp q hje hjl h1 h2 d HD.out
                rw [← hsp, ← hall2, hxq] at this
                exact this
              have hszj : sizeL ((frsI L).take j) ≤ 61650 := by omega
              obtain ⟨F7, hF7⟩ : ∃ F7, framesL (all.set q (xb ^^^ d)) = F7 := ⟨_, rfl⟩
              rw [hF7] at SP7 hany hnot
              have HF7 := Lib.hid hF7
              have hpl0 : (0 : Int) ≤ (pl : Int) := by omega
              have HLJ := Lib.hid hlj
              clear hall2 hsp hxq ht7 hF7 hlj
              generalize hsm : sizeL ((frsI L).take j) = sm2 at *
              have HSM := Lib.hid hsm
              have hje' : (sm2 : Int) ≤ (q : Int) := by omega
              clear hsm hjl
              by_cases h12 : q - sm2 = 1 ∨ q - sm2 = 2
              · obtain ⟨R, hR⟩ := hany
                have hfl : j ≤ F7.length := by rw [hR, List.length_append, HLJ.out]; omega
                have hfs : sm2 ≤ sizeL F7 := by rw [hR, sizeL_append, HSM.out]; omega
                clear hnot hR
                obtain ⟨N7, hN7⟩ : ∃ N7, F7.length = N7 := ⟨_, rfl⟩
                have HN7 := Lib.hid hN7
                rw [hN7] at hfl
                clear hN7
                generalize sizeL F7 = s7 at *
                have hfli : (j : Int) ≤ (N7 : Int) := by omega
                have hfsi : (sm2 : Int) ≤ (s7 : Int) := by omega
                clear hfl hfs
                rcases h12 with h1 | h1
                · have t1 : ((q : Int) - (sm2 : Int) == 1) = true := by simpa using (show (q : Int) - (sm2 : Int) = 1 by omega)
                  clear h1
                  go_upto_region 30 with (first
                    | (go_at_call 13; ((with_reducible refine (SP7.out).mono ?_); rintro e9 w9 ⟨v9, X9, rfl, hs9⟩; have hl9 : X9.length = N7 := (split_len hs9).trans (by rw [HF7.out]; exact HN7.out); obtain ⟨P9, c9, e9'⟩ := own_slice hs9.row; rw [hl9] at e9'; subst e9'; have B9 := Lib.hid (BW7.out.trans (hs9.below.mono BW7.out.size)); clear hs9 hl9))
                    | fail)
                  go_wp2
                  go_ret
                  exact ⟨rfl, B0.out.trans ((BW2.out.trans (B9.out.mono BW2.out.size)).mono B0.out.size)⟩
                · have t1 : ((q : Int) - (sm2 : Int) == 1) = false := by simpa using (show ¬ (q : Int) - (sm2 : Int) = 1 by omega)
                  have t2 : ((q : Int) - (sm2 : Int) == 2) = true := by simpa using (show (q : Int) - (sm2 : Int) = 2 by omega)
                  clear h1
                  go_upto_region 30 with (first
                    | (go_at_call 13; ((with_reducible refine (SP7.out).mono ?_); rintro e9 w9 ⟨v9, X9, rfl, hs9⟩; have hl9 : X9.length = N7 := (split_len hs9).trans (by rw [HF7.out]; exact HN7.out); obtain ⟨P9, c9, e9'⟩ := own_slice hs9.row; rw [hl9] at e9'; subst e9'; have B9 := Lib.hid (BW7.out.trans (hs9.below.mono BW7.out.size)); clear hs9 hl9))
                    | fail)
                  go_wp2
                  go_ret
                  exact ⟨rfl, B0.out.trans ((BW2.out.trans (B9.out.mono BW2.out.size)).mono B0.out.size)⟩
              · have hF := hnot (fun h => h12 (.inl h)) (fun h => h12 (.inr h))
                have t1 : ((q : Int) - (sm2 : Int) == 1) = false := by simpa using (show ¬ (q : Int) - (sm2 : Int) = 1 from fun e => h12 (.inl (by omega)))
                have t2 : ((q : Int) - (sm2 : Int) == 2) = false := by simpa using (show ¬ (q : Int) - (sm2 : Int) = 2 from fun e => h12 (.inr (by omega)))
                have HN7 : Hid (F7.length = j) := Lib.hid (by rw [hF]; exact HLJ.out)
                have hs7 : sizeL F7 = sm2 := by rw [hF]; exact HSM.out
                rw [hs7] at SP7
                clear hany hnot h12 hF hs7
                go_upto_region 30 with (first
                  | (go_at_call 13; ((with_reducible refine (SP7.out).mono ?_); rintro e9 w9 ⟨v9, X9, rfl, hs9⟩; have hl9 : X9.length = j := (split_len hs9).trans (by rw [HF7.out]; exact HN7.out); obtain ⟨P9, c9, e9'⟩ := own_slice hs9.row; rw [hl9] at e9'; subst e9'; have B9 := Lib.hid (BW7.out.trans (hs9.below.mono BW7.out.size)); clear hs9 hl9))
                  | fail)
                go_wp2
                go_ret
                exact ⟨rfl, B0.out.trans ((BW2.out.trans (B9.out.mono BW2.out.size)).mono B0.out.size)⟩
theorem FrameTorn_full (KA : Option Addr) (kc : Nat) (ks : List UInt8) (BA : Option Addr) (bn bc : Nat) (bf : Nat → Option Addr × Nat × List UInt8) (cut bit : Nat) (w : World) (hK : At w KA ks) (hm : ks.length ≤ maxLen) (hB : BAt w BA bn bf) (hbn : bn ≤ maxLen) (hcut : cut < 65536) (hbit : bit < 65536) (hE : Env w) :
    Calls Tryd.prog 5 #[.agg #[.slice KA ks.length kc, .slice BA bn bc], .int .u16 (cut : Int), .int .u16 (bit : Int)] w fun e w' => e = .returned (.bool true) ∧ Below w.heap.size w w' :=
  FrameTorn_walk KA kc ks BA bn bc bf cut bit w hE hK hB hm hbn hcut hbit
end Go.Proofs.YtbmhgmigcgeooaaDoor
