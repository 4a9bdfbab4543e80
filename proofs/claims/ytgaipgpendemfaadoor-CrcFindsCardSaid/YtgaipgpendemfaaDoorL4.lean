/- The statement CrcFinds, walked. -/
import Derived.Test.YtgaipgpendemfaaDoorL2
import Derived.Test.YtgaipgpendemfaaDoorK1
namespace Go.Proofs.YtgaipgpendemfaaDoor
open Go.RowKit
theorem strip_mark (l : List UInt8) : stripE (markL l) = 0 ∧ stripL (markL l) = l := by
  have h4 : ¬ (markL l).length < 4 := by rw [markL_length]; omega
  have hs : markL ((markL l).take ((markL l).length - 4)) = markL l := by rw [take_mark]
  have e : stripE (markL l) = 0 := by unfold stripE; rw [if_neg h4, if_pos hs]
  exact ⟨e, by unfold stripL; rw [if_pos e, take_mark]⟩
theorem strip_turned (l : List UInt8) (t : BitVec 32) (first : Nat) (hN : first + 32 ≤ 8 * (markL l).length) (ht : t ≠ 0#32) : stripE (turned t first (markL l) 32) = 21 ∧ stripL (turned t first (markL l) 32) = [] := by
  have h4 : ¬ (turned t first (markL l) 32).length < 4 := by rw [turned_length, markL_length]; omega
  have e : stripE (turned t first (markL l) 32) = 21 := by unfold stripE; rw [if_neg h4, if_neg (turned_found l t first hN ht)]
  exact ⟨e, by unfold stripL; rw [e]; rfl⟩
theorem and_one (t : BitVec 32) (j : Nat) : bits .and .u32 ((t.toNat : Int) / 2 ^ j) 1 = ((t.toNat / 2 ^ j % 2 : Nat) : Int) := by
  have h := t.isLt
  have h2 : t.toNat / 2 ^ j ≤ t.toNat := Nat.div_le_self _ _
  have e : ((t.toNat : Int) / 2 ^ j) = ((t.toNat / 2 ^ j : Nat) : Int) := by simp
  rw [e, show (1 : Int) = ((1 : Nat) : Int) from rfl, u32_and_nat _ _ (by omega) (by omega), Nat.and_one_is_mod]
theorem turn_val (x : UInt8) (t : BitVec 32) (j k b d : Nat) (hb : t.toNat / 2 ^ j % 2 = b) (hd : 7 - k % 8 = d) : bits .xor .u8 (x.toNat : Int) ((b : Int) * 2 ^ d % 256) = ((x ^^^ turnB t j k).toNat : Int) := by
  rw [← bx8]
  congr 1
  unfold turnB
  rw [hb, hd, byte_ofNat]
  simp
set_option maxRecDepth 100000 in
set_option maxHeartbeats 4000000 in
theorem CrcFinds_walk (A : Option Addr) (cap : Nat) (l : List UInt8) (at_ : Nat) (t : BitVec 32) (w : World) (hA : At w A l) (hz : A = none → cap = 0) (hm : l.length + 4 ≤ 140737488355328) (_hc : l.length ≤ cap) (hat : at_ < 65536) (h : Env w) :
    Calls Tryd.prog 4 #[.slice A l.length cap, .int .u16 (at_ : Int), .int .u32 (t.toNat : Int)] w fun e w' => e = .returned (.bool true) ∧ Below w.heap.size w w' := by
  have CM := Lib.hid (Mark_mine A l l.length cap w h hA hz hm rfl)
  have HE := Lib.hid h
  have HA := Lib.hid hA
  have hml := markL_length l
  have hS := strip_mark l
  obtain ⟨m, hM⟩ : ∃ m, markL l = m := ⟨_, rfl⟩
  rw [hM] at CM hml hS
  have CS := Lib.hid (fun (c : Nat) (w1 : World) (hc1 : l.length + 4 ≤ c) (hE : Env w1) (hm1 : Mine w.heap.size w1 w.heap.size m) => StripL (some ⟨w.heap.size, 0, none⟩) m (l.length + 4) c w1 hE hm1.at_ (fun h => by cases h) (by omega) (by omega) hml)
  unfold Strips at CS
  rw [hS.1, hS.2] at CS
  obtain ⟨F, hF, hF2⟩ : ∃ F : Nat, (at_ : Int) % (8 * ((l.length : Int) + 4) - 31) = (F : Int) ∧ F + 32 ≤ 8 * m.length := by
    refine ⟨at_ % (8 * (l.length + 4) - 31), ?_, ?_⟩
    · rw [Int.natCast_emod]; congr 1; omega
    · have := Nat.mod_lt at_ (show 0 < 8 * (l.length + 4) - 31 by omega); omega
  clear hA hz h
  go_enter Tryd.func4, Tryd.ntmps4
  go_wp2_with fail
  refine (CM.out).mono ?_
  rintro e w1 ⟨c, rfl, hc1, hm1, hb1⟩
  go_wp2_with fail
  refine (CS.out c w1 hc1 (HE.out.below hb1) hm1).mono ?_
  rintro e w2 ⟨B, cb, rfl, hzB, hB, _, hb2⟩
  have q1 := conv_text w2 B l cb hB
  have q2 := conv_text w2 A l cap ((HA.out.below hb1).below hb2)
  have M2 := Lib.hid (hm1.below hb2)
  have B2 := Lib.hid (hb1.trans (hb2.mono hb1.size))
  clear hm1 hb1 hb2 hB hzB
  go_wp2_with fail
  rw [hF]
  go_loopw [11] (fun i wr => ∃ j : Nat, j ≤ 32 ∧ i = .int .i64 j ∧ Mine w.heap.size wr w.heap.size (turned t F m j) ∧ Below w.heap.size w wr) (fun i _ => 32 - (intOf i).toNat)
  case atStart => exact ⟨0, Nat.zero_le _, rfl, M2.out, B2.out⟩
  case round =>
    obtain ⟨j, hj, rfl, hmine, hbel⟩ := hrel
    by_cases hlt : j < 32
    · have i1 : (j : Int) < 32 := by omega
      have i2 : (0 : Int) ≤ (j : Int) := by omega
      have i3 : (0 : Int) ≤ (F : Int) := by omega
      have i4 : (F : Int) + 32 ≤ 8 * ((l.length : Int) + 4) := by omega
      obtain ⟨q, hq⟩ : ∃ q, (F + j) / 8 = q := ⟨_, rfl⟩
      obtain ⟨r, hr⟩ : ∃ r, (F + j) % 8 = r := ⟨_, rfl⟩
      have e1 : ((F : Int) + (j : Int)) / 8 = (q : Int) := by omega
      have e2 : ((F : Int) + (j : Int)) % 8 = (r : Int) := by omega
      have e3 : ((F : Int) + (j : Int)).tdiv 8 = (q : Int) := by rw [Int.tdiv_eq_ediv_of_nonneg (by omega)]; exact e1
      have e4 : ((F : Int) + (j : Int)).tmod 8 = (r : Int) := by rw [Int.tmod_eq_emod_of_nonneg (by omega)]; exact e2
      have i5 : (0 : Int) ≤ (q : Int) := by omega
      have i6 : (q : Int) < (l.length : Int) + 4 := by omega
      have i7 : (0 : Int) ≤ (r : Int) := by omega
      have i8 : (r : Int) ≤ 7 := by omega
      obtain ⟨d, hd⟩ : ∃ d : Nat, 7 - r = d := ⟨_, rfl⟩
      have i9 : (0 : Int) ≤ (d : Int) := by omega
      have i10 : (d : Int) ≤ 8 := by omega
      have i11 : IntKind.i64.wrap (7 - (r : Int)) = (d : Int) := by rw [IntWalk.i64_in _ (by omega)]; omega
      have i12 : IntKind.i64.wrap (q : Int) = (q : Int) := IntWalk.i64_in _ (by omega)
      obtain ⟨b, hb⟩ : ∃ b : Nat, t.toNat / 2 ^ j % 2 = b := ⟨_, rfl⟩
      have hand : bits .and .u32 ((t.toNat : Int) / 2 ^ j) 1 = (b : Int) := by rw [← hb]; exact and_one t j
      have hcell := hmine.cell q (by rw [turned_length]; omega)
      have hfree := hmine.free q
      unfold bv at hcell
      have HV := Lib.hid (turn_val ((turned t F m j).getD q 0) t j (F + j) b d hb (by rw [hr]; exact hd))
      have HS := Lib.hid (set_bytes hmine q ((turned t F m j).getD q 0 ^^^ turnB t j (F + j)))
      have HBS := Lib.hid (below_set hbel (Nat.le_refl _) q (bv ((turned t F m j).getD q 0 ^^^ turnB t j (F + j))))
      have HT : Hid (turned t F m (j + 1) = (turned t F m j).set q ((turned t F m j).getD q 0 ^^^ turnB t j (F + j))) := by
        rw [← hq]
        exact rfl
      unfold bv at HS HBS
      generalize (turned t F m j).getD q 0 ^^^ turnB t j (F + j) = y at *
      generalize (turned t F m j).getD q 0 = x at *
      clear hmine hbel
      go_upto_region 10 with fail
      refine wp_region_held_drew (S := fun _ => True) (by kernel_rfl) (trivial) (fun hHeld => ?_)
      refine take_in (i := 0) (v := ?_) (some 51) rfl rfl (by kernel_rfl) (by kernel_rfl) (by kernel_rfl) (fun _ _ _ h => h) (Or.inl ⟨by rfl, ?_⟩) (by assumption) ?_
      rotate_left
      · (intro w hSw; (try dsimp only at hSw); (try go_split_ands); go_simp; try with_reducible rfl)
      try simp only [Act.put, List.setIfInBounds_toArray, List.set_cons_zero, List.set_cons_succ]
      refine take_in (i := 1) (v := ?_) (some 52) rfl rfl (by kernel_rfl) (by kernel_rfl) (by kernel_rfl) (fun _ _ _ h => h) (Or.inl ⟨by rfl, ?_⟩) (by assumption) ?_
      rotate_left
      · (intro w hSw; (try dsimp only at hSw); (try go_split_ands); go_simp; try with_reducible rfl)
      try simp only [Act.put, List.setIfInBounds_toArray, List.set_cons_zero, List.set_cons_succ]
      refine take_in (i := 2) (v := ?_) (some 53) rfl rfl (by kernel_rfl) (by kernel_rfl) (by kernel_rfl) (fun _ _ _ h => h) (Or.inl ⟨by rfl, ?_⟩) (by assumption) ?_
      rotate_left
      · (intro w hSw; (try dsimp only at hSw); (try go_split_ands); go_simp; try with_reducible rfl)
      try simp only [Act.put, List.setIfInBounds_toArray, List.set_cons_zero, List.set_cons_succ]
      refine take_in (i := 3) (v := ?_) (some 54) rfl rfl (by kernel_rfl) (by kernel_rfl) (by kernel_rfl) (fun _ _ _ h => h) (Or.inl ⟨by rfl, ?_⟩) (by assumption) ?_
      rotate_left
      · (intro w hSw; (try dsimp only at hSw); (try go_split_ands); go_simp; try with_reducible rfl)
      try simp only [Act.put, List.setIfInBounds_toArray, List.set_cons_zero, List.set_cons_succ]
      refine take_in (i := 5) (v := ?_) (some 56) rfl rfl (by kernel_rfl) (by kernel_rfl) (by kernel_rfl) (fun _ _ _ h => h) (Or.inl ⟨by rfl, ?_⟩) (by assumption) ?_
      rotate_left
      · (intro w hSw; (try dsimp only at hSw); (try go_split_ands); go_simp; try with_reducible rfl)
      try simp only [Act.put, List.setIfInBounds_toArray, List.set_cons_zero, List.set_cons_succ]
      refine take_in (i := 6) (v := ?_) (some 57) rfl rfl (by kernel_rfl) (by kernel_rfl) (by kernel_rfl) (fun _ _ _ h => h) (Or.inl ⟨by rfl, ?_⟩) (by assumption) ?_
      rotate_left
      · (intro w hSw; (try dsimp only at hSw); (try go_split_ands); go_simp; try with_reducible rfl)
      try simp only [Act.put, List.setIfInBounds_toArray, List.set_cons_zero, List.set_cons_succ]
      refine take_in (i := 7) (v := ?_) (some 58) rfl rfl (by kernel_rfl) (by kernel_rfl) (by kernel_rfl) (fun _ _ _ h => h) (Or.inl ⟨by rfl, ?_⟩) (by assumption) ?_
      rotate_left
      · (intro w hSw; (try dsimp only at hSw); (try go_split_ands); go_simp; try with_reducible rfl)
      try simp only [Act.put, List.setIfInBounds_toArray, List.set_cons_zero, List.set_cons_succ]
      refine take_in (i := 8) (v := ?_) (some 59) rfl rfl (by kernel_rfl) (by kernel_rfl) (by kernel_rfl) (fun _ _ _ h => h) (Or.inl ⟨by rfl, ?_⟩) (by assumption) ?_
      rotate_left
      · (intro w hSw; (try dsimp only at hSw); (try go_split_ands); go_simp; try with_reducible rfl)
      try simp only [Act.put, List.setIfInBounds_toArray, List.set_cons_zero, List.set_cons_succ]
      refine take_in (i := 9) (v := ?_) (some 60) rfl rfl (by kernel_rfl) (by kernel_rfl) (by kernel_rfl) (fun _ _ _ h => h) (Or.inl ⟨by rfl, ?_⟩) (by assumption) ?_
      rotate_left
      · (intro w hSw; (try dsimp only at hSw); (try go_split_ands); go_simp; try with_reducible rfl)
      try simp only [Act.put, List.setIfInBounds_toArray, List.set_cons_zero, List.set_cons_succ]
      refine take_in (i := 10) (v := ?_) (some 61) rfl rfl (by kernel_rfl) (by kernel_rfl) (by kernel_rfl) (fun _ _ _ h => h) (Or.inl ⟨by rfl, ?_⟩) (by assumption) ?_
      rotate_left
      · (intro w hSw; (try dsimp only at hSw); (try go_split_ands); go_simp; try with_reducible rfl)
      try simp only [Act.put, List.setIfInBounds_toArray, List.set_cons_zero, List.set_cons_succ]
      refine take_in (i := 11) (v := ?_) (some 62) rfl rfl (by kernel_rfl) (by kernel_rfl) (by kernel_rfl) (fun _ _ _ h => h) (Or.inl ⟨by rfl, ?_⟩) (by assumption) ?_
      rotate_left
      · (intro w hSw; (try dsimp only at hSw); (try go_split_ands); go_simp; try with_reducible rfl)
      try simp only [Act.put, List.setIfInBounds_toArray, List.set_cons_zero, List.set_cons_succ]
      refine take_in (i := 12) (v := ?_) (some 63) rfl rfl (by kernel_rfl) (by kernel_rfl) (by kernel_rfl) (fun _ _ _ h => h) (Or.inl ⟨by rfl, ?_⟩) (by assumption) ?_
      rotate_left
      · (intro w hSw; (try dsimp only at hSw); (try go_split_ands); go_simp; try with_reducible rfl)
      try simp only [Act.put, List.setIfInBounds_toArray, List.set_cons_zero, List.set_cons_succ]
      refine take_in (i := 13) (v := ?_) (some 64) rfl rfl (by kernel_rfl) (by kernel_rfl) (by kernel_rfl) (fun _ _ _ h => h) (Or.inl ⟨by rfl, ?_⟩) (by assumption) ?_
      rotate_left
      · (intro w hSw; (try dsimp only at hSw); (try go_split_ands); go_simp; try with_reducible rfl)
      try simp only [Act.put, List.setIfInBounds_toArray, List.set_cons_zero, List.set_cons_succ]
      refine wpAnyH_ready (rs := [4]) (by kernel_rfl) (by simp) ?_
      refine AllReadyH.cons rfl (fun K hK => ?_) AllReadyH.nil
      go_simp
      refine hK.out _ _ (trivial) (fun hHeld => ?_)
      clear hK K
      try simp only [Act.put, List.setIfInBounds_toArray, List.set_cons_zero, List.set_cons_succ]
      refine take_in (i := 14) (v := ?_) (some 65) rfl rfl (by kernel_rfl) (by kernel_rfl) (by kernel_rfl) (fun _ _ _ h => h) (Or.inl ⟨by rfl, ?_⟩) (by assumption) ?_
      rotate_left
      · (intro w hSw; (try dsimp only at hSw); (try go_split_ands); go_simp; try with_reducible rfl)
      try simp only [Act.put, List.setIfInBounds_toArray, List.set_cons_zero, List.set_cons_succ]
      refine take_in (i := 15) (v := ?_) (some 66) rfl rfl (by kernel_rfl) (by kernel_rfl) (by kernel_rfl) (fun _ _ _ h => h) (Or.inl ⟨by rfl, ?_⟩) (by assumption) ?_
      rotate_left
      · (intro w hSw; (try dsimp only at hSw); (try go_split_ands); go_simp; try with_reducible rfl)
      try simp only [Act.put, List.setIfInBounds_toArray, List.set_cons_zero, List.set_cons_succ]
      refine wpAnyH_ready (rs := [16]) (by kernel_rfl) (by simp) ?_
      refine AllReadyH.cons rfl (fun K hK => ?_) AllReadyH.nil
      go_simp
      refine hK.out _ _ (trivial) (fun hHeld => ?_)
      clear hK K
      try simp only [Act.put, List.setIfInBounds_toArray, List.set_cons_zero, List.set_cons_succ]
      refine wpAnyH_done (by kernel_rfl) ?_ _
      go_wp2
      rw [HV.out]
      exact ⟨⟨j + 1, by omega, by go_num, by rw [HT.out]; exact HS.out.below (Below.refl _ _).drew, HBS.out.drew⟩, by simp [intOf]; omega⟩
    · obtain rfl : j = 32 := by omega
      have hst : (t = 0#32 ∧ stripE (turned t F m 32) = 0 ∧ stripL (turned t F m 32) = l) ∨ (t ≠ 0#32 ∧ stripE (turned t F m 32) = 21 ∧ stripL (turned t F m 32) = []) := by
        by_cases h0 : t = 0#32
        · left
          subst h0
          rw [turned_none]
          exact ⟨rfl, hS⟩
        · right
          rw [← hM]
          exact ⟨h0, strip_turned l t F (by rw [hM]; exact hF2) h0⟩
      have hlen : (turned t F m 32).length = l.length + 4 := by rw [turned_length]; exact hml
      have EN : Env wr := HE.out.below hbel
      have C2 := StripL (some ⟨w.heap.size, 0, none⟩) (turned t F m 32) (l.length + 4) c wr EN hmine.at_ (fun h => by cases h) (by omega) (by omega) hlen
      unfold Strips at C2
      have AB := Lib.hid (HA.out.below hbel)
      have HB := Lib.hid hbel
      have sz := hbel.size
      clear CM CS hmine hbel HA HE
      rcases hst with ⟨h0, g1, g2⟩ | ⟨h0, g1, g2⟩
      · rw [g1, g2] at C2
        have HC2 := Lib.hid C2
        have t0 : ((t.toNat : Int) != 0) = false := by subst h0; rfl
        clear C2 g1 g2 h0
        go_wp2_with fail
        refine (HC2.out).mono ?_
        rintro e w3 ⟨B', cb', rfl, _, hB', _, hb3⟩
        have q3 := conv_text w3 B' l cb' hB'
        have q4 := conv_text w3 A l cap (AB.out.below hb3)
        have E3 := Lib.hid (EN.below hb3)
        have B3 := Lib.hid (HB.out.trans (hb3.mono sz))
        clear hb3 hB'
        go_wp2_with fail
        refine (wakes_any _ E3.out).mono ?_
        rintro e w4 ⟨rfl, hb4⟩
        have B4 := Lib.hid (B3.out.trans (hb4.mono B3.out.size))
        clear hb4
        go_wp2
        go_ret
        exact ⟨rfl, B4.out⟩
      · rw [g1, g2] at C2
        have HC2 := Lib.hid C2
        have t0 : ((t.toNat : Int) != 0) = true := by
          have : t.toNat ≠ 0 := fun h => h0 (BitVec.eq_of_toNat_eq h)
          simp
          omega
        clear C2 g1 g2 h0
        go_wp2_with fail
        refine (HC2.out).mono ?_
        rintro e w3 ⟨B', cb', rfl, _, hB', _, hb3⟩
        have E3 := Lib.hid (EN.below hb3)
        have B3 := Lib.hid (HB.out.trans (hb3.mono sz))
        clear hb3 hB'
        go_wp2_with fail
        refine (wakes_any _ E3.out).mono ?_
        rintro e w4 ⟨rfl, hb4⟩
        have B4 := Lib.hid (B3.out.trans (hb4.mono B3.out.size))
        clear hb4
        go_wp2
        go_ret
        exact ⟨rfl, B4.out⟩
end Go.Proofs.YtgaipgpendemfaaDoor
