/- The statement FrameKnown, walked. -/
import Derived.Test.YtbmhgmigcgeooaaDoorV1
namespace Go.Proofs.YtbmhgmigcgeooaaDoor
open Go.RowKit
set_option maxRecDepth 100000 in
set_option maxHeartbeats 16000000 in
theorem FrameKnown_walk (w : World) (hE : Env w) :
    Calls Tryd.prog 7 #[] w fun e w' => e = .returned (.bool true) ∧ Below w.heap.size w w' := by
  have HE := Lib.hid hE
  clear hE
  obtain ⟨Z1, hZ1⟩ : ∃ Z, Array.replicate 2049 (Value.int .u8 0) = Z := ⟨_, rfl⟩
  obtain ⟨Z2, hZ2⟩ : ∃ Z, Array.replicate 2048 (Value.int .u8 0) = Z := ⟨_, rfl⟩
  have hmk1 : ∀ w : World, (Instr.makeSlice 22 (.int .i64 2049) (.int .i64 2049)).run Tryd.prog w = .ok (.slice (some ⟨w.heap.size, 0, none⟩) 2049 2049) (w.alloc (.cells Z1 5)) := fun w => hZ1 ▸ make_bytes 2049 w (by decide)
  have hmk2 : ∀ w : World, (Instr.makeSlice 22 (.int .i64 2048) (.int .i64 2048)).run Tryd.prog w = .ok (.slice (some ⟨w.heap.size, 0, none⟩) 2048 2048) (w.alloc (.cells Z2 5)) := fun w => hZ2 ▸ make_bytes 2048 w (by decide)
  have HZ2 : Hid (∀ w : World, At (w.alloc (.cells Z2 5)) (some ⟨w.heap.size, 0, none⟩) (List.replicate 2048 0)) := Lib.hid (fun w => at_new w Z2 _ (by rw [← hZ2]; simp [cellsB, bv]))
  clear hZ1 hZ2
  go_enter Tryd.func7, Tryd.ntmps7
  go_upto_region 6 with (first
    | (go_at_call 8; ((with_reducible refine (no_0 _).mono ?_); rintro e1 w1 ⟨rfl, hb1⟩; have B1 := Lib.hid hb1; clear hb1))
    | (go_at_call 8; ((with_reducible refine (no_4 _).mono ?_); rintro e2 w2 ⟨rfl, hb2⟩; have B2 := Lib.hid (B1.out.trans (hb2.mono B1.out.size)); clear hb2))
    | (go_at_call 8; ((with_reducible refine (no_long _ _).mono ?_); rintro e3 w3 ⟨rfl, hb3⟩; have B3 := Lib.hid ((B2.out.alloc B2.out.size _).trans (hb3.mono (B2.out.alloc B2.out.size _).size)); clear hb3))
    | (go_at_call 8; ((with_reducible refine (yes_long _ _ (HE.out.below (B3.out.alloc B3.out.size _)) (HZ2.out w3)).mono ?_); rintro e4 w4 ⟨g4, c4, rfl, ha4, hc4, hb4⟩; have A4 := Lib.hid ha4; have C4 := Lib.hid hc4; have B4 := Lib.hid ((B3.out.alloc B3.out.size _).trans (hb4.mono (B3.out.alloc B3.out.size _).size)); clear hb4 ha4 hc4))
    | (go_at_call 13; ((with_reducible refine (split_z _ _ _ (HE.out.below B4.out) A4.out (fun h => by cases h) (fun ad h => by cases h; exact ⟨_, _, rfl⟩) C4.out).mono ?_); rintro e5 w5 ⟨P5, c5, rfl, hb5⟩; have B5 := Lib.hid (B4.out.trans (hb5.mono B4.out.size)); clear hb5))
    | fail)
  clear hmk1 hmk2 HZ2 A4 C4 B1 B2 B3
  have LE : Hid ((putL fe).length = 7) := Lib.hid ((putL_length fe).trans size_e)
  have LK : Hid ((putL fk).length = 7) := Lib.hid ((putL_length fk).trans size_k)
  have LX : Hid ((putL fx).length = 8) := Lib.hid ((putL_length fx).trans size_x)
  have HE5 := Lib.hid (HE.out.below B5.out)
  go_wp2
  go_loopw [45, 11] (fun i v wr => ∃ n : Nat, n ≤ 256 ∧ i = .int .i64 n ∧ Own1 w5.heap.size wr v (manyL n) ∧ Below w5.heap.size w5 wr) (fun i _ _ => 256 - (intOf i).toNat)
  case atStart => exact ⟨0, Nat.zero_le _, rfl, by rw [manyL_zero]; exact Own1.nil _ _, Below.refl _ _⟩
  case round =>
    obtain ⟨n, hn, rfl, ho, hb⟩ := hrel
    have HO := Lib.hid ho
    have HB := Lib.hid hb
    clear ho hb
    by_cases hlt : n < 256
    · have hlti : (n : Int) < 256 := by omega
      have PE := Lib.hid (put_e wr (HE5.out.below HB.out))
      have LM := Lib.hid (manyL_length n)
      go_wp2_with (first
        | (go_at_call 21; ((with_reducible refine (PE.out).mono ?_); rintro e6 w6 ⟨v6, rfl, ho6, hb6⟩; have OM := Lib.hid (HO.out.below hb6); have B6 := Lib.hid (HB.out.trans (hb6.mono HB.out.size)); obtain ⟨A6, c6, rfl, z6, _, l6, a6⟩ := ho6.plain; have HA6 := Lib.hid a6; have HZ6 := Lib.hid z6; rw [LE.out]; clear ho6 hb6 z6 l6 a6))
        | (at_builtin; refine wpList_app _ rfl (.tmp 47) (.tmp 48) rfl w5.heap.size _ (manyL n) rfl OM.out A6 7 c6 (putL fe) rfl HA6.out HZ6.out LE.out (by rw [LM.out, LE.out]; omega) B6.out.size w5 B6.out ?_; intro v7 w7 ho hb _ _; have O7 := Lib.hid ho; have B7 := Lib.hid hb; clear ho hb)
        | fail)
      exact ⟨⟨n + 1, by omega, by go_num, by rw [manyL_succ]; exact O7.out, B7.out⟩, by simp [intOf]; omega⟩
    · have hlti : ¬ (n : Int) < 256 := by omega
      obtain rfl : n = 256 := by omega
      have HEr := Lib.hid (HE5.out.below HB.out)
      obtain ⟨AM, cM, rfl, zM, pM, lM, aM⟩ := HO.out.plain
      have LM := Lib.hid (manyL_length 256)
      have L1 := Lib.hid len_m1
      have L2 := Lib.hid len_m2
      have HAM := Lib.hid aM
      have HZM := Lib.hid zM
      rw [LM.out]
      clear HO pM lM aM zM hn hlt
      have G1 := Lib.hid groups_m1
      have G2 := Lib.hid groups_m2
      generalize manyL 256 = M at *
      go_upto_region 14 with (first
        | (at_builtin; refine wpList_app _ rfl (.tmp 52) (.tmp 53) rfl wr.heap.size (.slice (some ⟨wr.heap.size, 0, none⟩) 0 0) [] rfl (Own1.made _ _ (Nat.le_refl _)) AM 1792 cM M rfl (HAM.out.below ((Below.refl _ _).alloc (Nat.le_refl _) _)) HZM.out LM.out (by rw [LM.out]; decide) (by simp) wr ((Below.refl _ _).alloc (Nat.le_refl _) _) ?_; intro v8 w8 ho hb _ _; have O8 := Lib.hid ho; have B8 := Lib.hid hb; clear ho hb)
        | (go_at_call 21; ((with_reducible refine (put_k w8 (HEr.out.below B8.out)).mono ?_); rintro e9 w9 ⟨v9, rfl, ho9, hb9⟩; have OO9 := Lib.hid (O8.out.below hb9); have B9 := Lib.hid (B8.out.trans (hb9.mono B8.out.size)); obtain ⟨A9, c9, rfl, z9, _, l9, a9⟩ := ho9.plain; have HA9 := Lib.hid a9; have HZ9 := Lib.hid z9; rw [LK.out]; clear ho9 hb9 z9 l9 a9))
        | (at_builtin; refine wpList_app _ rfl (.tmp 54) (.tmp 55) rfl wr.heap.size v8 ([] ++ M) rfl OO9.out A9 7 c9 (putL fk) rfl HA9.out HZ9.out LK.out (by rw [List.nil_append, LM.out, LK.out]; decide) B9.out.size wr B9.out ?_; intro v10 w10 ho hb _ _; have B10 := Lib.hid hb; obtain ⟨A10, c10, rfl, z10, p10, l10, a10⟩ := Own1.plain ho; have SG1 := Lib.hid (G1.out A10 c10 w10 (HEr.out.below B10.out) a10 z10 p10 l10); rw [show (([] : List UInt8) ++ M ++ putL fk).length = 1799 from L1.out]; clear z10 p10 l10 a10; clear ho hb)
        | (go_at_call 15; ((with_reducible refine (SG1.out).mono ?_); rintro e11 w11 ⟨P11, c11, rfl, hb11⟩; have B11 := Lib.hid (B10.out.trans (hb11.mono B10.out.size)); have HE11 := Lib.hid (HEr.out.below B11.out); clear hb11))
        | (at_builtin; refine wpList_app _ rfl (.tmp 61) (.tmp 62) rfl w11.heap.size (.slice (some ⟨w11.heap.size, 0, none⟩) 0 0) [] rfl (Own1.made _ _ (Nat.le_refl _)) AM 1792 cM M rfl ((HAM.out.below B11.out).below ((Below.refl _ _).alloc (Nat.le_refl _) _)) HZM.out LM.out (by rw [LM.out]; decide) (by simp) w11 ((Below.refl _ _).alloc (Nat.le_refl _) _) ?_; intro v12 w12 ho hb _ _; have O12 := Lib.hid ho; have B12 := Lib.hid hb; clear ho hb)
        | (go_at_call 21; ((with_reducible refine (put_e w12 (HE11.out.below B12.out)).mono ?_); rintro e13 w13 ⟨v13, rfl, ho13, hb13⟩; have OO13 := Lib.hid (O12.out.below hb13); have B13 := Lib.hid (B12.out.trans (hb13.mono B12.out.size)); obtain ⟨A13, c13, rfl, z13, _, l13, a13⟩ := ho13.plain; have HA13 := Lib.hid a13; have HZ13 := Lib.hid z13; rw [LE.out]; clear ho13 hb13 z13 l13 a13))
        | (at_builtin; refine wpList_app _ rfl (.tmp 63) (.tmp 64) rfl w11.heap.size v12 ([] ++ M) rfl OO13.out A13 7 c13 (putL fe) rfl HA13.out HZ13.out LE.out (by rw [List.nil_append, LM.out, LE.out]; decide) B13.out.size w11 B13.out ?_; intro v14 w14 ho hb _ _; have B14 := Lib.hid hb; have O14 := Lib.hid ho; clear ho hb)
        | (go_at_call 21; ((with_reducible refine (put_k w14 (HE11.out.below B14.out)).mono ?_); rintro e15 w15 ⟨v15, rfl, ho15, hb15⟩; have OO15 := Lib.hid (O14.out.below hb15); have B15 := Lib.hid (B14.out.trans (hb15.mono B14.out.size)); obtain ⟨A15, c15, rfl, z15, _, l15, a15⟩ := ho15.plain; have HA15 := Lib.hid a15; have HZ15 := Lib.hid z15; rw [LK.out]; clear ho15 hb15 z15 l15 a15))
        | (at_builtin; refine wpList_app _ rfl (.tmp 65) (.tmp 66) rfl w11.heap.size v14 ([] ++ M ++ putL fe) rfl OO15.out A15 7 c15 (putL fk) rfl HA15.out HZ15.out LK.out (by rw [List.nil_append, List.length_append, LM.out, LE.out, LK.out]; decide) B15.out.size w11 B15.out ?_; intro v16 w16 ho hb _ _; have B16 := Lib.hid hb; obtain ⟨A16, c16, rfl, z16, p16, l16, a16⟩ := Own1.plain ho; have SG2 := Lib.hid (G2.out A16 c16 w16 (HE11.out.below B16.out) a16 z16 p16 l16); rw [show (([] : List UInt8) ++ M ++ putL fe ++ putL fk).length = 1806 from L2.out]; clear z16 p16 l16 a16; clear ho hb)
        | (go_at_call 15; ((with_reducible refine (SG2.out).mono ?_); rintro e17 w17 ⟨P17, c17, rfl, hb17⟩; have B17 := Lib.hid (B11.out.trans ((B16.out.trans (hb17.mono B16.out.size)).mono B11.out.size)); clear hb17))
        | (go_at_call 21; ((with_reducible refine (put_x w17 (HEr.out.below B17.out)).mono ?_); rintro e18 w18 ⟨v18, rfl, ho18, hb18⟩; have B18 := Lib.hid (B17.out.trans (hb18.mono B17.out.size)); obtain ⟨A18, c18, rfl, z18, p18, l18, a18⟩ := ho18.plain; have SG3 := Lib.hid (groups_x A18 c18 w18 (HEr.out.below B18.out) a18 z18 p18 (by rw [LX.out] at l18; exact l18)); rw [LX.out]; clear ho18 hb18 z18 p18 l18 a18))
        | (go_at_call 15; ((with_reducible refine (SG3.out).mono ?_); rintro e19 w19 ⟨G19, c19, P19, d19, rfl, q19, hb19⟩; have B19 := Lib.hid (B18.out.trans (hb19.mono B18.out.size)); clear hb19))
        | fail)
      go_wp2_with (first
        | (go_at_call 11; ((with_reducible refine (awake_any w19 (HEr.out.below B19.out)).mono ?_); rintro e20 w20 ⟨rfl, hb20⟩; have B20 := Lib.hid (B19.out.trans (hb20.mono B19.out.size)); replace q19 := (hb20.cell (p := ⟨G19, 0, none⟩) (by obtain ⟨o, ho, _⟩ := cells_of_cell q19; exact (Array.getElem?_eq_some_iff.1 ho).1)).trans q19; clear hb20))
        | fail)
      go_ret
      exact ⟨rfl, B5.out.trans ((HB.out.trans (B20.out.mono HB.out.size)).mono B5.out.size)⟩
end Go.Proofs.YtbmhgmigcgeooaaDoor
