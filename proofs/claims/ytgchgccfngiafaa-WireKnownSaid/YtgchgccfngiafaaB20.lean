/- The statement WireKnown, walked. -/
import Derived.Test.YtgchgccfngiafaaB19
namespace Go.Proofs.Ytgchgccfngiafaa
open Go.RowKit
theorem float_k (l : List UInt8) {v er far : Nat} (hk : floatV l = v ∧ floatE l = er ∧ floatM l = far) (g c : Nat) (P : Option Addr) (w : World) (h : Rd w g 0 P c l) : Calls Try.prog 26 #[.pointer (some ⟨g, 0, none⟩)] w fun e w' => e = .returned (.tuple #[.float .f64 v, .int .i64 (er : Nat)]) ∧ Moved w g far w' := by
  have hC := RFloat_any g 0 c P l w h
  rw [List.drop_zero, Nat.zero_add, hk.1, hk.2.1, hk.2.2] at hC
  exact hC
theorem kc_255_248 : (#[.int .u8 255, .int .u8 248] : Array Value).toList = cellsB [255, 248] := by kernel_rfl
theorem kc_255_248_0_0_0_0_0_2 : (#[.int .u8 255, .int .u8 248, .int .u8 0, .int .u8 0, .int .u8 0, .int .u8 0, .int .u8 0, .int .u8 2] : Array Value).toList = cellsB [255, 248, 0, 0, 0, 0, 0, 2] := by kernel_rfl
theorem kc_0 : (#[.int .u8 0] : Array Value).toList = cellsB [0] := by kernel_rfl
theorem kc_0_15_255_255_255_255_255_255 : (#[.int .u8 0, .int .u8 15, .int .u8 255, .int .u8 255, .int .u8 255, .int .u8 255, .int .u8 255, .int .u8 255] : Array Value).toList = cellsB [0, 15, 255, 255, 255, 255, 255, 255] := by kernel_rfl
theorem kc_0_15_255_255_255_255_255_254 : (#[.int .u8 0, .int .u8 15, .int .u8 255, .int .u8 255, .int .u8 255, .int .u8 255, .int .u8 255, .int .u8 254] : Array Value).toList = cellsB [0, 15, 255, 255, 255, 255, 255, 254] := by kernel_rfl
theorem kc_16 : (#[.int .u8 16] : Array Value).toList = cellsB [16] := by kernel_rfl
theorem kc_17_5 : (#[.int .u8 17, .int .u8 5] : Array Value).toList = cellsB [17, 5] := by kernel_rfl
theorem kc_15 : (#[.int .u8 15] : Array Value).toList = cellsB [15] := by kernel_rfl
theorem kc_14_254 : (#[.int .u8 14, .int .u8 254] : Array Value).toList = cellsB [14, 254] := by kernel_rfl
theorem kc_2_0_1 : (#[.int .u8 2, .int .u8 0, .int .u8 1] : Array Value).toList = cellsB [2, 0, 1] := by kernel_rfl
theorem kc_9 : (#[.int .u8 9] : Array Value).toList = cellsB [9] := by kernel_rfl
theorem kc_2_3_233 : (#[.int .u8 2, .int .u8 3, .int .u8 233] : Array Value).toList = cellsB [2, 3, 233] := by kernel_rfl
theorem kc_2_3_232 : (#[.int .u8 2, .int .u8 3, .int .u8 232] : Array Value).toList = cellsB [2, 3, 232] := by kernel_rfl
theorem kc_25 : (#[.int .u8 25] : Array Value).toList = cellsB [25] := by kernel_rfl
theorem kc_6 : (#[.int .u8 6] : Array Value).toList = cellsB [6] := by kernel_rfl
theorem kc_24_128 : (#[.int .u8 24, .int .u8 128] : Array Value).toList = cellsB [24, 128] := by kernel_rfl
theorem kc_24_127 : (#[.int .u8 24, .int .u8 127] : Array Value).toList = cellsB [24, 127] := by kernel_rfl
theorem kc_14_255 : (#[.int .u8 14, .int .u8 255] : Array Value).toList = cellsB [14, 255] := by kernel_rfl
theorem kc_97_98_0_0 : (#[.int .u8 97, .int .u8 98, .int .u8 0, .int .u8 0] : Array Value).toList = cellsB [97, 98, 0, 0] := by kernel_rfl
theorem kc_97_0 : (#[.int .u8 97, .int .u8 0] : Array Value).toList = cellsB [97, 0] := by kernel_rfl
theorem kc_0_1 : (#[.int .u8 0, .int .u8 1] : Array Value).toList = cellsB [0, 1] := by kernel_rfl
theorem kf_255_248 : floatV [255, 248] = 0 ∧ floatE [255, 248] = 4 ∧ floatM [255, 248] = 0 := by decide
theorem kf_255_248_0_0_0_0_0_2 : floatV [255, 248, 0, 0, 0, 0, 0, 2] = 0 ∧ floatE [255, 248, 0, 0, 0, 0, 0, 2] = 5 ∧ floatM [255, 248, 0, 0, 0, 0, 0, 2] = 0 := by decide
theorem kf_0 : floatV [0] = 0 ∧ floatE [0] = 4 ∧ floatM [0] = 0 := by decide
theorem kf_0_15_255_255_255_255_255_255 : floatV [0, 15, 255, 255, 255, 255, 255, 255] = 18442240474082181120 ∧ floatE [0, 15, 255, 255, 255, 255, 255, 255] = 0 ∧ floatM [0, 15, 255, 255, 255, 255, 255, 255] = 8 := by decide
theorem kf_0_15_255_255_255_255_255_254 : floatV [0, 15, 255, 255, 255, 255, 255, 254] = 0 ∧ floatE [0, 15, 255, 255, 255, 255, 255, 254] = 5 ∧ floatM [0, 15, 255, 255, 255, 255, 255, 254] = 0 := by decide
set_option maxRecDepth 1000000 in
set_option maxHeartbeats 16000000 in
/-- The statement's walk. -/
theorem WireKnown_walk (w : World) : Calls Try.prog 8 #[] w fun e w' => e = .returned (.bool true) ∧ Below w.heap.size w w' := by
  have B0 := Lib.hid (Below.refl w.heap.size w)
  go_enter Try.func8, Try.ntmps8
  go_wp2_with fail
  refine (awake_any _).mono ?_
  rintro e x1 ⟨rfl, hb⟩
  have B1 := Lib.hid (ch1 B0.out hb)
  clear hb B0
  go_wp2_with fail
  refine (NewL _ [255, 248] _ _ _ (at_new _ _ _ kc_255_248) (fun h => by cases h) (by decide) rfl).mono ?_
  rintro e x2 ⟨g1, P1, c1, rfl, hg, hr, hb⟩
  have G1 := Lib.hid (Nat.le_trans B1.out.size (Nat.le_trans (by simp) hg))
  have R1 := Lib.hid hr
  have B2 := Lib.hid (ch2 B1.out hb)
  clear hg hr hb B1
  go_wp2_with fail
  refine (float_k [255, 248] (kf_255_248) _ _ _ _ R1.out).mono ?_
  rintro e x3 ⟨rfl, hm⟩
  have B3 := Lib.hid (moved_below B2.out hm G1.out B2.out.size)
  clear hm G1 R1 B2
  go_wp2_with fail
  refine (NewL _ [255, 248, 0, 0, 0, 0, 0, 2] _ _ _ (at_new _ _ _ kc_255_248_0_0_0_0_0_2) (fun h => by cases h) (by decide) rfl).mono ?_
  rintro e x4 ⟨g3, P3, c3, rfl, hg, hr, hb⟩
  have G3 := Lib.hid (Nat.le_trans B3.out.size (Nat.le_trans (by simp) hg))
  have R3 := Lib.hid hr
  have B4 := Lib.hid (ch2 B3.out hb)
  clear hg hr hb B3
  go_wp2_with fail
  refine (float_k [255, 248, 0, 0, 0, 0, 0, 2] (kf_255_248_0_0_0_0_0_2) _ _ _ _ R3.out).mono ?_
  rintro e x5 ⟨rfl, hm⟩
  have B5 := Lib.hid (moved_below B4.out hm G3.out B4.out.size)
  clear hm G3 R3 B4
  go_wp2_with fail
  refine (NewL _ [0] _ _ _ (at_new _ _ _ kc_0) (fun h => by cases h) (by decide) rfl).mono ?_
  rintro e x6 ⟨g5, P5, c5, rfl, hg, hr, hb⟩
  have G5 := Lib.hid (Nat.le_trans B5.out.size (Nat.le_trans (by simp) hg))
  have R5 := Lib.hid hr
  have B6 := Lib.hid (ch2 B5.out hb)
  clear hg hr hb B5
  go_wp2_with fail
  refine (float_k [0] (kf_0) _ _ _ _ R5.out).mono ?_
  rintro e x7 ⟨rfl, hm⟩
  have B7 := Lib.hid (moved_below B6.out hm G5.out B6.out.size)
  clear hm G5 R5 B6
  go_wp2_with fail
  refine (NewL _ [0, 15, 255, 255, 255, 255, 255, 255] _ _ _ (at_new _ _ _ kc_0_15_255_255_255_255_255_255) (fun h => by cases h) (by decide) rfl).mono ?_
  rintro e x8 ⟨g7, P7, c7, rfl, hg, hr, hb⟩
  have G7 := Lib.hid (Nat.le_trans B7.out.size (Nat.le_trans (by simp) hg))
  have R7 := Lib.hid hr
  have B8 := Lib.hid (ch2 B7.out hb)
  clear hg hr hb B7
  go_wp2_with fail
  refine (float_k [0, 15, 255, 255, 255, 255, 255, 255] (kf_0_15_255_255_255_255_255_255) _ _ _ _ R7.out).mono ?_
  rintro e x9 ⟨rfl, hm⟩
  have B9 := Lib.hid (moved_below B8.out hm G7.out B8.out.size)
  clear hm G7 R7 B8
  go_wp2_with fail
  refine (NewL _ [0, 15, 255, 255, 255, 255, 255, 254] _ _ _ (at_new _ _ _ kc_0_15_255_255_255_255_255_254) (fun h => by cases h) (by decide) rfl).mono ?_
  rintro e x10 ⟨g9, P9, c9, rfl, hg, hr, hb⟩
  have G9 := Lib.hid (Nat.le_trans B9.out.size (Nat.le_trans (by simp) hg))
  have R9 := Lib.hid hr
  have B10 := Lib.hid (ch2 B9.out hb)
  clear hg hr hb B9
  go_wp2_with fail
  refine (float_k [0, 15, 255, 255, 255, 255, 255, 254] (kf_0_15_255_255_255_255_255_254) _ _ _ _ R9.out).mono ?_
  rintro e x11 ⟨rfl, hm⟩
  have B11 := Lib.hid (moved_below B10.out hm G9.out B10.out.size)
  clear hm G9 R9 B10
  go_wp2_with fail
  refine (RNum_nil _).mono ?_
  rintro e x12 ⟨rfl, hb⟩
  have B12 := Lib.hid (ch1 B11.out hb)
  clear hb B11
  go_wp2_with fail
  refine (RInt_nil _).mono ?_
  rintro e x13 ⟨rfl, hb⟩
  have B13 := Lib.hid (ch1 B12.out hb)
  clear hb B12
  go_wp2_with fail
  refine (RFloat_nil _).mono ?_
  rintro e x14 ⟨rfl, hb⟩
  have B14 := Lib.hid (ch1 B13.out hb)
  clear hb B13
  go_wp2_with fail
  refine (RText_nil _).mono ?_
  rintro e x15 ⟨rfl, hb⟩
  have B15 := Lib.hid (ch1 B14.out hb)
  clear hb B14
  go_wp2_with fail
  refine (RByte_nil _).mono ?_
  rintro e x16 ⟨rfl, hb⟩
  have B16 := Lib.hid (ch1 B15.out hb)
  clear hb B15
  go_wp2_with fail
  refine (NumX 0 [0] _ (by omega) (by decide)).mono ?_
  rintro e x17 ⟨c16, rfl, ho, hb⟩
  have O16 := Lib.hid (At.below (own_at ho) ((Below.refl _ _).alloc (Nat.le_refl _) (.cells #[.int .u8 0] 5)))
  have B17 := Lib.hid (ch1 B16.out hb)
  clear ho hb B16
  go_wp2_with fail
  refine (EqualB _ _ [0] [0] 1 1 _ _ _ O16.out (at_new _ _ _ kc_0) rfl rfl rfl).mono ?_
  rintro e x18 ⟨rfl, hb⟩
  have B18 := Lib.hid (ch2 B17.out hb)
  clear hb B17
  go_wp2_with fail
  refine (IntX 0 [16] _ (by unfold fits; omega) (by decide)).mono ?_
  rintro e x19 ⟨c18, rfl, ho, hb⟩
  have O18 := Lib.hid (At.below (own_at ho) ((Below.refl _ _).alloc (Nat.le_refl _) (.cells #[.int .u8 16] 5)))
  have B19 := Lib.hid (ch1 B18.out hb)
  clear ho hb B18
  go_wp2_with fail
  refine (EqualB _ _ [16] [16] 1 1 _ _ _ O18.out (at_new _ _ _ kc_16) rfl rfl rfl).mono ?_
  rintro e x20 ⟨rfl, hb⟩
  have B20 := Lib.hid (ch2 B19.out hb)
  clear hb B19
  go_wp2_with fail
  refine (IntX 5 [17, 5] _ (by unfold fits; omega) (by decide)).mono ?_
  rintro e x21 ⟨c20, rfl, ho, hb⟩
  have O20 := Lib.hid (At.below (own_at ho) ((Below.refl _ _).alloc (Nat.le_refl _) (.cells #[.int .u8 17, .int .u8 5] 5)))
  have B21 := Lib.hid (ch1 B20.out hb)
  clear ho hb B20
  go_wp2_with fail
  refine (EqualB _ _ [17, 5] [17, 5] 2 2 _ _ _ O20.out (at_new _ _ _ kc_17_5) rfl rfl rfl).mono ?_
  rintro e x22 ⟨rfl, hb⟩
  have B22 := Lib.hid (ch2 B21.out hb)
  clear hb B21
  go_wp2_with fail
  refine (IntX (-1) [15] _ (by unfold fits; omega) (by decide)).mono ?_
  rintro e x23 ⟨c22, rfl, ho, hb⟩
  have O22 := Lib.hid (At.below (own_at ho) ((Below.refl _ _).alloc (Nat.le_refl _) (.cells #[.int .u8 15] 5)))
  have B23 := Lib.hid (ch1 B22.out hb)
  clear ho hb B22
  go_wp2_with fail
  refine (EqualB _ _ [15] [15] 1 1 _ _ _ O22.out (at_new _ _ _ kc_15) rfl rfl rfl).mono ?_
  rintro e x24 ⟨rfl, hb⟩
  have B24 := Lib.hid (ch2 B23.out hb)
  clear hb B23
  go_wp2_with fail
  refine (IntX (-2) [14, 254] _ (by unfold fits; omega) (by decide)).mono ?_
  rintro e x25 ⟨c24, rfl, ho, hb⟩
  have O24 := Lib.hid (At.below (own_at ho) ((Below.refl _ _).alloc (Nat.le_refl _) (.cells #[.int .u8 14, .int .u8 254] 5)))
  have B25 := Lib.hid (ch1 B24.out hb)
  clear ho hb B24
  go_wp2_with fail
  refine (EqualB _ _ [14, 254] [14, 254] 2 2 _ _ _ O24.out (at_new _ _ _ kc_14_254) rfl rfl rfl).mono ?_
  rintro e x26 ⟨rfl, hb⟩
  have B26 := Lib.hid (ch2 B25.out hb)
  clear hb B25
  go_wp2_with fail
  refine (first_any _ [2, 0, 1] 3 _ 5 _ (at_new _ _ _ kc_2_0_1) (fun h => by cases h) (by decide) rfl (by decide)).mono ?_
  rintro e x27 ⟨rfl, hb⟩
  have B27 := Lib.hid (ch2 B26.out hb)
  clear hb B26
  go_wp2_with fail
  refine (first_any _ [9] 1 _ 5 _ (at_new _ _ _ kc_9) (fun h => by cases h) (by decide) rfl (by decide)).mono ?_
  rintro e x28 ⟨rfl, hb⟩
  have B28 := Lib.hid (ch2 B27.out hb)
  clear hb B27
  go_wp2_with fail
  refine (first_any _ [] 0 _ 4 _ (at_nil _ _) (fun _ => rfl) (by decide) rfl (by decide)).mono ?_
  rintro e x29 ⟨rfl, hb⟩
  have B29 := Lib.hid (ch1 B28.out hb)
  clear hb B28
  go_wp2_with fail
  refine (first_any _ [2, 3, 233] 3 _ 3 _ (at_new _ _ _ kc_2_3_233) (fun h => by cases h) (by decide) rfl (by decide)).mono ?_
  rintro e x30 ⟨rfl, hb⟩
  have B30 := Lib.hid (ch2 B29.out hb)
  clear hb B29
  go_wp2_with fail
  refine (first_any _ [2, 3, 232] 3 _ 0 _ (at_new _ _ _ kc_2_3_232) (fun h => by cases h) (by decide) rfl (by decide)).mono ?_
  rintro e x31 ⟨rfl, hb⟩
  have B31 := Lib.hid (ch2 B30.out hb)
  clear hb B30
  go_wp2_with fail
  refine (whole_any _ [25] 1 _ 5 _ (at_new _ _ _ kc_25) (fun h => by cases h) (by decide) rfl (by decide)).mono ?_
  rintro e x32 ⟨rfl, hb⟩
  have B32 := Lib.hid (ch2 B31.out hb)
  clear hb B31
  go_wp2_with fail
  refine (whole_any _ [6] 1 _ 5 _ (at_new _ _ _ kc_6) (fun h => by cases h) (by decide) rfl (by decide)).mono ?_
  rintro e x33 ⟨rfl, hb⟩
  have B33 := Lib.hid (ch2 B32.out hb)
  clear hb B32
  go_wp2_with fail
  refine (whole_any _ [24, 128] 2 _ 5 _ (at_new _ _ _ kc_24_128) (fun h => by cases h) (by decide) rfl (by decide)).mono ?_
  rintro e x34 ⟨rfl, hb⟩
  have B34 := Lib.hid (ch2 B33.out hb)
  clear hb B33
  go_wp2_with fail
  refine (whole_any _ [24, 127] 2 _ 4 _ (at_new _ _ _ kc_24_127) (fun h => by cases h) (by decide) rfl (by decide)).mono ?_
  rintro e x35 ⟨rfl, hb⟩
  have B35 := Lib.hid (ch2 B34.out hb)
  clear hb B34
  go_wp2_with fail
  refine (whole_any _ [14, 255] 2 _ 5 _ (at_new _ _ _ kc_14_255) (fun h => by cases h) (by decide) rfl (by decide)).mono ?_
  rintro e x36 ⟨rfl, hb⟩
  have B36 := Lib.hid (ch2 B35.out hb)
  clear hb B35
  go_wp2_with fail
  refine (text_any 1 (by omega) _ [97, 98, 0, 0] 4 _ 3 _ (at_new _ _ _ kc_97_98_0_0) (fun h => by cases h) (by decide) rfl (by decide)).mono ?_
  rintro e x37 ⟨rfl, hb⟩
  have B37 := Lib.hid (ch2 B36.out hb)
  clear hb B36
  go_wp2_with fail
  refine (text_any 2 (by omega) _ [97, 98, 0, 0] 4 _ 0 _ (at_new _ _ _ kc_97_98_0_0) (fun h => by cases h) (by decide) rfl (by decide)).mono ?_
  rintro e x38 ⟨rfl, hb⟩
  have B38 := Lib.hid (ch2 B37.out hb)
  clear hb B37
  go_wp2_with fail
  refine (text_any 9 (by omega) _ [97, 0] 2 _ 4 _ (at_new _ _ _ kc_97_0) (fun h => by cases h) (by decide) rfl (by decide)).mono ?_
  rintro e x39 ⟨rfl, hb⟩
  have B39 := Lib.hid (ch2 B38.out hb)
  clear hb B38
  go_wp2_with fail
  refine (text_any 9 (by omega) _ [0, 1] 2 _ 5 _ (at_new _ _ _ kc_0_1) (fun h => by cases h) (by decide) rfl (by decide)).mono ?_
  rintro e x40 ⟨rfl, hb⟩
  have B40 := Lib.hid (ch2 B39.out hb)
  clear hb B39
  go_wp2_with fail
  refine (text_neg _).mono ?_
  rintro e x41 ⟨rfl, hb⟩
  have B41 := Lib.hid (ch1 B40.out hb)
  clear hb B40
  go_wp2_with fail
  refine (LeftB_nil _).mono ?_
  rintro e x42 ⟨rfl, hb⟩
  have B42 := Lib.hid (ch1 B41.out hb)
  clear hb B41
  go_wp2_with fail
  refine (End_nil _).mono ?_
  rintro e x43 ⟨rfl, hb⟩
  have B43 := Lib.hid (ch1 B42.out hb)
  clear hb B42
  go_wp2_with fail
  refine (End_zero _ _ (by simp)).mono ?_
  rintro e x44 ⟨rfl, hb⟩
  have B44 := Lib.hid (ch2 B43.out hb)
  clear hb B43
  go_wp2
  go_ret
  exact ⟨rfl, B44.out⟩
end Go.Proofs.Ytgchgccfngiafaa
