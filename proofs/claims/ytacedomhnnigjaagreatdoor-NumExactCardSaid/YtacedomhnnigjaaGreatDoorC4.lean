/- The statement NumExact, walked. -/
import Derived.Test.YtacedomhnnigjaaGreatDoorC3
import Derived.Deep.DeepCutAuto
namespace Go.Proofs.YtacedomhnnigjaaGreatDoor
open Go.RowKit

set_option maxRecDepth 100000 in
set_option maxHeartbeats 4000000 in
theorem exact_walk (a b : Int) (w : World) (ha : fits a) (hb : fits b) (h : Env w) :
    Calls Tryz.prog 9 #[.int .i64 a, .int .i64 b] w fun e w' => e = .returned (.bool true) ∧ Below w.heap.size w w' := by
  obtain ⟨sa, ea, hta, hca⟩ := Add_told a b ha hb
  obtain ⟨ss, es, hts, hcs⟩ := Sub_told a b ha hb
  obtain ⟨sm, em, htm, hcm⟩ := Mul_told a b ha hb
  obtain ⟨hm0, hm1⟩ := mul_words a b ha.1 ha.2 hb.1 hb.2
  obtain ⟨hn1, hn0⟩ := not_words b
  have hbd := mul_bound a b ha.1 ha.2 hb.1 hb.2
  have hr : ∀ z, 0 ≤ W0 z ∧ W0 z < 18446744073709551616 := W0_range
  have WA := Lib.hid (fun w => wide_any a w ha.1 ha.2)
  have WB := Lib.hid (fun w => wide_any b w hb.1 hb.2)
  have FA := Lib.hid (fun w => fits_any (a + b) w (by have h1 := ha.1; have h2 := ha.2; have h3 := hb.1; have h4 := hb.2; omega) (by have h1 := ha.1; have h2 := ha.2; have h3 := hb.1; have h4 := hb.2; omega))
  have FS := Lib.hid (fun w => fits_any (a - b) w (by have h1 := ha.1; have h2 := ha.2; have h3 := hb.1; have h4 := hb.2; omega) (by have h1 := ha.1; have h2 := ha.2; have h3 := hb.1; have h4 := hb.2; omega))
  have FM := Lib.hid (fun w => fits_any (a * b) w hbd.1 hbd.2)
  have PS := Lib.hid (fun w => (show Calls Tryz.prog 42 #[.int .u64 (W1 a), .int .u64 (W0 a), .int .u64 (W1 (-b)), .int .u64 (W0 (-b))] w fun e w' => e = .returned (.tuple #[.int .u64 (W1 (a - b)), .int .u64 (W0 (a - b))]) ∧ w = w' from by
    have k := plus_any a (-b) w
    rwa [show a + -b = a - b by omega] at k))
  have M64 := Lib.hid (fun w => Mul64_any (W0 a) (W0 b) w (hr a).1 (hr a).2 (hr b).1 (hr b).2)
  have A := Lib.hid ha
  have B := Lib.hid hb
  have HCA := Lib.hid hca
  have HCS := Lib.hid hcs
  have HCM := Lib.hid hcm
  have HTA := Lib.hid hta
  have HTS := Lib.hid hts
  have HTM := Lib.hid htm
  have HBD := Lib.hid hbd
  have HE := Lib.hid h
  generalize hP : a * b = P at *
  clear hr
  clear ha hb hca hcs hcm hta hts htm hbd h hP
  go_enter Tryz.func9, Tryz.ntmps9
  go_upto_region 8 with (first | (go_at_call 41; ((with_reducible refine (WA.out _).mono ?_); rintro e w' ⟨rfl, rfl⟩)) | (go_at_call 41; ((with_reducible refine (WB.out _).mono ?_); rintro e w' ⟨rfl, rfl⟩)) | (go_at_call 42; ((with_reducible refine (plus_any a b _).mono ?_); rintro e w' ⟨rfl, rfl⟩)) | (go_at_call 21; ((with_reducible refine (HCA.out _).mono ?_); rintro e w' ⟨rfl, rfl⟩)))
  go_cut [73] (fun t w' => t = .bool false ∧ w' = w)
  case first => as_aux_lemma =>
    rcases HTA.out with ⟨hf, rfl, rfl⟩ | ⟨hf, rfl, rfl⟩
    · have ht := told_fit hf
      go_wp2_with (go_at_call 44; ((with_reducible refine (FA.out _).mono ?_); rintro e w' ⟨rfl, rfl⟩))
      go_meet
      exact ⟨rfl, rfl⟩
    · go_wp2_with (go_at_call 44; ((with_reducible refine (FA.out _).mono ?_); rintro e w' ⟨rfl, rfl⟩))
      go_meet
      exact ⟨rfl, rfl⟩
  case rest => as_aux_lemma =>
  obtain ⟨rfl, rfl⟩ := hcut
  go_upto_region 13 with (first | (go_at_call 42; ((with_reducible refine (plus_one (-b - 1) _).mono ?_); rintro e w' ⟨rfl, rfl⟩)) | (go_at_call 42; ((with_reducible refine (PS.out _).mono ?_); rintro e w' ⟨rfl, rfl⟩)) | (go_at_call 23; ((with_reducible refine (HCS.out _).mono ?_); rintro e w' ⟨rfl, rfl⟩)))
  go_cut [114] (fun t w' => t = .bool false ∧ w' = wc)
  case first => as_aux_lemma =>
    rcases HTS.out with ⟨hf, rfl, rfl⟩ | ⟨hf, rfl, rfl⟩
    · have ht := told_fit hf
      go_wp2_with (go_at_call 44; ((with_reducible refine (FS.out _).mono ?_); rintro e w' ⟨rfl, rfl⟩))
      go_meet
      exact ⟨rfl, rfl⟩
    · go_wp2_with (go_at_call 44; ((with_reducible refine (FS.out _).mono ?_); rintro e w' ⟨rfl, rfl⟩))
      go_meet
      exact ⟨rfl, rfl⟩
  case rest => as_aux_lemma =>
  obtain ⟨rfl, rfl⟩ := hcut
  go_upto_region 18 with (first | (go_at_call 45; ((with_reducible refine (M64.out _).mono ?_); rintro e w' ⟨rfl, rfl⟩)) | (go_at_call 25; ((with_reducible refine (HCM.out _).mono ?_); rintro e w1 ⟨rfl, hb1⟩; have B1 := Lib.hid hb1; clear hb1)))
  go_cut [152] (fun t w' => t = .bool false ∧ w' = w1)
  case first => as_aux_lemma =>
    rcases HTM.out with ⟨hf, rfl, rfl⟩ | ⟨hf, rfl, rfl⟩
    · have ht := told_fit hf
      go_wp2_with (go_at_call 44; ((with_reducible refine (FM.out _).mono ?_); rintro e w' ⟨rfl, rfl⟩))
      go_meet
      exact ⟨rfl, rfl⟩
    · go_wp2_with (go_at_call 44; ((with_reducible refine (FM.out _).mono ?_); rintro e w' ⟨rfl, rfl⟩))
      go_meet
      exact ⟨rfl, rfl⟩
  case rest => as_aux_lemma =>
  obtain ⟨rfl, rfl⟩ := hcut
  clear hm0 hm1 hn0 hn1 WA WB FA FS FM PS M64 HCA HCS HCM HTA HTS HTM HBD
  by_cases hb0 : b = 0
  · as_aux_lemma =>
    subst hb0
    go_wp2_with (first | (go_at_call 27; ((with_reducible refine (Div_zero a _).mono ?_); rintro e w' ⟨rfl, rfl⟩)) | (go_at_call 29; ((with_reducible refine (Mod_zero a _).mono ?_); rintro e w' ⟨rfl, rfl⟩)) | (go_at_call 13; ((with_reducible refine (awake_any _ (HE.out.below B1.out)).mono ?_); rintro e w2 ⟨rfl, hb2⟩)))
    go_ret
    exact ⟨rfl, B1.out.trans (hb2.mono B1.out.size)⟩
  by_cases hov : a = -9223372036854775808 ∧ b = -1
  · as_aux_lemma =>
    obtain ⟨rfl, rfl⟩ := hov
    clear hb0
    go_upto_region 26 with (first | (go_at_call 27; ((with_reducible refine (Div_over _).mono ?_); rintro e w2 ⟨rfl, hb2⟩; have B2 := Lib.hid (B1.out.trans (hb2.mono B1.out.size)); clear hb2)) | (go_at_call 29; ((with_reducible refine (Mod_min _).mono ?_); rintro e w3 ⟨rfl, hb3⟩; have B3 := Lib.hid (B2.out.trans (hb3.mono B2.out.size)); clear hb3)) | go_in)
    go_wp2_with (go_at_call 13; ((with_reducible refine (awake_any _ (HE.out.below B3.out)).mono ?_); rintro e w4 ⟨rfl, hb4⟩))
    go_ret
    exact ⟨rfl, B3.out.trans (hb4.mono B3.out.size)⟩
  have hbz : (b == 0) = false := by simp [hb0]
  obtain ⟨hqr, hr1, hr2, hr3, hr4⟩ := rest_facts a b A.out hb0
  have HD := Lib.hid (fun w => Div_ok a b w A.out B.out hb0 hov)
  have HM := Lib.hid (fun w => Mod_ok a b w A.out B.out hb0)
  have ha0 : -9223372036854775808 ≤ a := A.out.1
  have ha1 : a ≤ 9223372036854775807 := A.out.2
  have hb2 : -9223372036854775808 ≤ b := B.out.1
  have hb3 : b ≤ 9223372036854775807 := B.out.2
  clear hov hb0
  generalize a.tdiv b = q at *
  generalize a.tmod b = r at *
  have hqb : q * b = a - r := by omega
  have HW1 : Hid (wrap64 (q * b) = a - r) := by show wrap64 (q * b) = a - r; rw [hqb]; simp only [wrap64]; omega
  clear hqr hqb
  go_upto_region 24 with (first | (go_at_call 27; ((with_reducible refine (HD.out _).mono ?_); rintro e w2 ⟨rfl, hbb2⟩; have B2 := Lib.hid (B1.out.trans (hbb2.mono B1.out.size)); clear hbb2)) | (go_at_call 29; ((with_reducible refine (HM.out _).mono ?_); rintro e w3 ⟨rfl, hbb3⟩; have B3 := Lib.hid (B2.out.trans (hbb3.mono B2.out.size)); clear hbb3)))
  go_cut [205] (fun t w' => t = .bool false ∧ w' = w3)
  case first => as_aux_lemma =>
    clear HD HM HW1 B1 B2 B3 HE
    by_cases hrz : r = 0
    · subst hrz
      by_cases hbm : b = -9223372036854775808
      · subst hbm
        go_wp2_with fail
        go_meet
        exact ⟨rfl, rfl⟩
      · have f2 : (b != -9223372036854775808) = true := by simp [hbm]
        have AB := Lib.hid (fun w => abs_any b w (by omega) hb3)
        have f3 : decide ((b.natAbs : Int) ≤ 0) = false := by simp; omega
        have f4 : decide (0 ≤ -(b.natAbs : Int)) = false := by simp; omega
        have f7 : (b.natAbs : Int) ≤ 9223372036854775807 := by omega
        clear hbm hr1 hr2 hr4
        go_wp2_with (go_at_call 46; ((with_reducible refine (AB.out _).mono ?_); rintro e w' ⟨rfl, rfl⟩))
        go_meet
        exact ⟨rfl, rfl⟩
    · have f1 : (r != 0) = true := by simp [hrz]
      by_cases p : a < 0
      · have f5 : decide (a < 0) = true := by simp [p]
        have f6 : decide (r < 0) = true := by simp; omega
        by_cases hbm : b = -9223372036854775808
        · subst hbm
          go_wp2_with fail
          go_meet
          exact ⟨rfl, rfl⟩
        · have f2 : (b != -9223372036854775808) = true := by simp [hbm]
          have AB := Lib.hid (fun w => abs_any b w (by omega) hb3)
          have f3 : decide ((b.natAbs : Int) ≤ r) = false := by simp; omega
          have f4 : decide (r ≤ -(b.natAbs : Int)) = false := by simp; omega
          have f7 : (b.natAbs : Int) ≤ 9223372036854775807 := by omega
          clear hbm hr1 hr2 hr3 hr4 hbz
          go_wp2_with (go_at_call 46; ((with_reducible refine (AB.out _).mono ?_); rintro e w' ⟨rfl, rfl⟩))
          go_meet
          exact ⟨rfl, rfl⟩
      · have f5 : decide (a < 0) = false := by simp; omega
        have f6 : decide (r < 0) = false := by simp; omega
        by_cases hbm : b = -9223372036854775808
        · subst hbm
          go_wp2_with fail
          go_meet
          exact ⟨rfl, rfl⟩
        · have f2 : (b != -9223372036854775808) = true := by simp [hbm]
          have AB := Lib.hid (fun w => abs_any b w (by omega) hb3)
          have f3 : decide ((b.natAbs : Int) ≤ r) = false := by simp; omega
          have f4 : decide (r ≤ -(b.natAbs : Int)) = false := by simp; omega
          have f7 : (b.natAbs : Int) ≤ 9223372036854775807 := by omega
          clear hbm hr1 hr2 hr3 hr4 hbz
          go_wp2_with (go_at_call 46; ((with_reducible refine (AB.out _).mono ?_); rintro e w' ⟨rfl, rfl⟩))
          go_meet
          exact ⟨rfl, rfl⟩
  case rest => as_aux_lemma =>
  obtain ⟨rfl, rfl⟩ := hcut
  have hw1 := HW1.out
  have hw2 : (a - r + r == a) = true := by simp
  go_wp2_with (go_at_call 13; ((with_reducible refine (awake_any _ (HE.out.below B3.out)).mono ?_); rintro e w4 ⟨rfl, hb4⟩))
  go_ret
  exact ⟨rfl, B3.out.trans (hb4.mono B3.out.size)⟩
end Go.Proofs.YtacedomhnnigjaaGreatDoor
