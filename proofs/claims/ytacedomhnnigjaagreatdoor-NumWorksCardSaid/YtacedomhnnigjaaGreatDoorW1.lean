/- The statement NumWorks, walked: sums, differences, products, quotients, rests, negatives are the document's. -/
import Derived.Test.YtacedomhnnigjaaGreatDoorR2
namespace Go.Proofs.YtacedomhnnigjaaGreatDoor
open Go.RowKit
set_option maxHeartbeats 1000000 in
theorem Neg_ok (a : Int) (w : World) (ha : fits a) (h : fits (0 - a)) :
    Calls Tryz.prog 31 #[.int .i64 a] w fun e w' => e = .returned (.tuple #[.int .i64 (0 - a), .int .i64 0]) ∧ Below w.heap.size w w' := by
  obtain ⟨ha1, ha2⟩ := ha
  obtain ⟨h1, h2⟩ := h
  obtain ⟨s, hs⟩ : ∃ s : Int, s = a.natAbs := ⟨_, rfl⟩
  have SZ := Lib.hid (fun w => hs ▸ size_any a w ha1 ha2)
  have hs0 : 0 ≤ s := by omega
  by_cases p : 0 < a
  · have pb : decide (0 < a) = true := by simp [p]
    have hn : s ≤ 9223372036854775808 := by omega
    have HF : Hid (wrap64 (IntKind.u64.wrap (-s)) = 0 - a) := by show wrap64 (IntKind.u64.wrap (-s)) = 0 - a; rw [negw s hs0 hn]; omega
    clear hs p
    go_enter Tryz.func31, Tryz.ntmps31
    go_wp2_with (first | (go_at_call 60; refine (SZ.out _).mono ?_; rintro e w' ⟨rfl, rfl⟩) | go_in)
    go_ret2
    exact ⟨tup2 HF.out rfl, by go_grown⟩
  · have pb : decide (0 < a) = false := by simp; omega
    have hn : s ≤ 9223372036854775807 := by omega
    have HF : Hid (s = 0 - a) := by show s = 0 - a; omega
    clear hs p
    go_enter Tryz.func31, Tryz.ntmps31
    go_wp2_with (first | (go_at_call 60; refine (SZ.out _).mono ?_; rintro e w' ⟨rfl, rfl⟩) | go_in)
    go_ret2
    exact ⟨tup2 HF.out rfl, by go_grown⟩
set_option maxHeartbeats 1000000 in
theorem Neg_over (w : World) :
    Calls Tryz.prog 31 #[.int .i64 (-9223372036854775808)] w fun e w' => e = .returned (.tuple #[.int .i64 0, .int .i64 36]) ∧ Below w.heap.size w w' := by
  have hw64 := IntKind.wrap_u64
  go_enter Tryz.func31, Tryz.ntmps31
  go_wp2
  go_ret2
  exact ⟨rfl, by go_grown⟩
theorem Neg_told (a : Int) (ha : fits a) : ∃ s e : Int, Told (0 - a) s e ∧ ∀ w, Calls Tryz.prog 31 #[.int .i64 a] w fun x w' => x = .returned (.tuple #[.int .i64 s, .int .i64 e]) ∧ Below w.heap.size w w' := by
  by_cases h : fits (0 - a)
  · exact ⟨_, _, told_ok h, fun w => Neg_ok a w ha h⟩
  · obtain rfl : a = -9223372036854775808 := by unfold fits at *; omega
    exact ⟨_, _, told_over h, Neg_over⟩
theorem RAdd_told (a b : Int) (ha : fits a) (hb : fits b) : ∃ s e : Int, Told (a + b) s e ∧ ∀ w, Calls Tryz.prog 22 #[.int .i64 a, .int .i64 b] w fun x w' => x = .returned (.tuple #[.int .i64 s, .int .i64 e]) ∧ w = w' := by
  by_cases h : fits (a + b)
  · exact ⟨_, _, told_ok h, fun w => RAdd_ok a b w ha hb h⟩
  · exact ⟨_, _, told_over h, fun w => RAdd_over a b w ha hb h⟩
theorem RSub_told (a b : Int) (ha : fits a) (hb : fits b) : ∃ s e : Int, Told (a - b) s e ∧ ∀ w, Calls Tryz.prog 24 #[.int .i64 a, .int .i64 b] w fun x w' => x = .returned (.tuple #[.int .i64 s, .int .i64 e]) ∧ w = w' := by
  by_cases h : fits (a - b)
  · exact ⟨_, _, told_ok h, fun w => RSub_ok a b w ha hb h⟩
  · exact ⟨_, _, told_over h, fun w => RSub_over a b w ha hb h⟩
theorem quot_pair (a b : Int) (ha : fits a) (hb : fits b) : ∃ s e r f : Int,
    (∀ w, Calls Tryz.prog 27 #[.int .i64 a, .int .i64 b] w fun x w' => x = .returned (.tuple #[.int .i64 s, .int .i64 e]) ∧ Below w.heap.size w w') ∧
    (∀ w, Calls Tryz.prog 28 #[.int .i64 a, .int .i64 b] w fun x w' => x = .returned (.tuple #[.int .i64 s, .int .i64 e]) ∧ w = w') ∧
    (∀ w, Calls Tryz.prog 29 #[.int .i64 a, .int .i64 b] w fun x w' => x = .returned (.tuple #[.int .i64 r, .int .i64 f]) ∧ Below w.heap.size w w') ∧
    (∀ w, Calls Tryz.prog 30 #[.int .i64 a, .int .i64 b] w fun x w' => x = .returned (.tuple #[.int .i64 r, .int .i64 f]) ∧ w = w') := by
  by_cases h0 : b = 0
  · subst h0
    refine ⟨0, 1, 0, 1, fun w => (Div_zero a w).mono ?_, RDiv_zero a, fun w => (Mod_zero a w).mono ?_, RMod_zero a⟩
    · rintro e w' ⟨rfl, rfl⟩; exact ⟨rfl, Below.refl _ _⟩
    · rintro e w' ⟨rfl, rfl⟩; exact ⟨rfl, Below.refl _ _⟩
  · by_cases h : a = -9223372036854775808 ∧ b = -1
    · obtain ⟨rfl, rfl⟩ := h
      exact ⟨0, 36, _, 0, Div_over, RDiv_over, fun w => Mod_ok _ _ w ha hb h0, fun w => RMod_ok _ _ w ha hb h0⟩
    · exact ⟨_, 0, _, 0, fun w => Div_ok a b w ha hb h0 h, fun w => RDiv_ok a b w ha hb h0 h, fun w => Mod_ok a b w ha hb h0, fun w => RMod_ok a b w ha hb h0⟩

set_option maxRecDepth 100000 in
set_option maxHeartbeats 4000000 in
theorem works_walk (a b : Int) (w : World) (ha : fits a) (hb : fits b) (h : Env w) :
    Calls Tryz.prog 4 #[.int .i64 a, .int .i64 b] w fun e w' => e = .returned (.bool true) ∧ Below w.heap.size w w' := by
  obtain ⟨s1, e1, t1, c1⟩ := Add_told a b ha hb
  obtain ⟨s1', e1', t1', c1'⟩ := RAdd_told a b ha hb
  obtain ⟨rfl, rfl⟩ := told_one t1 t1'
  obtain ⟨s2, e2, t2, c2⟩ := Sub_told a b ha hb
  obtain ⟨s2', e2', t2', c2'⟩ := RSub_told a b ha hb
  obtain ⟨rfl, rfl⟩ := told_one t2 t2'
  obtain ⟨s3, e3, t3, c3⟩ := Mul_told a b ha hb
  obtain ⟨s3', e3', t3', c3'⟩ := RMul_told a b ha hb
  obtain ⟨rfl, rfl⟩ := told_one t3 t3'
  obtain ⟨s4, e4, r, f, c4, c4', c5, c5'⟩ := quot_pair a b ha hb
  obtain ⟨s6, e6, t6, c6⟩ := Neg_told a ha
  obtain ⟨s6', e6', t6', c6'⟩ := RSub_told 0 a (by unfold fits; omega) ha
  obtain ⟨rfl, rfl⟩ := told_one t6 t6'
  have C1 := Lib.hid c1
  have C1' := Lib.hid c1'
  have C2 := Lib.hid c2
  have C2' := Lib.hid c2'
  have C3 := Lib.hid c3
  have C3' := Lib.hid c3'
  have C4 := Lib.hid c4
  have C4' := Lib.hid c4'
  have C5 := Lib.hid c5
  have C5' := Lib.hid c5'
  have C6 := Lib.hid c6
  have C6' := Lib.hid c6'
  have HE := Lib.hid h
  clear c1 c1' c2 c2' c3 c3' c4 c4' c5 c5' c6 c6' t1 t1' t2 t2' t3 t3' t6 t6' ha hb h
  go_enter Tryz.func4, Tryz.ntmps4
  go_wp2_with (first | (go_at_call 21; ((with_reducible refine (C1.out _).mono ?_); rintro e w' ⟨rfl, rfl⟩)) | (go_at_call 22; ((with_reducible refine (C1'.out _).mono ?_); rintro e w' ⟨rfl, rfl⟩)) | (go_at_call 23; ((with_reducible refine (C2.out _).mono ?_); rintro e w' ⟨rfl, rfl⟩)) | (go_at_call 24; ((with_reducible refine (C2'.out _).mono ?_); rintro e w' ⟨rfl, rfl⟩)) | (go_at_call 25; ((with_reducible refine (C3.out _).mono ?_); rintro e w1 ⟨rfl, hbw1⟩; have B1 := Lib.hid hbw1; clear hbw1)) | (go_at_call 26; ((with_reducible refine (C3'.out _).mono ?_); rintro e w' ⟨rfl, rfl⟩)) | (go_at_call 27; ((with_reducible refine (C4.out _).mono ?_); rintro e w2 ⟨rfl, hbw2⟩; have B2 := Lib.hid (B1.out.trans (hbw2.mono B1.out.size)); clear hbw2)) | (go_at_call 28; ((with_reducible refine (C4'.out _).mono ?_); rintro e w' ⟨rfl, rfl⟩)) | (go_at_call 29; ((with_reducible refine (C5.out _).mono ?_); rintro e w3 ⟨rfl, hbw3⟩; have B3 := Lib.hid (B2.out.trans (hbw3.mono B2.out.size)); clear hbw3)) | (go_at_call 30; ((with_reducible refine (C5'.out _).mono ?_); rintro e w' ⟨rfl, rfl⟩)) | (go_at_call 31; ((with_reducible refine (C6.out _).mono ?_); rintro e w4 ⟨rfl, hbw4⟩; have B4 := Lib.hid (B3.out.trans (hbw4.mono B3.out.size)); clear hbw4)) | (go_at_call 24; ((with_reducible refine (C6'.out _).mono ?_); rintro e w' ⟨rfl, rfl⟩)) | (go_at_call 13; ((with_reducible refine (awake_any _ (HE.out.below B4.out)).mono ?_); rintro e w5 ⟨rfl, hb5⟩)))


  go_ret
  exact ⟨rfl, B4.out.trans (hb5.mono B4.out.size)⟩
end Go.Proofs.YtacedomhnnigjaaGreatDoor
