/- The statements' own test of being awake at package value answers true, in every world whose tables are laid. -/
import Derived.Test.YtbpakmiopmgmbaaGreatDoorT14
namespace Go.Proofs.YtbpakmiopmgmbaaGreatDoor
open Go.RowKit
theorem eq_f0 (w : World) : (Op.equalIn 9999 22 (.float .f64 0) (.float .f64 0)).run Tryz.prog w = .ok true w := by kernel_rfl
set_option maxRecDepth 100000 in
set_option maxHeartbeats 4000000 in
theorem wakes_any (w : World) (h : Env2 w) :
    Calls Tryz.prog 6 #[] w fun e w' => e = .returned (.bool true) ∧ Below w.heap.size w w' := by
  have HE := Lib.hid h
  clear h
  have hsf := store_float
  have hfl : ∀ w : World, (Op.equalIn 9999 22 (.float .f64 0) (.float .f64 0)).run Tryz.prog w = .ok true w := eq_f0
  go_enter Tryz.func6, Tryz.ntmps6
  go_wp2_with fail
  refine (NaN_c _).mono ?_
  rintro e w1 ⟨rfl, rfl⟩
  go_wp2_with fail
  refine (Point_nan _).mono ?_
  rintro e wp ⟨rfl, hp⟩
  go_wp2_with fail
  refine (Copysign_c _).mono ?_
  rintro e w1 ⟨rfl, rfl⟩
  go_wp2_with fail
  refine (F_any 9223372036854775808 _).mono ?_
  rintro e wa ⟨rfl, ha⟩
  go_wp2_with fail
  refine (Truth_any true _).mono ?_
  rintro e wt ⟨rfl, ht⟩
  go_wp2_with fail
  refine (Truth_any false _).mono ?_
  rintro e wb ⟨rfl, hb⟩
  go_upto_region 3 with (fail)
  have hm := Four.make (hp.trans (ha.mono hp.size)) (ht.trans (hb.mono ht.size)) (C := #[.int .i64 1, .bool true, .int .i64 0, .float .f64 0, .string ⟨#[]⟩]) (D := #[.int .i64 1, .bool false, .int .i64 0, .float .f64 0, .string ⟨#[]⟩]) (v := 24) (x := 24) rfl
  have T := Lib.hid hm
  clear hm hp ha ht hb
  generalize (wb.alloc (.cells #[.int .i64 1, .bool true, .int .i64 0, .float .f64 0, .string ⟨#[]⟩] 24)).alloc (.cells #[.int .i64 1, .bool false, .int .i64 0, .float .f64 0, .string ⟨#[]⟩] 24) = wd at *
  go_upto_region 3 with (fail)
  go_cut [5] (fun t w' => t = .bool true ∧ Four w w' wa.heap.size (wa.heap.size + 1) wb.heap.size (wb.heap.size + 1) #[.int .i64 3, .bool false, .int .i64 0, .float .f64 9221120237041090561, .string ⟨#[]⟩] #[.int .i64 3, .bool false, .int .i64 0, .float .f64 9223372036854775808, .string ⟨#[]⟩] #[.int .i64 1, .bool true, .int .i64 0, .float .f64 0, .string ⟨#[]⟩] #[.int .i64 1, .bool false, .int .i64 0, .float .f64 0, .string ⟨#[]⟩])
  case first => as_aux_lemma =>
    go_region_held3 (fun w' => Below w.heap.size w w' ∧ wa.heap.size < w'.heap.size ∧ wa.heap.size + 1 < w'.heap.size ∧ wb.heap.size < w'.heap.size ∧ wb.heap.size + 1 < w'.heap.size ∧ (∀ j, w'.cell? ⟨wa.heap.size, j, none⟩ = #[Value.int .i64 3, .bool false, .int .i64 0, .float .f64 9221120237041090561, .string ⟨#[]⟩][j]?) ∧ (∀ j, w'.cell? ⟨wa.heap.size + 1, j, none⟩ = #[Value.int .i64 3, .bool false, .int .i64 0, .float .f64 9223372036854775808, .string ⟨#[]⟩][j]?) ∧ (∀ j, w'.cell? ⟨wb.heap.size, j, none⟩ = #[Value.int .i64 1, .bool true, .int .i64 0, .float .f64 0, .string ⟨#[]⟩][j]?) ∧ (∀ j, w'.cell? ⟨wb.heap.size + 1, j, none⟩ = #[Value.int .i64 1, .bool false, .int .i64 0, .float .f64 0, .string ⟨#[]⟩][j]?)) (first | exact T.out.drew | exact Four.on hb (by assumption) (by assumption) (by assumption) (by assumption) (by assumption) (by assumption) (by assumption) (by assumption) (by assumption) | exact T.out | (go_split_ands; exact Four.on hb (by assumption) (by assumption) (by assumption) (by assumption) (by assumption) (by assumption) (by assumption) (by assumption) (by assumption))) (first | (go_at_call 21; ((with_reducible refine (V_any 1 _).mono ?_); rintro e w1 ⟨rfl, hb⟩)) | (go_at_call 21; ((with_reducible refine (V_any 2 _).mono ?_); rintro e w1 ⟨rfl, hb⟩)) | (go_at_call 21; ((with_reducible refine (V_any (-5) _).mono ?_); rintro e w1 ⟨rfl, hb⟩)) | (go_at_call 21; ((with_reducible refine (V_any 0 _).mono ?_); rintro e w1 ⟨rfl, hb⟩)) | (go_at_call 18; ((with_reducible refine (F_any 4607182418800017408 _).mono ?_); rintro e w1 ⟨rfl, hb⟩)) | (go_at_call 18; ((with_reducible refine (F_any 9218868437227405312 _).mono ?_); rintro e w1 ⟨rfl, hb⟩)) | (go_at_call 22; ((with_reducible refine (Inf_b _).mono ?_); rintro e w1 ⟨rfl, hb⟩)) | (go_at_call 10; ((with_reducible refine (cmp1 _).mono ?_); rintro e w1 ⟨rfl, hb⟩)) | (go_at_call 10; ((with_reducible refine (cmp2 _).mono ?_); rintro e w1 ⟨rfl, hb⟩)) | (go_at_call 10; ((with_reducible refine (cmp3 _).mono ?_); rintro e w1 ⟨rfl, hb⟩)) | (go_at_call 10; ((with_reducible refine (cmp4 _).mono ?_); rintro e w1 ⟨rfl, hb⟩)) | (go_at_call 10; ((with_reducible refine (cmp5 _).mono ?_); rintro e w1 ⟨rfl, hb⟩)))
    all_goals
      go_wp2
      go_meet
      exact ⟨rfl, by assumption⟩
  case rest => as_aux_lemma =>
  obtain ⟨rfl, ht⟩ := hcut
  have T := Lib.hid ht
  clear ht
  go_upto_region 4 with (fail)
  go_cut [6] (fun t w' => t = .bool true ∧ Four w w' wa.heap.size (wa.heap.size + 1) wb.heap.size (wb.heap.size + 1) #[.int .i64 3, .bool false, .int .i64 0, .float .f64 9221120237041090561, .string ⟨#[]⟩] #[.int .i64 3, .bool false, .int .i64 0, .float .f64 9223372036854775808, .string ⟨#[]⟩] #[.int .i64 1, .bool true, .int .i64 0, .float .f64 0, .string ⟨#[]⟩] #[.int .i64 1, .bool false, .int .i64 0, .float .f64 0, .string ⟨#[]⟩])
  case first => as_aux_lemma =>
    go_region_held3 (fun w' => Below w.heap.size w w' ∧ wa.heap.size < w'.heap.size ∧ wa.heap.size + 1 < w'.heap.size ∧ wb.heap.size < w'.heap.size ∧ wb.heap.size + 1 < w'.heap.size ∧ (∀ j, w'.cell? ⟨wa.heap.size, j, none⟩ = #[Value.int .i64 3, .bool false, .int .i64 0, .float .f64 9221120237041090561, .string ⟨#[]⟩][j]?) ∧ (∀ j, w'.cell? ⟨wa.heap.size + 1, j, none⟩ = #[Value.int .i64 3, .bool false, .int .i64 0, .float .f64 9223372036854775808, .string ⟨#[]⟩][j]?) ∧ (∀ j, w'.cell? ⟨wb.heap.size, j, none⟩ = #[Value.int .i64 1, .bool true, .int .i64 0, .float .f64 0, .string ⟨#[]⟩][j]?) ∧ (∀ j, w'.cell? ⟨wb.heap.size + 1, j, none⟩ = #[Value.int .i64 1, .bool false, .int .i64 0, .float .f64 0, .string ⟨#[]⟩][j]?)) (first | exact T.out.drew | exact Four.on hb (by assumption) (by assumption) (by assumption) (by assumption) (by assumption) (by assumption) (by assumption) (by assumption) (by assumption) | exact T.out | (go_split_ands; exact Four.on hb (by assumption) (by assumption) (by assumption) (by assumption) (by assumption) (by assumption) (by assumption) (by assumption) (by assumption))) (first | (go_at_call 21; ((with_reducible refine (V_any 1 _).mono ?_); rintro e w1 ⟨rfl, hb⟩)) | (go_at_call 21; ((with_reducible refine (V_any 0 _).mono ?_); rintro e w1 ⟨rfl, hb⟩)) | (go_at_call 18; ((with_reducible refine (F_any 4607182418800017408 _).mono ?_); rintro e w1 ⟨rfl, hb⟩)) | (go_at_call 23; ((with_reducible refine (Word_1 _).mono ?_); rintro e w1 ⟨rfl, hb⟩)) | (go_at_call 8; ((with_reducible refine (eq1 _).mono ?_); rintro e w1 ⟨rfl, hb⟩)) | (go_at_call 8; ((with_reducible refine (eq2 _).mono ?_); rintro e w1 ⟨rfl, hb⟩)) | (go_at_call 8; ((with_reducible refine (eq3 _).mono ?_); rintro e w1 ⟨rfl, hb⟩)) | (go_at_call 8; ((with_reducible refine (eq4 _).mono ?_); rintro e w1 ⟨rfl, hb⟩)) | (go_at_call 8; ((with_reducible refine (eq5 _).mono ?_); rintro e w1 ⟨rfl, hb⟩)))
    all_goals
      go_wp2
      go_meet
      exact ⟨rfl, by assumption⟩
  case rest => as_aux_lemma =>
  obtain ⟨rfl, ht⟩ := hcut
  have T := Lib.hid ht
  clear ht
  go_upto_region 5 with (fail)
  go_cut [7] (fun t w' => t = .bool true ∧ Four w w' wa.heap.size (wa.heap.size + 1) wb.heap.size (wb.heap.size + 1) #[.int .i64 3, .bool false, .int .i64 0, .float .f64 9221120237041090561, .string ⟨#[]⟩] #[.int .i64 3, .bool false, .int .i64 0, .float .f64 9223372036854775808, .string ⟨#[]⟩] #[.int .i64 1, .bool true, .int .i64 0, .float .f64 0, .string ⟨#[]⟩] #[.int .i64 1, .bool false, .int .i64 0, .float .f64 0, .string ⟨#[]⟩])
  case first => as_aux_lemma =>
    go_region_held3 (fun w' => Below w.heap.size w w' ∧ wa.heap.size < w'.heap.size ∧ wa.heap.size + 1 < w'.heap.size ∧ wb.heap.size < w'.heap.size ∧ wb.heap.size + 1 < w'.heap.size ∧ (∀ j, w'.cell? ⟨wa.heap.size, j, none⟩ = #[Value.int .i64 3, .bool false, .int .i64 0, .float .f64 9221120237041090561, .string ⟨#[]⟩][j]?) ∧ (∀ j, w'.cell? ⟨wa.heap.size + 1, j, none⟩ = #[Value.int .i64 3, .bool false, .int .i64 0, .float .f64 9223372036854775808, .string ⟨#[]⟩][j]?) ∧ (∀ j, w'.cell? ⟨wb.heap.size, j, none⟩ = #[Value.int .i64 1, .bool true, .int .i64 0, .float .f64 0, .string ⟨#[]⟩][j]?) ∧ (∀ j, w'.cell? ⟨wb.heap.size + 1, j, none⟩ = #[Value.int .i64 1, .bool false, .int .i64 0, .float .f64 0, .string ⟨#[]⟩][j]?)) (first | exact T.out.drew | exact Four.on hb (by assumption) (by assumption) (by assumption) (by assumption) (by assumption) (by assumption) (by assumption) (by assumption) (by assumption) | exact T.out | (go_split_ands; exact Four.on hb (by assumption) (by assumption) (by assumption) (by assumption) (by assumption) (by assumption) (by assumption) (by assumption) (by assumption))) (first | (go_at_call 21; ((with_reducible refine (V_any 1 _).mono ?_); rintro e w1 ⟨rfl, hb⟩)) | (go_at_call 18; ((with_reducible refine (F_any 4609434218613702656 _).mono ?_); rintro e w1 ⟨rfl, hb⟩)) | (go_at_call 23; ((with_reducible refine (Word_a _).mono ?_); rintro e w1 ⟨rfl, hb⟩)) | (go_at_call 7; ((with_reducible refine (less1 _).mono ?_); rintro e w1 ⟨rfl, hb⟩)) | (go_at_call 7; ((with_reducible refine (less2 _).mono ?_); rintro e w1 ⟨rfl, hb⟩)) | (go_at_call 7; ((with_reducible refine (less3 _).mono ?_); rintro e w1 ⟨rfl, hb⟩)) | (go_at_call 7; ((with_reducible refine (less4 _).mono ?_); rintro e w1 ⟨rfl, hb⟩)))
    all_goals
      go_wp2
      go_meet
      exact ⟨rfl, by assumption⟩
  case rest => as_aux_lemma =>
  obtain ⟨rfl, ht⟩ := hcut
  have T := Lib.hid ht
  clear ht
  have B := Lib.hid T.out.below
  clear T
  go_wp2_with (first | (go_at_call 23; ((with_reducible refine (Word_q _).mono ?_); rintro e w1 ⟨rfl, hb⟩; replace B := Lib.hid (B.out.trans (hb.mono B.out.size)); clear hb)) | (go_at_call 24; ((with_reducible refine (Text_quote _).mono ?_); rintro e w1 ⟨rfl, hb⟩; replace B := Lib.hid (B.out.trans (hb.mono B.out.size)); clear hb)) | (go_at_call 24; ((with_reducible refine (Text_node7 _).mono ?_); rintro e w1 ⟨rfl, hb⟩; replace B := Lib.hid (B.out.trans (hb.mono B.out.size)); clear hb)) | (go_at_call 25; ((with_reducible refine (Parse_7 _).mono ?_); rintro e w1 ⟨rfl, hb⟩; replace B := Lib.hid (B.out.trans (hb.mono B.out.size)); clear hb)) | (go_at_call 25; ((with_reducible refine (Parse_half _ (HE.out.below (B.out.alloc B.out.size _))).mono ?_); rintro e w1 ⟨rfl, hb⟩; replace B := Lib.hid ((B.out.alloc B.out.size _).trans (hb.mono (B.out.alloc B.out.size _).size)); clear hb)) | (go_at_call 25; ((with_reducible refine (Parse_A _).mono ?_); rintro e w1 ⟨rfl, hb⟩; replace B := Lib.hid ((B.out.alloc B.out.size _).trans (hb.mono (B.out.alloc B.out.size _).size)); clear hb)))
  go_ret
  exact ⟨rfl, B.out.alloc B.out.size _⟩
end Go.Proofs.YtbpakmiopmgmbaaGreatDoor
