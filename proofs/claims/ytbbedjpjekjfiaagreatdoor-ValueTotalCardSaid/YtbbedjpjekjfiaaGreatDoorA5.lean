/- The statements' own test of being awake answers true, in every world whose tables are laid. -/
import Derived.Test.YtbbedjpjekjfiaaGreatDoorA1
import Derived.Test.YtbbedjpjekjfiaaGreatDoorA2
import Derived.Test.YtbbedjpjekjfiaaGreatDoorA4
namespace Go.Proofs.YtbbedjpjekjfiaaGreatDoor
open Go.RowKit

theorem Div_c (w : World) : Calls Tryz.prog 31 #[.int .i64 (-7), .int .i64 2] w fun e w' => e = .returned (.tuple #[.int .i64 (-3), .int .i64 0]) ∧ Below w.heap.size w w' :=
  Div_ok (-7) 2 w (by unfold fits; omega) (by unfold fits; omega) (by omega) (by omega)
theorem Mod_c (w : World) : Calls Tryz.prog 32 #[.int .i64 (-7), .int .i64 2] w fun e w' => e = .returned (.tuple #[.int .i64 (-1), .int .i64 0]) ∧ Below w.heap.size w w' :=
  Mod_ok (-7) 2 w (by unfold fits; omega) (by unfold fits; omega) (by omega)
theorem Add_c (w : World) : Calls Tryz.prog 28 #[.int .i64 9223372036854775807, .int .i64 1] w fun e w' => e = .returned (.tuple #[.int .i64 0, .int .i64 36]) ∧ w = w' :=
  Add_over 9223372036854775807 1 w (by unfold fits; omega) (by unfold fits; omega) (by unfold fits; omega)
theorem Text_c (w : World) (h : Env w) :
    Calls Tryz.prog 21 #[.float .f64 4607182418800017408] w fun e w' => e = .returned (.string ⟨#[49, 46, 48]⟩) ∧ Below w.heap.size w w' :=
  Text_a w (by have := h.sz; omega) (by have := h.sz; omega) h.p0 h.p1 h.u10

set_option maxRecDepth 100000 in
set_option maxHeartbeats 2000000 in
theorem awake_any (w : World) (h : Env w) :
    Calls Tryz.prog 16 #[] w fun e w' => e = .returned (.bool true) ∧ Below w.heap.size w w' := by
  have hcmp : (FloatKind.f64.format.order 4681608360884174848 4681608360884174848 == some Ordering.eq) = true := by decide +kernel
  have HE := Lib.hid h
  clear h
  go_enter Tryz.func16, Tryz.ntmps16
  go_wp2_with fail
  refine (Div_c _).mono ?_
  rintro e w1 ⟨rfl, hb1⟩
  have HE1 := Lib.hid (HE.out.below hb1)
  have B1 := Lib.hid hb1
  clear hb1
  go_wp2_with fail
  refine (Mod_c _).mono ?_
  rintro e w2 ⟨rfl, hb2⟩
  have HE2 := Lib.hid (HE1.out.below hb2)
  have B2 := Lib.hid (B1.out.trans (hb2.mono B1.out.size))
  clear hb2
  go_wp2_with fail
  refine (Add_c _).mono ?_
  rintro e w3 ⟨rfl, rfl⟩
  go_wp2_with fail
  refine (Parse_a _ HE2.out).mono ?_
  rintro e w4 ⟨rfl, hb4⟩
  have HE4 := Lib.hid (HE2.out.below hb4)
  have B4 := Lib.hid (B2.out.trans (hb4.mono B2.out.size))
  clear hb4
  go_wp2_with (first | (go_at_call 26; ((with_reducible refine (Mixed_c1 _).mono ?_); rintro e w' ⟨rfl, rfl⟩)) | (go_at_call 26; ((with_reducible refine (Mixed_c2 _).mono ?_); rintro e w' ⟨rfl, rfl⟩)) | (go_at_call 55; ((with_reducible refine (NaN_c _).mono ?_); rintro e w' ⟨rfl, rfl⟩)) | (go_at_call 34; ((with_reducible refine (Inf_c _).mono ?_); rintro e w' ⟨rfl, rfl⟩)) | (go_at_call 29; ((with_reducible refine (Copysign_c _).mono ?_); rintro e w' ⟨rfl, rfl⟩)) | (go_at_call 25; ((with_reducible refine (Floats_c1 _).mono ?_); rintro e w' ⟨rfl, rfl⟩)) | (go_at_call 25; ((with_reducible refine (Floats_c2 _).mono ?_); rintro e w' ⟨rfl, rfl⟩)) | (go_at_call 21; ((with_reducible refine (Text_c _ HE4.out).mono ?_); rintro e w5 ⟨rfl, hb5⟩)))


  go_ret
  exact ⟨rfl, B4.out.trans (hb5.mono B4.out.size)⟩
end Go.Proofs.YtbbedjpjekjfiaaGreatDoor
