/- value.Text of a Str. -/
import Derived.Test.YtbpakmiopmgmbaaGreatDoorT8
import Derived.Test.YtbpakmiopmgmbaaGreatDoorT6
namespace Go.Proofs.YtbpakmiopmgmbaaGreatDoor
open Go.RowKit
set_option maxRecDepth 100000 in
set_option maxHeartbeats 1000000 in
theorem Text_str (s t : ByteArray) (w : World) (hs : s.size ≤ 32) (ht : strOfNums (quoteTo (numsOf s) ++ [34]) = t) : Calls Tryz.prog 24 #[vagg 4 false 0 0 s] w fun e w' => e = .returned (.tuple #[.string t, .int .i64 0]) ∧ Below w.heap.size w w' := by
  have hm : mayB 4 false 0 0 s = true := by unfold mayB MayV; simp [hs]
  have M := fun w => May_any 4 false 0 0 s w (by omega)
  rw [hm] at M
  have MM := Lib.hid M
  have Q := fun w => quoted_any s w (by omega)
  rw [ht] at Q
  have QQ := Lib.hid Q
  clear M hm Q ht
  go_enter Tryz.func24, Tryz.ntmps24
  go_wp2_with (first | (go_at_call 5; ((with_reducible refine (MM.out _).mono ?_); rintro e w1 ⟨rfl, hb⟩; obtain ⟨hB, hbc⟩ := box_facts hb)) | (go_at_call 40; ((with_reducible refine (QQ.out _).mono ?_); rintro e w2 ⟨rfl, hb2⟩)))
  go_ret2
  exact ⟨rfl, hB.trans (hb2.mono hB.size)⟩
theorem Text_A (w : World) : Calls Tryz.prog 24 #[vagg 4 false 0 0 ⟨#[65]⟩] w fun e w' => e = .returned (.tuple #[.string ⟨#[34, 65, 34]⟩, .int .i64 0]) ∧ Below w.heap.size w w' :=
  Text_str _ _ w (by decide) (by kernel_rfl)
theorem Text_quote (w : World) : Calls Tryz.prog 24 #[vagg 4 false 0 0 ⟨#[97, 34, 10]⟩] w fun e w' => e = .returned (.tuple #[.string ⟨#[34, 97, 92, 34, 92, 120, 48, 97, 34]⟩, .int .i64 0]) ∧ Below w.heap.size w w' :=
  Text_str _ _ w (by decide) (by kernel_rfl)
end Go.Proofs.YtbpakmiopmgmbaaGreatDoor
