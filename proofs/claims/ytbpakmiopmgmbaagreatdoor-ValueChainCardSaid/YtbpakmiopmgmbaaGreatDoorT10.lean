/- value.readStr at a text with an escape. -/
import Derived.Test.YtbpakmiopmgmbaaGreatDoorT8
import Derived.Test.YtbpakmiopmgmbaaGreatDoorT6
namespace Go.Proofs.YtbpakmiopmgmbaaGreatDoor
open Go.RowKit
set_option maxRecDepth 100000 in
set_option maxHeartbeats 1000000 in
theorem readStr_A (w : World) :
    Calls Tryz.prog 58 #[.string ⟨#[34, 92, 120, 52, 49, 34]⟩] w fun e w' => e = .returned (.tuple #[vagg 4 false 0 0 ⟨#[65]⟩, .bool true]) ∧ Below w.heap.size w w' := by
  have O := Lib.hid (One.start w #[.int .i64 0, .bool false, .int .i64 0, .float .f64 0, .string ⟨#[]⟩] 24)
  have hsf := store_float
  have b1 : ∀ h, ((⟨#[34, 92, 120, 52, 49, 34]⟩ : ByteArray)[1]'h).toNat = 92 := fun _ => rfl
  have b2 : ∀ h, ((⟨#[34, 92, 120, 52, 49, 34]⟩ : ByteArray)[2]'h).toNat = 120 := fun _ => rfl
  have b3 : ∀ h, ((⟨#[34, 92, 120, 52, 49, 34]⟩ : ByteArray)[3]'h).toNat = 52 := fun _ => rfl
  have b4 : ∀ h, ((⟨#[34, 92, 120, 52, 49, 34]⟩ : ByteArray)[4]'h).toNat = 49 := fun _ => rfl
  have b5 : ∀ h, ((⟨#[34, 92, 120, 52, 49, 34]⟩ : ByteArray)[5]'h).toNat = 34 := fun _ => rfl
  have hib : ∀ w, (callFunc 122 #[.string ⟨#[48, 49, 50, 51, 52, 53, 54, 55, 56, 57, 97, 98, 99, 100, 101, 102]⟩, .int .u8 52]).run Tryz.prog w = .ok (.value (.int .i64 4)) w := fun _ => by kernel_rfl
  have hic : ∀ w, (callFunc 122 #[.string ⟨#[48, 49, 50, 51, 52, 53, 54, 55, 56, 57, 97, 98, 99, 100, 101, 102]⟩, .int .u8 49]).run Tryz.prog w = .ok (.value (.int .i64 1)) w := fun _ => by kernel_rfl
  have o1 : bits .or .u8 0 4 = 4 := by kernel_rfl
  have o2 : bits .or .u8 64 1 = 65 := by kernel_rfl
  obtain ⟨i0, hi, hz0, hz1, hz2⟩ := info_parts uint8_info
  go_enter Tryz.func58, Tryz.ntmps58
  go_wp2
  go_step3
  go_wp2
  go_step3
  go_wp2
  refine wp_loop_rounds 2 ?_
  rw [rounds_succ]
  go_wp2
  refine wp_loop_rounds 3 ?_
  rw [rounds_succ]
  go_wp2
  rw [rounds_succ]
  go_wp2
  rw [rounds_succ]
  go_wp2_with (at_builtin; refine wpList_append_own _ rfl (.tmp 64) (.tmp 66) 66 rfl (w.heap.size + 1) 5 i0 (.int .u8 0) 1 1 Tryz.underlying66 hi hz0 hz1 hz2 rfl (by decide) (.slice none 0 0) 0 [] rfl ⟨by simp, .inl ⟨rfl, rfl⟩⟩ ⟨w.heap.size + 1, 0, none⟩ 1 1 [.int .u8 65] rfl rfl (World.news_of_block (by have h := heap_alloc_new (w.alloc (.cells #[.int .i64 0, .bool false, .int .i64 0, .float .f64 0, .string ⟨#[]⟩] 24)) (.cells #[.int .u8 65] 5); simpa using h)) (by simp [Value.oneCell']) (by unfold maxLen; omega) (by omega) (by simp) ?_; intro v1 w1 hown1 hgrow1 hnil1)
  rw [show 0 + 1 = 1 from rfl, List.nil_append] at hown1
  have hform : ∃ g c, v1 = .slice (some ⟨g, 0, none⟩) 1 c := by
    rcases hown1.2 with ⟨h, _⟩ | ⟨g, c, _, h, _⟩
    · exact absurd (hnil1.1 h).2 (by omega)
    · exact ⟨g, c, h⟩
  obtain ⟨g1, c1, rfl⟩ := hform
  have hcv : (convert 66 9 (.slice (some ⟨g1, 0, none⟩) 1 c1)).run Tryz.prog w1 = .ok (.string (strOfNums [65])) w1 := conv_own (zs := [65]) hown1
  rw [show strOfNums [65] = ⟨#[65]⟩ by kernel_rfl] at hcv
  have hbw := (((Below.refl _ (w.alloc (.cells #[.int .i64 0, .bool false, .int .i64 0, .float .f64 0, .string ⟨#[]⟩] 24))).alloc (Nat.le_refl _) (.cells #[.int .u8 65] 5)).grown hgrow1 (by simp) (fun k hk => by simp [Value.ownBlock] at hk))
  replace O := Lib.hid (O.out.step hbw)
  have WD := Lib.hid (fun w => Word_any ⟨#[65]⟩ w (by decide) (by decide))
  clear hown1 hgrow1 hnil1 hbw
  rw [rounds_succ]
  go_wp2_with (go_at_call 23; ((with_reducible refine (WD.out _).mono ?_); rintro e w2 ⟨rfl, hb⟩; replace O := Lib.hid (O.out.step hb); clear hb; obtain ⟨_, _, x1, x2⟩ := O.out))
  rw [Exit.noGoto_ret]
  obtain ⟨s0, s1, s2, s3, s4⟩ := set5 w2 w.heap.size (.int .i64 4) (.bool false) (.int .i64 0) (.float .f64 0) (.string ⟨#[65]⟩) _ rfl x1
  refine bodyPost_ret (v := .tuple #[vagg 4 false 0 0 ⟨#[65]⟩, .bool true]) (by simp [results, Tryz.results58, go_sem, s0, s1, s2, s3, s4]) rfl ?_
  exact ⟨rfl, set5_below _ _ _ _ _ _ (Nat.le_refl _) O.out.below⟩
set_option maxRecDepth 100000 in
set_option maxHeartbeats 1000000 in
theorem read_A (w : World) :
    Calls Tryz.prog 41 #[.string ⟨#[34, 92, 120, 52, 49, 34]⟩] w fun e w' => e = .returned (.tuple #[vagg 4 false 0 0 ⟨#[65]⟩, .bool true]) ∧ Below w.heap.size w w' := by
  have c0 : (⟨#[34, 92, 120, 52, 49, 34]⟩ : ByteArray).extract 0 1 = ⟨#[34]⟩ := by decide
  have O := Lib.hid (One.start w #[.int .i64 0, .bool false, .int .i64 0, .float .f64 0, .string ⟨#[]⟩] 24)
  have hsf := store_float
  go_enter Tryz.func41, Tryz.ntmps41
  go_wp2_with (first | (go_at_call 58; ((with_reducible refine (readStr_A _).mono ?_); rintro e w1 ⟨rfl, hb⟩; replace O := Lib.hid (O.out.step hb); clear hb; obtain ⟨_, _, x1, x2⟩ := O.out)) | go_in)
  obtain ⟨s0, s1, s2, s3, s4⟩ := set5 w1 w.heap.size (.int .i64 4) (.bool false) (.int .i64 0) (.float .f64 0) (.string ⟨#[65]⟩) _ rfl x1
  refine bodyPost_ret (v := .tuple #[vagg 4 false 0 0 ⟨#[65]⟩, .bool true]) (by simp [results, Tryz.results41, go_sem, s0, s1, s2, s3, s4]) rfl ?_
  exact ⟨rfl, set5_below _ _ _ _ _ _ (Nat.le_refl _) O.out.below⟩
end Go.Proofs.YtbpakmiopmgmbaaGreatDoor
