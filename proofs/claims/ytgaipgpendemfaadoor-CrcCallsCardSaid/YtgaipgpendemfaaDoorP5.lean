/- The statements' own test of being awake answers true, wherever the table lies. -/
import Derived.Test.YtgaipgpendemfaaDoorP4
import Derived.Lib.SlBytesConst
namespace Go.Proofs.YtgaipgpendemfaaDoor
open Go.RowKit
theorem k_sum9 : moreV 0#32 [49, 50, 51, 52, 53, 54, 55, 56, 57] = 4236843288#32 := by decide +kernel
theorem k_sum5 : moreV (moreV 0#32 [49, 50, 51, 52, 53]) [54, 55, 56, 57] = 4236843288#32 := by decide +kernel
theorem k_mark : markL [] = [0, 0, 0, 0] := by decide +kernel
theorem k_two : stripE [0, 0] = 4 ∧ stripL [0, 0] = [] := by decide +kernel
theorem k_four : stripE [0, 0, 0, 1] = 21 ∧ stripL [0, 0, 0, 1] = [] := by decide +kernel
theorem c_two : (#[.int .u8 0, .int .u8 0] : Array Value).toList = cellsB [0, 0] := by kernel_rfl
theorem c_four : (#[.int .u8 0, .int .u8 0, .int .u8 0, .int .u8 1] : Array Value).toList = cellsB [0, 0, 0, 1] := by kernel_rfl
theorem c_nine : (#[.int .u8 49, .int .u8 50, .int .u8 51, .int .u8 52, .int .u8 53, .int .u8 54, .int .u8 55, .int .u8 56, .int .u8 57] : Array Value).toList = cellsB [49, 50, 51, 52, 53, 54, 55, 56, 57] := by kernel_rfl
theorem c_five : (#[.int .u8 49, .int .u8 50, .int .u8 51, .int .u8 52, .int .u8 53] : Array Value).toList = cellsB [49, 50, 51, 52, 53] := by kernel_rfl
theorem c_last : (#[.int .u8 54, .int .u8 55, .int .u8 56, .int .u8 57] : Array Value).toList = cellsB [54, 55, 56, 57] := by kernel_rfl
theorem conv_self (w : World) (C : Array Value) (n c : Nat) : (convert 23 23 (.slice (some ⟨w.heap.size, 0, none⟩) n c)).run Tryd.prog (w.alloc (.cells C 5)) = .ok (.slice (some ⟨w.heap.size, 0, none⟩) n c) (w.alloc (.cells C 5 (C.size, C.size + 1))) :=
  Lib.run_convert_bytes_const w _ _ C n c Tryd.underlying23 Tryd.underlying5
theorem conv_self' (w : World) (g : Nat) (C : Array Value) (n c : Nat) (h : g = w.heap.size) : (convert 23 23 (.slice (some ⟨g, 0, none⟩) n c)).run Tryd.prog (w.alloc (.cells C 5)) = .ok (.slice (some ⟨g, 0, none⟩) n c) (w.alloc (.cells C 5 (C.size, C.size + 1))) := by
  subst h
  exact conv_self w C n c
theorem at_newf (w : World) (cs : Array Value) (fr : Nat × Nat) (l : List UInt8) (s : Nat) (hs : w.heap.size = s) (h : cs.toList = cellsB l) : At (w.alloc (.cells cs 5 fr)) (some ⟨s, 0, none⟩) l := by
  subst hs
  intro _
  refine ⟨w.heap.size, 0, rfl, by simp, fun i hi => ?_⟩
  rw [cell_of_row _ _ _ _ _ _ (heap_alloc_new w _)]
  rw [← Array.getElem?_toList, h]
  simp [cellsB, List.getD, hi]
/-- The same for a slice whose length is given as a number. -/
theorem SumL (A : Option Addr) (l : List UInt8) (n cap : Nat) (w : World) (h : Env w) (hA : At w A l) (hm : l.length ≤ 140737488355328) (hn : l.length = n) :
    Calls Tryd.prog 12 #[.slice A n cap] w fun e w' => e = .returned (.int .u32 ((moreV 0#32 l).toNat : Int)) ∧ w = w' := by
  subst hn
  exact Sum_any A l cap w h hA hm
theorem MoreL (s : BitVec 32) (z : Int) (A : Option Addr) (l : List UInt8) (n cap : Nat) (w : World) (h : Env w) (hA : At w A l) (hm : l.length ≤ 140737488355328) (hn : l.length = n) (hz : z = (s.toNat : Int)) :
    Calls Tryd.prog 14 #[.int .u32 z, .slice A n cap] w fun e w' => e = .returned (.int .u32 ((moreV s l).toNat : Int)) ∧ w = w' := by
  subst hn hz
  exact More_any s A l cap w h hA hm
theorem StripL (A : Option Addr) (l : List UInt8) (n cap : Nat) (w : World) (h : Env w) (hA : At w A l) (hz : A = none → cap = 0) (hc : l.length ≤ cap) (hm : l.length ≤ 140737488355328) (hn : l.length = n) :
    Calls Tryd.prog 10 #[.slice A n cap] w (Strips w l) := by
  subst hn
  exact Strip_any A l cap w h hA hz hc hm
theorem Strip_two (w : World) (h : Env w) (A : Addr) (hA : At w (some A) [0, 0]) : Calls Tryd.prog 10 #[.slice (some A) 2 2] w fun e w' => ∃ B c, e = .returned (.tuple #[.slice B 0 c, .int .i64 4]) ∧ Below w.heap.size w w' := by
  refine (StripL (some A) [0, 0] 2 2 w h hA (fun h => by cases h) (by decide) (by decide) rfl).mono ?_
  rintro e w' ⟨B, c, rfl, _, _, _, hb⟩
  rw [k_two.1, k_two.2]
  exact ⟨B, c, rfl, hb⟩
theorem Strip_four (w : World) (h : Env w) (A : Addr) (hA : At w (some A) [0, 0, 0, 1]) : Calls Tryd.prog 10 #[.slice (some A) 4 4] w fun e w' => ∃ B c, e = .returned (.tuple #[.slice B 0 c, .int .i64 21]) ∧ Below w.heap.size w w' := by
  refine (StripL (some A) [0, 0, 0, 1] 4 4 w h hA (fun h => by cases h) (by decide) (by decide) rfl).mono ?_
  rintro e w' ⟨B, c, rfl, _, _, _, hb⟩
  rw [k_four.1, k_four.2]
  exact ⟨B, c, rfl, hb⟩
theorem Sum_nine (w : World) (h : Env w) (A : Addr) (hA : At w (some A) [49, 50, 51, 52, 53, 54, 55, 56, 57]) : Calls Tryd.prog 12 #[.slice (some A) 9 9] w fun e w' => e = .returned (.int .u32 4236843288) ∧ w = w' := by
  have h := SumL (some A) _ 9 9 w h hA (by decide) rfl
  rw [k_sum9] at h
  exact h
theorem Sum_none (w : World) (h : Env w) : Calls Tryd.prog 12 #[.slice none 0 0] w fun e w' => e = .returned (.int .u32 0) ∧ w = w' := by
  have h := SumL none [] 0 0 w h (at_nil _ _) (by decide) rfl
  exact h
theorem Sum_five (w : World) (five : BitVec 32) (h5 : moreV 0#32 [49, 50, 51, 52, 53] = five) (h : Env w) (A : Addr) (hA : At w (some A) [49, 50, 51, 52, 53]) : Calls Tryd.prog 12 #[.slice (some A) 5 5] w fun e w' => e = .returned (.int .u32 (five.toNat : Int)) ∧ w = w' := by
  subst h5
  exact SumL (some A) _ 5 5 w h hA (by decide) rfl
theorem More_last (w : World) (five : BitVec 32) (h5 : moreV 0#32 [49, 50, 51, 52, 53] = five) (h : Env w) (A : Addr) (hA : At w (some A) [54, 55, 56, 57]) : Calls Tryd.prog 14 #[.int .u32 (five.toNat : Int), .slice (some A) 4 4] w fun e w' => e = .returned (.int .u32 4236843288) ∧ w = w' := by
  subst h5
  have h := MoreL (moreV 0#32 [49, 50, 51, 52, 53]) _ (some A) _ 4 4 w h hA (by decide) rfl rfl
  rw [k_sum5] at h
  exact h
theorem Mark_none (w : World) (s : Nat) (hs : w.heap.size = s) (h : Env w) : Calls Tryd.prog 9 #[.slice none 0 0] w fun e w' => ∃ c, e = .returned (.slice (some ⟨s, 0, none⟩) 4 c) ∧ At w' (some ⟨s, 0, none⟩) [0, 0, 0, 0] ∧ Below w.heap.size w w' := by
  subst hs
  refine (Mark_mine none [] 0 0 w h (at_nil _ _) (fun _ => rfl) (by decide) rfl).mono ?_
  rintro e w' ⟨c, rfl, _, hm, hb⟩
  rw [k_mark] at hm
  exact ⟨c, rfl, hm.at_, hb⟩
set_option maxRecDepth 100000 in
set_option maxHeartbeats 4000000 in
theorem wakes_any (w : World) (h : Env w) : Calls Tryd.prog 17 #[] w fun e w' => e = .returned (.bool true) ∧ Below w.heap.size w w' := by
  have HE := Lib.hid h
  have hcv := conv_self
  have hcv2 := fun (w : World) (o : Obj) (C : Array Value) (n c : Nat) => conv_self' (w.alloc o) (w.heap.size + 1) C n c (by simp)
  have hcv3 := fun (w : World) (o o' : Obj) (C : Array Value) (n c : Nat) => conv_self' ((w.alloc o).alloc o') (w.heap.size + 1 + 1) C n c (by simp)
  clear h
  obtain ⟨five, h5⟩ : ∃ f, moreV 0#32 [49, 50, 51, 52, 53] = f := ⟨_, rfl⟩
  have H5 := Lib.hid h5
  clear h5
  go_enter Tryd.func17, Tryd.ntmps17
  go_wp2_with fail
  refine (Strip_two _ (HE.out.alloc _) _ (at_new _ _ _ c_two)).mono ?_
  rintro e w1 ⟨B1, c1, rfl, hb⟩
  have X1 := Lib.hid ((HE.out.alloc _).below hb)
  have Y1 := Lib.hid (((Below.refl _ _).alloc (Nat.le_refl _) _).trans (hb.mono (by simp)))
  clear hb
  go_wp2_with fail
  refine (Strip_four _ (X1.out.alloc _) _ (at_new _ _ _ c_four)).mono ?_
  rintro e w2 ⟨B2, c2, rfl, hb⟩
  have X2 := Lib.hid ((X1.out.alloc _).below hb)
  have Y2 := Lib.hid ((Y1.out.alloc Y1.out.size _).trans (hb.mono (by have := Y1.out.size; simp; omega)))
  clear hb
  go_wp2_with (first
    | (go_at_call 12; (first
      | ((with_reducible refine (Sum_nine _ (X2.out.alloc _) _ (at_newf _ _ _ _ _ (by simp) c_nine)).mono ?_); rintro e w' ⟨rfl, rfl⟩)
      | ((with_reducible refine (Sum_none _ (X2.out.alloc _)).mono ?_); rintro e w' ⟨rfl, rfl⟩)
      | ((with_reducible refine (Sum_five _ five H5.out ((X2.out.alloc _).alloc _) _ (at_newf _ _ _ _ _ (by simp) c_five)).mono ?_); rintro e w' ⟨rfl, rfl⟩)
      | fail))
    | (go_at_call 14; ((with_reducible refine (More_last _ five H5.out (((X2.out.alloc _).alloc _).alloc _) _ (at_newf _ _ _ _ _ (by simp) c_last)).mono ?_); rintro e w' ⟨rfl, rfl⟩))
    | (go_at_call 9; ((with_reducible refine (Mark_none _ (w2.heap.size + 1 + 1 + 1) (by simp) (((X2.out.alloc _).alloc _).alloc _)).mono ?_); rintro e w3 ⟨c3, rfl, hA3, hb3⟩; have q3 := conv_text' _ _ _ 4 c3 hA3 rfl; have B3 := Lib.hid hb3; clear hb3 hA3)))
  go_ret
  refine ⟨rfl, ?_⟩
  have s2 := Y2.out.size
  exact (((Y2.out.alloc s2 _).alloc (by simp; omega) _).alloc (by simp; omega) _).trans (B3.out.mono (by simp; omega))
end Go.Proofs.YtgaipgpendemfaaDoor
