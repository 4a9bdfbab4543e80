/- num.Text of 1.5 is 1.5, in every world whose tables are laid. -/
import Derived.Test.YtbpakmiopmgmbaaGreatDoorA1
import Derived.Laws.Rows
namespace Go.Proofs.YtbpakmiopmgmbaaGreatDoor
open Go.RowKit
abbrev e32 : Array Value := #[.int .u8 49, .int .u8 53, .int .u8 48, .int .u8 48, .int .u8 48, .int .u8 48, .int .u8 48, .int .u8 48, .int .u8 48, .int .u8 48, .int .u8 48, .int .u8 48, .int .u8 48, .int .u8 48, .int .u8 48, .int .u8 48, .int .u8 0, .int .u8 0, .int .u8 0, .int .u8 0, .int .u8 0, .int .u8 0, .int .u8 0, .int .u8 0, .int .u8 0, .int .u8 0, .int .u8 0, .int .u8 0, .int .u8 0, .int .u8 0, .int .u8 0, .int .u8 0]
set_option maxRecDepth 100000 in
set_option maxHeartbeats 1000000 in
theorem shortFloat_b (w : World) (hs : 6 < w.heap.size) (h0 : w.cell? ⟨6, 728, none⟩ = some (.int .u64 10240000000000000000)) (h1 : w.cell? ⟨6, 729, none⟩ = some (.int .u64 0)) :
    Calls Tryz.prog 118 #[.int .u64 13835058055282163712, .int .i64 (-63)] w fun e w' => e = .returned (.tuple #[.int .u64 1500000000000000, .int .i64 (-15)]) ∧ w' = w.alloc (.cells #[.int .u64 10240000000000000000, .int .u64 0, .int .i64 7] 143) := by
  obtain ⟨hw64, hand, hor, hiand⟩ := closedKit
  go_enter Tryz.func118, Tryz.ntmps118
  go_wp2
  go_ret2
  exact ⟨rfl, rfl⟩
set_option maxRecDepth 100000 in
set_option maxHeartbeats 4000000 in
theorem formatBase10_b (W : World) (n : Nat) (hn : n = W.heap.size) (T : TypeId) (o : Obj) :
    Calls Tryz.prog 84 #[.slice (some ⟨n, 0, none⟩) 16 32, .int .u64 1500000000000000] ((W.alloc (.cells z32 T)).alloc o).drew.drew fun e w' => e = .returned (.tuple #[]) ∧ w' = ((W.alloc (.cells e32 T)).alloc o).drewN 10 := by
  subst hn
  obtain ⟨hw64, hand, hor, hiand⟩ := closedKit
  go_enter Tryz.func84, Tryz.ntmps84
  go_wp2
  refine wp_loop_rounds 5 ?_
  rw [rounds_succ]
  go_wp2
  go_region
  go_wp2
  go_region
  go_wp2
  go_region
  go_wp2
  go_region
  go_wp2
  rw [rounds_succ]
  go_wp2
  go_region
  go_wp2
  go_region
  go_wp2
  go_region
  go_wp2
  go_region
  go_wp2
  rw [rounds_succ]
  go_wp2
  go_end0
  exact ⟨rfl, rfl⟩
set_option maxRecDepth 100000 in
set_option maxHeartbeats 4000000 in
theorem setDigits_b (W : World) (n : Nat) (hn : n = W.heap.size) (T : TypeId) (o : Obj) :
    Calls Tryz.prog 113 #[.slice (some ⟨n, 0, none⟩) 32 32, .int .u64 1500000000000000, .int .i64 (-15), .int .i64 16] ((W.alloc (.cells z32 T)).alloc o).drew.drew fun e w' => e = .returned (.tuple #[.int .i64 1, .int .i64 2]) ∧ w' = ((W.alloc (.cells e32 T)).alloc o).drewN 10 := by
  subst hn
  obtain ⟨hw64, hand, hor, hiand⟩ := closedKit
  go_enter Tryz.func113, Tryz.ntmps113
  go_wp2_with (go_at_call 84; refine (formatBase10_b _ _ rfl _ _).mono ?_; rintro e w' ⟨rfl, rfl⟩)
  go_rounds 18
  go_ret2
  exact ⟨rfl, rfl⟩
set_option maxRecDepth 100000 in
set_option maxHeartbeats 4000000 in
theorem fmtEFG_b (W : World) (T : TypeId) (o : Obj) (k : Nat) :
    Calls Tryz.prog 111 #[.slice (some ⟨W.heap.size, 0, none⟩) 0 24, .bool false, .slice (some ⟨W.heap.size + 1, 0, none⟩) 32 32, .int .i64 1, .int .i64 2, .int .i64 2, .int .u8 103, .bool true] ((((W.alloc (.cells z24 5)).alloc (.cells e32 T)).alloc o).drewN k) fun e w' => e = .returned (.slice (some ⟨W.heap.size, 0, none⟩) 3 24) ∧
      w' = (((((((((W.alloc (.cells z24 5)).alloc (.cells e32 T)).alloc o).drewN k).setCell ⟨W.heap.size, 0, none⟩ (.int .u8 49)).setCell ⟨W.heap.size, 1, none⟩ (.int .u8 46)).setCell ⟨W.heap.size, 2, none⟩ (.int .u8 53)).alloc (.cells #[.int .u8 49] 5)).alloc (.cells #[.int .u8 46] 5)).alloc (.cells #[.int .u8 53] 5) := by
  obtain ⟨hw64, hand, hor, hiand⟩ := closedKit
  go_enter Tryz.func111, Tryz.ntmps111
  go_wp2
  refine wp_loop_rounds 3 ?_
  rw [rounds_succ]
  go_wp2
  rw [rounds_succ]
  go_wp2
  go_rounds 3
  go_rounds 3
  go_rounds 3
  go_rounds 3
  go_ret
  exact ⟨rfl, rfl⟩
set_option maxRecDepth 100000 in
set_option maxHeartbeats 1000000 in
theorem len64_c (w : World) :
    Calls Tryz.prog 103 #[.int .u64 1500000000000000] w fun e w' => e = .returned (.int .i64 51) ∧ w = w' := by
  obtain ⟨hw64, hand, hor, hiand⟩ := closedKit
  go_enter Tryz.func103, Tryz.ntmps103
  go_wp2
  go_ret
  exact ⟨by kernel_rfl, rfl⟩
set_option maxRecDepth 100000 in
set_option maxHeartbeats 1000000 in
theorem numDigits_b (w : World) (h : w.cell? ⟨2, 15, none⟩ = some (.int .u64 1000000000000000)) :
    Calls Tryz.prog 83 #[.int .u64 1500000000000000] w fun e w' => e = .returned (.int .i64 16) ∧ w = w' := by
  obtain ⟨hw64, hand, hor, hiand⟩ := closedKit
  go_enter Tryz.func83, Tryz.ntmps83
  go_wp2_with (first | (go_at_call 103; refine (len64_c _).mono ?_; rintro e w' ⟨rfl, rfl⟩) | go_in)
  go_ret
  exact ⟨rfl, rfl⟩
set_option maxRecDepth 100000 in
set_option maxHeartbeats 1000000 in
theorem len64_e (w : World) :
    Calls Tryz.prog 103 #[.int .u64 6755399441055744] w fun e w' => e = .returned (.int .i64 53) ∧ w = w' := by
  obtain ⟨hw64, hand, hor, hiand⟩ := closedKit
  go_enter Tryz.func103, Tryz.ntmps103
  go_wp2
  go_ret
  exact ⟨by kernel_rfl, rfl⟩
/-- Three cells of one block, written. -/
theorem set3 (W : World) (g : Nat) (x0 x1 x2 : Value) (C : Array Value) (hC : 3 ≤ C.size) (hc : ∀ j, W.cell? ⟨g, j, none⟩ = C[j]?) :
    (((W.setCell ⟨g, 0, none⟩ x0).setCell ⟨g, 1, none⟩ x1).setCell ⟨g, 2, none⟩ x2).cell? ⟨g, 0, none⟩ = some x0 ∧
    (((W.setCell ⟨g, 0, none⟩ x0).setCell ⟨g, 1, none⟩ x1).setCell ⟨g, 2, none⟩ x2).cell? ⟨g, 1, none⟩ = some x1 ∧
    (((W.setCell ⟨g, 0, none⟩ x0).setCell ⟨g, 1, none⟩ x1).setCell ⟨g, 2, none⟩ x2).cell? ⟨g, 2, none⟩ = some x2 := by
  have o : ∀ (w : World) (i j : Nat) (x : Value), i ≠ j → (w.setCell ⟨g, i, none⟩ x).cell? ⟨g, j, none⟩ = w.cell? ⟨g, j, none⟩ := fun w i j x h => World.cell?_setCell_other _ _ _ _ (by intro e; simp only [Addr.mk.injEq] at e; omega)
  have k : ∀ j, j < 3 → ∃ u, W.cell? ⟨g, j, none⟩ = some u := fun j hj => ⟨C[j], by rw [hc]; exact Array.getElem?_eq_getElem (by omega)⟩
  obtain ⟨u0, k0⟩ := k 0 (by omega)
  obtain ⟨u1, k1⟩ := k 1 (by omega)
  obtain ⟨u2, k2⟩ := k 2 (by omega)
  refine ⟨?_, ?_, ?_⟩
  · rw [o _ 2 0 _ (by omega), o _ 1 0 _ (by omega)]
    exact World.cell?_setCell_same _ _ _ k0
  · rw [o _ 2 1 _ (by omega)]
    exact World.cell?_setCell_same _ _ _ (by rw [o _ 0 1 _ (by omega)]; exact k1)
  · exact World.cell?_setCell_same _ _ _ (by rw [o _ 1 2 _ (by omega), o _ 0 2 _ (by omega)]; exact k2)
set_option maxRecDepth 100000 in
set_option maxHeartbeats 1000000 in
theorem ftoa64_b (w : World) (hs : 6 < w.heap.size) (hs6 : 2 < w.heap.size) (h0 : w.cell? ⟨6, 728, none⟩ = some (.int .u64 10240000000000000000)) (h1 : w.cell? ⟨6, 729, none⟩ = some (.int .u64 0)) (h6 : w.cell? ⟨2, 15, none⟩ = some (.int .u64 1000000000000000)) :
    Calls Tryz.prog 87 #[.slice (some ⟨w.heap.size, 0, none⟩) 0 24, .float .f64 4609434218613702656, .int .u8 103, .int .i64 (-1)] (w.alloc (.cells z24 5)) fun e w' => e = .returned (.slice (some ⟨w.heap.size, 0, none⟩) 3 24) ∧ Below w.heap.size w w' ∧ w'.cell? ⟨w.heap.size, 0, none⟩ = some (.int .u8 49) ∧ w'.cell? ⟨w.heap.size, 1, none⟩ = some (.int .u8 46) ∧ w'.cell? ⟨w.heap.size, 2, none⟩ = some (.int .u8 53) := by
  have h6' := fun o1 o2 o3 => (cell_alloc3 w 2 15 hs6 o1 o2 o3).trans h6
  have h0' := fun o1 o2 => (cell_alloc2 w 6 728 hs o1 o2).trans h0
  have h1' := fun o1 o2 => (cell_alloc2 w 6 729 hs o1 o2).trans h1
  have hs' : ∀ o1 o2, 6 < ((w.alloc o1).alloc o2).drew.heap.size := fun o1 o2 => by simp; omega
  have hz : ∀ o : Obj, w.heap.size + 1 = (w.alloc o).heap.size := fun o => by simp
  have HZ := Lib.hid hz
  clear hz
  have H6 := Lib.hid h6'
  have H0 := Lib.hid h0'
  have H1 := Lib.hid h1'
  have HS := Lib.hid hs'
  clear h6' h0' h1' hs'
  obtain ⟨hw64, hand, hor, hiand⟩ := closedKit
  go_enter Tryz.func87, Tryz.ntmps87
  have hfb := call_float64bits
  go_wp2
  go_region
  go_wp2_with (first | (go_at_call 103; refine (len64_e _).mono ?_; rintro e w' ⟨rfl, rfl⟩) | (go_at_call 118; refine (shortFloat_b _ (HS.out _ _) (H0.out _ _) (H1.out _ _)).mono ?_; rintro e w' ⟨rfl, rfl⟩) | go_in)
  go_region_with (first | (go_at_call 83; go_must (go_fit (numDigits_b _ (H6.out _ _ _))); rintro e w' ⟨rfl, rfl⟩) | (go_at_call 113; go_must (go_fit (setDigits_b (w.alloc (.cells z24 5)) _ (HZ.out _) 119 _)); rintro e w' ⟨rfl, rfl⟩))
  go_wp2_with (first | (go_at_call 111; go_must (go_fit (fmtEFG_b _ _ _ _)); rintro e w' ⟨rfl, rfl⟩) | go_in)
  go_ret
  have B := below_drewN ((((Below.refl w.heap.size w).alloc (Nat.le_refl _) (.cells z24 5)).alloc (by simp) (.cells e32 119)).alloc (by simp; omega) (.cells #[.int .u64 10240000000000000000, .int .u64 0, .int .i64 7] 143)) 10
  have hz24 : ∀ j, ((((w.alloc (.cells z24 5)).alloc (.cells e32 119)).alloc (.cells #[.int .u64 10240000000000000000, .int .u64 0, .int .i64 7] 143)).drewN 10).cell? ⟨w.heap.size, j, none⟩ = z24[j]? := fun j => by
    show (((w.alloc _).alloc _).alloc _).cell? _ = _
    rw [World.cell?_alloc_lt _ _ _ (by simp; omega), World.cell?_alloc_lt _ _ _ (by simp)]
    exact cell_of_row _ _ _ _ _ _ (heap_alloc_new w _)
  refine ⟨rfl, ?_, ?_, ?_, ?_⟩
  · exact (((((B.setCell (p := ⟨w.heap.size, 0, none⟩) (Nat.le_refl _) _).setCell (p := ⟨w.heap.size, 1, none⟩) (Nat.le_refl _) _).setCell (p := ⟨w.heap.size, 2, none⟩) (Nat.le_refl _) _).alloc (by simp [World.setCell, World.drewN]; omega) _).alloc (by simp [World.setCell, World.drewN]; omega) _).alloc (by simp [World.setCell, World.drewN]; omega) _
  all_goals
    rw [World.cell?_alloc_lt _ _ _ (by simp [World.setCell, World.drewN]; omega), World.cell?_alloc_lt _ _ _ (by simp [World.setCell, World.drewN]; omega), World.cell?_alloc_lt _ _ _ (by simp [World.setCell, World.drewN]; omega)]
  · exact (set3 _ _ _ _ _ z24 (by decide) hz24).1
  · exact (set3 _ _ _ _ _ z24 (by decide) hz24).2.1
  · exact (set3 _ _ _ _ _ z24 (by decide) hz24).2.2
theorem bytes3 (w : World) (b : Nat) (x y z : Int) (cap : Nat) (h0 : w.cell? ⟨b, 0, none⟩ = some (.int .u8 x)) (h1 : w.cell? ⟨b, 1, none⟩ = some (.int .u8 y)) (h2 : w.cell? ⟨b, 2, none⟩ = some (.int .u8 z)) : (convert 66 9 (.slice (some ⟨b, 0, none⟩) 3 cap)).run Tryz.prog w = .ok (.string (strOfNums [x, y, z])) w := by
  refine run_convert_bytes_arg w 66 5 (by kernel_rfl) (by kernel_rfl) b 0 3 cap [x, y, z] rfl ?_ 9 (by kernel_rfl)
  intro i hi
  match i, hi with
  | 0, _ => exact h0
  | 1, _ => exact h1
  | 2, _ => exact h2
set_option maxRecDepth 100000 in
set_option maxHeartbeats 1000000 in
theorem FormatFloat_b (w : World) (hs : 6 < w.heap.size) (hs6 : 2 < w.heap.size) (h0 : w.cell? ⟨6, 728, none⟩ = some (.int .u64 10240000000000000000)) (h1 : w.cell? ⟨6, 729, none⟩ = some (.int .u64 0)) (h6 : w.cell? ⟨2, 15, none⟩ = some (.int .u64 1000000000000000)) :
    Calls Tryz.prog 55 #[.float .f64 4609434218613702656, .int .u8 103, .int .i64 (-1), .int .i64 64] w fun e w' => e = .returned (.string ⟨#[49, 46, 53]⟩) ∧ Below w.heap.size w w' := by
  have hmk : ∀ w, (Instr.makeSlice 66 (.int .i64 0) (.int .i64 24)).run Tryz.prog w = .ok (.slice (some ⟨w.heap.size, 0, none⟩) 0 24) (w.alloc (.cells z24 5)) := fun _ => by kernel_rfl
  go_enter Tryz.func55, Tryz.ntmps55
  go_wp2_with (first | (go_at_call 87; go_must (go_fit (ftoa64_b w hs hs6 h0 h1 h6)); rintro e w' ⟨rfl, hb, hc, hc1, hc2⟩; have hcv := bytes3 w' w.heap.size 49 46 53 24 hc hc1 hc2) | go_in)
  go_ret
  exact ⟨rfl, hb⟩
set_option maxRecDepth 100000 in
set_option maxHeartbeats 1000000 in
theorem ContainsAny_b (w : World) :
    Calls Tryz.prog 56 #[.string ⟨#[49, 46, 53]⟩, .string ⟨#[46, 101]⟩] w fun e w' => e = .returned (.bool true) ∧ Below w.heap.size w w' := by
  have hn0 : (Instr.next (.pointer (some ⟨w.heap.size, 0, none⟩)) true 0).run Tryz.prog (w.iter ⟨#[49, 46, 53]⟩ 0) = .ok (.tuple #[.bool true, .int .i64 0, .int .i32 49]) (w.iter ⟨#[49, 46, 53]⟩ 1) := run_next_ascii (P := Tryz.prog) w ⟨#[49, 46, 53]⟩ 0 0 (by decide) (by decide)
  have hn1 : (Instr.next (.pointer (some ⟨w.heap.size, 0, none⟩)) true 0).run Tryz.prog (w.iter ⟨#[49, 46, 53]⟩ 1) = .ok (.tuple #[.bool true, .int .i64 1, .int .i32 46]) (w.iter ⟨#[49, 46, 53]⟩ 2) := run_next_ascii (P := Tryz.prog) w ⟨#[49, 46, 53]⟩ 1 0 (by decide) (by decide)
  have hib : ∀ w, (callFunc 122 #[.string ⟨#[46, 101]⟩, .int .u8 49]).run Tryz.prog w = .ok (.value (.int .i64 (-1))) w := fun _ => by kernel_rfl
  have hic : ∀ w, (callFunc 122 #[.string ⟨#[46, 101]⟩, .int .u8 46]).run Tryz.prog w = .ok (.value (.int .i64 0)) w := fun _ => by kernel_rfl
  go_enter Tryz.func56, Tryz.ntmps56
  go_wp2
  go_rounds 3
  go_ret
  exact ⟨rfl, (Below.refl _ _).alloc (Nat.le_refl _) _⟩
set_option maxRecDepth 100000 in
set_option maxHeartbeats 1000000 in
theorem Text_b (w : World) (hs : 6 < w.heap.size) (hs6 : 2 < w.heap.size) (h0 : w.cell? ⟨6, 728, none⟩ = some (.int .u64 10240000000000000000)) (h1 : w.cell? ⟨6, 729, none⟩ = some (.int .u64 0)) (h6 : w.cell? ⟨2, 15, none⟩ = some (.int .u64 1000000000000000)) :
    Calls Tryz.prog 39 #[.float .f64 4609434218613702656] w fun e w' => e = .returned (.string ⟨#[49, 46, 53]⟩) ∧ Below w.heap.size w w' := by
  have hneg : ∀ w, (Op.unary .neg (.float .f64 4609434218613702656)).run Tryz.prog w = .ok (.float .f64 13832806255468478464) w := fun _ => by kernel_rfl
  go_enter Tryz.func39, Tryz.ntmps39
  go_wp2_with (first | (go_at_call 55; go_must (go_fit (FormatFloat_b w hs hs6 h0 h1 h6)); rintro e w' ⟨rfl, hb⟩) | (go_at_call 56; go_must (go_fit (ContainsAny_b _)); rintro e w2 ⟨rfl, hb2⟩) | go_in)
  go_ret
  exact ⟨by kernel_rfl, hb.trans (hb2.mono hb.size)⟩
end Go.Proofs.YtbpakmiopmgmbaaGreatDoor
