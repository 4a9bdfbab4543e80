/- The statement PeriodTwo, walked. -/
import Derived.Test.YtbdlmidkkdmkpaaP13
import Derived.Test.YtbdlmidkkdmkpaaK1
namespace Go.Proofs.Ytbdlmidkkdmkpaa
open Go.RowKit
set_option maxRecDepth 100000 in
set_option maxHeartbeats 8000000 in
theorem Two_walk (a b c d t : Int) (w : World) : Calls Try.prog 3 #[.agg #[.int .u64 a, .int .u64 b], .agg #[.int .u64 c, .int .u64 d], .int .u64 t] w fun e w' => e = .returned (.bool true) ∧ Below w.heap.size w w' := by
  have c1 := Meet_any a b c d
  have c2 := refMeet_any a b c d
  have c3 := Hull_any a b c d
  have c4 := refHull_any a b c d
  have c5 := Relation_any a b c d
  have c6 := refRelation_any a b c d
  have c7 := May_any a b
  have c8 := refMay_any a b
  have c9 := Has_any a b t
  have d1 := refHas_any a b t
  have d2 := Minus_any a b c d
  have d3 := refMinus_any a b c d
  have d4 := Compare_any a b c d
  have d5 := refCompare_any a b c d
  have hl := minus_length a b c d
  generalize meetF a b c d = mf at *
  generalize meetT a b c d = mt at *
  generalize meetB a b c d = mb at *
  generalize hullF a b c d = hf at *
  generalize hullT a b c d = ht at *
  generalize badE a b c d = be at *
  generalize relR a b c d = rr at *
  generalize mayB a b = my at *
  generalize hasB a b t = hs at *
  generalize minusL a b c d = ML at *
  generalize cmpP a b c d = cp at *
  have C1 := Lib.hid c1
  have C2 := Lib.hid c2
  have C3 := Lib.hid c3
  have C4 := Lib.hid c4
  have C5 := Lib.hid c5
  have C6 := Lib.hid c6
  have C7 := Lib.hid c7
  have C8 := Lib.hid c8
  have C9 := Lib.hid c9
  have D1 := Lib.hid d1
  have D2 := Lib.hid d2
  have D3 := Lib.hid d3
  have D4 := Lib.hid d4
  have D5 := Lib.hid d5
  have AW := Lib.hid awake_any
  clear c1 c2 c3 c4 c5 c6 c7 c8 c9 d1 d2 d3 d4 d5
  go_enter Try.func3, Try.ntmps3
  go_wp2_with fail
  refine (C1.out _).mono ?_
  rintro e w1 ⟨rfl, hb1⟩
  have X1b0 : Hid (Box w1 (w.heap.size) (a) (b)) := Lib.hid (Box.below (Box.alloc (box_at _ (a) (b) 24 _ rfl) _) hb1)
  have X1b1 : Hid (Box w1 (w.heap.size + 1) (c) (d)) := Lib.hid (Box.below (box_at _ (c) (d) 24 _ (by simp)) hb1)
  have B1 := Lib.hid ((((Below.refl _ w).alloc (by first | exact Nat.le_refl _ | omega | (simp; done) | (simp; omega)) (.cells #[.int .u64 (a), .int .u64 (b)] 24)).alloc (by first | exact Nat.le_refl _ | omega | (simp; done) | (simp; omega)) (.cells #[.int .u64 (c), .int .u64 (d)] 24)).trans (hb1.mono (((Below.refl _ w).alloc (by first | exact Nat.le_refl _ | omega | (simp; done) | (simp; omega)) (.cells #[.int .u64 (a), .int .u64 (b)] 24)).alloc (by first | exact Nat.le_refl _ | omega | (simp; done) | (simp; omega)) (.cells #[.int .u64 (c), .int .u64 (d)] 24)).size))
  have hz1 := B1.out.size
  clear hb1
  obtain ⟨x1b0, y1b0, f1b0, l1b0⟩ := X1b0.out
  obtain ⟨x1b1, y1b1, f1b1, l1b1⟩ := X1b1.out
  go_wp2_with fail
  refine (C2.out _).mono ?_
  rintro e w2 ⟨rfl, hb2⟩
  have X2b0 := Lib.hid (Box.below (Box.alloc X1b0.out _) hb2)
  have X2b1 := Lib.hid (Box.below (Box.alloc X1b1.out _) hb2)
  have X2m1 : Hid (Box w2 (w1.heap.size) (mf) (mt)) := Lib.hid (Box.below (box_at _ (mf) (mt) 24 _ rfl) hb2)
  have B2 := Lib.hid ((B1.out.alloc (by first | exact Nat.le_refl _ | omega | (simp; done) | (simp; omega)) (.cells #[.int .u64 (mf), .int .u64 (mt)] 24)).trans (hb2.mono (B1.out.alloc (by first | exact Nat.le_refl _ | omega | (simp; done) | (simp; omega)) (.cells #[.int .u64 (mf), .int .u64 (mt)] 24)).size))
  have hz2 := B2.out.size
  clear hb2
  clear x1b0 y1b0 f1b0 l1b0
  clear x1b1 y1b1 f1b1 l1b1
  obtain ⟨x2b0, y2b0, f2b0, l2b0⟩ := X2b0.out
  obtain ⟨x2b1, y2b1, f2b1, l2b1⟩ := X2b1.out
  go_wp2_with fail
  refine (C3.out _).mono ?_
  rintro e w3 ⟨rfl, hb3⟩
  have X3b0 := Lib.hid (Box.below (Box.alloc X2b0.out _) hb3)
  have X3b1 := Lib.hid (Box.below (Box.alloc X2b1.out _) hb3)
  have X3m1 := Lib.hid (Box.below (Box.alloc X2m1.out _) hb3)
  have X3m2 : Hid (Box w3 (w2.heap.size) (mf) (mt)) := Lib.hid (Box.below (box_at _ (mf) (mt) 24 _ rfl) hb3)
  have B3 := Lib.hid ((B2.out.alloc (by first | exact Nat.le_refl _ | omega | (simp; done) | (simp; omega)) (.cells #[.int .u64 (mf), .int .u64 (mt)] 24)).trans (hb3.mono (B2.out.alloc (by first | exact Nat.le_refl _ | omega | (simp; done) | (simp; omega)) (.cells #[.int .u64 (mf), .int .u64 (mt)] 24)).size))
  have hz3 := B3.out.size
  clear hb3
  clear x2b0 y2b0 f2b0 l2b0
  clear x2b1 y2b1 f2b1 l2b1
  obtain ⟨x3b0, y3b0, f3b0, l3b0⟩ := X3b0.out
  obtain ⟨x3b1, y3b1, f3b1, l3b1⟩ := X3b1.out
  go_wp2_with fail
  refine (C4.out _).mono ?_
  rintro e w4 ⟨rfl, hb4⟩
  have X4b0 := Lib.hid (Box.below (Box.alloc X3b0.out _) hb4)
  have X4b1 := Lib.hid (Box.below (Box.alloc X3b1.out _) hb4)
  have X4m1 := Lib.hid (Box.below (Box.alloc X3m1.out _) hb4)
  have X4m2 := Lib.hid (Box.below (Box.alloc X3m2.out _) hb4)
  have X4h1 : Hid (Box w4 (w3.heap.size) (hf) (ht)) := Lib.hid (Box.below (box_at _ (hf) (ht) 24 _ rfl) hb4)
  have B4 := Lib.hid ((B3.out.alloc (by first | exact Nat.le_refl _ | omega | (simp; done) | (simp; omega)) (.cells #[.int .u64 (hf), .int .u64 (ht)] 24)).trans (hb4.mono (B3.out.alloc (by first | exact Nat.le_refl _ | omega | (simp; done) | (simp; omega)) (.cells #[.int .u64 (hf), .int .u64 (ht)] 24)).size))
  have hz4 := B4.out.size
  clear hb4
  clear x3b0 y3b0 f3b0 l3b0
  clear x3b1 y3b1 f3b1 l3b1
  obtain ⟨x4b0, y4b0, f4b0, l4b0⟩ := X4b0.out
  obtain ⟨x4b1, y4b1, f4b1, l4b1⟩ := X4b1.out
  go_wp2_with fail
  refine (C5.out _).mono ?_
  rintro e w5 ⟨rfl, hb5⟩
  have X5b0 := Lib.hid (Box.below (Box.alloc X4b0.out _) hb5)
  have X5b1 := Lib.hid (Box.below (Box.alloc X4b1.out _) hb5)
  have X5m1 := Lib.hid (Box.below (Box.alloc X4m1.out _) hb5)
  have X5m2 := Lib.hid (Box.below (Box.alloc X4m2.out _) hb5)
  have X5h1 := Lib.hid (Box.below (Box.alloc X4h1.out _) hb5)
  have X5h2 : Hid (Box w5 (w4.heap.size) (hf) (ht)) := Lib.hid (Box.below (box_at _ (hf) (ht) 24 _ rfl) hb5)
  have B5 := Lib.hid ((B4.out.alloc (by first | exact Nat.le_refl _ | omega | (simp; done) | (simp; omega)) (.cells #[.int .u64 (hf), .int .u64 (ht)] 24)).trans (hb5.mono (B4.out.alloc (by first | exact Nat.le_refl _ | omega | (simp; done) | (simp; omega)) (.cells #[.int .u64 (hf), .int .u64 (ht)] 24)).size))
  have hz5 := B5.out.size
  clear hb5
  clear x4b0 y4b0 f4b0 l4b0
  clear x4b1 y4b1 f4b1 l4b1
  obtain ⟨x5b0, y5b0, f5b0, l5b0⟩ := X5b0.out
  obtain ⟨x5b1, y5b1, f5b1, l5b1⟩ := X5b1.out
  go_wp2_with fail
  refine (C6.out _).mono ?_
  rintro e w6 ⟨rfl, hb6⟩
  have X6b0 := Lib.hid (Box.below X5b0.out hb6)
  have X6b1 := Lib.hid (Box.below X5b1.out hb6)
  have X6m1 := Lib.hid (Box.below X5m1.out hb6)
  have X6m2 := Lib.hid (Box.below X5m2.out hb6)
  have X6h1 := Lib.hid (Box.below X5h1.out hb6)
  have X6h2 := Lib.hid (Box.below X5h2.out hb6)
  have B6 := Lib.hid (B5.out.trans (hb6.mono B5.out.size))
  have hz6 := B6.out.size
  clear hb6
  clear x5b0 y5b0 f5b0 l5b0
  clear x5b1 y5b1 f5b1 l5b1
  obtain ⟨x6b0, y6b0, f6b0, l6b0⟩ := X6b0.out
  obtain ⟨x6b1, y6b1, f6b1, l6b1⟩ := X6b1.out
  have K0 := Lib.hid (fun wk (hb : Below w6.heap.size w6 wk) => (⟨hb, (X6b0.out.below hb).c0, (X6b0.out.below hb).c1, (X6b1.out.below hb).c0, (X6b1.out.below hb).c1, (X6m1.out.below hb).c0, (X6m1.out.below hb).c1, (X6m2.out.below hb).c0, (X6m2.out.below hb).c1, (X6h1.out.below hb).c0, (X6h1.out.below hb).c1, (X6h2.out.below hb).c0, (X6h2.out.below hb).c1⟩ : Below w6.heap.size w6 wk ∧ wk.cell? ⟨w.heap.size, 0, none⟩ = some (.int .u64 a) ∧ wk.cell? ⟨w.heap.size, 1, none⟩ = some (.int .u64 b) ∧ wk.cell? ⟨w.heap.size + 1, 0, none⟩ = some (.int .u64 c) ∧ wk.cell? ⟨w.heap.size + 1, 1, none⟩ = some (.int .u64 d) ∧ wk.cell? ⟨w1.heap.size, 0, none⟩ = some (.int .u64 mf) ∧ wk.cell? ⟨w1.heap.size, 1, none⟩ = some (.int .u64 mt) ∧ wk.cell? ⟨w2.heap.size, 0, none⟩ = some (.int .u64 mf) ∧ wk.cell? ⟨w2.heap.size, 1, none⟩ = some (.int .u64 mt) ∧ wk.cell? ⟨w3.heap.size, 0, none⟩ = some (.int .u64 hf) ∧ wk.cell? ⟨w3.heap.size, 1, none⟩ = some (.int .u64 ht) ∧ wk.cell? ⟨w4.heap.size, 0, none⟩ = some (.int .u64 hf) ∧ wk.cell? ⟨w4.heap.size, 1, none⟩ = some (.int .u64 ht)))
  clear x6b0 y6b0 f6b0 l6b0
  clear x6b1 y6b1 f6b1 l6b1
  clear C1 C2 C3 C4 C5 C6
  clear X1b0 X1b1
  clear X2b0 X2b1 X2m1
  clear X3b0 X3b1 X3m1 X3m2
  clear X4b0 X4b1 X4m1 X4m2 X4h1
  clear X5b0 X5b1 X5m1 X5m2 X5h1 X5h2
  go_wp2
  refine wp_region_held_drew (S := (fun wk => Below w6.heap.size w6 wk ∧ wk.cell? ⟨w.heap.size, 0, none⟩ = some (.int .u64 a) ∧ wk.cell? ⟨w.heap.size, 1, none⟩ = some (.int .u64 b) ∧ wk.cell? ⟨w.heap.size + 1, 0, none⟩ = some (.int .u64 c) ∧ wk.cell? ⟨w.heap.size + 1, 1, none⟩ = some (.int .u64 d) ∧ wk.cell? ⟨w1.heap.size, 0, none⟩ = some (.int .u64 mf) ∧ wk.cell? ⟨w1.heap.size, 1, none⟩ = some (.int .u64 mt) ∧ wk.cell? ⟨w2.heap.size, 0, none⟩ = some (.int .u64 mf) ∧ wk.cell? ⟨w2.heap.size, 1, none⟩ = some (.int .u64 mt) ∧ wk.cell? ⟨w3.heap.size, 0, none⟩ = some (.int .u64 hf) ∧ wk.cell? ⟨w3.heap.size, 1, none⟩ = some (.int .u64 ht) ∧ wk.cell? ⟨w4.heap.size, 0, none⟩ = some (.int .u64 hf) ∧ wk.cell? ⟨w4.heap.size, 1, none⟩ = some (.int .u64 ht))) (by kernel_rfl) (K0.out _ (Below.refl _ _).drew) (fun hHeld => ?_)
  refine wpAnyH_ready (rs := [0]) (by kernel_rfl) (by simp) ?_
  refine AllReadyH.cons rfl (fun K hK => ?_) AllReadyH.nil
  go_simp
  refine (AW.out _).mono ?_
  rintro e a0 ⟨rfl, p0⟩
  have hB := hHeld.1.trans (p0.mono hHeld.1.size)
  go_wp2_with fail
  refine hK.out _ _ (K0.out _ hB) (fun hHeld => ?_)
  clear hK K
  try simp only [Act.put, List.setIfInBounds_toArray, List.set_cons_zero, List.set_cons_succ]
  refine take_in (i := 1) (v := ?_) (some 56) rfl rfl (by kernel_rfl) (by kernel_rfl) (by kernel_rfl) (fun _ _ _ h => h) (Or.inl ⟨by rfl, ?_⟩) (by assumption) ?_
  rotate_left
  · (intro w hSw; (try dsimp only at hSw); (try go_split_ands); go_simp; try with_reducible rfl)
  try simp only [Act.put, List.setIfInBounds_toArray, List.set_cons_zero, List.set_cons_succ]
  refine take_in (i := 2) (v := ?_) (some 57) rfl rfl (by kernel_rfl) (by kernel_rfl) (by kernel_rfl) (fun _ _ _ h => h) (Or.inl ⟨by rfl, ?_⟩) (by assumption) ?_
  rotate_left
  · (intro w hSw; (try dsimp only at hSw); (try go_split_ands); go_simp; try with_reducible rfl)
  try simp only [Act.put, List.setIfInBounds_toArray, List.set_cons_zero, List.set_cons_succ]
  refine take_in (i := 4) (v := ?_) (some 59) rfl rfl (by kernel_rfl) (by kernel_rfl) (by kernel_rfl) (fun _ _ _ h => h) (Or.inl ⟨by rfl, ?_⟩) (by assumption) ?_
  rotate_left
  · (intro w hSw; (try dsimp only at hSw); (try go_split_ands); go_simp; try with_reducible rfl)
  try simp only [Act.put, List.setIfInBounds_toArray, List.set_cons_zero, List.set_cons_succ]
  refine wpAnyH_ready (rs := [3]) (by kernel_rfl) (by simp) ?_
  refine AllReadyH.cons rfl (fun K hK => ?_) AllReadyH.nil
  go_simp
  refine (C7.out _).mono ?_
  rintro e a1 ⟨rfl, p1⟩
  have hB := hHeld.1.trans (p1.mono hHeld.1.size)
  go_wp2_with fail
  refine hK.out _ _ (K0.out _ hB) (fun hHeld => ?_)
  clear hK K
  try simp only [Act.put, List.setIfInBounds_toArray, List.set_cons_zero, List.set_cons_succ]
  refine wpAnyH_ready (rs := [5]) (by kernel_rfl) (by simp) ?_
  refine AllReadyH.cons rfl (fun K hK => ?_) AllReadyH.nil
  go_simp
  refine (C8.out _).mono ?_
  rintro e a2 ⟨rfl, p2⟩
  have hB := hHeld.1.trans (p2.mono hHeld.1.size)
  go_wp2_with fail
  refine hK.out _ _ (K0.out _ hB) (fun hHeld => ?_)
  clear hK K
  try simp only [Act.put, List.setIfInBounds_toArray, List.set_cons_zero, List.set_cons_succ]
  refine take_in (i := 6) (v := ?_) (some 61) rfl rfl (by kernel_rfl) (by kernel_rfl) (by kernel_rfl) (fun _ _ _ h => h) (Or.inl ⟨by rfl, ?_⟩) (by assumption) ?_
  rotate_left
  · (intro w hSw; (try dsimp only at hSw); (try go_split_ands); go_simp; try with_reducible rfl)
  try simp only [Act.put, List.setIfInBounds_toArray, List.set_cons_zero, List.set_cons_succ]
  refine take_in (i := 7) (v := ?_) (some 62) rfl rfl (by kernel_rfl) (by kernel_rfl) (by kernel_rfl) (fun _ _ _ h => h) (Or.inl ⟨by rfl, ?_⟩) (by assumption) ?_
  rotate_left
  · (intro w hSw; (try dsimp only at hSw); (try go_split_ands); go_simp; try with_reducible rfl)
  try simp only [Act.put, List.setIfInBounds_toArray, List.set_cons_zero, List.set_cons_succ]
  refine take_in (i := 8) (v := ?_) (some 63) rfl rfl (by kernel_rfl) (by kernel_rfl) (by kernel_rfl) (fun _ _ _ h => h) (Or.inl ⟨by rfl, ?_⟩) (by assumption) ?_
  rotate_left
  · (intro w hSw; (try dsimp only at hSw); (try go_split_ands); go_simp; try with_reducible rfl)
  try simp only [Act.put, List.setIfInBounds_toArray, List.set_cons_zero, List.set_cons_succ]
  refine take_in (i := 9) (v := ?_) (some 64) rfl rfl (by kernel_rfl) (by kernel_rfl) (by kernel_rfl) (fun _ _ _ h => h) (Or.inl ⟨by rfl, ?_⟩) (by assumption) ?_
  rotate_left
  · (intro w hSw; (try dsimp only at hSw); (try go_split_ands); go_simp; try with_reducible rfl)
  try simp only [Act.put, List.setIfInBounds_toArray, List.set_cons_zero, List.set_cons_succ]
  refine take_in (i := 10) (v := ?_) (some 65) rfl rfl (by kernel_rfl) (by kernel_rfl) (by kernel_rfl) (fun _ _ _ h => h) (Or.inl ⟨by rfl, ?_⟩) (by assumption) ?_
  rotate_left
  · (intro w hSw; (try dsimp only at hSw); (try go_split_ands); go_simp; try with_reducible rfl)
  try simp only [Act.put, List.setIfInBounds_toArray, List.set_cons_zero, List.set_cons_succ]
  refine take_in (i := 12) (v := ?_) (some 67) rfl rfl (by kernel_rfl) (by kernel_rfl) (by kernel_rfl) (fun _ _ _ h => h) (Or.inl ⟨by rfl, ?_⟩) (by assumption) ?_
  rotate_left
  · (intro w hSw; (try dsimp only at hSw); (try go_split_ands); go_simp; try with_reducible rfl)
  try simp only [Act.put, List.setIfInBounds_toArray, List.set_cons_zero, List.set_cons_succ]
  refine take_in (i := 13) (v := ?_) (some 68) rfl rfl (by kernel_rfl) (by kernel_rfl) (by kernel_rfl) (fun _ _ _ h => h) (Or.inl ⟨by rfl, ?_⟩) (by assumption) ?_
  rotate_left
  · (intro w hSw; (try dsimp only at hSw); (try go_split_ands); go_simp; try with_reducible rfl)
  try simp only [Act.put, List.setIfInBounds_toArray, List.set_cons_zero, List.set_cons_succ]
  refine wpAnyH_ready (rs := [11]) (by kernel_rfl) (by simp) ?_
  refine AllReadyH.cons rfl (fun K hK => ?_) AllReadyH.nil
  go_simp
  refine (C9.out _).mono ?_
  rintro e a3 ⟨rfl, p3⟩
  have hB := hHeld.1.trans (p3.mono hHeld.1.size)
  go_wp2_with fail
  refine hK.out _ _ (K0.out _ hB) (fun hHeld => ?_)
  clear hK K
  try simp only [Act.put, List.setIfInBounds_toArray, List.set_cons_zero, List.set_cons_succ]
  refine wpAnyH_ready (rs := [14]) (by kernel_rfl) (by simp) ?_
  refine AllReadyH.cons rfl (fun K hK => ?_) AllReadyH.nil
  go_simp
  refine (D1.out _).mono ?_
  rintro e a4 ⟨rfl, p4⟩
  have hB := hHeld.1.trans (p4.mono hHeld.1.size)
  go_wp2_with fail
  refine hK.out _ _ (K0.out _ hB) (fun hHeld => ?_)
  clear hK K
  try simp only [Act.put, List.setIfInBounds_toArray, List.set_cons_zero, List.set_cons_succ]
  refine take_in (i := 15) (v := ?_) (some 70) rfl rfl (by kernel_rfl) (by kernel_rfl) (by kernel_rfl) (fun _ _ _ h => h) (Or.inl ⟨by rfl, ?_⟩) (by assumption) ?_
  rotate_left
  · (intro w hSw; (try dsimp only at hSw); (try go_split_ands); go_simp; try with_reducible rfl)
  try simp only [Act.put, List.setIfInBounds_toArray, List.set_cons_zero, List.set_cons_succ]
  refine take_in (i := 16) (v := ?_) (some 71) rfl rfl (by kernel_rfl) (by kernel_rfl) (by kernel_rfl) (fun _ _ _ h => h) (Or.inl ⟨by rfl, ?_⟩) (by assumption) ?_
  rotate_left
  · (intro w hSw; (try dsimp only at hSw); (try go_split_ands); go_simp; try with_reducible rfl)
  try simp only [Act.put, List.setIfInBounds_toArray, List.set_cons_zero, List.set_cons_succ]
  refine take_in (i := 17) (v := ?_) (some 72) rfl rfl (by kernel_rfl) (by kernel_rfl) (by kernel_rfl) (fun _ _ _ h => h) (Or.inl ⟨by rfl, ?_⟩) (by assumption) ?_
  rotate_left
  · (intro w hSw; (try dsimp only at hSw); (try go_split_ands); go_simp; try with_reducible rfl)
  try simp only [Act.put, List.setIfInBounds_toArray, List.set_cons_zero, List.set_cons_succ]
  refine take_in (i := 18) (v := ?_) (some 73) rfl rfl (by kernel_rfl) (by kernel_rfl) (by kernel_rfl) (fun _ _ _ h => h) (Or.inl ⟨by rfl, ?_⟩) (by assumption) ?_
  rotate_left
  · (intro w hSw; (try dsimp only at hSw); (try go_split_ands); go_simp; try with_reducible rfl)
  try simp only [Act.put, List.setIfInBounds_toArray, List.set_cons_zero, List.set_cons_succ]
  refine take_in (i := 19) (v := ?_) (some 74) rfl rfl (by kernel_rfl) (by kernel_rfl) (by kernel_rfl) (fun _ _ _ h => h) (Or.inl ⟨by rfl, ?_⟩) (by assumption) ?_
  rotate_left
  · (intro w hSw; (try dsimp only at hSw); (try go_split_ands); go_simp; try with_reducible rfl)
  try simp only [Act.put, List.setIfInBounds_toArray, List.set_cons_zero, List.set_cons_succ]
  refine take_in (i := 20) (v := ?_) (some 75) rfl rfl (by kernel_rfl) (by kernel_rfl) (by kernel_rfl) (fun _ _ _ h => h) (Or.inl ⟨by rfl, ?_⟩) (by assumption) ?_
  rotate_left
  · (intro w hSw; (try dsimp only at hSw); (try go_split_ands); go_simp; try with_reducible rfl)
  try simp only [Act.put, List.setIfInBounds_toArray, List.set_cons_zero, List.set_cons_succ]
  refine take_in (i := 21) (v := ?_) (some 76) rfl rfl (by kernel_rfl) (by kernel_rfl) (by kernel_rfl) (fun _ _ _ h => h) (Or.inl ⟨by rfl, ?_⟩) (by assumption) ?_
  rotate_left
  · (intro w hSw; (try dsimp only at hSw); (try go_split_ands); go_simp; try with_reducible rfl)
  try simp only [Act.put, List.setIfInBounds_toArray, List.set_cons_zero, List.set_cons_succ]
  refine take_in (i := 22) (v := ?_) (some 77) rfl rfl (by kernel_rfl) (by kernel_rfl) (by kernel_rfl) (fun _ _ _ h => h) (Or.inl ⟨by rfl, ?_⟩) (by assumption) ?_
  rotate_left
  · (intro w hSw; (try dsimp only at hSw); (try go_split_ands); go_simp; try with_reducible rfl)
  try simp only [Act.put, List.setIfInBounds_toArray, List.set_cons_zero, List.set_cons_succ]
  refine take_in (i := 23) (v := ?_) (some 78) rfl rfl (by kernel_rfl) (by kernel_rfl) (by kernel_rfl) (fun _ _ _ h => h) (Or.inl ⟨by rfl, ?_⟩) (by assumption) ?_
  rotate_left
  · (intro w hSw; (try dsimp only at hSw); (try go_split_ands); go_simp; try with_reducible rfl)
  try simp only [Act.put, List.setIfInBounds_toArray, List.set_cons_zero, List.set_cons_succ]
  refine take_in (i := 24) (v := ?_) (some 79) rfl rfl (by kernel_rfl) (by kernel_rfl) (by kernel_rfl) (fun _ _ _ h => h) (Or.inl ⟨by rfl, ?_⟩) (by assumption) ?_
  rotate_left
  · (intro w hSw; (try dsimp only at hSw); (try go_split_ands); go_simp; try with_reducible rfl)
  try simp only [Act.put, List.setIfInBounds_toArray, List.set_cons_zero, List.set_cons_succ]
  refine take_in (i := 25) (v := ?_) (some 80) rfl rfl (by kernel_rfl) (by kernel_rfl) (by kernel_rfl) (fun _ _ _ h => h) (Or.inl ⟨by rfl, ?_⟩) (by assumption) ?_
  rotate_left
  · (intro w hSw; (try dsimp only at hSw); (try go_split_ands); go_simp; try with_reducible rfl)
  try simp only [Act.put, List.setIfInBounds_toArray, List.set_cons_zero, List.set_cons_succ]
  refine take_in (i := 26) (v := ?_) (some 81) rfl rfl (by kernel_rfl) (by kernel_rfl) (by kernel_rfl) (fun _ _ _ h => h) (Or.inl ⟨by rfl, ?_⟩) (by assumption) ?_
  rotate_left
  · (intro w hSw; (try dsimp only at hSw); (try go_split_ands); go_simp; try with_reducible rfl)
  try simp only [Act.put, List.setIfInBounds_toArray, List.set_cons_zero, List.set_cons_succ]
  refine take_in (i := 27) (v := ?_) (some 82) rfl rfl (by kernel_rfl) (by kernel_rfl) (by kernel_rfl) (fun _ _ _ h => h) (Or.inl ⟨by rfl, ?_⟩) (by assumption) ?_
  rotate_left
  · (intro w hSw; (try dsimp only at hSw); (try go_split_ands); go_simp; try with_reducible rfl)
  try simp only [Act.put, List.setIfInBounds_toArray, List.set_cons_zero, List.set_cons_succ]
  refine take_in (i := 28) (v := ?_) (some 83) rfl rfl (by kernel_rfl) (by kernel_rfl) (by kernel_rfl) (fun _ _ _ h => h) (Or.inl ⟨by rfl, ?_⟩) (by assumption) ?_
  rotate_left
  · (intro w hSw; (try dsimp only at hSw); (try go_split_ands); go_simp; try with_reducible rfl)
  try simp only [Act.put, List.setIfInBounds_toArray, List.set_cons_zero, List.set_cons_succ]
  refine take_in (i := 29) (v := ?_) (some 84) rfl rfl (by kernel_rfl) (by kernel_rfl) (by kernel_rfl) (fun _ _ _ h => h) (Or.inl ⟨by rfl, ?_⟩) (by assumption) ?_
  rotate_left
  · (intro w hSw; (try dsimp only at hSw); (try go_split_ands); go_simp; try with_reducible rfl)
  try simp only [Act.put, List.setIfInBounds_toArray, List.set_cons_zero, List.set_cons_succ]
  refine take_in (i := 30) (v := ?_) (some 85) rfl rfl (by kernel_rfl) (by kernel_rfl) (by kernel_rfl) (fun _ _ _ h => h) (Or.inl ⟨by rfl, ?_⟩) (by assumption) ?_
  rotate_left
  · (intro w hSw; (try dsimp only at hSw); (try go_split_ands); go_simp; try with_reducible rfl)
  try simp only [Act.put, List.setIfInBounds_toArray, List.set_cons_zero, List.set_cons_succ]
  refine take_in (i := 31) (v := ?_) (some 86) rfl rfl (by kernel_rfl) (by kernel_rfl) (by kernel_rfl) (fun _ _ _ h => h) (Or.inl ⟨by rfl, ?_⟩) (by assumption) ?_
  rotate_left
  · (intro w hSw; (try dsimp only at hSw); (try go_split_ands); go_simp; try with_reducible rfl)
  try simp only [Act.put, List.setIfInBounds_toArray, List.set_cons_zero, List.set_cons_succ]
  refine take_in (i := 32) (v := ?_) (some 87) rfl rfl (by kernel_rfl) (by kernel_rfl) (by kernel_rfl) (fun _ _ _ h => h) (Or.inl ⟨by rfl, ?_⟩) (by assumption) ?_
  rotate_left
  · (intro w hSw; (try dsimp only at hSw); (try go_split_ands); go_simp; try with_reducible rfl)
  try simp only [Act.put, List.setIfInBounds_toArray, List.set_cons_zero, List.set_cons_succ]
  refine take_in (i := 33) (v := ?_) (some 88) rfl rfl (by kernel_rfl) (by kernel_rfl) (by kernel_rfl) (fun _ _ _ h => h) (Or.inl ⟨by rfl, ?_⟩) (by assumption) ?_
  rotate_left
  · (intro w hSw; (try dsimp only at hSw); (try go_split_ands); go_simp; try with_reducible rfl)
  try simp only [Act.put, List.setIfInBounds_toArray, List.set_cons_zero, List.set_cons_succ]
  refine take_in (i := 34) (v := ?_) (some 89) rfl rfl (by kernel_rfl) (by kernel_rfl) (by kernel_rfl) (fun _ _ _ h => h) (Or.inl ⟨by rfl, ?_⟩) (by assumption) ?_
  rotate_left
  · (intro w hSw; (try dsimp only at hSw); (try go_split_ands); go_simp; try with_reducible rfl)
  try simp only [Act.put, List.setIfInBounds_toArray, List.set_cons_zero, List.set_cons_succ]
  refine take_in (i := 35) (v := ?_) (some 90) rfl rfl (by kernel_rfl) (by kernel_rfl) (by kernel_rfl) (fun _ _ _ h => h) (Or.inl ⟨by rfl, ?_⟩) (by assumption) ?_
  rotate_left
  · (intro w hSw; (try dsimp only at hSw); (try go_split_ands); go_simp; try with_reducible rfl)
  try simp only [Act.put, List.setIfInBounds_toArray, List.set_cons_zero, List.set_cons_succ]
  refine take_in (i := 36) (v := ?_) (some 91) rfl rfl (by kernel_rfl) (by kernel_rfl) (by kernel_rfl) (fun _ _ _ h => h) (Or.inl ⟨by rfl, ?_⟩) (by assumption) ?_
  rotate_left
  · (intro w hSw; (try dsimp only at hSw); (try go_split_ands); go_simp; try with_reducible rfl)
  try simp only [Act.put, List.setIfInBounds_toArray, List.set_cons_zero, List.set_cons_succ]
  refine take_in (i := 37) (v := ?_) (some 92) rfl rfl (by kernel_rfl) (by kernel_rfl) (by kernel_rfl) (fun _ _ _ h => h) (Or.inl ⟨by rfl, ?_⟩) (by assumption) ?_
  rotate_left
  · (intro w hSw; (try dsimp only at hSw); (try go_split_ands); go_simp; try with_reducible rfl)
  try simp only [Act.put, List.setIfInBounds_toArray, List.set_cons_zero, List.set_cons_succ]
  refine take_in (i := 38) (v := ?_) (some 93) rfl rfl (by kernel_rfl) (by kernel_rfl) (by kernel_rfl) (fun _ _ _ h => h) (Or.inl ⟨by rfl, ?_⟩) (by assumption) ?_
  rotate_left
  · (intro w hSw; (try dsimp only at hSw); (try go_split_ands); go_simp; try with_reducible rfl)
  try simp only [Act.put, List.setIfInBounds_toArray, List.set_cons_zero, List.set_cons_succ]
  refine take_in (i := 39) (v := ?_) (some 94) rfl rfl (by kernel_rfl) (by kernel_rfl) (by kernel_rfl) (fun _ _ _ h => h) (Or.inl ⟨by rfl, ?_⟩) (by assumption) ?_
  rotate_left
  · (intro w hSw; (try dsimp only at hSw); (try go_split_ands); go_simp; try with_reducible rfl)
  try simp only [Act.put, List.setIfInBounds_toArray, List.set_cons_zero, List.set_cons_succ]
  refine take_in (i := 40) (v := ?_) (some 95) rfl rfl (by kernel_rfl) (by kernel_rfl) (by kernel_rfl) (fun _ _ _ h => h) (Or.inl ⟨by rfl, ?_⟩) (by assumption) ?_
  rotate_left
  · (intro w hSw; (try dsimp only at hSw); (try go_split_ands); go_simp; try with_reducible rfl)
  try simp only [Act.put, List.setIfInBounds_toArray, List.set_cons_zero, List.set_cons_succ]
  refine take_in (i := 41) (v := ?_) (some 96) rfl rfl (by kernel_rfl) (by kernel_rfl) (by kernel_rfl) (fun _ _ _ h => h) (Or.inl ⟨by rfl, ?_⟩) (by assumption) ?_
  rotate_left
  · (intro w hSw; (try dsimp only at hSw); (try go_split_ands); go_simp; try with_reducible rfl)
  try simp only [Act.put, List.setIfInBounds_toArray, List.set_cons_zero, List.set_cons_succ]
  refine take_in (i := 42) (v := ?_) (some 97) rfl rfl (by kernel_rfl) (by kernel_rfl) (by kernel_rfl) (fun _ _ _ h => h) (Or.inl ⟨by rfl, ?_⟩) (by assumption) ?_
  rotate_left
  · (intro w hSw; (try dsimp only at hSw); (try go_split_ands); go_simp; try with_reducible rfl)
  try simp only [Act.put, List.setIfInBounds_toArray, List.set_cons_zero, List.set_cons_succ]
  refine take_in (i := 43) (v := ?_) (some 98) rfl rfl (by kernel_rfl) (by kernel_rfl) (by kernel_rfl) (fun _ _ _ h => h) (Or.inl ⟨by rfl, ?_⟩) (by assumption) ?_
  rotate_left
  · (intro w hSw; (try dsimp only at hSw); (try go_split_ands); go_simp; try with_reducible rfl)
  try simp only [Act.put, List.setIfInBounds_toArray, List.set_cons_zero, List.set_cons_succ]
  refine take_in (i := 44) (v := ?_) (some 99) rfl rfl (by kernel_rfl) (by kernel_rfl) (by kernel_rfl) (fun _ _ _ h => h) (Or.inl ⟨by rfl, ?_⟩) (by assumption) ?_
  rotate_left
  · (intro w hSw; (try dsimp only at hSw); (try go_split_ands); go_simp; try with_reducible rfl)
  try simp only [Act.put, List.setIfInBounds_toArray, List.set_cons_zero, List.set_cons_succ]
  refine take_in (i := 45) (v := ?_) (some 100) rfl rfl (by kernel_rfl) (by kernel_rfl) (by kernel_rfl) (fun _ _ _ h => h) (Or.inl ⟨by rfl, ?_⟩) (by assumption) ?_
  rotate_left
  · (intro w hSw; (try dsimp only at hSw); (try go_split_ands); go_simp; try with_reducible rfl)
  try simp only [Act.put, List.setIfInBounds_toArray, List.set_cons_zero, List.set_cons_succ]
  refine take_in (i := 46) (v := ?_) (some 101) rfl rfl (by kernel_rfl) (by kernel_rfl) (by kernel_rfl) (fun _ _ _ h => h) (Or.inl ⟨by rfl, ?_⟩) (by assumption) ?_
  rotate_left
  · (intro w hSw; (try dsimp only at hSw); (try go_split_ands); go_simp; try with_reducible rfl)
  try simp only [Act.put, List.setIfInBounds_toArray, List.set_cons_zero, List.set_cons_succ]
  refine take_in (i := 47) (v := ?_) (some 102) rfl rfl (by kernel_rfl) (by kernel_rfl) (by kernel_rfl) (fun _ _ _ h => h) (Or.inl ⟨by rfl, ?_⟩) (by assumption) ?_
  rotate_left
  · (intro w hSw; (try dsimp only at hSw); (try go_split_ands); go_simp; try with_reducible rfl)
  try simp only [Act.put, List.setIfInBounds_toArray, List.set_cons_zero, List.set_cons_succ]
  refine take_in (i := 48) (v := ?_) (some 103) rfl rfl (by kernel_rfl) (by kernel_rfl) (by kernel_rfl) (fun _ _ _ h => h) (Or.inl ⟨by rfl, ?_⟩) (by assumption) ?_
  rotate_left
  · (intro w hSw; (try dsimp only at hSw); (try go_split_ands); go_simp; try with_reducible rfl)
  try simp only [Act.put, List.setIfInBounds_toArray, List.set_cons_zero, List.set_cons_succ]
  refine take_in (i := 49) (v := ?_) (some 104) rfl rfl (by kernel_rfl) (by kernel_rfl) (by kernel_rfl) (fun _ _ _ h => h) (Or.inl ⟨by rfl, ?_⟩) (by assumption) ?_
  rotate_left
  · (intro w hSw; (try dsimp only at hSw); (try go_split_ands); go_simp; try with_reducible rfl)
  try simp only [Act.put, List.setIfInBounds_toArray, List.set_cons_zero, List.set_cons_succ]
  refine take_in (i := 51) (v := ?_) (some 106) rfl rfl (by kernel_rfl) (by kernel_rfl) (by kernel_rfl) (fun _ _ _ h => h) (Or.inl ⟨by rfl, ?_⟩) (by assumption) ?_
  rotate_left
  · (intro w hSw; (try dsimp only at hSw); (try go_split_ands); go_simp; try with_reducible rfl)
  try simp only [Act.put, List.setIfInBounds_toArray, List.set_cons_zero, List.set_cons_succ]
  refine take_in (i := 52) (v := ?_) (some 107) rfl rfl (by kernel_rfl) (by kernel_rfl) (by kernel_rfl) (fun _ _ _ h => h) (Or.inl ⟨by rfl, ?_⟩) (by assumption) ?_
  rotate_left
  · (intro w hSw; (try dsimp only at hSw); (try go_split_ands); go_simp; try with_reducible rfl)
  try simp only [Act.put, List.setIfInBounds_toArray, List.set_cons_zero, List.set_cons_succ]
  refine wpAnyH_ready (rs := [50]) (by kernel_rfl) (by simp) ?_
  refine AllReadyH.cons rfl (fun K hK => ?_) AllReadyH.nil
  go_simp
  refine (D2.out _).mono ?_
  rintro e a5 ⟨A12, k12, rfl, hA12, p5⟩
  have hB := hHeld.1.trans (p5.mono hHeld.1.size)
  go_wp2_with fail
  refine hK.out _ _ (K0.out _ hB) (fun hHeld => ?_)
  clear hK K
  try simp only [Act.put, List.setIfInBounds_toArray, List.set_cons_zero, List.set_cons_succ]
  refine wpAnyH_ready (rs := [53]) (by kernel_rfl) (by simp) ?_
  refine AllReadyH.cons rfl (fun K hK => ?_) AllReadyH.nil
  go_simp
  refine (D3.out _).mono ?_
  rintro e a6 ⟨A13, k13, rfl, hA13, p6⟩
  have hB := hHeld.1.trans (p6.mono hHeld.1.size)
  have hA14 := hA12.below p6
  go_wp2_with fail
  refine hK.out _ _ (K0.out _ hB) (fun hHeld => ?_)
  clear hK K
  try simp only [Act.put, List.setIfInBounds_toArray, List.set_cons_zero, List.set_cons_succ]
  refine wpAnyH_ready (rs := [54]) (by kernel_rfl) (by simp) ?_
  refine AllReadyH.cons rfl (fun K hK => ?_) AllReadyH.nil
  go_simp
  refine (Same_yes A12 A13 ML k12 k13 a6 hA14 hA13 (by omega)).mono ?_
  rintro e a7 ⟨rfl, p7⟩
  have hB := hHeld.1.trans (p7.mono hHeld.1.size)
  go_wp2_with fail
  refine hK.out _ _ (K0.out _ hB) (fun hHeld => ?_)
  clear hK K
  try simp only [Act.put, List.setIfInBounds_toArray, List.set_cons_zero, List.set_cons_succ]
  refine take_in (i := 55) (v := ?_) (some 110) rfl rfl (by kernel_rfl) (by kernel_rfl) (by kernel_rfl) (fun _ _ _ h => h) (Or.inl ⟨by rfl, ?_⟩) (by assumption) ?_
  rotate_left
  · (intro w hSw; (try dsimp only at hSw); (try go_split_ands); go_simp; try with_reducible rfl)
  try simp only [Act.put, List.setIfInBounds_toArray, List.set_cons_zero, List.set_cons_succ]
  refine take_in (i := 56) (v := ?_) (some 111) rfl rfl (by kernel_rfl) (by kernel_rfl) (by kernel_rfl) (fun _ _ _ h => h) (Or.inl ⟨by rfl, ?_⟩) (by assumption) ?_
  rotate_left
  · (intro w hSw; (try dsimp only at hSw); (try go_split_ands); go_simp; try with_reducible rfl)
  try simp only [Act.put, List.setIfInBounds_toArray, List.set_cons_zero, List.set_cons_succ]
  refine take_in (i := 57) (v := ?_) (some 112) rfl rfl (by kernel_rfl) (by kernel_rfl) (by kernel_rfl) (fun _ _ _ h => h) (Or.inl ⟨by rfl, ?_⟩) (by assumption) ?_
  rotate_left
  · (intro w hSw; (try dsimp only at hSw); (try go_split_ands); go_simp; try with_reducible rfl)
  try simp only [Act.put, List.setIfInBounds_toArray, List.set_cons_zero, List.set_cons_succ]
  refine take_in (i := 58) (v := ?_) (some 113) rfl rfl (by kernel_rfl) (by kernel_rfl) (by kernel_rfl) (fun _ _ _ h => h) (Or.inl ⟨by rfl, ?_⟩) (by assumption) ?_
  rotate_left
  · (intro w hSw; (try dsimp only at hSw); (try go_split_ands); go_simp; try with_reducible rfl)
  try simp only [Act.put, List.setIfInBounds_toArray, List.set_cons_zero, List.set_cons_succ]
  refine take_in (i := 60) (v := ?_) (some 115) rfl rfl (by kernel_rfl) (by kernel_rfl) (by kernel_rfl) (fun _ _ _ h => h) (Or.inl ⟨by rfl, ?_⟩) (by assumption) ?_
  rotate_left
  · (intro w hSw; (try dsimp only at hSw); (try go_split_ands); go_simp; try with_reducible rfl)
  try simp only [Act.put, List.setIfInBounds_toArray, List.set_cons_zero, List.set_cons_succ]
  refine take_in (i := 61) (v := ?_) (some 116) rfl rfl (by kernel_rfl) (by kernel_rfl) (by kernel_rfl) (fun _ _ _ h => h) (Or.inl ⟨by rfl, ?_⟩) (by assumption) ?_
  rotate_left
  · (intro w hSw; (try dsimp only at hSw); (try go_split_ands); go_simp; try with_reducible rfl)
  try simp only [Act.put, List.setIfInBounds_toArray, List.set_cons_zero, List.set_cons_succ]
  refine wpAnyH_ready (rs := [59]) (by kernel_rfl) (by simp) ?_
  refine AllReadyH.cons rfl (fun K hK => ?_) AllReadyH.nil
  go_simp
  refine (D4.out _).mono ?_
  rintro e a8 ⟨rfl, p8⟩
  have hB := hHeld.1.trans (p8.mono hHeld.1.size)
  go_wp2_with fail
  refine hK.out _ _ (K0.out _ hB) (fun hHeld => ?_)
  clear hK K
  try simp only [Act.put, List.setIfInBounds_toArray, List.set_cons_zero, List.set_cons_succ]
  refine wpAnyH_ready (rs := [62]) (by kernel_rfl) (by simp) ?_
  refine AllReadyH.cons rfl (fun K hK => ?_) AllReadyH.nil
  go_simp
  refine (D5.out _).mono ?_
  rintro e a9 ⟨rfl, p9⟩
  have hB := hHeld.1.trans (p9.mono hHeld.1.size)
  go_wp2_with fail
  refine hK.out _ _ (K0.out _ hB) (fun hHeld => ?_)
  clear hK K
  try simp only [Act.put, List.setIfInBounds_toArray, List.set_cons_zero, List.set_cons_succ]
  refine take_in (i := 63) (v := ?_) (some 118) rfl rfl (by kernel_rfl) (by kernel_rfl) (by kernel_rfl) (fun _ _ _ h => h) (Or.inl ⟨by rfl, ?_⟩) (by assumption) ?_
  rotate_left
  · (intro w hSw; (try dsimp only at hSw); (try go_split_ands); go_simp; try with_reducible rfl)
  try simp only [Act.put, List.setIfInBounds_toArray, List.set_cons_zero, List.set_cons_succ]
  refine take_in (i := 64) (v := ?_) (some 119) rfl rfl (by kernel_rfl) (by kernel_rfl) (by kernel_rfl) (fun _ _ _ h => h) (Or.inl ⟨by rfl, ?_⟩) (by assumption) ?_
  rotate_left
  · (intro w hSw; (try dsimp only at hSw); (try go_split_ands); go_simp; try with_reducible rfl)
  try simp only [Act.put, List.setIfInBounds_toArray, List.set_cons_zero, List.set_cons_succ]
  refine take_in (i := 65) (v := ?_) (some 6) rfl rfl (by kernel_rfl) (by kernel_rfl) (by kernel_rfl) (fun _ _ _ h => h) (Or.inl ⟨by rfl, ?_⟩) (by assumption) ?_
  rotate_left
  · (intro w hSw; (try dsimp only at hSw); (try go_split_ands); go_simp; try with_reducible rfl)
  try simp only [Act.put, List.setIfInBounds_toArray, List.set_cons_zero, List.set_cons_succ]
  refine wpAnyH_done (by kernel_rfl) ?_ _
  go_wp2
  go_ret
  exact ⟨rfl, B6.out.trans (hHeld.1.mono B6.out.size)⟩
end Go.Proofs.Ytbdlmidkkdmkpaa
