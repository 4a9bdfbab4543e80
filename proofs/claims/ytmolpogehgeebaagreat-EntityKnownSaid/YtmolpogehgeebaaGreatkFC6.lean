/- EntityKnown's walk. -/
import Derived.Test.YtmolpogehgeebaaGreatkFC5
namespace Go.Proofs.YtmolpogehgeebaaGreat
open Go.RowKit
section
set_option linter.unusedSimpArgs false
set_option maxRecDepth 200000
set_option maxHeartbeats 64000000
theorem EOwn.far {B q : Nat} {w w' : World} {v : Value} {x : Ent} (h : EOwn B w v x) (hg : w.grownBy w' (some q)) (hq : HT w q) : EOwn B w' v x := by
  obtain ⟨sv, sp, rs, e, k1, k2, k3⟩ := h
  exact ⟨sv, sp, rs, e, World.ownsRow.kept k1 hg (Se.OwnP.free k1 hq), World.ownsRow.kept k2 hg (OwnR.free k2 hq), k3.len, fun i hi hj => ⟨(k3.at' i hi hj).1, World.ownsRow.kept (k3.at' i hi hj).2 hg ((k3.at' i hi hj).2.free hq)⟩⟩
theorem KI.more {x : Ent} (h : KI x 15 36) : KI x (min 16 15) (6 + 2 * 16) := ⟨h.good.mono (by omega), h.edge, h.id, h.val, h.keys, h.len⟩
theorem claim {P : Program} {md : Region.Mode} {ops : Array Oper} {Q : Exit → Act → World → Prop} {S : World → Prop} {fuel : Nat} {listed : Array Bool} {a : Act} {w : World} (C : (Nat → Array Bool → Act → World → Prop) → Act → Prop)
    (hC : C (fun n L a' w' => wpAnyH P md ops Q S n L a' w') a) (rest : C (fun n L a' w' => wpAnyH P md ops Q S n L a' w') a → wpAnyH P md ops Q S fuel listed a w) : wpAnyH P md ops Q S fuel listed a w := rest hC
theorem wpAnyH_as {P : Program} {md : Region.Mode} {ops : Array Oper} {Q : Exit → Act → World → Prop} {S : World → Prop} {n : Nat} {listed L : Array Bool} {a a' : Act} {w : World} (hl : L = listed) (ha : a' = a) (h : wpAnyH P md ops Q S n L a' w) : wpAnyH P md ops Q S n listed a w := by
  subst hl ha; exact h
theorem conv_cell (g : Nat) (c : UInt8) (w : World) (x : Int) (hx : x = (c.toNat : Int)) (h : w.cell? ⟨g, 0, none⟩ = some (.int .u8 x)) : (convert 70 9 (.slice (some ⟨g, 0, none⟩) 1 1)).run Tryz.prog w = .ok (.string ⟨#[c]⟩) w := by
  subst hx
  exact run_convert_bytes_back w _ _ _ ⟨g, 0, none⟩ 1 [c] Tryz.underlying70 Tryz.underlying5 Tryz.underlying9 (fun j hj => by
    match j, hj with
    | 0, _ => exact h)
/-- What stands wherever the orders of the sixteen settings meet. -/
def FKn (wr wk : World) (x : Int) (gs ps : List Nat) : Prop :=
  Below wr.heap.size wr wk ∧ (∀ g ∈ gs, g < wk.heap.size ∧ wk.cell? ⟨g, 0, none⟩ = some (.int .u8 x)) ∧ ∀ p ∈ ps, Bx wk p #[.bool false, .int .u64 0, .string ⟨#[]⟩, .int .u64 0, .int .u64 0, .slice none 0 0, .slice none 0 0] ∧ HT wk p ∧ wr.heap.size ≤ p
theorem FKn.step {wr wk w1 : World} {x : Int} {gs ps : List Nat} (h : FKn wr wk x gs ps) (hb : Below wk.heap.size wk w1) : FKn wr w1 x gs ps :=
  ⟨h.1.trans (hb.mono h.1.size), fun g hg => ⟨Nat.lt_of_lt_of_le (h.2.1 g hg).1 hb.size, (hb.cell (p := ⟨g, 0, none⟩) (h.2.1 g hg).1).trans (h.2.1 g hg).2⟩, fun p hp => ⟨(h.2.2 p hp).1.below hb, (h.2.2 p hp).2.1.below hb, (h.2.2 p hp).2.2⟩⟩
theorem FKn.newB {wr wk : World} {x : Int} {ps : List Nat} (h : FKn wr wk x [] ps) : FKn wr (wk.alloc (.cells #[.int .u8 x] 5)) x [wk.heap.size] ps := by
  have h' := h.step ((Below.refl _ _).alloc (Nat.le_refl _) (.cells #[.int .u8 x] 5))
  refine ⟨h'.1, fun g hg => ?_, h'.2.2⟩
  obtain rfl := List.mem_singleton.1 hg
  exact ⟨by simp, by rw [cell_of_row _ _ _ _ _ _ (heap_alloc_new wk _)]; rfl⟩
theorem FKn.newP {wr wk : World} {x : Int} {gs : List Nat} (h : FKn wr wk x gs []) : FKn wr (wk.alloc (.cells #[.bool false, .int .u64 0, .string ⟨#[]⟩, .int .u64 0, .int .u64 0, .slice none 0 0, .slice none 0 0] 38)) x gs [wk.heap.size] := by
  have h' := h.step ((Below.refl _ _).alloc (Nat.le_refl _) (.cells #[.bool false, .int .u64 0, .string ⟨#[]⟩, .int .u64 0, .int .u64 0, .slice none 0 0, .slice none 0 0] 38))
  refine ⟨h'.1, h'.2.1, fun g hg => ?_⟩
  obtain rfl := List.mem_singleton.1 hg
  exact ⟨Bx.new wk _ _, HT.new wk _, h.1.size⟩
theorem Known_walk13 (w : World) : Calls Tryz.prog 5 #[] w fun e w' => e = .returned (.bool true) ∧ Below w.heap.size w w' := by
  have CN := Lib.hid num13_any
  have CP := Lib.hid P13_any
  have CX := Lib.hid example_lit
  have CW := Lib.hid awake_any
  have CM3 := Lib.hid (fun W => mkBad 3 1 1 rfl W (.inl rfl))
  have CM1 := Lib.hid (fun W => mkBad 1 0 0 rfl W (.inr rfl))
  have CF := Lib.hid apForm
  have hsf := store_float
  go_enter Tryz.func5, Tryz.ntmps5
  go_upto_region 2 with (go_at_call 32; (with_reducible refine (CX.out _).mono ?_); rintro e w1 ⟨su, sq, rfl, ho, hb⟩; have B1 := Lib.hid hb; have OW := Lib.hid ho; obtain ⟨Av, cv, Pv, dv, g, AL, cL, rfl, rfl, _, rfl, _, _, _⟩ := ex3_form ho; clear hb ho)
  have HAL := (Below.refl w1.heap.size w1).alloc (Nat.le_refl _) (.cells #[.bool false, .int .u64 1, .string ⟨#[110]⟩, .int .u64 0, .int .u64 0, .slice Av 2 cv, .slice (some ⟨g, 0, none⟩) 1 dv] 38)
  have Xv := Lib.hid (Bx.new w1 #[.bool false, .int .u64 1, .string ⟨#[110]⟩, .int .u64 0, .int .u64 0, .slice Av 2 cv, .slice (some ⟨g, 0, none⟩) 1 dv] 38)
  have Ov := Lib.hid ((show EOwn w.heap.size w1 (.agg #[.bool false, .int .u64 1, .string ⟨#[110]⟩, .int .u64 0, .int .u64 0, .slice Av 2 cv, .slice (some ⟨g, 0, none⟩) 1 dv]) exE3 from OW.out).below HAL)
  have B2 := Lib.hid (B1.out.trans (HAL.mono B1.out.size))
  obtain ⟨w2, hw2⟩ : ∃ W, w1.alloc (.cells #[.bool false, .int .u64 1, .string ⟨#[110]⟩, .int .u64 0, .int .u64 0, .slice Av 2 cv, .slice (some ⟨g, 0, none⟩) 1 dv] 38) = W := ⟨_, rfl⟩
  rw [hw2] at Xv Ov B2
  try rw [hw2]
  clear hw2 HAL OW
  obtain ⟨p1, hp1⟩ : ∃ q, w1.heap.size = q := ⟨_, rfl⟩
  rw [hp1] at Xv
  try rw [hp1]
  clear hp1
  go_upto_region 4 with (go_at_call 15; (with_reducible refine (CW.out _).mono ?_); rintro e w3 ⟨rfl, hb⟩; have B3 := Lib.hid (B2.out.trans (hb.mono B2.out.size)); have Xv3 := Lib.hid (Xv.out.below hb); have Ov3 := Lib.hid (Ov.out.below hb); clear hb)
  go_upto_region 5 with (first
    | (go_at_call 33; (with_reducible refine (CP.out _ _ _).mono ?_); rintro e w4 ⟨rfl, hb⟩; have B4 := Lib.hid (B3.out.trans (hb.mono B3.out.size)); have Xv4 := Lib.hid (Xv3.out.below hb); have Ov4 := Lib.hid (Ov3.out.below hb); clear hb)
    | (go_at_call 16; (with_reducible refine (CM3.out _).mono ?_); rintro e w5 ⟨u, n0, y, rfl, ho, hb, rfl⟩; obtain ⟨ye0, yid0, ylab0, yfr0, ytil0, yval0, yps0⟩ := y; have B5 := Lib.hid (B4.out.trans (hb.mono B4.out.size)); have Xv5 := Lib.hid (Xv4.out.below hb); have Ov5 := Lib.hid (Ov4.out.below hb); obtain ⟨su, sq, rsu0, rfl, hu1, hu2, hu3⟩ := ho; obtain ⟨Ay0, cy0, rfl, _⟩ := hu1.at; obtain ⟨Py0, dy0, rfl, _⟩ := hu2.form; clear hb hu1 hu2 hu3)
    | fail)
  obtain ⟨w6, hw6⟩ : ∃ W, w5.alloc (.cells #[.bool ye0, .int .u64 yid0, .string ylab0, .int .u64 yfr0, .int .u64 ytil0, .slice Ay0 yval0.length cy0, .slice Py0 rsu0.length dy0] 38) = W := ⟨_, rfl⟩
  have HAL : Below w5.heap.size w5 w6 := by rw [← hw6]; exact (Below.refl _ _).alloc (Nat.le_refl _) _
  have B6 := Lib.hid (B5.out.trans (HAL.mono B5.out.size))
  have Xv6 := Lib.hid (Xv5.out.below HAL)
  have Ov6 := Lib.hid (Ov5.out.below HAL)
  try rw [hw6]
  clear hw6 HAL
  go_upto_region 6 with (first
    | (go_at_call 33; (with_reducible refine (CP.out _ _ _).mono ?_); rintro e w7 ⟨rfl, hb⟩; have B7 := Lib.hid (B6.out.trans (hb.mono B6.out.size)); have Xv7 := Lib.hid (Xv6.out.below hb); have Ov7 := Lib.hid (Ov6.out.below hb); clear hb)
    | (go_at_call 16; (with_reducible refine (CM1.out _).mono ?_); rintro e w8 ⟨u, n1, y, rfl, ho, hb, rfl⟩; obtain ⟨ye1, yid1, ylab1, yfr1, ytil1, yval1, yps1⟩ := y; have B8 := Lib.hid (B7.out.trans (hb.mono B7.out.size)); have Xv8 := Lib.hid (Xv7.out.below hb); have Ov8 := Lib.hid (Ov7.out.below hb); obtain ⟨su, sq, rsu1, rfl, hu1, hu2, hu3⟩ := ho; obtain ⟨Ay1, cy1, rfl, _⟩ := hu1.at; obtain ⟨Py1, dy1, rfl, _⟩ := hu2.form; clear hb hu1 hu2 hu3)
    | fail)
  obtain ⟨w9, hw9⟩ : ∃ W, w8.alloc (.cells #[.bool ye1, .int .u64 yid1, .string ylab1, .int .u64 yfr1, .int .u64 ytil1, .slice Ay1 yval1.length cy1, .slice Py1 rsu1.length dy1] 38) = W := ⟨_, rfl⟩
  have HAL : Below w8.heap.size w8 w9 := by rw [← hw9]; exact (Below.refl _ _).alloc (Nat.le_refl _) _
  have B9 := Lib.hid (B8.out.trans (HAL.mono B8.out.size))
  have Xv9 := Lib.hid (Xv8.out.below HAL)
  have Ov9 := Lib.hid (Ov8.out.below HAL)
  try rw [hw9]
  clear hw9 HAL
  go_upto_region 7 with (first
    | (go_at_call 33; (with_reducible refine (CP.out _ _ _).mono ?_); rintro e w10 ⟨rfl, hb⟩; have B10 := Lib.hid (B9.out.trans (hb.mono B9.out.size)); have Xv10 := Lib.hid (Xv9.out.below hb); have Ov10 := Lib.hid (Ov9.out.below hb); clear hb)
    | (go_at_call 21; (with_reducible refine (CF.out _).mono ?_); rintro e w11 ⟨u, n2, y, rfl, ho, hb, rfl⟩; obtain ⟨ye2, yid2, ylab2, yfr2, ytil2, yval2, yps2⟩ := y; have B11 := Lib.hid (B10.out.trans (hb.mono B10.out.size)); have Xv11 := Lib.hid (Xv10.out.below hb); have Ov11 := Lib.hid (Ov10.out.below hb); obtain ⟨su, sq, rsu2, rfl, hu1, hu2, hu3⟩ := ho; obtain ⟨Ay2, cy2, rfl, _⟩ := hu1.at; obtain ⟨Py2, dy2, rfl, _⟩ := hu2.form; clear hb hu1 hu2 hu3)
    | fail)
  obtain ⟨w12, hw12⟩ : ∃ W, w11.alloc (.cells #[.bool ye2, .int .u64 yid2, .string ylab2, .int .u64 yfr2, .int .u64 ytil2, .slice Ay2 yval2.length cy2, .slice Py2 rsu2.length dy2] 38) = W := ⟨_, rfl⟩
  have HAL : Below w11.heap.size w11 w12 := by rw [← hw12]; exact (Below.refl _ _).alloc (Nat.le_refl _) _
  have B12 := Lib.hid (B11.out.trans (HAL.mono B11.out.size))
  have Xv12 := Lib.hid (Xv11.out.below HAL)
  have Ov12 := Lib.hid (Ov11.out.below HAL)
  try rw [hw12]
  clear hw12 HAL
  have CA7 := Lib.hid (fun W (hb : Below w12.heap.size w12 W) => apBad (.agg #[.bool false, .int .u64 1, .string ⟨#[110]⟩, .int .u64 0, .int .u64 0, .slice Av 2 cv, .slice (some ⟨g, 0, none⟩) 1 dv]) 3 false 2 2 rfl W (Ov12.out.below hb).at (by omega) (.inr (.inr rfl)))
  have K7 : Hid (∀ w', Below w12.heap.size w12 w' → ∀ j, w'.cell? ⟨p1, j, none⟩ = #[.bool false, .int .u64 1, .string ⟨#[110]⟩, .int .u64 0, .int .u64 0, .slice Av 2 cv, .slice (some ⟨g, 0, none⟩) 1 dv][j]?) := Lib.hid fun w' hb => (Xv12.out.below hb).c
  go_cut [9, 10] from 54 to 60 (fun t1 t2 w' => ∃ p n y, t1 = .pointer (some ⟨p, 0, none⟩) ∧ t2 = .int .i64 n ∧ BoxE w12.heap.size w' p y ∧ Below w12.heap.size w12 w' ∧ n = 1)
  case first =>
    refine wp_region_held_drew (S := (fun w' => ∀ j, w'.cell? ⟨p1, j, none⟩ = #[.bool false, .int .u64 1, .string ⟨#[110]⟩, .int .u64 0, .int .u64 0, .slice Av 2 cv, .slice (some ⟨g, 0, none⟩) 1 dv][j]?)) (by kernel_rfl) (K7.out _ (Below.refl _ _).drew) (fun hHeld => ?_)
    refine take_in (i := 0) (v := ?_) (some 55) rfl rfl (by kernel_rfl) (by kernel_rfl) (by kernel_rfl) (fun _ _ _ h => h) (Or.inl ⟨by rfl, ?_⟩) (by assumption) ?_
    rotate_left
    · (intro w hSw; (try dsimp only at hSw); (try go_split_ands); go_simp; try with_reducible rfl)
    try simp only [Act.put, List.setIfInBounds_toArray, List.set_cons_zero, List.set_cons_succ]
    refine wpAnyH_ready (rs := [1, 7]) (by kernel_rfl) (by simp) ?_
    refine (AllReadyH.cons rfl (fun K hK => ?_) (AllReadyH.cons rfl (fun K hK => ?_) AllReadyH.nil))
    · go_simp
      (with_reducible refine (CP.out _ _ _).mono ?_)
      rintro e wq7a ⟨rfl, hb⟩
      have Hq7a := Lib.hid ((show Below w12.heap.size w12 w12.drew from (Below.refl _ _).drew).trans (hb.mono (show Below w12.heap.size w12 w12.drew from (Below.refl _ _).drew).size))
      clear hb
      go_wp2_with fail
      refine hK.out _ _ (K7.out _ Hq7a.out) (fun hHeld => ?_)
      clear hK K
      try simp only [Act.put, List.setIfInBounds_toArray, List.set_cons_zero, List.set_cons_succ]
      refine take_in (i := 2) (v := ?_) (some 57) rfl rfl (by kernel_rfl) (by kernel_rfl) (by kernel_rfl) (fun _ _ _ h => h) (Or.inl ⟨by rfl, ?_⟩) (by assumption) ?_
      rotate_left
      · (intro w hSw; (try dsimp only at hSw); (try go_split_ands); go_simp; try with_reducible rfl)
      try simp only [Act.put, List.setIfInBounds_toArray, List.set_cons_zero, List.set_cons_succ]
      refine wpAnyH_ready (rs := [3, 7]) (by kernel_rfl) (by simp) ?_
      refine (AllReadyH.cons rfl (fun K hK => ?_) (AllReadyH.cons rfl (fun K hK => ?_) AllReadyH.nil))
      · go_simp
        (with_reducible refine (CA7.out _ Hq7a.out).mono ?_)
        rintro e wq7aZ ⟨u, nnq7, y, rfl, ho, hb, hq⟩
        have Hq7aZ := Lib.hid (Hq7a.out.trans (hb.mono Hq7a.out.size))
        have HQq7 := Lib.hid hq
        obtain ⟨ye, yid, ylab, yfr, ytil, yval, yps⟩ := y
        have OWaZ := Lib.hid (EOwn.mono ho (Hq7a.out).size)
        obtain ⟨su, sq, rsu, rfl, hu1, hu2, hu3⟩ := ho
        obtain ⟨Au, cu, rfl, _⟩ := hu1.at
        obtain ⟨Aq, cq, rfl, _⟩ := hu2.form
        clear hb hq hu1 hu2 hu3
        go_wp2_with fail
        refine hK.out _ _ (K7.out _ Hq7aZ.out) (fun hHeld => ?_)
        clear hK K
        try simp only [Act.put, List.setIfInBounds_toArray, List.set_cons_zero, List.set_cons_succ]
        refine take_in (i := 4) (v := ?_) (some 54) rfl rfl (by kernel_rfl) (by kernel_rfl) (by kernel_rfl) (fun _ _ _ h => h) (Or.inl ⟨by rfl, ?_⟩) (by assumption) ?_
        rotate_left
        · (intro w hSw; (try dsimp only at hSw); (try go_split_ands); go_simp; try with_reducible rfl)
        try simp only [Act.put, List.setIfInBounds_toArray, List.set_cons_zero, List.set_cons_succ]
        refine take_in (i := 5) (v := ?_) (some 59) rfl rfl (by kernel_rfl) (by kernel_rfl) (by kernel_rfl) (fun _ _ _ h => h) (Or.inl ⟨by rfl, ?_⟩) (by assumption) ?_
        rotate_left
        · (intro w hSw; (try dsimp only at hSw); (try go_split_ands); go_simp; try with_reducible rfl)
        try simp only [Act.put, List.setIfInBounds_toArray, List.set_cons_zero, List.set_cons_succ]
        refine take_in (i := 6) (v := ?_) (some 60) rfl rfl (by kernel_rfl) (by kernel_rfl) (by kernel_rfl) (fun _ _ _ h => h) (Or.inl ⟨by rfl, ?_⟩) (by assumption) ?_
        rotate_left
        · (intro w hSw; (try dsimp only at hSw); (try go_split_ands); go_simp; try with_reducible rfl)
        try simp only [Act.put, List.setIfInBounds_toArray, List.set_cons_zero, List.set_cons_succ]
        refine wpAnyH_ready (rs := [7]) (by kernel_rfl) (by simp) ?_
        refine (AllReadyH.cons rfl (fun K hK => ?_) AllReadyH.nil)
        go_simp
        refine hK.out _ _ (K7.out _ (Hq7aZ.out.alloc Hq7aZ.out.size _)) (fun hHeld => ?_)
        clear hK K
        try simp only [Act.put, List.setIfInBounds_toArray, List.set_cons_zero, List.set_cons_succ]
        obtain ⟨wq7aZA, hWq7⟩ : ∃ W, wq7aZ.alloc (.cells #[.bool false, .int .u64 0, .string ⟨#[]⟩, .int .u64 0, .int .u64 0, .slice none 0 0, .slice none 0 0] 38) = W := ⟨_, rfl⟩
        have Hq7aZA := Lib.hid (show Below w12.heap.size w12 wq7aZA by rw [← hWq7]; exact Hq7aZ.out.alloc Hq7aZ.out.size _)
        have YBaZA := Lib.hid (show Bx wq7aZA wq7aZ.heap.size #[.bool false, .int .u64 0, .string ⟨#[]⟩, .int .u64 0, .int .u64 0, .slice none 0 0, .slice none 0 0] by rw [← hWq7]; exact Bx.new wq7aZ _ _)
        have YTaZA := Lib.hid (show HT wq7aZA wq7aZ.heap.size by rw [← hWq7]; exact HT.new wq7aZ _)
        have OWaZA := Lib.hid (show EOwn w12.heap.size wq7aZA (.agg (Ent.cells ⟨ye, yid, ylab, yfr, ytil, yval, yps⟩ (.slice Au yval.length cu) (.slice Aq rsu.length cq))) ⟨ye, yid, ylab, yfr, ytil, yval, yps⟩ by rw [← hWq7]; exact OWaZ.out.below ((Below.refl _ _).alloc (Nat.le_refl _) _))
        have y2 := YBaZA.out.c
        have y3 := YBaZA.out.fr
        try rw [hWq7] at hHeld
        try rw [hWq7]
        clear hWq7
        refine wpAnyH_ready (rs := [8]) (by kernel_rfl) (by simp) ?_
        refine (AllReadyH.cons rfl (fun K hK => ?_) AllReadyH.nil)
        go_simp
        refine hK.out _ _ (K7.out _ (box_below YBaZA.out Hq7aZA.out Hq7aZA.out.size (by first | exact Nat.le_refl _ | exact Hq7aZ.out.size) _ _ _ _ _ _ _)) (fun hHeld => ?_)
        clear hK K
        try simp only [Act.put, List.setIfInBounds_toArray, List.set_cons_zero, List.set_cons_succ]
        clear y2 y3
        refine take_in (i := 9) (v := ?_) (some 10) rfl rfl (by kernel_rfl) (by kernel_rfl) (by kernel_rfl) (fun _ _ _ h => h) (Or.inl ⟨by rfl, ?_⟩) (by assumption) ?_
        rotate_left
        · (intro w hSw; (try dsimp only at hSw); (try go_split_ands); go_simp; try with_reducible rfl)
        try simp only [Act.put, List.setIfInBounds_toArray, List.set_cons_zero, List.set_cons_succ]
        refine wpAnyH_done (by kernel_rfl) ?_ _
        obtain ⟨W9, hW9, X9, G9⟩ := box_put YBaZA.out YTaZA.out OWaZA.out
        simp only at hW9
        rw [hW9]
        have HX9 := Lib.hid X9
        have HG9 := Lib.hid (Hq7aZA.out.grown G9 Hq7aZA.out.size fun q hq => by have e := Option.some.inj hq; first | omega | (rw [← e]; exact Hq7aZ.out.size))
        clear hW9 X9 G9
        go_wp2_with fail
        go_meet
        exact ⟨_, _, _, rfl, rfl, HX9.out, HG9.out, HQq7.out⟩
      · go_simp
        refine hK.out _ _ (K7.out _ (Hq7a.out.alloc Hq7a.out.size _)) (fun hHeld => ?_)
        clear hK K
        try simp only [Act.put, List.setIfInBounds_toArray, List.set_cons_zero, List.set_cons_succ]
        obtain ⟨wq7aA, hWq7⟩ : ∃ W, wq7a.alloc (.cells #[.bool false, .int .u64 0, .string ⟨#[]⟩, .int .u64 0, .int .u64 0, .slice none 0 0, .slice none 0 0] 38) = W := ⟨_, rfl⟩
        have Hq7aA := Lib.hid (show Below w12.heap.size w12 wq7aA by rw [← hWq7]; exact Hq7a.out.alloc Hq7a.out.size _)
        have YBaA := Lib.hid (show Bx wq7aA wq7a.heap.size #[.bool false, .int .u64 0, .string ⟨#[]⟩, .int .u64 0, .int .u64 0, .slice none 0 0, .slice none 0 0] by rw [← hWq7]; exact Bx.new wq7a _ _)
        have YTaA := Lib.hid (show HT wq7aA wq7a.heap.size by rw [← hWq7]; exact HT.new wq7a _)
        try rw [hWq7] at hHeld
        try rw [hWq7]
        clear hWq7
        refine wpAnyH_ready (rs := [3]) (by kernel_rfl) (by simp) ?_
        refine (AllReadyH.cons rfl (fun K hK => ?_) AllReadyH.nil)
        go_simp
        (with_reducible refine (CA7.out _ Hq7aA.out).mono ?_)
        rintro e wq7aAZ ⟨u, nnq7, y, rfl, ho, hb, hq⟩
        have Hq7aAZ := Lib.hid (Hq7aA.out.trans (hb.mono Hq7aA.out.size))
        have HQq7 := Lib.hid hq
        obtain ⟨ye, yid, ylab, yfr, ytil, yval, yps⟩ := y
        have OWaAZ := Lib.hid (EOwn.mono ho (Hq7aA.out).size)
        obtain ⟨su, sq, rsu, rfl, hu1, hu2, hu3⟩ := ho
        obtain ⟨Au, cu, rfl, _⟩ := hu1.at
        obtain ⟨Aq, cq, rfl, _⟩ := hu2.form
        have YBaAZ := Lib.hid (YBaA.out.below hb)
        have YTaAZ := Lib.hid (YTaA.out.below hb)
        have y2 := YBaAZ.out.c
        have y3 := YBaAZ.out.fr
        clear hb hq hu1 hu2 hu3
        go_wp2_with fail
        refine hK.out _ _ (K7.out _ Hq7aAZ.out) (fun hHeld => ?_)
        clear hK K
        try simp only [Act.put, List.setIfInBounds_toArray, List.set_cons_zero, List.set_cons_succ]
        refine take_in (i := 4) (v := ?_) (some 54) rfl rfl (by kernel_rfl) (by kernel_rfl) (by kernel_rfl) (fun _ _ _ h => h) (Or.inl ⟨by rfl, ?_⟩) (by assumption) ?_
        rotate_left
        · (intro w hSw; (try dsimp only at hSw); (try go_split_ands); go_simp; try with_reducible rfl)
        try simp only [Act.put, List.setIfInBounds_toArray, List.set_cons_zero, List.set_cons_succ]
        refine take_in (i := 5) (v := ?_) (some 59) rfl rfl (by kernel_rfl) (by kernel_rfl) (by kernel_rfl) (fun _ _ _ h => h) (Or.inl ⟨by rfl, ?_⟩) (by assumption) ?_
        rotate_left
        · (intro w hSw; (try dsimp only at hSw); (try go_split_ands); go_simp; try with_reducible rfl)
        try simp only [Act.put, List.setIfInBounds_toArray, List.set_cons_zero, List.set_cons_succ]
        refine take_in (i := 6) (v := ?_) (some 60) rfl rfl (by kernel_rfl) (by kernel_rfl) (by kernel_rfl) (fun _ _ _ h => h) (Or.inl ⟨by rfl, ?_⟩) (by assumption) ?_
        rotate_left
        · (intro w hSw; (try dsimp only at hSw); (try go_split_ands); go_simp; try with_reducible rfl)
        try simp only [Act.put, List.setIfInBounds_toArray, List.set_cons_zero, List.set_cons_succ]
        refine wpAnyH_ready (rs := [8]) (by kernel_rfl) (by simp) ?_
        refine (AllReadyH.cons rfl (fun K hK => ?_) AllReadyH.nil)
        go_simp
        refine hK.out _ _ (K7.out _ (box_below YBaAZ.out Hq7aAZ.out Hq7aAZ.out.size (by first | exact Nat.le_refl _ | exact Hq7a.out.size) _ _ _ _ _ _ _)) (fun hHeld => ?_)
        clear hK K
        try simp only [Act.put, List.setIfInBounds_toArray, List.set_cons_zero, List.set_cons_succ]
        clear y2 y3
        refine take_in (i := 9) (v := ?_) (some 10) rfl rfl (by kernel_rfl) (by kernel_rfl) (by kernel_rfl) (fun _ _ _ h => h) (Or.inl ⟨by rfl, ?_⟩) (by assumption) ?_
        rotate_left
        · (intro w hSw; (try dsimp only at hSw); (try go_split_ands); go_simp; try with_reducible rfl)
        try simp only [Act.put, List.setIfInBounds_toArray, List.set_cons_zero, List.set_cons_succ]
        refine wpAnyH_done (by kernel_rfl) ?_ _
        obtain ⟨W9, hW9, X9, G9⟩ := box_put YBaAZ.out YTaAZ.out OWaAZ.out
        simp only at hW9
        rw [hW9]
        have HX9 := Lib.hid X9
        have HG9 := Lib.hid (Hq7aAZ.out.grown G9 Hq7aAZ.out.size fun q hq => by have e := Option.some.inj hq; first | omega | (rw [← e]; exact Hq7a.out.size))
        clear hW9 X9 G9
        go_wp2_with fail
        go_meet
        exact ⟨_, _, _, rfl, rfl, HX9.out, HG9.out, HQq7.out⟩
    · go_simp
      refine hK.out _ _ (K7.out _ ((show Below w12.heap.size w12 w12.drew from (Below.refl _ _).drew).alloc (show Below w12.heap.size w12 w12.drew from (Below.refl _ _).drew).size _)) (fun hHeld => ?_)
      clear hK K
      try simp only [Act.put, List.setIfInBounds_toArray, List.set_cons_zero, List.set_cons_succ]
      obtain ⟨wq7A, hWq7⟩ : ∃ W, (w12.alloc (.cells #[.bool false, .int .u64 0, .string ⟨#[]⟩, .int .u64 0, .int .u64 0, .slice none 0 0, .slice none 0 0] 38)).drew = W := ⟨_, rfl⟩
      have Hq7A := Lib.hid (show Below w12.heap.size w12 wq7A by rw [← hWq7]; exact ((Below.refl _ _).alloc (Nat.le_refl _) _).drew)
      have YBA := Lib.hid (show Bx wq7A w12.heap.size #[.bool false, .int .u64 0, .string ⟨#[]⟩, .int .u64 0, .int .u64 0, .slice none 0 0, .slice none 0 0] by rw [← hWq7]; exact (Bx.new w12 _ _).below (Below.refl _ _).drew)
      have YTA := Lib.hid (show HT wq7A w12.heap.size by rw [← hWq7]; exact (HT.new w12 _).below (Below.refl _ _).drew)
      try rw [hWq7] at hHeld
      try rw [hWq7]
      clear hWq7
      refine wpAnyH_ready (rs := [1]) (by kernel_rfl) (by simp) ?_
      refine (AllReadyH.cons rfl (fun K hK => ?_) AllReadyH.nil)
      go_simp
      (with_reducible refine (CP.out _ _ _).mono ?_)
      rintro e wq7Aa ⟨rfl, hb⟩
      have Hq7Aa := Lib.hid (Hq7A.out.trans (hb.mono Hq7A.out.size))
      have YBAa := Lib.hid (YBA.out.below hb)
      have YTAa := Lib.hid (YTA.out.below hb)
      clear hb
      go_wp2_with fail
      refine hK.out _ _ (K7.out _ Hq7Aa.out) (fun hHeld => ?_)
      clear hK K
      try simp only [Act.put, List.setIfInBounds_toArray, List.set_cons_zero, List.set_cons_succ]
      refine take_in (i := 2) (v := ?_) (some 57) rfl rfl (by kernel_rfl) (by kernel_rfl) (by kernel_rfl) (fun _ _ _ h => h) (Or.inl ⟨by rfl, ?_⟩) (by assumption) ?_
      rotate_left
      · (intro w hSw; (try dsimp only at hSw); (try go_split_ands); go_simp; try with_reducible rfl)
      try simp only [Act.put, List.setIfInBounds_toArray, List.set_cons_zero, List.set_cons_succ]
      refine wpAnyH_ready (rs := [3]) (by kernel_rfl) (by simp) ?_
      refine (AllReadyH.cons rfl (fun K hK => ?_) AllReadyH.nil)
      go_simp
      (with_reducible refine (CA7.out _ Hq7Aa.out).mono ?_)
      rintro e wq7AaZ ⟨u, nnq7, y, rfl, ho, hb, hq⟩
      have Hq7AaZ := Lib.hid (Hq7Aa.out.trans (hb.mono Hq7Aa.out.size))
      have HQq7 := Lib.hid hq
      obtain ⟨ye, yid, ylab, yfr, ytil, yval, yps⟩ := y
      have OWAaZ := Lib.hid (EOwn.mono ho (Hq7Aa.out).size)
      obtain ⟨su, sq, rsu, rfl, hu1, hu2, hu3⟩ := ho
      obtain ⟨Au, cu, rfl, _⟩ := hu1.at
      obtain ⟨Aq, cq, rfl, _⟩ := hu2.form
      have YBAaZ := Lib.hid (YBAa.out.below hb)
      have YTAaZ := Lib.hid (YTAa.out.below hb)
      have y2 := YBAaZ.out.c
      have y3 := YBAaZ.out.fr
      clear hb hq hu1 hu2 hu3
      go_wp2_with fail
      refine hK.out _ _ (K7.out _ Hq7AaZ.out) (fun hHeld => ?_)
      clear hK K
      try simp only [Act.put, List.setIfInBounds_toArray, List.set_cons_zero, List.set_cons_succ]
      refine take_in (i := 4) (v := ?_) (some 54) rfl rfl (by kernel_rfl) (by kernel_rfl) (by kernel_rfl) (fun _ _ _ h => h) (Or.inl ⟨by rfl, ?_⟩) (by assumption) ?_
      rotate_left
      · (intro w hSw; (try dsimp only at hSw); (try go_split_ands); go_simp; try with_reducible rfl)
      try simp only [Act.put, List.setIfInBounds_toArray, List.set_cons_zero, List.set_cons_succ]
      refine take_in (i := 5) (v := ?_) (some 59) rfl rfl (by kernel_rfl) (by kernel_rfl) (by kernel_rfl) (fun _ _ _ h => h) (Or.inl ⟨by rfl, ?_⟩) (by assumption) ?_
      rotate_left
      · (intro w hSw; (try dsimp only at hSw); (try go_split_ands); go_simp; try with_reducible rfl)
      try simp only [Act.put, List.setIfInBounds_toArray, List.set_cons_zero, List.set_cons_succ]
      refine take_in (i := 6) (v := ?_) (some 60) rfl rfl (by kernel_rfl) (by kernel_rfl) (by kernel_rfl) (fun _ _ _ h => h) (Or.inl ⟨by rfl, ?_⟩) (by assumption) ?_
      rotate_left
      · (intro w hSw; (try dsimp only at hSw); (try go_split_ands); go_simp; try with_reducible rfl)
      try simp only [Act.put, List.setIfInBounds_toArray, List.set_cons_zero, List.set_cons_succ]
      refine wpAnyH_ready (rs := [8]) (by kernel_rfl) (by simp) ?_
      refine (AllReadyH.cons rfl (fun K hK => ?_) AllReadyH.nil)
      go_simp
      refine hK.out _ _ (K7.out _ (box_below YBAaZ.out Hq7AaZ.out Hq7AaZ.out.size (by first | exact Nat.le_refl _ | exact Hq7AaZ.out.size) _ _ _ _ _ _ _)) (fun hHeld => ?_)
      clear hK K
      try simp only [Act.put, List.setIfInBounds_toArray, List.set_cons_zero, List.set_cons_succ]
      clear y2 y3
      refine take_in (i := 9) (v := ?_) (some 10) rfl rfl (by kernel_rfl) (by kernel_rfl) (by kernel_rfl) (fun _ _ _ h => h) (Or.inl ⟨by rfl, ?_⟩) (by assumption) ?_
      rotate_left
      · (intro w hSw; (try dsimp only at hSw); (try go_split_ands); go_simp; try with_reducible rfl)
      try simp only [Act.put, List.setIfInBounds_toArray, List.set_cons_zero, List.set_cons_succ]
      refine wpAnyH_done (by kernel_rfl) ?_ _
      obtain ⟨W9, hW9, X9, G9⟩ := box_put YBAaZ.out YTAaZ.out OWAaZ.out
      simp only at hW9
      rw [hW9]
      have HX9 := Lib.hid X9
      have HG9 := Lib.hid (Hq7AaZ.out.grown G9 Hq7AaZ.out.size fun q hq => by have e := Option.some.inj hq; first | omega | (rw [← e]; exact Hq7AaZ.out.size))
      clear hW9 X9 G9
      go_wp2_with fail
      go_meet
      exact ⟨_, _, _, rfl, rfl, HX9.out, HG9.out, HQq7.out⟩
  case rest =>
    obtain ⟨pq7, nq7, z7, rfl, rfl, _, hb, rfl⟩ := hcut
    obtain ⟨w13, rfl⟩ : ∃ x : World, x = wc := ⟨_, rfl⟩
    have B13 := Lib.hid (B12.out.trans (hb.mono B12.out.size))
    have Xv13 := Lib.hid (Xv12.out.below hb)
    have Ov13 := Lib.hid (Ov12.out.below hb)
    clear hb K7 CA7
    go_upto_region 8 with fail
    have CA8 := Lib.hid (fun W (hb : Below w13.heap.size w13 W) => apBad (.agg #[.bool false, .int .u64 1, .string ⟨#[110]⟩, .int .u64 0, .int .u64 0, .slice Av 2 cv, .slice (some ⟨g, 0, none⟩) 1 dv]) 3 true 1 1 rfl W (Ov13.out.below hb).at (by omega) (.inr (.inl rfl)))
    have K8 : Hid (∀ w', Below w13.heap.size w13 w' → ∀ j, w'.cell? ⟨p1, j, none⟩ = #[.bool false, .int .u64 1, .string ⟨#[110]⟩, .int .u64 0, .int .u64 0, .slice Av 2 cv, .slice (some ⟨g, 0, none⟩) 1 dv][j]?) := Lib.hid fun w' hb => (Xv13.out.below hb).c
    go_cut [11, 12] from 61 to 67 (fun t1 t2 w' => ∃ p n y, t1 = .pointer (some ⟨p, 0, none⟩) ∧ t2 = .int .i64 n ∧ BoxE w13.heap.size w' p y ∧ Below w13.heap.size w13 w' ∧ n = 1)
    case first =>
      refine wp_region_held_drew (S := (fun w' => ∀ j, w'.cell? ⟨p1, j, none⟩ = #[.bool false, .int .u64 1, .string ⟨#[110]⟩, .int .u64 0, .int .u64 0, .slice Av 2 cv, .slice (some ⟨g, 0, none⟩) 1 dv][j]?)) (by kernel_rfl) (K8.out _ (Below.refl _ _).drew) (fun hHeld => ?_)
      refine take_in (i := 0) (v := ?_) (some 62) rfl rfl (by kernel_rfl) (by kernel_rfl) (by kernel_rfl) (fun _ _ _ h => h) (Or.inl ⟨by rfl, ?_⟩) (by assumption) ?_
      rotate_left
      · (intro w hSw; (try dsimp only at hSw); (try go_split_ands); go_simp; try with_reducible rfl)
      try simp only [Act.put, List.setIfInBounds_toArray, List.set_cons_zero, List.set_cons_succ]
      refine wpAnyH_ready (rs := [1, 7]) (by kernel_rfl) (by simp) ?_
      refine (AllReadyH.cons rfl (fun K hK => ?_) (AllReadyH.cons rfl (fun K hK => ?_) AllReadyH.nil))
      · go_simp
        (with_reducible refine (CP.out _ _ _).mono ?_)
        rintro e wq8a ⟨rfl, hb⟩
        have Hq8a := Lib.hid ((show Below w13.heap.size w13 w13.drew from (Below.refl _ _).drew).trans (hb.mono (show Below w13.heap.size w13 w13.drew from (Below.refl _ _).drew).size))
        clear hb
        go_wp2_with fail
        refine hK.out _ _ (K8.out _ Hq8a.out) (fun hHeld => ?_)
        clear hK K
        try simp only [Act.put, List.setIfInBounds_toArray, List.set_cons_zero, List.set_cons_succ]
        refine take_in (i := 2) (v := ?_) (some 64) rfl rfl (by kernel_rfl) (by kernel_rfl) (by kernel_rfl) (fun _ _ _ h => h) (Or.inl ⟨by rfl, ?_⟩) (by assumption) ?_
        rotate_left
        · (intro w hSw; (try dsimp only at hSw); (try go_split_ands); go_simp; try with_reducible rfl)
        try simp only [Act.put, List.setIfInBounds_toArray, List.set_cons_zero, List.set_cons_succ]
        refine wpAnyH_ready (rs := [3, 7]) (by kernel_rfl) (by simp) ?_
        refine (AllReadyH.cons rfl (fun K hK => ?_) (AllReadyH.cons rfl (fun K hK => ?_) AllReadyH.nil))
        · go_simp
          (with_reducible refine (CA8.out _ Hq8a.out).mono ?_)
          rintro e wq8aZ ⟨u, nnq8, y, rfl, ho, hb, hq⟩
          have Hq8aZ := Lib.hid (Hq8a.out.trans (hb.mono Hq8a.out.size))
          have HQq8 := Lib.hid hq
          obtain ⟨ye, yid, ylab, yfr, ytil, yval, yps⟩ := y
          have OWaZ := Lib.hid (EOwn.mono ho (Hq8a.out).size)
          obtain ⟨su, sq, rsu, rfl, hu1, hu2, hu3⟩ := ho
          obtain ⟨Au, cu, rfl, _⟩ := hu1.at
          obtain ⟨Aq, cq, rfl, _⟩ := hu2.form
          clear hb hq hu1 hu2 hu3
          go_wp2_with fail
          refine hK.out _ _ (K8.out _ Hq8aZ.out) (fun hHeld => ?_)
          clear hK K
          try simp only [Act.put, List.setIfInBounds_toArray, List.set_cons_zero, List.set_cons_succ]
          refine take_in (i := 4) (v := ?_) (some 61) rfl rfl (by kernel_rfl) (by kernel_rfl) (by kernel_rfl) (fun _ _ _ h => h) (Or.inl ⟨by rfl, ?_⟩) (by assumption) ?_
          rotate_left
          · (intro w hSw; (try dsimp only at hSw); (try go_split_ands); go_simp; try with_reducible rfl)
          try simp only [Act.put, List.setIfInBounds_toArray, List.set_cons_zero, List.set_cons_succ]
          refine take_in (i := 5) (v := ?_) (some 66) rfl rfl (by kernel_rfl) (by kernel_rfl) (by kernel_rfl) (fun _ _ _ h => h) (Or.inl ⟨by rfl, ?_⟩) (by assumption) ?_
          rotate_left
          · (intro w hSw; (try dsimp only at hSw); (try go_split_ands); go_simp; try with_reducible rfl)
          try simp only [Act.put, List.setIfInBounds_toArray, List.set_cons_zero, List.set_cons_succ]
          refine take_in (i := 6) (v := ?_) (some 67) rfl rfl (by kernel_rfl) (by kernel_rfl) (by kernel_rfl) (fun _ _ _ h => h) (Or.inl ⟨by rfl, ?_⟩) (by assumption) ?_
          rotate_left
          · (intro w hSw; (try dsimp only at hSw); (try go_split_ands); go_simp; try with_reducible rfl)
          try simp only [Act.put, List.setIfInBounds_toArray, List.set_cons_zero, List.set_cons_succ]
          refine wpAnyH_ready (rs := [7]) (by kernel_rfl) (by simp) ?_
          refine (AllReadyH.cons rfl (fun K hK => ?_) AllReadyH.nil)
          go_simp
          refine hK.out _ _ (K8.out _ (Hq8aZ.out.alloc Hq8aZ.out.size _)) (fun hHeld => ?_)
          clear hK K
          try simp only [Act.put, List.setIfInBounds_toArray, List.set_cons_zero, List.set_cons_succ]
          obtain ⟨wq8aZA, hWq8⟩ : ∃ W, wq8aZ.alloc (.cells #[.bool false, .int .u64 0, .string ⟨#[]⟩, .int .u64 0, .int .u64 0, .slice none 0 0, .slice none 0 0] 38) = W := ⟨_, rfl⟩
          have Hq8aZA := Lib.hid (show Below w13.heap.size w13 wq8aZA by rw [← hWq8]; exact Hq8aZ.out.alloc Hq8aZ.out.size _)
          have YBaZA := Lib.hid (show Bx wq8aZA wq8aZ.heap.size #[.bool false, .int .u64 0, .string ⟨#[]⟩, .int .u64 0, .int .u64 0, .slice none 0 0, .slice none 0 0] by rw [← hWq8]; exact Bx.new wq8aZ _ _)
          have YTaZA := Lib.hid (show HT wq8aZA wq8aZ.heap.size by rw [← hWq8]; exact HT.new wq8aZ _)
          have OWaZA := Lib.hid (show EOwn w13.heap.size wq8aZA (.agg (Ent.cells ⟨ye, yid, ylab, yfr, ytil, yval, yps⟩ (.slice Au yval.length cu) (.slice Aq rsu.length cq))) ⟨ye, yid, ylab, yfr, ytil, yval, yps⟩ by rw [← hWq8]; exact OWaZ.out.below ((Below.refl _ _).alloc (Nat.le_refl _) _))
          have y2 := YBaZA.out.c
          have y3 := YBaZA.out.fr
          try rw [hWq8] at hHeld
          try rw [hWq8]
          clear hWq8
          refine wpAnyH_ready (rs := [8]) (by kernel_rfl) (by simp) ?_
          refine (AllReadyH.cons rfl (fun K hK => ?_) AllReadyH.nil)
          go_simp
          refine hK.out _ _ (K8.out _ (box_below YBaZA.out Hq8aZA.out Hq8aZA.out.size (by first | exact Nat.le_refl _ | exact Hq8aZ.out.size) _ _ _ _ _ _ _)) (fun hHeld => ?_)
          clear hK K
          try simp only [Act.put, List.setIfInBounds_toArray, List.set_cons_zero, List.set_cons_succ]
          clear y2 y3
          refine take_in (i := 9) (v := ?_) (some 12) rfl rfl (by kernel_rfl) (by kernel_rfl) (by kernel_rfl) (fun _ _ _ h => h) (Or.inl ⟨by rfl, ?_⟩) (by assumption) ?_
          rotate_left
          · (intro w hSw; (try dsimp only at hSw); (try go_split_ands); go_simp; try with_reducible rfl)
          try simp only [Act.put, List.setIfInBounds_toArray, List.set_cons_zero, List.set_cons_succ]
          refine wpAnyH_done (by kernel_rfl) ?_ _
          obtain ⟨W9, hW9, X9, G9⟩ := box_put YBaZA.out YTaZA.out OWaZA.out
          simp only at hW9
          rw [hW9]
          have HX9 := Lib.hid X9
          have HG9 := Lib.hid (Hq8aZA.out.grown G9 Hq8aZA.out.size fun q hq => by have e := Option.some.inj hq; first | omega | (rw [← e]; exact Hq8aZ.out.size))
          clear hW9 X9 G9
          go_wp2_with fail
          go_meet
          exact ⟨_, _, _, rfl, rfl, HX9.out, HG9.out, HQq8.out⟩
        · go_simp
          refine hK.out _ _ (K8.out _ (Hq8a.out.alloc Hq8a.out.size _)) (fun hHeld => ?_)
          clear hK K
          try simp only [Act.put, List.setIfInBounds_toArray, List.set_cons_zero, List.set_cons_succ]
          obtain ⟨wq8aA, hWq8⟩ : ∃ W, wq8a.alloc (.cells #[.bool false, .int .u64 0, .string ⟨#[]⟩, .int .u64 0, .int .u64 0, .slice none 0 0, .slice none 0 0] 38) = W := ⟨_, rfl⟩
          have Hq8aA := Lib.hid (show Below w13.heap.size w13 wq8aA by rw [← hWq8]; exact Hq8a.out.alloc Hq8a.out.size _)
          have YBaA := Lib.hid (show Bx wq8aA wq8a.heap.size #[.bool false, .int .u64 0, .string ⟨#[]⟩, .int .u64 0, .int .u64 0, .slice none 0 0, .slice none 0 0] by rw [← hWq8]; exact Bx.new wq8a _ _)
          have YTaA := Lib.hid (show HT wq8aA wq8a.heap.size by rw [← hWq8]; exact HT.new wq8a _)
          try rw [hWq8] at hHeld
          try rw [hWq8]
          clear hWq8
          refine wpAnyH_ready (rs := [3]) (by kernel_rfl) (by simp) ?_
          refine (AllReadyH.cons rfl (fun K hK => ?_) AllReadyH.nil)
          go_simp
          (with_reducible refine (CA8.out _ Hq8aA.out).mono ?_)
          rintro e wq8aAZ ⟨u, nnq8, y, rfl, ho, hb, hq⟩
          have Hq8aAZ := Lib.hid (Hq8aA.out.trans (hb.mono Hq8aA.out.size))
          have HQq8 := Lib.hid hq
          obtain ⟨ye, yid, ylab, yfr, ytil, yval, yps⟩ := y
          have OWaAZ := Lib.hid (EOwn.mono ho (Hq8aA.out).size)
          obtain ⟨su, sq, rsu, rfl, hu1, hu2, hu3⟩ := ho
          obtain ⟨Au, cu, rfl, _⟩ := hu1.at
          obtain ⟨Aq, cq, rfl, _⟩ := hu2.form
          have YBaAZ := Lib.hid (YBaA.out.below hb)
          have YTaAZ := Lib.hid (YTaA.out.below hb)
          have y2 := YBaAZ.out.c
          have y3 := YBaAZ.out.fr
          clear hb hq hu1 hu2 hu3
          go_wp2_with fail
          refine hK.out _ _ (K8.out _ Hq8aAZ.out) (fun hHeld => ?_)
          clear hK K
          try simp only [Act.put, List.setIfInBounds_toArray, List.set_cons_zero, List.set_cons_succ]
          refine take_in (i := 4) (v := ?_) (some 61) rfl rfl (by kernel_rfl) (by kernel_rfl) (by kernel_rfl) (fun _ _ _ h => h) (Or.inl ⟨by rfl, ?_⟩) (by assumption) ?_
          rotate_left
          · (intro w hSw; (try dsimp only at hSw); (try go_split_ands); go_simp; try with_reducible rfl)
          try simp only [Act.put, List.setIfInBounds_toArray, List.set_cons_zero, List.set_cons_succ]
          refine take_in (i := 5) (v := ?_) (some 66) rfl rfl (by kernel_rfl) (by kernel_rfl) (by kernel_rfl) (fun _ _ _ h => h) (Or.inl ⟨by rfl, ?_⟩) (by assumption) ?_
          rotate_left
          · (intro w hSw; (try dsimp only at hSw); (try go_split_ands); go_simp; try with_reducible rfl)
          try simp only [Act.put, List.setIfInBounds_toArray, List.set_cons_zero, List.set_cons_succ]
          refine take_in (i := 6) (v := ?_) (some 67) rfl rfl (by kernel_rfl) (by kernel_rfl) (by kernel_rfl) (fun _ _ _ h => h) (Or.inl ⟨by rfl, ?_⟩) (by assumption) ?_
          rotate_left
          · (intro w hSw; (try dsimp only at hSw); (try go_split_ands); go_simp; try with_reducible rfl)
          try simp only [Act.put, List.setIfInBounds_toArray, List.set_cons_zero, List.set_cons_succ]
          refine wpAnyH_ready (rs := [8]) (by kernel_rfl) (by simp) ?_
          refine (AllReadyH.cons rfl (fun K hK => ?_) AllReadyH.nil)
          go_simp
          refine hK.out _ _ (K8.out _ (box_below YBaAZ.out Hq8aAZ.out Hq8aAZ.out.size (by first | exact Nat.le_refl _ | exact Hq8a.out.size) _ _ _ _ _ _ _)) (fun hHeld => ?_)
          clear hK K
          try simp only [Act.put, List.setIfInBounds_toArray, List.set_cons_zero, List.set_cons_succ]
          clear y2 y3
          refine take_in (i := 9) (v := ?_) (some 12) rfl rfl (by kernel_rfl) (by kernel_rfl) (by kernel_rfl) (fun _ _ _ h => h) (Or.inl ⟨by rfl, ?_⟩) (by assumption) ?_
          rotate_left
          · (intro w hSw; (try dsimp only at hSw); (try go_split_ands); go_simp; try with_reducible rfl)
          try simp only [Act.put, List.setIfInBounds_toArray, List.set_cons_zero, List.set_cons_succ]
          refine wpAnyH_done (by kernel_rfl) ?_ _
          obtain ⟨W9, hW9, X9, G9⟩ := box_put YBaAZ.out YTaAZ.out OWaAZ.out
          simp only at hW9
          rw [hW9]
          have HX9 := Lib.hid X9
          have HG9 := Lib.hid (Hq8aAZ.out.grown G9 Hq8aAZ.out.size fun q hq => by have e := Option.some.inj hq; first | omega | (rw [← e]; exact Hq8a.out.size))
          clear hW9 X9 G9
          go_wp2_with fail
          go_meet
          exact ⟨_, _, _, rfl, rfl, HX9.out, HG9.out, HQq8.out⟩
      · go_simp
        refine hK.out _ _ (K8.out _ ((show Below w13.heap.size w13 w13.drew from (Below.refl _ _).drew).alloc (show Below w13.heap.size w13 w13.drew from (Below.refl _ _).drew).size _)) (fun hHeld => ?_)
        clear hK K
        try simp only [Act.put, List.setIfInBounds_toArray, List.set_cons_zero, List.set_cons_succ]
        obtain ⟨wq8A, hWq8⟩ : ∃ W, (w13.alloc (.cells #[.bool false, .int .u64 0, .string ⟨#[]⟩, .int .u64 0, .int .u64 0, .slice none 0 0, .slice none 0 0] 38)).drew = W := ⟨_, rfl⟩
        have Hq8A := Lib.hid (show Below w13.heap.size w13 wq8A by rw [← hWq8]; exact ((Below.refl _ _).alloc (Nat.le_refl _) _).drew)
        have YBA := Lib.hid (show Bx wq8A w13.heap.size #[.bool false, .int .u64 0, .string ⟨#[]⟩, .int .u64 0, .int .u64 0, .slice none 0 0, .slice none 0 0] by rw [← hWq8]; exact (Bx.new w13 _ _).below (Below.refl _ _).drew)
        have YTA := Lib.hid (show HT wq8A w13.heap.size by rw [← hWq8]; exact (HT.new w13 _).below (Below.refl _ _).drew)
        try rw [hWq8] at hHeld
        try rw [hWq8]
        clear hWq8
        refine wpAnyH_ready (rs := [1]) (by kernel_rfl) (by simp) ?_
        refine (AllReadyH.cons rfl (fun K hK => ?_) AllReadyH.nil)
        go_simp
        (with_reducible refine (CP.out _ _ _).mono ?_)
        rintro e wq8Aa ⟨rfl, hb⟩
        have Hq8Aa := Lib.hid (Hq8A.out.trans (hb.mono Hq8A.out.size))
        have YBAa := Lib.hid (YBA.out.below hb)
        have YTAa := Lib.hid (YTA.out.below hb)
        clear hb
        go_wp2_with fail
        refine hK.out _ _ (K8.out _ Hq8Aa.out) (fun hHeld => ?_)
        clear hK K
        try simp only [Act.put, List.setIfInBounds_toArray, List.set_cons_zero, List.set_cons_succ]
        refine take_in (i := 2) (v := ?_) (some 64) rfl rfl (by kernel_rfl) (by kernel_rfl) (by kernel_rfl) (fun _ _ _ h => h) (Or.inl ⟨by rfl, ?_⟩) (by assumption) ?_
        rotate_left
        · (intro w hSw; (try dsimp only at hSw); (try go_split_ands); go_simp; try with_reducible rfl)
        try simp only [Act.put, List.setIfInBounds_toArray, List.set_cons_zero, List.set_cons_succ]
        refine wpAnyH_ready (rs := [3]) (by kernel_rfl) (by simp) ?_
        refine (AllReadyH.cons rfl (fun K hK => ?_) AllReadyH.nil)
        go_simp
        (with_reducible refine (CA8.out _ Hq8Aa.out).mono ?_)
        rintro e wq8AaZ ⟨u, nnq8, y, rfl, ho, hb, hq⟩
        have Hq8AaZ := Lib.hid (Hq8Aa.out.trans (hb.mono Hq8Aa.out.size))
        have HQq8 := Lib.hid hq
        obtain ⟨ye, yid, ylab, yfr, ytil, yval, yps⟩ := y
        have OWAaZ := Lib.hid (EOwn.mono ho (Hq8Aa.out).size)
        obtain ⟨su, sq, rsu, rfl, hu1, hu2, hu3⟩ := ho
        obtain ⟨Au, cu, rfl, _⟩ := hu1.at
        obtain ⟨Aq, cq, rfl, _⟩ := hu2.form
        have YBAaZ := Lib.hid (YBAa.out.below hb)
        have YTAaZ := Lib.hid (YTAa.out.below hb)
        have y2 := YBAaZ.out.c
        have y3 := YBAaZ.out.fr
        clear hb hq hu1 hu2 hu3
        go_wp2_with fail
        refine hK.out _ _ (K8.out _ Hq8AaZ.out) (fun hHeld => ?_)
        clear hK K
        try simp only [Act.put, List.setIfInBounds_toArray, List.set_cons_zero, List.set_cons_succ]
        refine take_in (i := 4) (v := ?_) (some 61) rfl rfl (by kernel_rfl) (by kernel_rfl) (by kernel_rfl) (fun _ _ _ h => h) (Or.inl ⟨by rfl, ?_⟩) (by assumption) ?_
        rotate_left
        · (intro w hSw; (try dsimp only at hSw); (try go_split_ands); go_simp; try with_reducible rfl)
        try simp only [Act.put, List.setIfInBounds_toArray, List.set_cons_zero, List.set_cons_succ]
        refine take_in (i := 5) (v := ?_) (some 66) rfl rfl (by kernel_rfl) (by kernel_rfl) (by kernel_rfl) (fun _ _ _ h => h) (Or.inl ⟨by rfl, ?_⟩) (by assumption) ?_
        rotate_left
        · (intro w hSw; (try dsimp only at hSw); (try go_split_ands); go_simp; try with_reducible rfl)
        try simp only [Act.put, List.setIfInBounds_toArray, List.set_cons_zero, List.set_cons_succ]
        refine take_in (i := 6) (v := ?_) (some 67) rfl rfl (by kernel_rfl) (by kernel_rfl) (by kernel_rfl) (fun _ _ _ h => h) (Or.inl ⟨by rfl, ?_⟩) (by assumption) ?_
        rotate_left
        · (intro w hSw; (try dsimp only at hSw); (try go_split_ands); go_simp; try with_reducible rfl)
        try simp only [Act.put, List.setIfInBounds_toArray, List.set_cons_zero, List.set_cons_succ]
        refine wpAnyH_ready (rs := [8]) (by kernel_rfl) (by simp) ?_
        refine (AllReadyH.cons rfl (fun K hK => ?_) AllReadyH.nil)
        go_simp
        refine hK.out _ _ (K8.out _ (box_below YBAaZ.out Hq8AaZ.out Hq8AaZ.out.size (by first | exact Nat.le_refl _ | exact Hq8AaZ.out.size) _ _ _ _ _ _ _)) (fun hHeld => ?_)
        clear hK K
        try simp only [Act.put, List.setIfInBounds_toArray, List.set_cons_zero, List.set_cons_succ]
        clear y2 y3
        refine take_in (i := 9) (v := ?_) (some 12) rfl rfl (by kernel_rfl) (by kernel_rfl) (by kernel_rfl) (fun _ _ _ h => h) (Or.inl ⟨by rfl, ?_⟩) (by assumption) ?_
        rotate_left
        · (intro w hSw; (try dsimp only at hSw); (try go_split_ands); go_simp; try with_reducible rfl)
        try simp only [Act.put, List.setIfInBounds_toArray, List.set_cons_zero, List.set_cons_succ]
        refine wpAnyH_done (by kernel_rfl) ?_ _
        obtain ⟨W9, hW9, X9, G9⟩ := box_put YBAaZ.out YTAaZ.out OWAaZ.out
        simp only at hW9
        rw [hW9]
        have HX9 := Lib.hid X9
        have HG9 := Lib.hid (Hq8AaZ.out.grown G9 Hq8AaZ.out.size fun q hq => by have e := Option.some.inj hq; first | omega | (rw [← e]; exact Hq8AaZ.out.size))
        clear hW9 X9 G9
        go_wp2_with fail
        go_meet
        exact ⟨_, _, _, rfl, rfl, HX9.out, HG9.out, HQq8.out⟩
    case rest =>
      obtain ⟨pq8, nq8, z8, rfl, rfl, _, hb, rfl⟩ := hcut
      obtain ⟨w14, rfl⟩ : ∃ x : World, x = wc := ⟨_, rfl⟩
      have B14 := Lib.hid (B13.out.trans (hb.mono B13.out.size))
      have Xv14 := Lib.hid (Xv13.out.below hb)
      have Ov14 := Lib.hid (Ov13.out.below hb)
      clear hb K8 CA8
      go_upto_region 9 with fail
      have CA9 := Lib.hid (fun W (hb : Below w14.heap.size w14 W) => apBad (.agg #[.bool false, .int .u64 1, .string ⟨#[110]⟩, .int .u64 0, .int .u64 0, .slice Av 2 cv, .slice (some ⟨g, 0, none⟩) 1 dv]) 1 false 1 1 rfl W (Ov14.out.below hb).at (by omega) (.inl rfl))
      have K9 : Hid (∀ w', Below w14.heap.size w14 w' → ∀ j, w'.cell? ⟨p1, j, none⟩ = #[.bool false, .int .u64 1, .string ⟨#[110]⟩, .int .u64 0, .int .u64 0, .slice Av 2 cv, .slice (some ⟨g, 0, none⟩) 1 dv][j]?) := Lib.hid fun w' hb => (Xv14.out.below hb).c
      go_cut [13, 14] from 68 to 74 (fun t1 t2 w' => ∃ p n y, t1 = .pointer (some ⟨p, 0, none⟩) ∧ t2 = .int .i64 n ∧ BoxE w14.heap.size w' p y ∧ Below w14.heap.size w14 w' ∧ n = 1)
      case first =>
        refine wp_region_held_drew (S := (fun w' => ∀ j, w'.cell? ⟨p1, j, none⟩ = #[.bool false, .int .u64 1, .string ⟨#[110]⟩, .int .u64 0, .int .u64 0, .slice Av 2 cv, .slice (some ⟨g, 0, none⟩) 1 dv][j]?)) (by kernel_rfl) (K9.out _ (Below.refl _ _).drew) (fun hHeld => ?_)
        refine take_in (i := 0) (v := ?_) (some 69) rfl rfl (by kernel_rfl) (by kernel_rfl) (by kernel_rfl) (fun _ _ _ h => h) (Or.inl ⟨by rfl, ?_⟩) (by assumption) ?_
        rotate_left
        · (intro w hSw; (try dsimp only at hSw); (try go_split_ands); go_simp; try with_reducible rfl)
        try simp only [Act.put, List.setIfInBounds_toArray, List.set_cons_zero, List.set_cons_succ]
        refine wpAnyH_ready (rs := [1, 7]) (by kernel_rfl) (by simp) ?_
        refine (AllReadyH.cons rfl (fun K hK => ?_) (AllReadyH.cons rfl (fun K hK => ?_) AllReadyH.nil))
        · go_simp
          (with_reducible refine (CP.out _ _ _).mono ?_)
          rintro e wq9a ⟨rfl, hb⟩
          have Hq9a := Lib.hid ((show Below w14.heap.size w14 w14.drew from (Below.refl _ _).drew).trans (hb.mono (show Below w14.heap.size w14 w14.drew from (Below.refl _ _).drew).size))
          clear hb
          go_wp2_with fail
          refine hK.out _ _ (K9.out _ Hq9a.out) (fun hHeld => ?_)
          clear hK K
          try simp only [Act.put, List.setIfInBounds_toArray, List.set_cons_zero, List.set_cons_succ]
          refine take_in (i := 2) (v := ?_) (some 71) rfl rfl (by kernel_rfl) (by kernel_rfl) (by kernel_rfl) (fun _ _ _ h => h) (Or.inl ⟨by rfl, ?_⟩) (by assumption) ?_
          rotate_left
          · (intro w hSw; (try dsimp only at hSw); (try go_split_ands); go_simp; try with_reducible rfl)
          try simp only [Act.put, List.setIfInBounds_toArray, List.set_cons_zero, List.set_cons_succ]
          refine wpAnyH_ready (rs := [3, 7]) (by kernel_rfl) (by simp) ?_
          refine (AllReadyH.cons rfl (fun K hK => ?_) (AllReadyH.cons rfl (fun K hK => ?_) AllReadyH.nil))
          · go_simp
            (with_reducible refine (CA9.out _ Hq9a.out).mono ?_)
            rintro e wq9aZ ⟨u, nnq9, y, rfl, ho, hb, hq⟩
            have Hq9aZ := Lib.hid (Hq9a.out.trans (hb.mono Hq9a.out.size))
            have HQq9 := Lib.hid hq
            obtain ⟨ye, yid, ylab, yfr, ytil, yval, yps⟩ := y
            have OWaZ := Lib.hid (EOwn.mono ho (Hq9a.out).size)
            obtain ⟨su, sq, rsu, rfl, hu1, hu2, hu3⟩ := ho
            obtain ⟨Au, cu, rfl, _⟩ := hu1.at
            obtain ⟨Aq, cq, rfl, _⟩ := hu2.form
            clear hb hq hu1 hu2 hu3
            go_wp2_with fail
            refine hK.out _ _ (K9.out _ Hq9aZ.out) (fun hHeld => ?_)
            clear hK K
            try simp only [Act.put, List.setIfInBounds_toArray, List.set_cons_zero, List.set_cons_succ]
            refine take_in (i := 4) (v := ?_) (some 68) rfl rfl (by kernel_rfl) (by kernel_rfl) (by kernel_rfl) (fun _ _ _ h => h) (Or.inl ⟨by rfl, ?_⟩) (by assumption) ?_
            rotate_left
            · (intro w hSw; (try dsimp only at hSw); (try go_split_ands); go_simp; try with_reducible rfl)
            try simp only [Act.put, List.setIfInBounds_toArray, List.set_cons_zero, List.set_cons_succ]
            refine take_in (i := 5) (v := ?_) (some 73) rfl rfl (by kernel_rfl) (by kernel_rfl) (by kernel_rfl) (fun _ _ _ h => h) (Or.inl ⟨by rfl, ?_⟩) (by assumption) ?_
            rotate_left
            · (intro w hSw; (try dsimp only at hSw); (try go_split_ands); go_simp; try with_reducible rfl)
            try simp only [Act.put, List.setIfInBounds_toArray, List.set_cons_zero, List.set_cons_succ]
            refine take_in (i := 6) (v := ?_) (some 74) rfl rfl (by kernel_rfl) (by kernel_rfl) (by kernel_rfl) (fun _ _ _ h => h) (Or.inl ⟨by rfl, ?_⟩) (by assumption) ?_
            rotate_left
            · (intro w hSw; (try dsimp only at hSw); (try go_split_ands); go_simp; try with_reducible rfl)
            try simp only [Act.put, List.setIfInBounds_toArray, List.set_cons_zero, List.set_cons_succ]
            refine wpAnyH_ready (rs := [7]) (by kernel_rfl) (by simp) ?_
            refine (AllReadyH.cons rfl (fun K hK => ?_) AllReadyH.nil)
            go_simp
            refine hK.out _ _ (K9.out _ (Hq9aZ.out.alloc Hq9aZ.out.size _)) (fun hHeld => ?_)
            clear hK K
            try simp only [Act.put, List.setIfInBounds_toArray, List.set_cons_zero, List.set_cons_succ]
            obtain ⟨wq9aZA, hWq9⟩ : ∃ W, wq9aZ.alloc (.cells #[.bool false, .int .u64 0, .string ⟨#[]⟩, .int .u64 0, .int .u64 0, .slice none 0 0, .slice none 0 0] 38) = W := ⟨_, rfl⟩
            have Hq9aZA := Lib.hid (show Below w14.heap.size w14 wq9aZA by rw [← hWq9]; exact Hq9aZ.out.alloc Hq9aZ.out.size _)
            have YBaZA := Lib.hid (show Bx wq9aZA wq9aZ.heap.size #[.bool false, .int .u64 0, .string ⟨#[]⟩, .int .u64 0, .int .u64 0, .slice none 0 0, .slice none 0 0] by rw [← hWq9]; exact Bx.new wq9aZ _ _)
            have YTaZA := Lib.hid (show HT wq9aZA wq9aZ.heap.size by rw [← hWq9]; exact HT.new wq9aZ _)
            have OWaZA := Lib.hid (show EOwn w14.heap.size wq9aZA (.agg (Ent.cells ⟨ye, yid, ylab, yfr, ytil, yval, yps⟩ (.slice Au yval.length cu) (.slice Aq rsu.length cq))) ⟨ye, yid, ylab, yfr, ytil, yval, yps⟩ by rw [← hWq9]; exact OWaZ.out.below ((Below.refl _ _).alloc (Nat.le_refl _) _))
            have y2 := YBaZA.out.c
            have y3 := YBaZA.out.fr
            try rw [hWq9] at hHeld
            try rw [hWq9]
            clear hWq9
            refine wpAnyH_ready (rs := [8]) (by kernel_rfl) (by simp) ?_
            refine (AllReadyH.cons rfl (fun K hK => ?_) AllReadyH.nil)
            go_simp
            refine hK.out _ _ (K9.out _ (box_below YBaZA.out Hq9aZA.out Hq9aZA.out.size (by first | exact Nat.le_refl _ | exact Hq9aZ.out.size) _ _ _ _ _ _ _)) (fun hHeld => ?_)
            clear hK K
            try simp only [Act.put, List.setIfInBounds_toArray, List.set_cons_zero, List.set_cons_succ]
            clear y2 y3
            refine take_in (i := 9) (v := ?_) (some 14) rfl rfl (by kernel_rfl) (by kernel_rfl) (by kernel_rfl) (fun _ _ _ h => h) (Or.inl ⟨by rfl, ?_⟩) (by assumption) ?_
            rotate_left
            · (intro w hSw; (try dsimp only at hSw); (try go_split_ands); go_simp; try with_reducible rfl)
            try simp only [Act.put, List.setIfInBounds_toArray, List.set_cons_zero, List.set_cons_succ]
            refine wpAnyH_done (by kernel_rfl) ?_ _
            obtain ⟨W9, hW9, X9, G9⟩ := box_put YBaZA.out YTaZA.out OWaZA.out
            simp only at hW9
            rw [hW9]
            have HX9 := Lib.hid X9
            have HG9 := Lib.hid (Hq9aZA.out.grown G9 Hq9aZA.out.size fun q hq => by have e := Option.some.inj hq; first | omega | (rw [← e]; exact Hq9aZ.out.size))
            clear hW9 X9 G9
            go_wp2_with fail
            go_meet
            exact ⟨_, _, _, rfl, rfl, HX9.out, HG9.out, HQq9.out⟩
          · go_simp
            refine hK.out _ _ (K9.out _ (Hq9a.out.alloc Hq9a.out.size _)) (fun hHeld => ?_)
            clear hK K
            try simp only [Act.put, List.setIfInBounds_toArray, List.set_cons_zero, List.set_cons_succ]
            obtain ⟨wq9aA, hWq9⟩ : ∃ W, wq9a.alloc (.cells #[.bool false, .int .u64 0, .string ⟨#[]⟩, .int .u64 0, .int .u64 0, .slice none 0 0, .slice none 0 0] 38) = W := ⟨_, rfl⟩
            have Hq9aA := Lib.hid (show Below w14.heap.size w14 wq9aA by rw [← hWq9]; exact Hq9a.out.alloc Hq9a.out.size _)
            have YBaA := Lib.hid (show Bx wq9aA wq9a.heap.size #[.bool false, .int .u64 0, .string ⟨#[]⟩, .int .u64 0, .int .u64 0, .slice none 0 0, .slice none 0 0] by rw [← hWq9]; exact Bx.new wq9a _ _)
            have YTaA := Lib.hid (show HT wq9aA wq9a.heap.size by rw [← hWq9]; exact HT.new wq9a _)
            try rw [hWq9] at hHeld
            try rw [hWq9]
            clear hWq9
            refine wpAnyH_ready (rs := [3]) (by kernel_rfl) (by simp) ?_
            refine (AllReadyH.cons rfl (fun K hK => ?_) AllReadyH.nil)
            go_simp
            (with_reducible refine (CA9.out _ Hq9aA.out).mono ?_)
            rintro e wq9aAZ ⟨u, nnq9, y, rfl, ho, hb, hq⟩
            have Hq9aAZ := Lib.hid (Hq9aA.out.trans (hb.mono Hq9aA.out.size))
            have HQq9 := Lib.hid hq
            obtain ⟨ye, yid, ylab, yfr, ytil, yval, yps⟩ := y
            have OWaAZ := Lib.hid (EOwn.mono ho (Hq9aA.out).size)
            obtain ⟨su, sq, rsu, rfl, hu1, hu2, hu3⟩ := ho
            obtain ⟨Au, cu, rfl, _⟩ := hu1.at
            obtain ⟨Aq, cq, rfl, _⟩ := hu2.form
            have YBaAZ := Lib.hid (YBaA.out.below hb)
            have YTaAZ := Lib.hid (YTaA.out.below hb)
            have y2 := YBaAZ.out.c
            have y3 := YBaAZ.out.fr
            clear hb hq hu1 hu2 hu3
            go_wp2_with fail
            refine hK.out _ _ (K9.out _ Hq9aAZ.out) (fun hHeld => ?_)
            clear hK K
            try simp only [Act.put, List.setIfInBounds_toArray, List.set_cons_zero, List.set_cons_succ]
            refine take_in (i := 4) (v := ?_) (some 68) rfl rfl (by kernel_rfl) (by kernel_rfl) (by kernel_rfl) (fun _ _ _ h => h) (Or.inl ⟨by rfl, ?_⟩) (by assumption) ?_
            rotate_left
            · (intro w hSw; (try dsimp only at hSw); (try go_split_ands); go_simp; try with_reducible rfl)
            try simp only [Act.put, List.setIfInBounds_toArray, List.set_cons_zero, List.set_cons_succ]
            refine take_in (i := 5) (v := ?_) (some 73) rfl rfl (by kernel_rfl) (by kernel_rfl) (by kernel_rfl) (fun _ _ _ h => h) (Or.inl ⟨by rfl, ?_⟩) (by assumption) ?_
            rotate_left
            · (intro w hSw; (try dsimp only at hSw); (try go_split_ands); go_simp; try with_reducible rfl)
            try simp only [Act.put, List.setIfInBounds_toArray, List.set_cons_zero, List.set_cons_succ]
            refine take_in (i := 6) (v := ?_) (some 74) rfl rfl (by kernel_rfl) (by kernel_rfl) (by kernel_rfl) (fun _ _ _ h => h) (Or.inl ⟨by rfl, ?_⟩) (by assumption) ?_
            rotate_left
            · (intro w hSw; (try dsimp only at hSw); (try go_split_ands); go_simp; try with_reducible rfl)
            try simp only [Act.put, List.setIfInBounds_toArray, List.set_cons_zero, List.set_cons_succ]
            refine wpAnyH_ready (rs := [8]) (by kernel_rfl) (by simp) ?_
            refine (AllReadyH.cons rfl (fun K hK => ?_) AllReadyH.nil)
            go_simp
            refine hK.out _ _ (K9.out _ (box_below YBaAZ.out Hq9aAZ.out Hq9aAZ.out.size (by first | exact Nat.le_refl _ | exact Hq9a.out.size) _ _ _ _ _ _ _)) (fun hHeld => ?_)
            clear hK K
            try simp only [Act.put, List.setIfInBounds_toArray, List.set_cons_zero, List.set_cons_succ]
            clear y2 y3
            refine take_in (i := 9) (v := ?_) (some 14) rfl rfl (by kernel_rfl) (by kernel_rfl) (by kernel_rfl) (fun _ _ _ h => h) (Or.inl ⟨by rfl, ?_⟩) (by assumption) ?_
            rotate_left
            · (intro w hSw; (try dsimp only at hSw); (try go_split_ands); go_simp; try with_reducible rfl)
            try simp only [Act.put, List.setIfInBounds_toArray, List.set_cons_zero, List.set_cons_succ]
            refine wpAnyH_done (by kernel_rfl) ?_ _
            obtain ⟨W9, hW9, X9, G9⟩ := box_put YBaAZ.out YTaAZ.out OWaAZ.out
            simp only at hW9
            rw [hW9]
            have HX9 := Lib.hid X9
            have HG9 := Lib.hid (Hq9aAZ.out.grown G9 Hq9aAZ.out.size fun q hq => by have e := Option.some.inj hq; first | omega | (rw [← e]; exact Hq9a.out.size))
            clear hW9 X9 G9
            go_wp2_with fail
            go_meet
            exact ⟨_, _, _, rfl, rfl, HX9.out, HG9.out, HQq9.out⟩
        · go_simp
          refine hK.out _ _ (K9.out _ ((show Below w14.heap.size w14 w14.drew from (Below.refl _ _).drew).alloc (show Below w14.heap.size w14 w14.drew from (Below.refl _ _).drew).size _)) (fun hHeld => ?_)
          clear hK K
          try simp only [Act.put, List.setIfInBounds_toArray, List.set_cons_zero, List.set_cons_succ]
          obtain ⟨wq9A, hWq9⟩ : ∃ W, (w14.alloc (.cells #[.bool false, .int .u64 0, .string ⟨#[]⟩, .int .u64 0, .int .u64 0, .slice none 0 0, .slice none 0 0] 38)).drew = W := ⟨_, rfl⟩
          have Hq9A := Lib.hid (show Below w14.heap.size w14 wq9A by rw [← hWq9]; exact ((Below.refl _ _).alloc (Nat.le_refl _) _).drew)
          have YBA := Lib.hid (show Bx wq9A w14.heap.size #[.bool false, .int .u64 0, .string ⟨#[]⟩, .int .u64 0, .int .u64 0, .slice none 0 0, .slice none 0 0] by rw [← hWq9]; exact (Bx.new w14 _ _).below (Below.refl _ _).drew)
          have YTA := Lib.hid (show HT wq9A w14.heap.size by rw [← hWq9]; exact (HT.new w14 _).below (Below.refl _ _).drew)
          try rw [hWq9] at hHeld
          try rw [hWq9]
          clear hWq9
          refine wpAnyH_ready (rs := [1]) (by kernel_rfl) (by simp) ?_
          refine (AllReadyH.cons rfl (fun K hK => ?_) AllReadyH.nil)
          go_simp
          (with_reducible refine (CP.out _ _ _).mono ?_)
          rintro e wq9Aa ⟨rfl, hb⟩
          have Hq9Aa := Lib.hid (Hq9A.out.trans (hb.mono Hq9A.out.size))
          have YBAa := Lib.hid (YBA.out.below hb)
          have YTAa := Lib.hid (YTA.out.below hb)
          clear hb
          go_wp2_with fail
          refine hK.out _ _ (K9.out _ Hq9Aa.out) (fun hHeld => ?_)
          clear hK K
          try simp only [Act.put, List.setIfInBounds_toArray, List.set_cons_zero, List.set_cons_succ]
          refine take_in (i := 2) (v := ?_) (some 71) rfl rfl (by kernel_rfl) (by kernel_rfl) (by kernel_rfl) (fun _ _ _ h => h) (Or.inl ⟨by rfl, ?_⟩) (by assumption) ?_
          rotate_left
          · (intro w hSw; (try dsimp only at hSw); (try go_split_ands); go_simp; try with_reducible rfl)
          try simp only [Act.put, List.setIfInBounds_toArray, List.set_cons_zero, List.set_cons_succ]
          refine wpAnyH_ready (rs := [3]) (by kernel_rfl) (by simp) ?_
          refine (AllReadyH.cons rfl (fun K hK => ?_) AllReadyH.nil)
          go_simp
          (with_reducible refine (CA9.out _ Hq9Aa.out).mono ?_)
          rintro e wq9AaZ ⟨u, nnq9, y, rfl, ho, hb, hq⟩
          have Hq9AaZ := Lib.hid (Hq9Aa.out.trans (hb.mono Hq9Aa.out.size))
          have HQq9 := Lib.hid hq
          obtain ⟨ye, yid, ylab, yfr, ytil, yval, yps⟩ := y
          have OWAaZ := Lib.hid (EOwn.mono ho (Hq9Aa.out).size)
          obtain ⟨su, sq, rsu, rfl, hu1, hu2, hu3⟩ := ho
          obtain ⟨Au, cu, rfl, _⟩ := hu1.at
          obtain ⟨Aq, cq, rfl, _⟩ := hu2.form
          have YBAaZ := Lib.hid (YBAa.out.below hb)
          have YTAaZ := Lib.hid (YTAa.out.below hb)
          have y2 := YBAaZ.out.c
          have y3 := YBAaZ.out.fr
          clear hb hq hu1 hu2 hu3
          go_wp2_with fail
          refine hK.out _ _ (K9.out _ Hq9AaZ.out) (fun hHeld => ?_)
          clear hK K
          try simp only [Act.put, List.setIfInBounds_toArray, List.set_cons_zero, List.set_cons_succ]
          refine take_in (i := 4) (v := ?_) (some 68) rfl rfl (by kernel_rfl) (by kernel_rfl) (by kernel_rfl) (fun _ _ _ h => h) (Or.inl ⟨by rfl, ?_⟩) (by assumption) ?_
          rotate_left
          · (intro w hSw; (try dsimp only at hSw); (try go_split_ands); go_simp; try with_reducible rfl)
          try simp only [Act.put, List.setIfInBounds_toArray, List.set_cons_zero, List.set_cons_succ]
          refine take_in (i := 5) (v := ?_) (some 73) rfl rfl (by kernel_rfl) (by kernel_rfl) (by kernel_rfl) (fun _ _ _ h => h) (Or.inl ⟨by rfl, ?_⟩) (by assumption) ?_
          rotate_left
          · (intro w hSw; (try dsimp only at hSw); (try go_split_ands); go_simp; try with_reducible rfl)
          try simp only [Act.put, List.setIfInBounds_toArray, List.set_cons_zero, List.set_cons_succ]
          refine take_in (i := 6) (v := ?_) (some 74) rfl rfl (by kernel_rfl) (by kernel_rfl) (by kernel_rfl) (fun _ _ _ h => h) (Or.inl ⟨by rfl, ?_⟩) (by assumption) ?_
          rotate_left
          · (intro w hSw; (try dsimp only at hSw); (try go_split_ands); go_simp; try with_reducible rfl)
          try simp only [Act.put, List.setIfInBounds_toArray, List.set_cons_zero, List.set_cons_succ]
          refine wpAnyH_ready (rs := [8]) (by kernel_rfl) (by simp) ?_
          refine (AllReadyH.cons rfl (fun K hK => ?_) AllReadyH.nil)
          go_simp
          refine hK.out _ _ (K9.out _ (box_below YBAaZ.out Hq9AaZ.out Hq9AaZ.out.size (by first | exact Nat.le_refl _ | exact Hq9AaZ.out.size) _ _ _ _ _ _ _)) (fun hHeld => ?_)
          clear hK K
          try simp only [Act.put, List.setIfInBounds_toArray, List.set_cons_zero, List.set_cons_succ]
          clear y2 y3
          refine take_in (i := 9) (v := ?_) (some 14) rfl rfl (by kernel_rfl) (by kernel_rfl) (by kernel_rfl) (fun _ _ _ h => h) (Or.inl ⟨by rfl, ?_⟩) (by assumption) ?_
          rotate_left
          · (intro w hSw; (try dsimp only at hSw); (try go_split_ands); go_simp; try with_reducible rfl)
          try simp only [Act.put, List.setIfInBounds_toArray, List.set_cons_zero, List.set_cons_succ]
          refine wpAnyH_done (by kernel_rfl) ?_ _
          obtain ⟨W9, hW9, X9, G9⟩ := box_put YBAaZ.out YTAaZ.out OWAaZ.out
          simp only at hW9
          rw [hW9]
          have HX9 := Lib.hid X9
          have HG9 := Lib.hid (Hq9AaZ.out.grown G9 Hq9AaZ.out.size fun q hq => by have e := Option.some.inj hq; first | omega | (rw [← e]; exact Hq9AaZ.out.size))
          clear hW9 X9 G9
          go_wp2_with fail
          go_meet
          exact ⟨_, _, _, rfl, rfl, HX9.out, HG9.out, HQq9.out⟩
      case rest =>
        obtain ⟨pq9, nq9, z9, rfl, rfl, _, hb, rfl⟩ := hcut
        obtain ⟨w15, rfl⟩ : ∃ x : World, x = wc := ⟨_, rfl⟩
        have B15 := Lib.hid (B14.out.trans (hb.mono B14.out.size))
        have Xv15 := Lib.hid (Xv14.out.below hb)
        have Ov15 := Lib.hid (Ov14.out.below hb)
        clear hb K9 CA9
        have x0 := Xv15.out.c
        go_upto_block 0 with fail
        clear x0
        have HAL := (Below.refl w15.heap.size w15).alloc (Nat.le_refl _) (.cells #[.bool false, .int .u64 1, .string ⟨#[110]⟩, .int .u64 0, .int .u64 0, .slice Av 2 cv, .slice (some ⟨g, 0, none⟩) 1 dv] 38)
        have E15 := Lib.hid (show BoxE w.heap.size (w15.alloc (.cells #[.bool false, .int .u64 1, .string ⟨#[110]⟩, .int .u64 0, .int .u64 0, .slice Av 2 cv, .slice (some ⟨g, 0, none⟩) 1 dv] 38)) w15.heap.size exE3 from boxE_new (x := exE3) (A := Av) (c := cv) (A' := some ⟨g, 0, none⟩) (n' := 1) (c' := dv) Ov15.out)
        have B16 := Lib.hid (B15.out.trans (HAL.mono B15.out.size))
        have Xv16 := Lib.hid (Xv15.out.below HAL)
        have Ov16 := Lib.hid (Ov15.out.below HAL)
        have L1 := Lib.hid (show p1 < w15.heap.size from Xv15.out.lt)
        have M15 := Lib.hid (show w.heap.size ≤ w15.heap.size from B15.out.size)
        obtain ⟨w16, hw⟩ : ∃ W, w15.alloc (.cells #[.bool false, .int .u64 1, .string ⟨#[110]⟩, .int .u64 0, .int .u64 0, .slice Av 2 cv, .slice (some ⟨g, 0, none⟩) 1 dv] 38) = W := ⟨_, rfl⟩
        rw [hw] at E15 B16 Xv16 Ov16
        try rw [hw]
        clear hw HAL
        obtain ⟨p15, hp15⟩ : ∃ q, w15.heap.size = q := ⟨_, rfl⟩
        rw [hp15] at E15 L1 M15
        try rw [hp15]
        clear hp15
        go_wp2_with fail
        go_loopw [76] (fun i wr => ∃ (k : Nat) (x : Ent), k ≤ 16 ∧ i = .int .i64 k ∧ KI x (min k 15) (6 + 2 * k) ∧ BoxE w.heap.size wr p15 x ∧ Bx wr p1 #[.bool false, .int .u64 1, .string ⟨#[110]⟩, .int .u64 0, .int .u64 0, .slice Av 2 cv, .slice (some ⟨g, 0, none⟩) 1 dv] ∧ EOwn w.heap.size wr (.agg #[.bool false, .int .u64 1, .string ⟨#[110]⟩, .int .u64 0, .int .u64 0, .slice Av 2 cv, .slice (some ⟨g, 0, none⟩) 1 dv]) exE3 ∧ Below w.heap.size w wr) (fun i _ => 16 - (intOf i).toNat)
        case atStart => exact ⟨0, exE3, by omega, rfl, KI.start, E15.out, Xv16.out, Ov16.out, B16.out⟩
        case round =>
          obtain ⟨k, x, hk, rfl, hki, hbx, hx1, ho1, hb⟩ := hrel
          have KX := Lib.hid hki
          have EX := Lib.hid hbx
          have X1 := Lib.hid hx1
          have O1 := Lib.hid ho1
          have BB := Lib.hid hb
          clear hki hbx hx1 ho1 hb E15
          by_cases hlt : k < 16
          · have hlt' : (k : Int) < 16 := by omega
            obtain ⟨xe, xid, xlab, xfr, xtil, xval, xps⟩ := x
            obtain ⟨Ax, cx, Px, nx, dx, hbx, hox, htx⟩ := EX.out
            have HTX := Lib.hid htx
            have HBX := Lib.hid (show Bx wr p15 #[.bool xe, .int .u64 xid, .string xlab, .int .u64 xfr, .int .u64 xtil, .slice Ax xval.length cx, .slice Px nx dx] from hbx)
            have HOX := Lib.hid hox
            have KX2 := Lib.hid (show KI ⟨xe, xid, xlab, xfr, xtil, xval, xps⟩ k (6 + 2 * k) by have h := KX.out; rw [Nat.min_eq_left (by omega)] at h; exact h)
            clear hbx hox htx KX
            have g1 : IntKind.i64.wrap (97 + (k : Int)) = 97 + (k : Int) := by rw [IntWalk.i64_in]; constructor <;> omega
            have g2 : IntKind.u8.wrap (97 + (k : Int)) = 97 + (k : Int) := by rw [IntWalk.u8_in]; constructor <;> omega
            obtain ⟨c, hc, HK⟩ : ∃ c : UInt8, Hid ((97 + (k : Int)) = (c.toNat : Int)) ∧ Hid (keyA k = ⟨#[97, c]⟩) := ⟨UInt8.ofNat (97 + k), Lib.hid (by rw [UInt8.toNat_ofNat']; omega), Lib.hid rfl⟩
            have CKA : Hid (∀ W, Below wr.heap.size wr W → Calls Tryz.prog 21 #[.agg #[.bool xe, .int .u64 xid, .string xlab, .int .u64 xfr, .int .u64 xtil, .slice Ax xval.length cx, .slice Px nx dx], .agg #[.int .i64 5, .bool false, .int .u64 1, .string ⟨#[]⟩, .int .u64 0, .int .u64 0, .string ⟨#[97, c]⟩, .int .i64 2, .bool false, .int .i64 1, .float .f64 0, .string ⟨#[]⟩, .int .u64 2, .int .u64 3]] W (AE (KeyAns k (6 + 2 * k)) W)) := Lib.hid fun W hb => by
              have h := keyApply (.agg #[.bool xe, .int .u64 xid, .string xlab, .int .u64 xfr, .int .u64 xtil, .slice Ax xval.length cx, .slice Px nx dx]) ⟨xe, xid, xlab, xfr, xtil, xval, xps⟩ k (6 + 2 * k) W (HOX.out.below hb).at KX2.out (by omega) (by omega)
              unfold keyO at h
              rw [HK.out] at h
              exact h
            have K14 : Hid (∀ w', Below wr.heap.size wr w' → ∀ j, w'.cell? ⟨p15, j, none⟩ = #[.bool xe, .int .u64 xid, .string xlab, .int .u64 xfr, .int .u64 xtil, .slice Ax xval.length cx, .slice Px nx dx][j]?) := Lib.hid fun w' hb => (HBX.out.below hb).c
            clear HK
            go_upto_region 14 with fail
            go_cut [17, 18] from 79 to 92 (fun t1 t2 w' => ∃ p n y, t1 = .pointer (some ⟨p, 0, none⟩) ∧ t2 = .int .i64 n ∧ BoxE wr.heap.size w' p y ∧ Below wr.heap.size wr w' ∧ KeyAns k (6 + 2 * k) n y)
            case first =>
              refine wp_region_held_drew (S := (fun w' => ∀ j, w'.cell? ⟨p15, j, none⟩ = #[.bool xe, .int .u64 xid, .string xlab, .int .u64 xfr, .int .u64 xtil, .slice Ax xval.length cx, .slice Px nx dx][j]?)) (by kernel_rfl) (K14.out _ (Below.refl _ _).drew) (fun hHeld => ?_)
              refine take_in (i := 0) (v := ?_) (some 80) rfl rfl (by kernel_rfl) (by kernel_rfl) (by kernel_rfl) (fun _ _ _ h => h) (Or.inl ⟨by rfl, ?_⟩) (by assumption) ?_
              rotate_left
              · (intro w hSw; (try dsimp only at hSw); (try go_split_ands); go_simp; try with_reducible rfl)
              try simp only [Act.put, List.setIfInBounds_toArray, List.set_cons_zero, List.set_cons_succ]
              refine take_in (i := 1) (v := ?_) (some 81) rfl rfl (by kernel_rfl) (by kernel_rfl) (by kernel_rfl) (fun _ _ _ h => h) (Or.inl ⟨by rfl, ?_⟩) (by assumption) ?_
              rotate_left
              · (intro w hSw; (try dsimp only at hSw); (try go_split_ands); go_simp; try with_reducible rfl)
              try simp only [Act.put, List.setIfInBounds_toArray, List.set_cons_zero, List.set_cons_succ]
              refine take_in (i := 2) (v := ?_) (some 82) rfl rfl (by kernel_rfl) (by kernel_rfl) (by kernel_rfl) (fun _ _ _ h => h) (Or.inl ⟨by rfl, ?_⟩) (by assumption) ?_
              rotate_left
              · (intro w hSw; (try dsimp only at hSw); (try go_split_ands); go_simp; try with_reducible rfl)
              try simp only [Act.put, List.setIfInBounds_toArray, List.set_cons_zero, List.set_cons_succ]
              refine take_in (i := 3) (v := ?_) (some 83) rfl rfl (by kernel_rfl) (by kernel_rfl) (by kernel_rfl) (fun _ _ _ h => h) (Or.inl ⟨by rfl, ?_⟩) (by assumption) ?_
              rotate_left
              · (intro w hSw; (try dsimp only at hSw); (try go_split_ands); go_simp; try with_reducible rfl)
              try simp only [Act.put, List.setIfInBounds_toArray, List.set_cons_zero, List.set_cons_succ]
              have F0 : FKn wr wr.drew (97 + (k : Int)) [] [] := ⟨(Below.refl _ _).drew, fun _ h => (by cases h), fun _ h => (by cases h)⟩
              clear hHeld
              refine claim (fun W a => ∀ (g : Nat) (p : Nat) (wk : World), FKn wr wk (97 + (k : Int)) [g] [p] → W 6 #[true, true, true, true, true, true, true, true, true, true, false, false, false, false, true, false, false] (((((((a.put (some 84) (.slice (some ⟨g, 0, none⟩) 1 1)).put (some 85) (.string ⟨#[c]⟩)).put (some 86) (.string ⟨#[97, c]⟩)).put (some 87) (.agg #[.int .i64 2, .bool false, .int .i64 1, .float .f64 0, .string ⟨#[]⟩])).put (some 88) (.agg #[.int .u64 2, .int .u64 3])).put (some 17) (.pointer (some ⟨p, 0, none⟩))).put (some 89) (.agg #[.int .i64 5, .bool false, .int .u64 1, .string ⟨#[]⟩, .int .u64 0, .int .u64 0, .string ⟨#[97, c]⟩, .int .i64 2, .bool false, .int .i64 1, .float .f64 0, .string ⟨#[]⟩, .int .u64 2, .int .u64 3])) wk) ?_ (fun C_4_5_7_8_14 => ?_)
              · intro g p wk hF
                try simp only [Act.put, List.setIfInBounds_toArray, List.set_cons_zero, List.set_cons_succ]
                refine wpAnyH_ready (rs := [10]) (by kernel_rfl) (by simp) ?_
                refine (AllReadyH.cons rfl (fun K hK => ?_) AllReadyH.nil)
                · have hF0 := hF.1
                  go_simp
                  (with_reducible refine (CKA.out _ hF0).mono ?_)
                  rintro e wz ⟨u, nnz, y, rfl, ho, hb, hq⟩
                  have FZ := hF.step hb
                  have HZ := Lib.hid FZ.1
                  have HQ := Lib.hid hq
                  obtain ⟨ye, yid, ylab, yfr, ytil, yval, yps⟩ := y
                  have OW := Lib.hid (EOwn.mono ho hF.1.size)
                  obtain ⟨su, sq, rsu, rfl, hu1, hu2, hu3⟩ := ho
                  obtain ⟨Au, cu, rfl, _⟩ := hu1.at
                  obtain ⟨Aq, cq, rfl, _⟩ := hu2.form
                  have YB := Lib.hid (FZ.2.2 p (by simp)).1
                  have YT := Lib.hid (FZ.2.2 p (by simp)).2.1
                  have YP := Lib.hid (FZ.2.2 p (by simp)).2.2
                  have y2 := YB.out.c
                  have y3 := YB.out.fr
                  clear hb hq hu1 hu2 hu3 FZ hF hF0
                  go_wp2_with fail
                  refine hK.out _ _ (K14.out _ HZ.out) (fun hHeld => ?_)
                  clear hK K
                  try simp only [Act.put, List.setIfInBounds_toArray, List.set_cons_zero, List.set_cons_succ]
                  refine take_in (i := 11) (v := ?_) (some 79) rfl rfl (by kernel_rfl) (by kernel_rfl) (by kernel_rfl) (fun _ _ _ h => h) (Or.inl ⟨by rfl, ?_⟩) (by assumption) ?_
                  rotate_left
                  · (intro w hSw; (try dsimp only at hSw); (try go_split_ands); go_simp; try with_reducible rfl)
                  try simp only [Act.put, List.setIfInBounds_toArray, List.set_cons_zero, List.set_cons_succ]
                  refine take_in (i := 12) (v := ?_) (some 91) rfl rfl (by kernel_rfl) (by kernel_rfl) (by kernel_rfl) (fun _ _ _ h => h) (Or.inl ⟨by rfl, ?_⟩) (by assumption) ?_
                  rotate_left
                  · (intro w hSw; (try dsimp only at hSw); (try go_split_ands); go_simp; try with_reducible rfl)
                  try simp only [Act.put, List.setIfInBounds_toArray, List.set_cons_zero, List.set_cons_succ]
                  refine take_in (i := 13) (v := ?_) (some 92) rfl rfl (by kernel_rfl) (by kernel_rfl) (by kernel_rfl) (fun _ _ _ h => h) (Or.inl ⟨by rfl, ?_⟩) (by assumption) ?_
                  rotate_left
                  · (intro w hSw; (try dsimp only at hSw); (try go_split_ands); go_simp; try with_reducible rfl)
                  try simp only [Act.put, List.setIfInBounds_toArray, List.set_cons_zero, List.set_cons_succ]
                  refine wpAnyH_ready (rs := [15]) (by kernel_rfl) (by simp) ?_
                  refine AllReadyH.cons rfl (fun K hK => ?_) AllReadyH.nil
                  go_simp
                  refine hK.out _ _ (K14.out _ (box_below YB.out HZ.out HZ.out.size YP.out _ _ _ _ _ _ _)) (fun hHeld => ?_)
                  clear hK K
                  try simp only [Act.put, List.setIfInBounds_toArray, List.set_cons_zero, List.set_cons_succ]
                  clear y2 y3
                  refine take_in (i := 16) (v := ?_) (some 18) rfl rfl (by kernel_rfl) (by kernel_rfl) (by kernel_rfl) (fun _ _ _ h => h) (Or.inl ⟨by rfl, ?_⟩) (by assumption) ?_
                  rotate_left
                  · (intro w hSw; (try dsimp only at hSw); (try go_split_ands); go_simp; try with_reducible rfl)
                  try simp only [Act.put, List.setIfInBounds_toArray, List.set_cons_zero, List.set_cons_succ]
                  refine wpAnyH_done (by kernel_rfl) ?_ _
                  obtain ⟨W9, hW9, X9, G9⟩ := box_put YB.out YT.out OW.out
                  simp only at hW9
                  rw [hW9]
                  have HX9 := Lib.hid X9
                  have HG9 := Lib.hid (HZ.out.grown G9 HZ.out.size fun q hq => by have e := Option.some.inj hq; rw [← e]; exact YP.out)
                  clear hW9 X9 G9
                  go_wp2_with fail
                  go_meet
                  exact ⟨_, _, _, rfl, rfl, HX9.out, HG9.out, HQ.out⟩
              replace C_4_5_7_8_14 := Lib.hid C_4_5_7_8_14
              refine claim (fun W a => ∀ (g : Nat) (p : Nat) (wk : World), FKn wr wk (97 + (k : Int)) [g] [p] → W 9 #[true, true, true, true, true, false, false, true, true, false, false, false, false, false, true, false, false] ((((a.put (some 84) (.slice (some ⟨g, 0, none⟩) 1 1)).put (some 87) (.agg #[.int .i64 2, .bool false, .int .i64 1, .float .f64 0, .string ⟨#[]⟩])).put (some 88) (.agg #[.int .u64 2, .int .u64 3])).put (some 17) (.pointer (some ⟨p, 0, none⟩))) wk) ?_ (fun C_4_7_8_14 => ?_)
              · intro g p wk hF
                try simp only [Act.put, List.setIfInBounds_toArray, List.set_cons_zero, List.set_cons_succ]
                refine wpAnyH_ready (rs := [5]) (by kernel_rfl) (by simp) ?_
                refine (AllReadyH.cons rfl (fun K hK => ?_) AllReadyH.nil)
                · have hcv := conv_cell g c wk (97 + (k : Int)) hc.out (hF.2.1 g (by simp)).2
                  go_simp
                  refine hK.out _ _ (K14.out _ hF.1) (fun hHeld => ?_)
                  clear hK K hcv
                  try simp only [Act.put, List.setIfInBounds_toArray, List.set_cons_zero, List.set_cons_succ]
                  refine take_in (i := 6) (v := ?_) (some 86) rfl rfl (by kernel_rfl) (by kernel_rfl) (by kernel_rfl) (fun _ _ _ h => h) (Or.inl ⟨by rfl, ?_⟩) (by assumption) ?_
                  rotate_left
                  · (intro w hSw; (try dsimp only at hSw); (try go_split_ands); go_simp; try with_reducible rfl)
                  try simp only [Act.put, List.setIfInBounds_toArray, List.set_cons_zero, List.set_cons_succ]
                  refine take_in (i := 9) (v := ?_) (some 89) rfl rfl (by kernel_rfl) (by kernel_rfl) (by kernel_rfl) (fun _ _ _ h => h) (Or.inl ⟨by rfl, ?_⟩) (by assumption) ?_
                  rotate_left
                  · (intro w hSw; (try dsimp only at hSw); (try go_split_ands); go_simp; try with_reducible rfl)
                  try simp only [Act.put, List.setIfInBounds_toArray, List.set_cons_zero, List.set_cons_succ]
                  have hF1 := hF
                  clear hHeld
                  exact wpAnyH_as (by kernel_rfl) (by simp only [Act.put, List.setIfInBounds_toArray, List.set_cons_zero, List.set_cons_succ]; first | done | kernel_rfl) (C_4_5_7_8_14.out g p _ hF1)
              replace C_4_7_8_14 := Lib.hid C_4_7_8_14
              refine claim (fun W a => ∀ (g : Nat) (p : Nat) (wk : World), FKn wr wk (97 + (k : Int)) [g] [p] → W 8 #[true, true, true, true, true, true, true, true, false, false, false, false, false, false, true, false, false] (((((a.put (some 84) (.slice (some ⟨g, 0, none⟩) 1 1)).put (some 85) (.string ⟨#[c]⟩)).put (some 86) (.string ⟨#[97, c]⟩)).put (some 87) (.agg #[.int .i64 2, .bool false, .int .i64 1, .float .f64 0, .string ⟨#[]⟩])).put (some 17) (.pointer (some ⟨p, 0, none⟩))) wk) ?_ (fun C_4_5_7_14 => ?_)
              · intro g p wk hF
                try simp only [Act.put, List.setIfInBounds_toArray, List.set_cons_zero, List.set_cons_succ]
                refine wpAnyH_ready (rs := [8]) (by kernel_rfl) (by simp) ?_
                refine (AllReadyH.cons rfl (fun K hK => ?_) AllReadyH.nil)
                · go_simp
                  (with_reducible refine (CP.out _ _ _).mono ?_)
                  rintro e w1 ⟨rfl, hb⟩
                  have hF1 := hF.step hb
                  clear hb
                  go_wp2_with fail
                  refine hK.out _ _ (K14.out _ hF1.1) (fun hHeld => ?_)
                  clear hK K
                  try simp only [Act.put, List.setIfInBounds_toArray, List.set_cons_zero, List.set_cons_succ]
                  refine take_in (i := 9) (v := ?_) (some 89) rfl rfl (by kernel_rfl) (by kernel_rfl) (by kernel_rfl) (fun _ _ _ h => h) (Or.inl ⟨by rfl, ?_⟩) (by assumption) ?_
                  rotate_left
                  · (intro w hSw; (try dsimp only at hSw); (try go_split_ands); go_simp; try with_reducible rfl)
                  try simp only [Act.put, List.setIfInBounds_toArray, List.set_cons_zero, List.set_cons_succ]
                  clear hHeld
                  exact wpAnyH_as (by kernel_rfl) (by simp only [Act.put, List.setIfInBounds_toArray, List.set_cons_zero, List.set_cons_succ]) (C_4_5_7_8_14.out g p _ hF1)
              replace C_4_5_7_14 := Lib.hid C_4_5_7_14
              refine claim (fun W a => ∀ (g : Nat) (wk : World), FKn wr wk (97 + (k : Int)) [g] [] → W 7 #[true, true, true, true, true, true, true, true, true, true, false, false, false, false, false, false, false] ((((((a.put (some 84) (.slice (some ⟨g, 0, none⟩) 1 1)).put (some 85) (.string ⟨#[c]⟩)).put (some 86) (.string ⟨#[97, c]⟩)).put (some 87) (.agg #[.int .i64 2, .bool false, .int .i64 1, .float .f64 0, .string ⟨#[]⟩])).put (some 88) (.agg #[.int .u64 2, .int .u64 3])).put (some 89) (.agg #[.int .i64 5, .bool false, .int .u64 1, .string ⟨#[]⟩, .int .u64 0, .int .u64 0, .string ⟨#[97, c]⟩, .int .i64 2, .bool false, .int .i64 1, .float .f64 0, .string ⟨#[]⟩, .int .u64 2, .int .u64 3])) wk) ?_ (fun C_4_5_7_8 => ?_)
              · intro g wk hF
                try simp only [Act.put, List.setIfInBounds_toArray, List.set_cons_zero, List.set_cons_succ]
                refine wpAnyH_ready (rs := [10, 14]) (by kernel_rfl) (by simp) ?_
                refine (AllReadyH.cons rfl (fun K hK => ?_) (AllReadyH.cons rfl (fun K hK => ?_) AllReadyH.nil))
                · have hF0 := hF.1
                  go_simp
                  (with_reducible refine (CKA.out _ hF0).mono ?_)
                  rintro e wz ⟨u, nnz, y, rfl, ho, hb, hq⟩
                  have FZ := hF.step hb
                  have HZ := Lib.hid FZ.1
                  have HQ := Lib.hid hq
                  obtain ⟨ye, yid, ylab, yfr, ytil, yval, yps⟩ := y
                  have OW := Lib.hid (EOwn.mono ho hF.1.size)
                  obtain ⟨su, sq, rsu, rfl, hu1, hu2, hu3⟩ := ho
                  obtain ⟨Au, cu, rfl, _⟩ := hu1.at
                  obtain ⟨Aq, cq, rfl, _⟩ := hu2.form
                  clear hb hq hu1 hu2 hu3 FZ hF hF0
                  go_wp2_with fail
                  refine hK.out _ _ (K14.out _ HZ.out) (fun hHeld => ?_)
                  clear hK K
                  try simp only [Act.put, List.setIfInBounds_toArray, List.set_cons_zero, List.set_cons_succ]
                  refine take_in (i := 11) (v := ?_) (some 79) rfl rfl (by kernel_rfl) (by kernel_rfl) (by kernel_rfl) (fun _ _ _ h => h) (Or.inl ⟨by rfl, ?_⟩) (by assumption) ?_
                  rotate_left
                  · (intro w hSw; (try dsimp only at hSw); (try go_split_ands); go_simp; try with_reducible rfl)
                  try simp only [Act.put, List.setIfInBounds_toArray, List.set_cons_zero, List.set_cons_succ]
                  refine take_in (i := 12) (v := ?_) (some 91) rfl rfl (by kernel_rfl) (by kernel_rfl) (by kernel_rfl) (fun _ _ _ h => h) (Or.inl ⟨by rfl, ?_⟩) (by assumption) ?_
                  rotate_left
                  · (intro w hSw; (try dsimp only at hSw); (try go_split_ands); go_simp; try with_reducible rfl)
                  try simp only [Act.put, List.setIfInBounds_toArray, List.set_cons_zero, List.set_cons_succ]
                  refine take_in (i := 13) (v := ?_) (some 92) rfl rfl (by kernel_rfl) (by kernel_rfl) (by kernel_rfl) (fun _ _ _ h => h) (Or.inl ⟨by rfl, ?_⟩) (by assumption) ?_
                  rotate_left
                  · (intro w hSw; (try dsimp only at hSw); (try go_split_ands); go_simp; try with_reducible rfl)
                  try simp only [Act.put, List.setIfInBounds_toArray, List.set_cons_zero, List.set_cons_succ]
                  refine wpAnyH_ready (rs := [14]) (by kernel_rfl) (by simp) ?_
                  refine AllReadyH.cons rfl (fun K hK => ?_) AllReadyH.nil
                  go_simp
                  refine hK.out _ _ (K14.out _ (HZ.out.alloc HZ.out.size _)) (fun hHeld => ?_)
                  clear hK K
                  try simp only [Act.put, List.setIfInBounds_toArray, List.set_cons_zero, List.set_cons_succ]
                  obtain ⟨wa, hW⟩ : ∃ W, wz.alloc (.cells #[.bool false, .int .u64 0, .string ⟨#[]⟩, .int .u64 0, .int .u64 0, .slice none 0 0, .slice none 0 0] 38) = W := ⟨_, rfl⟩
                  have HA := Lib.hid (show Below wr.heap.size wr wa by rw [← hW]; exact HZ.out.alloc HZ.out.size _)
                  have YB := Lib.hid (show Bx wa wz.heap.size #[.bool false, .int .u64 0, .string ⟨#[]⟩, .int .u64 0, .int .u64 0, .slice none 0 0, .slice none 0 0] by rw [← hW]; exact Bx.new wz _ _)
                  have YT := Lib.hid (show HT wa wz.heap.size by rw [← hW]; exact HT.new wz _)
                  have YP := Lib.hid (show wr.heap.size ≤ wz.heap.size from HZ.out.size)
                  have OW2 := Lib.hid (show EOwn wr.heap.size wa (.agg (Ent.cells ⟨ye, yid, ylab, yfr, ytil, yval, yps⟩ (.slice Au yval.length cu) (.slice Aq rsu.length cq))) ⟨ye, yid, ylab, yfr, ytil, yval, yps⟩ by rw [← hW]; exact OW.out.below ((Below.refl _ _).alloc (Nat.le_refl _) _))
                  have y2 := YB.out.c
                  have y3 := YB.out.fr
                  try rw [hW] at hHeld
                  try rw [hW]
                  clear hW
                  refine wpAnyH_ready (rs := [15]) (by kernel_rfl) (by simp) ?_
                  refine AllReadyH.cons rfl (fun K hK => ?_) AllReadyH.nil
                  go_simp
                  refine hK.out _ _ (K14.out _ (box_below YB.out HA.out HA.out.size YP.out _ _ _ _ _ _ _)) (fun hHeld => ?_)
                  clear hK K
                  try simp only [Act.put, List.setIfInBounds_toArray, List.set_cons_zero, List.set_cons_succ]
                  clear y2 y3
                  refine take_in (i := 16) (v := ?_) (some 18) rfl rfl (by kernel_rfl) (by kernel_rfl) (by kernel_rfl) (fun _ _ _ h => h) (Or.inl ⟨by rfl, ?_⟩) (by assumption) ?_
                  rotate_left
                  · (intro w hSw; (try dsimp only at hSw); (try go_split_ands); go_simp; try with_reducible rfl)
                  try simp only [Act.put, List.setIfInBounds_toArray, List.set_cons_zero, List.set_cons_succ]
                  refine wpAnyH_done (by kernel_rfl) ?_ _
                  obtain ⟨W9, hW9, X9, G9⟩ := box_put YB.out YT.out OW2.out
                  simp only at hW9
                  rw [hW9]
                  have HX9 := Lib.hid X9
                  have HG9 := Lib.hid (HA.out.grown G9 HA.out.size fun q hq => by have e := Option.some.inj hq; rw [← e]; exact YP.out)
                  clear hW9 X9 G9
                  go_wp2_with fail
                  go_meet
                  exact ⟨_, _, _, rfl, rfl, HX9.out, HG9.out, HQ.out⟩
                · go_simp
                  have hF1 := hF.newP
                  refine hK.out _ _ (K14.out _ hF1.1) (fun hHeld => ?_)
                  clear hK K hHeld
                  exact wpAnyH_as (by kernel_rfl) (by simp only [Act.put, List.setIfInBounds_toArray, List.set_cons_zero, List.set_cons_succ]) (C_4_5_7_8_14.out g wk.heap.size _ hF1)
              replace C_4_5_7_8 := Lib.hid C_4_5_7_8
              refine claim (fun W a => ∀ (p : Nat) (wk : World), FKn wr wk (97 + (k : Int)) [] [p] → W 10 #[true, true, true, true, false, false, false, true, true, false, false, false, false, false, true, false, false] (((a.put (some 87) (.agg #[.int .i64 2, .bool false, .int .i64 1, .float .f64 0, .string ⟨#[]⟩])).put (some 88) (.agg #[.int .u64 2, .int .u64 3])).put (some 17) (.pointer (some ⟨p, 0, none⟩))) wk) ?_ (fun C_7_8_14 => ?_)
              · intro p wk hF
                try simp only [Act.put, List.setIfInBounds_toArray, List.set_cons_zero, List.set_cons_succ]
                refine wpAnyH_ready (rs := [4]) (by kernel_rfl) (by simp) ?_
                refine (AllReadyH.cons rfl (fun K hK => ?_) AllReadyH.nil)
                · go_simp
                  have hF1 := hF.newB
                  refine hK.out _ _ (K14.out _ hF1.1) (fun hHeld => ?_)
                  clear hK K hHeld
                  exact wpAnyH_as (by kernel_rfl) (by simp only [Act.put, List.setIfInBounds_toArray, List.set_cons_zero, List.set_cons_succ]) (C_4_7_8_14.out wk.heap.size p _ hF1)
              replace C_7_8_14 := Lib.hid C_7_8_14
              refine claim (fun W a => ∀ (g : Nat) (p : Nat) (wk : World), FKn wr wk (97 + (k : Int)) [g] [p] → W 10 #[true, true, true, true, true, false, false, true, false, false, false, false, false, false, true, false, false] (((a.put (some 84) (.slice (some ⟨g, 0, none⟩) 1 1)).put (some 87) (.agg #[.int .i64 2, .bool false, .int .i64 1, .float .f64 0, .string ⟨#[]⟩])).put (some 17) (.pointer (some ⟨p, 0, none⟩))) wk) ?_ (fun C_4_7_14 => ?_)
              · intro g p wk hF
                try simp only [Act.put, List.setIfInBounds_toArray, List.set_cons_zero, List.set_cons_succ]
                refine wpAnyH_ready (rs := [5, 8]) (by kernel_rfl) (by simp) ?_
                refine (AllReadyH.cons rfl (fun K hK => ?_) (AllReadyH.cons rfl (fun K hK => ?_) AllReadyH.nil))
                · have hcv := conv_cell g c wk (97 + (k : Int)) hc.out (hF.2.1 g (by simp)).2
                  go_simp
                  refine hK.out _ _ (K14.out _ hF.1) (fun hHeld => ?_)
                  clear hK K hcv
                  try simp only [Act.put, List.setIfInBounds_toArray, List.set_cons_zero, List.set_cons_succ]
                  refine take_in (i := 6) (v := ?_) (some 86) rfl rfl (by kernel_rfl) (by kernel_rfl) (by kernel_rfl) (fun _ _ _ h => h) (Or.inl ⟨by rfl, ?_⟩) (by assumption) ?_
                  rotate_left
                  · (intro w hSw; (try dsimp only at hSw); (try go_split_ands); go_simp; try with_reducible rfl)
                  try simp only [Act.put, List.setIfInBounds_toArray, List.set_cons_zero, List.set_cons_succ]
                  have hF1 := hF
                  clear hHeld
                  exact wpAnyH_as (by kernel_rfl) (by simp only [Act.put, List.setIfInBounds_toArray, List.set_cons_zero, List.set_cons_succ]; first | done | kernel_rfl) (C_4_5_7_14.out g p _ hF1)
                · go_simp
                  (with_reducible refine (CP.out _ _ _).mono ?_)
                  rintro e w1 ⟨rfl, hb⟩
                  have hF1 := hF.step hb
                  clear hb
                  go_wp2_with fail
                  refine hK.out _ _ (K14.out _ hF1.1) (fun hHeld => ?_)
                  clear hK K
                  clear hHeld
                  exact wpAnyH_as (by kernel_rfl) (by simp only [Act.put, List.setIfInBounds_toArray, List.set_cons_zero, List.set_cons_succ]) (C_4_7_8_14.out g p _ hF1)
              replace C_4_7_14 := Lib.hid C_4_7_14
              refine claim (fun W a => ∀ (g : Nat) (wk : World), FKn wr wk (97 + (k : Int)) [g] [] → W 10 #[true, true, true, true, true, false, false, true, true, false, false, false, false, false, false, false, false] (((a.put (some 84) (.slice (some ⟨g, 0, none⟩) 1 1)).put (some 87) (.agg #[.int .i64 2, .bool false, .int .i64 1, .float .f64 0, .string ⟨#[]⟩])).put (some 88) (.agg #[.int .u64 2, .int .u64 3])) wk) ?_ (fun C_4_7_8 => ?_)
              · intro g wk hF
                try simp only [Act.put, List.setIfInBounds_toArray, List.set_cons_zero, List.set_cons_succ]
                refine wpAnyH_ready (rs := [5, 14]) (by kernel_rfl) (by simp) ?_
                refine (AllReadyH.cons rfl (fun K hK => ?_) (AllReadyH.cons rfl (fun K hK => ?_) AllReadyH.nil))
                · have hcv := conv_cell g c wk (97 + (k : Int)) hc.out (hF.2.1 g (by simp)).2
                  go_simp
                  refine hK.out _ _ (K14.out _ hF.1) (fun hHeld => ?_)
                  clear hK K hcv
                  try simp only [Act.put, List.setIfInBounds_toArray, List.set_cons_zero, List.set_cons_succ]
                  refine take_in (i := 6) (v := ?_) (some 86) rfl rfl (by kernel_rfl) (by kernel_rfl) (by kernel_rfl) (fun _ _ _ h => h) (Or.inl ⟨by rfl, ?_⟩) (by assumption) ?_
                  rotate_left
                  · (intro w hSw; (try dsimp only at hSw); (try go_split_ands); go_simp; try with_reducible rfl)
                  try simp only [Act.put, List.setIfInBounds_toArray, List.set_cons_zero, List.set_cons_succ]
                  refine take_in (i := 9) (v := ?_) (some 89) rfl rfl (by kernel_rfl) (by kernel_rfl) (by kernel_rfl) (fun _ _ _ h => h) (Or.inl ⟨by rfl, ?_⟩) (by assumption) ?_
                  rotate_left
                  · (intro w hSw; (try dsimp only at hSw); (try go_split_ands); go_simp; try with_reducible rfl)
                  try simp only [Act.put, List.setIfInBounds_toArray, List.set_cons_zero, List.set_cons_succ]
                  have hF1 := hF
                  clear hHeld
                  exact wpAnyH_as (by kernel_rfl) (by simp only [Act.put, List.setIfInBounds_toArray, List.set_cons_zero, List.set_cons_succ]; first | done | kernel_rfl) (C_4_5_7_8.out g _ hF1)
                · go_simp
                  have hF1 := hF.newP
                  refine hK.out _ _ (K14.out _ hF1.1) (fun hHeld => ?_)
                  clear hK K hHeld
                  exact wpAnyH_as (by kernel_rfl) (by simp only [Act.put, List.setIfInBounds_toArray, List.set_cons_zero, List.set_cons_succ]) (C_4_7_8_14.out g wk.heap.size _ hF1)
              replace C_4_7_8 := Lib.hid C_4_7_8
              refine claim (fun W a => ∀ (g : Nat) (p : Nat) (wk : World), FKn wr wk (97 + (k : Int)) [g] [p] → W 9 #[true, true, true, true, true, true, true, false, false, false, false, false, false, false, true, false, false] ((((a.put (some 84) (.slice (some ⟨g, 0, none⟩) 1 1)).put (some 85) (.string ⟨#[c]⟩)).put (some 86) (.string ⟨#[97, c]⟩)).put (some 17) (.pointer (some ⟨p, 0, none⟩))) wk) ?_ (fun C_4_5_14 => ?_)
              · intro g p wk hF
                try simp only [Act.put, List.setIfInBounds_toArray, List.set_cons_zero, List.set_cons_succ]
                refine wpAnyH_ready (rs := [7]) (by kernel_rfl) (by simp) ?_
                refine (AllReadyH.cons rfl (fun K hK => ?_) AllReadyH.nil)
                · go_simp
                  (with_reducible refine (CN.out _ _).mono ?_)
                  rintro e w1 ⟨rfl, hb⟩
                  have hF1 := hF.step hb
                  clear hb
                  go_wp2_with fail
                  refine hK.out _ _ (K14.out _ hF1.1) (fun hHeld => ?_)
                  clear hK K
                  clear hHeld
                  exact wpAnyH_as (by kernel_rfl) (by simp only [Act.put, List.setIfInBounds_toArray, List.set_cons_zero, List.set_cons_succ]) (C_4_5_7_14.out g p _ hF1)
              replace C_4_5_14 := Lib.hid C_4_5_14
              refine claim (fun W a => ∀ (g : Nat) (wk : World), FKn wr wk (97 + (k : Int)) [g] [] → W 9 #[true, true, true, true, true, true, true, true, false, false, false, false, false, false, false, false, false] ((((a.put (some 84) (.slice (some ⟨g, 0, none⟩) 1 1)).put (some 85) (.string ⟨#[c]⟩)).put (some 86) (.string ⟨#[97, c]⟩)).put (some 87) (.agg #[.int .i64 2, .bool false, .int .i64 1, .float .f64 0, .string ⟨#[]⟩])) wk) ?_ (fun C_4_5_7 => ?_)
              · intro g wk hF
                try simp only [Act.put, List.setIfInBounds_toArray, List.set_cons_zero, List.set_cons_succ]
                refine wpAnyH_ready (rs := [8, 14]) (by kernel_rfl) (by simp) ?_
                refine (AllReadyH.cons rfl (fun K hK => ?_) (AllReadyH.cons rfl (fun K hK => ?_) AllReadyH.nil))
                · go_simp
                  (with_reducible refine (CP.out _ _ _).mono ?_)
                  rintro e w1 ⟨rfl, hb⟩
                  have hF1 := hF.step hb
                  clear hb
                  go_wp2_with fail
                  refine hK.out _ _ (K14.out _ hF1.1) (fun hHeld => ?_)
                  clear hK K
                  try simp only [Act.put, List.setIfInBounds_toArray, List.set_cons_zero, List.set_cons_succ]
                  refine take_in (i := 9) (v := ?_) (some 89) rfl rfl (by kernel_rfl) (by kernel_rfl) (by kernel_rfl) (fun _ _ _ h => h) (Or.inl ⟨by rfl, ?_⟩) (by assumption) ?_
                  rotate_left
                  · (intro w hSw; (try dsimp only at hSw); (try go_split_ands); go_simp; try with_reducible rfl)
                  try simp only [Act.put, List.setIfInBounds_toArray, List.set_cons_zero, List.set_cons_succ]
                  clear hHeld
                  exact wpAnyH_as (by kernel_rfl) (by simp only [Act.put, List.setIfInBounds_toArray, List.set_cons_zero, List.set_cons_succ]) (C_4_5_7_8.out g _ hF1)
                · go_simp
                  have hF1 := hF.newP
                  refine hK.out _ _ (K14.out _ hF1.1) (fun hHeld => ?_)
                  clear hK K hHeld
                  exact wpAnyH_as (by kernel_rfl) (by simp only [Act.put, List.setIfInBounds_toArray, List.set_cons_zero, List.set_cons_succ]) (C_4_5_7_14.out g wk.heap.size _ hF1)
              replace C_4_5_7 := Lib.hid C_4_5_7
              refine claim (fun W a => ∀ (p : Nat) (wk : World), FKn wr wk (97 + (k : Int)) [] [p] → W 11 #[true, true, true, true, false, false, false, true, false, false, false, false, false, false, true, false, false] ((a.put (some 87) (.agg #[.int .i64 2, .bool false, .int .i64 1, .float .f64 0, .string ⟨#[]⟩])).put (some 17) (.pointer (some ⟨p, 0, none⟩))) wk) ?_ (fun C_7_14 => ?_)
              · intro p wk hF
                try simp only [Act.put, List.setIfInBounds_toArray, List.set_cons_zero, List.set_cons_succ]
                refine wpAnyH_ready (rs := [4, 8]) (by kernel_rfl) (by simp) ?_
                refine (AllReadyH.cons rfl (fun K hK => ?_) (AllReadyH.cons rfl (fun K hK => ?_) AllReadyH.nil))
                · go_simp
                  have hF1 := hF.newB
                  refine hK.out _ _ (K14.out _ hF1.1) (fun hHeld => ?_)
                  clear hK K hHeld
                  exact wpAnyH_as (by kernel_rfl) (by simp only [Act.put, List.setIfInBounds_toArray, List.set_cons_zero, List.set_cons_succ]) (C_4_7_14.out wk.heap.size p _ hF1)
                · go_simp
                  (with_reducible refine (CP.out _ _ _).mono ?_)
                  rintro e w1 ⟨rfl, hb⟩
                  have hF1 := hF.step hb
                  clear hb
                  go_wp2_with fail
                  refine hK.out _ _ (K14.out _ hF1.1) (fun hHeld => ?_)
                  clear hK K
                  clear hHeld
                  exact wpAnyH_as (by kernel_rfl) (by simp only [Act.put, List.setIfInBounds_toArray, List.set_cons_zero, List.set_cons_succ]) (C_7_8_14.out p _ hF1)
              replace C_7_14 := Lib.hid C_7_14
              refine claim (fun W a => ∀ (wk : World), FKn wr wk (97 + (k : Int)) [] [] → W 11 #[true, true, true, true, false, false, false, true, true, false, false, false, false, false, false, false, false] ((a.put (some 87) (.agg #[.int .i64 2, .bool false, .int .i64 1, .float .f64 0, .string ⟨#[]⟩])).put (some 88) (.agg #[.int .u64 2, .int .u64 3])) wk) ?_ (fun C_7_8 => ?_)
              · intro  wk hF
                try simp only [Act.put, List.setIfInBounds_toArray, List.set_cons_zero, List.set_cons_succ]
                refine wpAnyH_ready (rs := [4, 14]) (by kernel_rfl) (by simp) ?_
                refine (AllReadyH.cons rfl (fun K hK => ?_) (AllReadyH.cons rfl (fun K hK => ?_) AllReadyH.nil))
                · go_simp
                  have hF1 := hF.newB
                  refine hK.out _ _ (K14.out _ hF1.1) (fun hHeld => ?_)
                  clear hK K hHeld
                  exact wpAnyH_as (by kernel_rfl) (by simp only [Act.put, List.setIfInBounds_toArray, List.set_cons_zero, List.set_cons_succ]) (C_4_7_8.out wk.heap.size _ hF1)
                · go_simp
                  have hF1 := hF.newP
                  refine hK.out _ _ (K14.out _ hF1.1) (fun hHeld => ?_)
                  clear hK K hHeld
                  exact wpAnyH_as (by kernel_rfl) (by simp only [Act.put, List.setIfInBounds_toArray, List.set_cons_zero, List.set_cons_succ]) (C_7_8_14.out wk.heap.size _ hF1)
              replace C_7_8 := Lib.hid C_7_8
              refine claim (fun W a => ∀ (g : Nat) (p : Nat) (wk : World), FKn wr wk (97 + (k : Int)) [g] [p] → W 11 #[true, true, true, true, true, false, false, false, false, false, false, false, false, false, true, false, false] ((a.put (some 84) (.slice (some ⟨g, 0, none⟩) 1 1)).put (some 17) (.pointer (some ⟨p, 0, none⟩))) wk) ?_ (fun C_4_14 => ?_)
              · intro g p wk hF
                try simp only [Act.put, List.setIfInBounds_toArray, List.set_cons_zero, List.set_cons_succ]
                refine wpAnyH_ready (rs := [5, 7]) (by kernel_rfl) (by simp) ?_
                refine (AllReadyH.cons rfl (fun K hK => ?_) (AllReadyH.cons rfl (fun K hK => ?_) AllReadyH.nil))
                · have hcv := conv_cell g c wk (97 + (k : Int)) hc.out (hF.2.1 g (by simp)).2
                  go_simp
                  refine hK.out _ _ (K14.out _ hF.1) (fun hHeld => ?_)
                  clear hK K hcv
                  try simp only [Act.put, List.setIfInBounds_toArray, List.set_cons_zero, List.set_cons_succ]
                  refine take_in (i := 6) (v := ?_) (some 86) rfl rfl (by kernel_rfl) (by kernel_rfl) (by kernel_rfl) (fun _ _ _ h => h) (Or.inl ⟨by rfl, ?_⟩) (by assumption) ?_
                  rotate_left
                  · (intro w hSw; (try dsimp only at hSw); (try go_split_ands); go_simp; try with_reducible rfl)
                  try simp only [Act.put, List.setIfInBounds_toArray, List.set_cons_zero, List.set_cons_succ]
                  have hF1 := hF
                  clear hHeld
                  exact wpAnyH_as (by kernel_rfl) (by simp only [Act.put, List.setIfInBounds_toArray, List.set_cons_zero, List.set_cons_succ]; first | done | kernel_rfl) (C_4_5_14.out g p _ hF1)
                · go_simp
                  (with_reducible refine (CN.out _ _).mono ?_)
                  rintro e w1 ⟨rfl, hb⟩
                  have hF1 := hF.step hb
                  clear hb
                  go_wp2_with fail
                  refine hK.out _ _ (K14.out _ hF1.1) (fun hHeld => ?_)
                  clear hK K
                  clear hHeld
                  exact wpAnyH_as (by kernel_rfl) (by simp only [Act.put, List.setIfInBounds_toArray, List.set_cons_zero, List.set_cons_succ]) (C_4_7_14.out g p _ hF1)
              replace C_4_14 := Lib.hid C_4_14
              refine claim (fun W a => ∀ (g : Nat) (wk : World), FKn wr wk (97 + (k : Int)) [g] [] → W 11 #[true, true, true, true, true, false, false, true, false, false, false, false, false, false, false, false, false] ((a.put (some 84) (.slice (some ⟨g, 0, none⟩) 1 1)).put (some 87) (.agg #[.int .i64 2, .bool false, .int .i64 1, .float .f64 0, .string ⟨#[]⟩])) wk) ?_ (fun C_4_7 => ?_)
              · intro g wk hF
                try simp only [Act.put, List.setIfInBounds_toArray, List.set_cons_zero, List.set_cons_succ]
                refine wpAnyH_ready (rs := [5, 8, 14]) (by kernel_rfl) (by simp) ?_
                refine (AllReadyH.cons rfl (fun K hK => ?_) (AllReadyH.cons rfl (fun K hK => ?_) (AllReadyH.cons rfl (fun K hK => ?_) AllReadyH.nil)))
                · have hcv := conv_cell g c wk (97 + (k : Int)) hc.out (hF.2.1 g (by simp)).2
                  go_simp
                  refine hK.out _ _ (K14.out _ hF.1) (fun hHeld => ?_)
                  clear hK K hcv
                  try simp only [Act.put, List.setIfInBounds_toArray, List.set_cons_zero, List.set_cons_succ]
                  refine take_in (i := 6) (v := ?_) (some 86) rfl rfl (by kernel_rfl) (by kernel_rfl) (by kernel_rfl) (fun _ _ _ h => h) (Or.inl ⟨by rfl, ?_⟩) (by assumption) ?_
                  rotate_left
                  · (intro w hSw; (try dsimp only at hSw); (try go_split_ands); go_simp; try with_reducible rfl)
                  try simp only [Act.put, List.setIfInBounds_toArray, List.set_cons_zero, List.set_cons_succ]
                  have hF1 := hF
                  clear hHeld
                  exact wpAnyH_as (by kernel_rfl) (by simp only [Act.put, List.setIfInBounds_toArray, List.set_cons_zero, List.set_cons_succ]; first | done | kernel_rfl) (C_4_5_7.out g _ hF1)
                · go_simp
                  (with_reducible refine (CP.out _ _ _).mono ?_)
                  rintro e w1 ⟨rfl, hb⟩
                  have hF1 := hF.step hb
                  clear hb
                  go_wp2_with fail
                  refine hK.out _ _ (K14.out _ hF1.1) (fun hHeld => ?_)
                  clear hK K
                  clear hHeld
                  exact wpAnyH_as (by kernel_rfl) (by simp only [Act.put, List.setIfInBounds_toArray, List.set_cons_zero, List.set_cons_succ]) (C_4_7_8.out g _ hF1)
                · go_simp
                  have hF1 := hF.newP
                  refine hK.out _ _ (K14.out _ hF1.1) (fun hHeld => ?_)
                  clear hK K hHeld
                  exact wpAnyH_as (by kernel_rfl) (by simp only [Act.put, List.setIfInBounds_toArray, List.set_cons_zero, List.set_cons_succ]) (C_4_7_14.out g wk.heap.size _ hF1)
              replace C_4_7 := Lib.hid C_4_7
              refine claim (fun W a => ∀ (g : Nat) (wk : World), FKn wr wk (97 + (k : Int)) [g] [] → W 10 #[true, true, true, true, true, true, true, false, false, false, false, false, false, false, false, false, false] (((a.put (some 84) (.slice (some ⟨g, 0, none⟩) 1 1)).put (some 85) (.string ⟨#[c]⟩)).put (some 86) (.string ⟨#[97, c]⟩)) wk) ?_ (fun C_4_5 => ?_)
              · intro g wk hF
                try simp only [Act.put, List.setIfInBounds_toArray, List.set_cons_zero, List.set_cons_succ]
                refine wpAnyH_ready (rs := [7, 14]) (by kernel_rfl) (by simp) ?_
                refine (AllReadyH.cons rfl (fun K hK => ?_) (AllReadyH.cons rfl (fun K hK => ?_) AllReadyH.nil))
                · go_simp
                  (with_reducible refine (CN.out _ _).mono ?_)
                  rintro e w1 ⟨rfl, hb⟩
                  have hF1 := hF.step hb
                  clear hb
                  go_wp2_with fail
                  refine hK.out _ _ (K14.out _ hF1.1) (fun hHeld => ?_)
                  clear hK K
                  clear hHeld
                  exact wpAnyH_as (by kernel_rfl) (by simp only [Act.put, List.setIfInBounds_toArray, List.set_cons_zero, List.set_cons_succ]) (C_4_5_7.out g _ hF1)
                · go_simp
                  have hF1 := hF.newP
                  refine hK.out _ _ (K14.out _ hF1.1) (fun hHeld => ?_)
                  clear hK K hHeld
                  exact wpAnyH_as (by kernel_rfl) (by simp only [Act.put, List.setIfInBounds_toArray, List.set_cons_zero, List.set_cons_succ]) (C_4_5_14.out g wk.heap.size _ hF1)
              replace C_4_5 := Lib.hid C_4_5
              refine claim (fun W a => ∀ (p : Nat) (wk : World), FKn wr wk (97 + (k : Int)) [] [p] → W 12 #[true, true, true, true, false, false, false, false, false, false, false, false, false, false, true, false, false] (a.put (some 17) (.pointer (some ⟨p, 0, none⟩))) wk) ?_ (fun C_14 => ?_)
              · intro p wk hF
                try simp only [Act.put, List.setIfInBounds_toArray, List.set_cons_zero, List.set_cons_succ]
                refine wpAnyH_ready (rs := [4, 7]) (by kernel_rfl) (by simp) ?_
                refine (AllReadyH.cons rfl (fun K hK => ?_) (AllReadyH.cons rfl (fun K hK => ?_) AllReadyH.nil))
                · go_simp
                  have hF1 := hF.newB
                  refine hK.out _ _ (K14.out _ hF1.1) (fun hHeld => ?_)
                  clear hK K hHeld
                  exact wpAnyH_as (by kernel_rfl) (by simp only [Act.put, List.setIfInBounds_toArray, List.set_cons_zero, List.set_cons_succ]) (C_4_14.out wk.heap.size p _ hF1)
                · go_simp
                  (with_reducible refine (CN.out _ _).mono ?_)
                  rintro e w1 ⟨rfl, hb⟩
                  have hF1 := hF.step hb
                  clear hb
                  go_wp2_with fail
                  refine hK.out _ _ (K14.out _ hF1.1) (fun hHeld => ?_)
                  clear hK K
                  clear hHeld
                  exact wpAnyH_as (by kernel_rfl) (by simp only [Act.put, List.setIfInBounds_toArray, List.set_cons_zero, List.set_cons_succ]) (C_7_14.out p _ hF1)
              replace C_14 := Lib.hid C_14
              refine claim (fun W a => ∀ (wk : World), FKn wr wk (97 + (k : Int)) [] [] → W 12 #[true, true, true, true, false, false, false, true, false, false, false, false, false, false, false, false, false] (a.put (some 87) (.agg #[.int .i64 2, .bool false, .int .i64 1, .float .f64 0, .string ⟨#[]⟩])) wk) ?_ (fun C_7 => ?_)
              · intro  wk hF
                try simp only [Act.put, List.setIfInBounds_toArray, List.set_cons_zero, List.set_cons_succ]
                refine wpAnyH_ready (rs := [4, 8, 14]) (by kernel_rfl) (by simp) ?_
                refine (AllReadyH.cons rfl (fun K hK => ?_) (AllReadyH.cons rfl (fun K hK => ?_) (AllReadyH.cons rfl (fun K hK => ?_) AllReadyH.nil)))
                · go_simp
                  have hF1 := hF.newB
                  refine hK.out _ _ (K14.out _ hF1.1) (fun hHeld => ?_)
                  clear hK K hHeld
                  exact wpAnyH_as (by kernel_rfl) (by simp only [Act.put, List.setIfInBounds_toArray, List.set_cons_zero, List.set_cons_succ]) (C_4_7.out wk.heap.size _ hF1)
                · go_simp
                  (with_reducible refine (CP.out _ _ _).mono ?_)
                  rintro e w1 ⟨rfl, hb⟩
                  have hF1 := hF.step hb
                  clear hb
                  go_wp2_with fail
                  refine hK.out _ _ (K14.out _ hF1.1) (fun hHeld => ?_)
                  clear hK K
                  clear hHeld
                  exact wpAnyH_as (by kernel_rfl) (by simp only [Act.put, List.setIfInBounds_toArray, List.set_cons_zero, List.set_cons_succ]) (C_7_8.out  _ hF1)
                · go_simp
                  have hF1 := hF.newP
                  refine hK.out _ _ (K14.out _ hF1.1) (fun hHeld => ?_)
                  clear hK K hHeld
                  exact wpAnyH_as (by kernel_rfl) (by simp only [Act.put, List.setIfInBounds_toArray, List.set_cons_zero, List.set_cons_succ]) (C_7_14.out wk.heap.size _ hF1)
              replace C_7 := Lib.hid C_7
              refine claim (fun W a => ∀ (g : Nat) (wk : World), FKn wr wk (97 + (k : Int)) [g] [] → W 12 #[true, true, true, true, true, false, false, false, false, false, false, false, false, false, false, false, false] (a.put (some 84) (.slice (some ⟨g, 0, none⟩) 1 1)) wk) ?_ (fun C_4 => ?_)
              · intro g wk hF
                try simp only [Act.put, List.setIfInBounds_toArray, List.set_cons_zero, List.set_cons_succ]
                refine wpAnyH_ready (rs := [5, 7, 14]) (by kernel_rfl) (by simp) ?_
                refine (AllReadyH.cons rfl (fun K hK => ?_) (AllReadyH.cons rfl (fun K hK => ?_) (AllReadyH.cons rfl (fun K hK => ?_) AllReadyH.nil)))
                · have hcv := conv_cell g c wk (97 + (k : Int)) hc.out (hF.2.1 g (by simp)).2
                  go_simp
                  refine hK.out _ _ (K14.out _ hF.1) (fun hHeld => ?_)
                  clear hK K hcv
                  try simp only [Act.put, List.setIfInBounds_toArray, List.set_cons_zero, List.set_cons_succ]
                  refine take_in (i := 6) (v := ?_) (some 86) rfl rfl (by kernel_rfl) (by kernel_rfl) (by kernel_rfl) (fun _ _ _ h => h) (Or.inl ⟨by rfl, ?_⟩) (by assumption) ?_
                  rotate_left
                  · (intro w hSw; (try dsimp only at hSw); (try go_split_ands); go_simp; try with_reducible rfl)
                  try simp only [Act.put, List.setIfInBounds_toArray, List.set_cons_zero, List.set_cons_succ]
                  have hF1 := hF
                  clear hHeld
                  exact wpAnyH_as (by kernel_rfl) (by simp only [Act.put, List.setIfInBounds_toArray, List.set_cons_zero, List.set_cons_succ]; first | done | kernel_rfl) (C_4_5.out g _ hF1)
                · go_simp
                  (with_reducible refine (CN.out _ _).mono ?_)
                  rintro e w1 ⟨rfl, hb⟩
                  have hF1 := hF.step hb
                  clear hb
                  go_wp2_with fail
                  refine hK.out _ _ (K14.out _ hF1.1) (fun hHeld => ?_)
                  clear hK K
                  clear hHeld
                  exact wpAnyH_as (by kernel_rfl) (by simp only [Act.put, List.setIfInBounds_toArray, List.set_cons_zero, List.set_cons_succ]) (C_4_7.out g _ hF1)
                · go_simp
                  have hF1 := hF.newP
                  refine hK.out _ _ (K14.out _ hF1.1) (fun hHeld => ?_)
                  clear hK K hHeld
                  exact wpAnyH_as (by kernel_rfl) (by simp only [Act.put, List.setIfInBounds_toArray, List.set_cons_zero, List.set_cons_succ]) (C_4_14.out g wk.heap.size _ hF1)
              replace C_4 := Lib.hid C_4
              refine claim (fun W a => ∀ (wk : World), FKn wr wk (97 + (k : Int)) [] [] → W 13 #[true, true, true, true, false, false, false, false, false, false, false, false, false, false, false, false, false] a wk) ?_ (fun C_ => ?_)
              · intro  wk hF
                try simp only [Act.put, List.setIfInBounds_toArray, List.set_cons_zero, List.set_cons_succ]
                refine wpAnyH_ready (rs := [4, 7, 14]) (by kernel_rfl) (by simp) ?_
                refine (AllReadyH.cons rfl (fun K hK => ?_) (AllReadyH.cons rfl (fun K hK => ?_) (AllReadyH.cons rfl (fun K hK => ?_) AllReadyH.nil)))
                · go_simp
                  have hF1 := hF.newB
                  refine hK.out _ _ (K14.out _ hF1.1) (fun hHeld => ?_)
                  clear hK K hHeld
                  exact wpAnyH_as (by kernel_rfl) (by simp only [Act.put, List.setIfInBounds_toArray, List.set_cons_zero, List.set_cons_succ]) (C_4.out wk.heap.size _ hF1)
                · go_simp
                  (with_reducible refine (CN.out _ _).mono ?_)
                  rintro e w1 ⟨rfl, hb⟩
                  have hF1 := hF.step hb
                  clear hb
                  go_wp2_with fail
                  refine hK.out _ _ (K14.out _ hF1.1) (fun hHeld => ?_)
                  clear hK K
                  clear hHeld
                  exact wpAnyH_as (by kernel_rfl) (by simp only [Act.put, List.setIfInBounds_toArray, List.set_cons_zero, List.set_cons_succ]) (C_7.out  _ hF1)
                · go_simp
                  have hF1 := hF.newP
                  refine hK.out _ _ (K14.out _ hF1.1) (fun hHeld => ?_)
                  clear hK K hHeld
                  exact wpAnyH_as (by kernel_rfl) (by simp only [Act.put, List.setIfInBounds_toArray, List.set_cons_zero, List.set_cons_succ]) (C_14.out wk.heap.size _ hF1)
              replace C_ := Lib.hid C_
              exact C_.out _ F0
            case rest =>
              obtain ⟨p17, n17, y, rfl, rfl, hbx, hb, hq⟩ := hcut
              have HBXc := Lib.hid (HBX.out.below hb)
              have HTc := Lib.hid (HTX.out.below hb)
              have HOXc := Lib.hid (HOX.out.below hb)
              have X1c := Lib.hid (X1.out.below hb)
              have O1c := Lib.hid (O1.out.below hb)
              have BBc := Lib.hid (BB.out.trans (hb.mono BB.out.size))
              have SZ := Lib.hid (show w.heap.size ≤ wr.heap.size from BB.out.size)
              have HBE := Lib.hid hbx
              clear hbx hb HBX HOX X1 O1 BB HTX K14 CKA hc
              rcases hq with ⟨hk15, rfl, hki⟩ | ⟨rfl, rfl⟩
              · obtain ⟨ye, yid, ylab, yfr, ytil, yval, yps⟩ := y
                obtain ⟨Ay, cy, Py, ny, dy, hyx, hyo, _⟩ := HBE.out
                have YX := Lib.hid (show Bx wc p17 #[.bool ye, .int .u64 yid, .string ylab, .int .u64 yfr, .int .u64 ytil, .slice Ay yval.length cy, .slice Py ny dy] from hyx)
                have YO := Lib.hid (EOwn.mono hyo SZ.out)
                have HKI := Lib.hid hki
                clear hyx hyo hki HBE HOXc KX2
                have i15 : (k : Int) < 15 := by omega
                have i16 : ¬ ((k : Int) = 15) := by omega
                have g3 : IntKind.i64.wrap ((k : Int) + 1) = (k : Int) + 1 := by rw [IntWalk.i64_in]; constructor <;> omega
                have y0 := YX.out.c
                have z2 := HBXc.out.c
                have z3 := HBXc.out.fr
                go_wp2_with fail
                obtain ⟨W9, hW9, X9, G9⟩ := box_put HBXc.out HTc.out YO.out
                simp only at hW9
                rw [hW9]
                exact ⟨⟨k + 1, ⟨ye, yid, ylab, yfr, ytil, yval, yps⟩, by omega, by go_num, by rw [Nat.min_eq_left (by omega)]; exact HKI.out, X9, X1c.out.grown G9 fun q hq e => by have := Option.some.inj hq; have := L1.out; omega, O1c.out.far G9 HTc.out, BBc.out.grown G9 BBc.out.size fun q hq => by have e := Option.some.inj hq; have := M15.out; omega⟩, by simp [intOf]; omega⟩
              · go_wp2_with fail
                exact ⟨⟨16, ⟨xe, xid, xlab, xfr, xtil, xval, xps⟩, by omega, by go_num, KX2.out.more, ⟨_, _, _, _, _, HBXc.out, EOwn.mono HOXc.out (Nat.le_refl _), HTc.out⟩, X1c.out, O1c.out, BBc.out⟩, by simp [intOf]⟩
          · obtain rfl : k = 16 := by omega
            obtain ⟨xe, xid, xlab, xfr, xtil, xval, xps⟩ := x
            obtain ⟨Ax, cx, Px, nx, dx, hbx, hox, _⟩ := EX.out
            have HBX := Lib.hid (show Bx wr p15 #[.bool xe, .int .u64 xid, .string xlab, .int .u64 xfr, .int .u64 xtil, .slice Ax xval.length cx, .slice Px nx dx] from hbx)
            have HOX := Lib.hid hox
            have KX2 := Lib.hid (show KI ⟨xe, xid, xlab, xfr, xtil, xval, xps⟩ 15 38 from KX.out)
            clear hbx hox KX
            obtain ⟨wa, rfl⟩ : ∃ x : World, x = wr := ⟨_, rfl⟩
            have CZ := Lib.hid (fun W (hb : Below wa.heap.size wa W) => zzApply (.agg #[.bool xe, .int .u64 xid, .string xlab, .int .u64 xfr, .int .u64 xtil, .slice Ax xval.length cx, .slice Px nx dx]) ⟨xe, xid, xlab, xfr, xtil, xval, xps⟩ 15 38 W (HOX.out.below hb).at KX2.out (by omega))
            have K20 : Hid (∀ w', Below wa.heap.size wa w' → ∀ j, w'.cell? ⟨p15, j, none⟩ = #[.bool xe, .int .u64 xid, .string xlab, .int .u64 xfr, .int .u64 xtil, .slice Ax xval.length cx, .slice Px nx dx][j]?) := Lib.hid fun w' hb => (HBX.out.below hb).c
            go_upto_region 20 with fail
            go_cut [19, 20] from 110 to 116 (fun t1 t2 w' => ∃ p n y, t1 = .pointer (some ⟨p, 0, none⟩) ∧ t2 = .int .i64 n ∧ BoxE wa.heap.size w' p y ∧ Below wa.heap.size wa w' ∧ n = 0)
            case first =>
              refine wp_region_held_drew (S := (fun w' => ∀ j, w'.cell? ⟨p15, j, none⟩ = #[.bool xe, .int .u64 xid, .string xlab, .int .u64 xfr, .int .u64 xtil, .slice Ax xval.length cx, .slice Px nx dx][j]?)) (by kernel_rfl) (K20.out _ (Below.refl _ _).drew) (fun hHeld => ?_)
              refine take_in (i := 0) (v := ?_) (some 111) rfl rfl (by kernel_rfl) (by kernel_rfl) (by kernel_rfl) (fun _ _ _ h => h) (Or.inl ⟨by rfl, ?_⟩) (by assumption) ?_
              rotate_left
              · (intro w hSw; (try dsimp only at hSw); (try go_split_ands); go_simp; try with_reducible rfl)
              try simp only [Act.put, List.setIfInBounds_toArray, List.set_cons_zero, List.set_cons_succ]
              refine wpAnyH_ready (rs := [1, 7]) (by kernel_rfl) (by simp) ?_
              refine (AllReadyH.cons rfl (fun K hK => ?_) (AllReadyH.cons rfl (fun K hK => ?_) AllReadyH.nil))
              · go_simp
                (with_reducible refine (CP.out _ _ _).mono ?_)
                rintro e wsa ⟨rfl, hb⟩
                have Hsa := Lib.hid ((show Below wa.heap.size wa wa.drew from (Below.refl _ _).drew).trans (hb.mono (show Below wa.heap.size wa wa.drew from (Below.refl _ _).drew).size))
                clear hb
                go_wp2_with fail
                refine hK.out _ _ (K20.out _ Hsa.out) (fun hHeld => ?_)
                clear hK K
                try simp only [Act.put, List.setIfInBounds_toArray, List.set_cons_zero, List.set_cons_succ]
                refine take_in (i := 2) (v := ?_) (some 113) rfl rfl (by kernel_rfl) (by kernel_rfl) (by kernel_rfl) (fun _ _ _ h => h) (Or.inl ⟨by rfl, ?_⟩) (by assumption) ?_
                rotate_left
                · (intro w hSw; (try dsimp only at hSw); (try go_split_ands); go_simp; try with_reducible rfl)
                try simp only [Act.put, List.setIfInBounds_toArray, List.set_cons_zero, List.set_cons_succ]
                refine wpAnyH_ready (rs := [3, 7]) (by kernel_rfl) (by simp) ?_
                refine (AllReadyH.cons rfl (fun K hK => ?_) (AllReadyH.cons rfl (fun K hK => ?_) AllReadyH.nil))
                · go_simp
                  (with_reducible refine (CZ.out _ Hsa.out).mono ?_)
                  rintro e wsaZ ⟨u, nns, y, rfl, ho, hb, hq⟩
                  have HsaZ := Lib.hid (Hsa.out.trans (hb.mono Hsa.out.size))
                  have HQs := Lib.hid hq
                  obtain ⟨ye, yid, ylab, yfr, ytil, yval, yps⟩ := y
                  have OWaZ := Lib.hid (EOwn.mono ho (Hsa.out).size)
                  obtain ⟨su, sq, rsu, rfl, hu1, hu2, hu3⟩ := ho
                  obtain ⟨Au, cu, rfl, _⟩ := hu1.at
                  obtain ⟨Aq, cq, rfl, _⟩ := hu2.form
                  clear hb hq hu1 hu2 hu3
                  go_wp2_with fail
                  refine hK.out _ _ (K20.out _ HsaZ.out) (fun hHeld => ?_)
                  clear hK K
                  try simp only [Act.put, List.setIfInBounds_toArray, List.set_cons_zero, List.set_cons_succ]
                  refine take_in (i := 4) (v := ?_) (some 110) rfl rfl (by kernel_rfl) (by kernel_rfl) (by kernel_rfl) (fun _ _ _ h => h) (Or.inl ⟨by rfl, ?_⟩) (by assumption) ?_
                  rotate_left
                  · (intro w hSw; (try dsimp only at hSw); (try go_split_ands); go_simp; try with_reducible rfl)
                  try simp only [Act.put, List.setIfInBounds_toArray, List.set_cons_zero, List.set_cons_succ]
                  refine take_in (i := 5) (v := ?_) (some 115) rfl rfl (by kernel_rfl) (by kernel_rfl) (by kernel_rfl) (fun _ _ _ h => h) (Or.inl ⟨by rfl, ?_⟩) (by assumption) ?_
                  rotate_left
                  · (intro w hSw; (try dsimp only at hSw); (try go_split_ands); go_simp; try with_reducible rfl)
                  try simp only [Act.put, List.setIfInBounds_toArray, List.set_cons_zero, List.set_cons_succ]
                  refine take_in (i := 6) (v := ?_) (some 116) rfl rfl (by kernel_rfl) (by kernel_rfl) (by kernel_rfl) (fun _ _ _ h => h) (Or.inl ⟨by rfl, ?_⟩) (by assumption) ?_
                  rotate_left
                  · (intro w hSw; (try dsimp only at hSw); (try go_split_ands); go_simp; try with_reducible rfl)
                  try simp only [Act.put, List.setIfInBounds_toArray, List.set_cons_zero, List.set_cons_succ]
                  refine wpAnyH_ready (rs := [7]) (by kernel_rfl) (by simp) ?_
                  refine (AllReadyH.cons rfl (fun K hK => ?_) AllReadyH.nil)
                  go_simp
                  refine hK.out _ _ (K20.out _ (HsaZ.out.alloc HsaZ.out.size _)) (fun hHeld => ?_)
                  clear hK K
                  try simp only [Act.put, List.setIfInBounds_toArray, List.set_cons_zero, List.set_cons_succ]
                  obtain ⟨wsaZA, hWs⟩ : ∃ W, wsaZ.alloc (.cells #[.bool false, .int .u64 0, .string ⟨#[]⟩, .int .u64 0, .int .u64 0, .slice none 0 0, .slice none 0 0] 38) = W := ⟨_, rfl⟩
                  have HsaZA := Lib.hid (show Below wa.heap.size wa wsaZA by rw [← hWs]; exact HsaZ.out.alloc HsaZ.out.size _)
                  have YBaZA := Lib.hid (show Bx wsaZA wsaZ.heap.size #[.bool false, .int .u64 0, .string ⟨#[]⟩, .int .u64 0, .int .u64 0, .slice none 0 0, .slice none 0 0] by rw [← hWs]; exact Bx.new wsaZ _ _)
                  have YTaZA := Lib.hid (show HT wsaZA wsaZ.heap.size by rw [← hWs]; exact HT.new wsaZ _)
                  have OWaZA := Lib.hid (show EOwn wa.heap.size wsaZA (.agg (Ent.cells ⟨ye, yid, ylab, yfr, ytil, yval, yps⟩ (.slice Au yval.length cu) (.slice Aq rsu.length cq))) ⟨ye, yid, ylab, yfr, ytil, yval, yps⟩ by rw [← hWs]; exact OWaZ.out.below ((Below.refl _ _).alloc (Nat.le_refl _) _))
                  have y2 := YBaZA.out.c
                  have y3 := YBaZA.out.fr
                  try rw [hWs] at hHeld
                  try rw [hWs]
                  clear hWs
                  refine wpAnyH_ready (rs := [8]) (by kernel_rfl) (by simp) ?_
                  refine (AllReadyH.cons rfl (fun K hK => ?_) AllReadyH.nil)
                  go_simp
                  refine hK.out _ _ (K20.out _ (box_below YBaZA.out HsaZA.out HsaZA.out.size (by first | exact Nat.le_refl _ | exact HsaZ.out.size) _ _ _ _ _ _ _)) (fun hHeld => ?_)
                  clear hK K
                  try simp only [Act.put, List.setIfInBounds_toArray, List.set_cons_zero, List.set_cons_succ]
                  clear y2 y3
                  refine take_in (i := 9) (v := ?_) (some 20) rfl rfl (by kernel_rfl) (by kernel_rfl) (by kernel_rfl) (fun _ _ _ h => h) (Or.inl ⟨by rfl, ?_⟩) (by assumption) ?_
                  rotate_left
                  · (intro w hSw; (try dsimp only at hSw); (try go_split_ands); go_simp; try with_reducible rfl)
                  try simp only [Act.put, List.setIfInBounds_toArray, List.set_cons_zero, List.set_cons_succ]
                  refine wpAnyH_done (by kernel_rfl) ?_ _
                  obtain ⟨W9, hW9, X9, G9⟩ := box_put YBaZA.out YTaZA.out OWaZA.out
                  simp only at hW9
                  rw [hW9]
                  have HX9 := Lib.hid X9
                  have HG9 := Lib.hid (HsaZA.out.grown G9 HsaZA.out.size fun q hq => by have e := Option.some.inj hq; first | omega | (rw [← e]; exact HsaZ.out.size))
                  clear hW9 X9 G9
                  go_wp2_with fail
                  go_meet
                  exact ⟨_, _, _, rfl, rfl, HX9.out, HG9.out, HQs.out⟩
                · go_simp
                  refine hK.out _ _ (K20.out _ (Hsa.out.alloc Hsa.out.size _)) (fun hHeld => ?_)
                  clear hK K
                  try simp only [Act.put, List.setIfInBounds_toArray, List.set_cons_zero, List.set_cons_succ]
                  obtain ⟨wsaA, hWs⟩ : ∃ W, wsa.alloc (.cells #[.bool false, .int .u64 0, .string ⟨#[]⟩, .int .u64 0, .int .u64 0, .slice none 0 0, .slice none 0 0] 38) = W := ⟨_, rfl⟩
                  have HsaA := Lib.hid (show Below wa.heap.size wa wsaA by rw [← hWs]; exact Hsa.out.alloc Hsa.out.size _)
                  have YBaA := Lib.hid (show Bx wsaA wsa.heap.size #[.bool false, .int .u64 0, .string ⟨#[]⟩, .int .u64 0, .int .u64 0, .slice none 0 0, .slice none 0 0] by rw [← hWs]; exact Bx.new wsa _ _)
                  have YTaA := Lib.hid (show HT wsaA wsa.heap.size by rw [← hWs]; exact HT.new wsa _)
                  try rw [hWs] at hHeld
                  try rw [hWs]
                  clear hWs
                  refine wpAnyH_ready (rs := [3]) (by kernel_rfl) (by simp) ?_
                  refine (AllReadyH.cons rfl (fun K hK => ?_) AllReadyH.nil)
                  go_simp
                  (with_reducible refine (CZ.out _ HsaA.out).mono ?_)
                  rintro e wsaAZ ⟨u, nns, y, rfl, ho, hb, hq⟩
                  have HsaAZ := Lib.hid (HsaA.out.trans (hb.mono HsaA.out.size))
                  have HQs := Lib.hid hq
                  obtain ⟨ye, yid, ylab, yfr, ytil, yval, yps⟩ := y
                  have OWaAZ := Lib.hid (EOwn.mono ho (HsaA.out).size)
                  obtain ⟨su, sq, rsu, rfl, hu1, hu2, hu3⟩ := ho
                  obtain ⟨Au, cu, rfl, _⟩ := hu1.at
                  obtain ⟨Aq, cq, rfl, _⟩ := hu2.form
                  have YBaAZ := Lib.hid (YBaA.out.below hb)
                  have YTaAZ := Lib.hid (YTaA.out.below hb)
                  have y2 := YBaAZ.out.c
                  have y3 := YBaAZ.out.fr
                  clear hb hq hu1 hu2 hu3
                  go_wp2_with fail
                  refine hK.out _ _ (K20.out _ HsaAZ.out) (fun hHeld => ?_)
                  clear hK K
                  try simp only [Act.put, List.setIfInBounds_toArray, List.set_cons_zero, List.set_cons_succ]
                  refine take_in (i := 4) (v := ?_) (some 110) rfl rfl (by kernel_rfl) (by kernel_rfl) (by kernel_rfl) (fun _ _ _ h => h) (Or.inl ⟨by rfl, ?_⟩) (by assumption) ?_
                  rotate_left
                  · (intro w hSw; (try dsimp only at hSw); (try go_split_ands); go_simp; try with_reducible rfl)
                  try simp only [Act.put, List.setIfInBounds_toArray, List.set_cons_zero, List.set_cons_succ]
                  refine take_in (i := 5) (v := ?_) (some 115) rfl rfl (by kernel_rfl) (by kernel_rfl) (by kernel_rfl) (fun _ _ _ h => h) (Or.inl ⟨by rfl, ?_⟩) (by assumption) ?_
                  rotate_left
                  · (intro w hSw; (try dsimp only at hSw); (try go_split_ands); go_simp; try with_reducible rfl)
                  try simp only [Act.put, List.setIfInBounds_toArray, List.set_cons_zero, List.set_cons_succ]
                  refine take_in (i := 6) (v := ?_) (some 116) rfl rfl (by kernel_rfl) (by kernel_rfl) (by kernel_rfl) (fun _ _ _ h => h) (Or.inl ⟨by rfl, ?_⟩) (by assumption) ?_
                  rotate_left
                  · (intro w hSw; (try dsimp only at hSw); (try go_split_ands); go_simp; try with_reducible rfl)
                  try simp only [Act.put, List.setIfInBounds_toArray, List.set_cons_zero, List.set_cons_succ]
                  refine wpAnyH_ready (rs := [8]) (by kernel_rfl) (by simp) ?_
                  refine (AllReadyH.cons rfl (fun K hK => ?_) AllReadyH.nil)
                  go_simp
                  refine hK.out _ _ (K20.out _ (box_below YBaAZ.out HsaAZ.out HsaAZ.out.size (by first | exact Nat.le_refl _ | exact Hsa.out.size) _ _ _ _ _ _ _)) (fun hHeld => ?_)
                  clear hK K
                  try simp only [Act.put, List.setIfInBounds_toArray, List.set_cons_zero, List.set_cons_succ]
                  clear y2 y3
                  refine take_in (i := 9) (v := ?_) (some 20) rfl rfl (by kernel_rfl) (by kernel_rfl) (by kernel_rfl) (fun _ _ _ h => h) (Or.inl ⟨by rfl, ?_⟩) (by assumption) ?_
                  rotate_left
                  · (intro w hSw; (try dsimp only at hSw); (try go_split_ands); go_simp; try with_reducible rfl)
                  try simp only [Act.put, List.setIfInBounds_toArray, List.set_cons_zero, List.set_cons_succ]
                  refine wpAnyH_done (by kernel_rfl) ?_ _
                  obtain ⟨W9, hW9, X9, G9⟩ := box_put YBaAZ.out YTaAZ.out OWaAZ.out
                  simp only at hW9
                  rw [hW9]
                  have HX9 := Lib.hid X9
                  have HG9 := Lib.hid (HsaAZ.out.grown G9 HsaAZ.out.size fun q hq => by have e := Option.some.inj hq; first | omega | (rw [← e]; exact Hsa.out.size))
                  clear hW9 X9 G9
                  go_wp2_with fail
                  go_meet
                  exact ⟨_, _, _, rfl, rfl, HX9.out, HG9.out, HQs.out⟩
              · go_simp
                refine hK.out _ _ (K20.out _ ((show Below wa.heap.size wa wa.drew from (Below.refl _ _).drew).alloc (show Below wa.heap.size wa wa.drew from (Below.refl _ _).drew).size _)) (fun hHeld => ?_)
                clear hK K
                try simp only [Act.put, List.setIfInBounds_toArray, List.set_cons_zero, List.set_cons_succ]
                obtain ⟨wsA, hWs⟩ : ∃ W, (wa.alloc (.cells #[.bool false, .int .u64 0, .string ⟨#[]⟩, .int .u64 0, .int .u64 0, .slice none 0 0, .slice none 0 0] 38)).drew = W := ⟨_, rfl⟩
                have HsA := Lib.hid (show Below wa.heap.size wa wsA by rw [← hWs]; exact ((Below.refl _ _).alloc (Nat.le_refl _) _).drew)
                have YBA := Lib.hid (show Bx wsA wa.heap.size #[.bool false, .int .u64 0, .string ⟨#[]⟩, .int .u64 0, .int .u64 0, .slice none 0 0, .slice none 0 0] by rw [← hWs]; exact (Bx.new wa _ _).below (Below.refl _ _).drew)
                have YTA := Lib.hid (show HT wsA wa.heap.size by rw [← hWs]; exact (HT.new wa _).below (Below.refl _ _).drew)
                try rw [hWs] at hHeld
                try rw [hWs]
                clear hWs
                refine wpAnyH_ready (rs := [1]) (by kernel_rfl) (by simp) ?_
                refine (AllReadyH.cons rfl (fun K hK => ?_) AllReadyH.nil)
                go_simp
                (with_reducible refine (CP.out _ _ _).mono ?_)
                rintro e wsAa ⟨rfl, hb⟩
                have HsAa := Lib.hid (HsA.out.trans (hb.mono HsA.out.size))
                have YBAa := Lib.hid (YBA.out.below hb)
                have YTAa := Lib.hid (YTA.out.below hb)
                clear hb
                go_wp2_with fail
                refine hK.out _ _ (K20.out _ HsAa.out) (fun hHeld => ?_)
                clear hK K
                try simp only [Act.put, List.setIfInBounds_toArray, List.set_cons_zero, List.set_cons_succ]
                refine take_in (i := 2) (v := ?_) (some 113) rfl rfl (by kernel_rfl) (by kernel_rfl) (by kernel_rfl) (fun _ _ _ h => h) (Or.inl ⟨by rfl, ?_⟩) (by assumption) ?_
                rotate_left
                · (intro w hSw; (try dsimp only at hSw); (try go_split_ands); go_simp; try with_reducible rfl)
                try simp only [Act.put, List.setIfInBounds_toArray, List.set_cons_zero, List.set_cons_succ]
                refine wpAnyH_ready (rs := [3]) (by kernel_rfl) (by simp) ?_
                refine (AllReadyH.cons rfl (fun K hK => ?_) AllReadyH.nil)
                go_simp
                (with_reducible refine (CZ.out _ HsAa.out).mono ?_)
                rintro e wsAaZ ⟨u, nns, y, rfl, ho, hb, hq⟩
                have HsAaZ := Lib.hid (HsAa.out.trans (hb.mono HsAa.out.size))
                have HQs := Lib.hid hq
                obtain ⟨ye, yid, ylab, yfr, ytil, yval, yps⟩ := y
                have OWAaZ := Lib.hid (EOwn.mono ho (HsAa.out).size)
                obtain ⟨su, sq, rsu, rfl, hu1, hu2, hu3⟩ := ho
                obtain ⟨Au, cu, rfl, _⟩ := hu1.at
                obtain ⟨Aq, cq, rfl, _⟩ := hu2.form
                have YBAaZ := Lib.hid (YBAa.out.below hb)
                have YTAaZ := Lib.hid (YTAa.out.below hb)
                have y2 := YBAaZ.out.c
                have y3 := YBAaZ.out.fr
                clear hb hq hu1 hu2 hu3
                go_wp2_with fail
                refine hK.out _ _ (K20.out _ HsAaZ.out) (fun hHeld => ?_)
                clear hK K
                try simp only [Act.put, List.setIfInBounds_toArray, List.set_cons_zero, List.set_cons_succ]
                refine take_in (i := 4) (v := ?_) (some 110) rfl rfl (by kernel_rfl) (by kernel_rfl) (by kernel_rfl) (fun _ _ _ h => h) (Or.inl ⟨by rfl, ?_⟩) (by assumption) ?_
                rotate_left
                · (intro w hSw; (try dsimp only at hSw); (try go_split_ands); go_simp; try with_reducible rfl)
                try simp only [Act.put, List.setIfInBounds_toArray, List.set_cons_zero, List.set_cons_succ]
                refine take_in (i := 5) (v := ?_) (some 115) rfl rfl (by kernel_rfl) (by kernel_rfl) (by kernel_rfl) (fun _ _ _ h => h) (Or.inl ⟨by rfl, ?_⟩) (by assumption) ?_
                rotate_left
                · (intro w hSw; (try dsimp only at hSw); (try go_split_ands); go_simp; try with_reducible rfl)
                try simp only [Act.put, List.setIfInBounds_toArray, List.set_cons_zero, List.set_cons_succ]
                refine take_in (i := 6) (v := ?_) (some 116) rfl rfl (by kernel_rfl) (by kernel_rfl) (by kernel_rfl) (fun _ _ _ h => h) (Or.inl ⟨by rfl, ?_⟩) (by assumption) ?_
                rotate_left
                · (intro w hSw; (try dsimp only at hSw); (try go_split_ands); go_simp; try with_reducible rfl)
                try simp only [Act.put, List.setIfInBounds_toArray, List.set_cons_zero, List.set_cons_succ]
                refine wpAnyH_ready (rs := [8]) (by kernel_rfl) (by simp) ?_
                refine (AllReadyH.cons rfl (fun K hK => ?_) AllReadyH.nil)
                go_simp
                refine hK.out _ _ (K20.out _ (box_below YBAaZ.out HsAaZ.out HsAaZ.out.size (by first | exact Nat.le_refl _ | exact HsAaZ.out.size) _ _ _ _ _ _ _)) (fun hHeld => ?_)
                clear hK K
                try simp only [Act.put, List.setIfInBounds_toArray, List.set_cons_zero, List.set_cons_succ]
                clear y2 y3
                refine take_in (i := 9) (v := ?_) (some 20) rfl rfl (by kernel_rfl) (by kernel_rfl) (by kernel_rfl) (fun _ _ _ h => h) (Or.inl ⟨by rfl, ?_⟩) (by assumption) ?_
                rotate_left
                · (intro w hSw; (try dsimp only at hSw); (try go_split_ands); go_simp; try with_reducible rfl)
                try simp only [Act.put, List.setIfInBounds_toArray, List.set_cons_zero, List.set_cons_succ]
                refine wpAnyH_done (by kernel_rfl) ?_ _
                obtain ⟨W9, hW9, X9, G9⟩ := box_put YBAaZ.out YTAaZ.out OWAaZ.out
                simp only at hW9
                rw [hW9]
                have HX9 := Lib.hid X9
                have HG9 := Lib.hid (HsAaZ.out.grown G9 HsAaZ.out.size fun q hq => by have e := Option.some.inj hq; first | omega | (rw [← e]; exact HsAaZ.out.size))
                clear hW9 X9 G9
                go_wp2_with fail
                go_meet
                exact ⟨_, _, _, rfl, rfl, HX9.out, HG9.out, HQs.out⟩
            case rest =>
              obtain ⟨p19, n19, z19, rfl, rfl, _, hb, rfl⟩ := hcut
              obtain ⟨wb, rfl⟩ : ∃ x : World, x = wc := ⟨_, rfl⟩
              have BBb := Lib.hid (BB.out.trans (hb.mono BB.out.size))
              have X1b := Lib.hid (X1.out.below hb)
              have O1b := Lib.hid (O1.out.below hb)
              have HBXb := Lib.hid (HBX.out.below hb)
              have HOXb := Lib.hid (HOX.out.below hb)
              clear hb K20 CZ HBX HOX X1 O1
              have CZ := Lib.hid (fun W (hb : Below wb.heap.size wb W) => allApply (.agg #[.bool xe, .int .u64 xid, .string xlab, .int .u64 xfr, .int .u64 xtil, .slice Ax xval.length cx, .slice Px nx dx]) ⟨xe, xid, xlab, xfr, xtil, xval, xps⟩ 15 38 W (HOXb.out.below hb).at KX2.out (by omega))
              have K21 : Hid (∀ w', Below wb.heap.size wb w' → ∀ j, w'.cell? ⟨p15, j, none⟩ = #[.bool xe, .int .u64 xid, .string xlab, .int .u64 xfr, .int .u64 xtil, .slice Ax xval.length cx, .slice Px nx dx][j]?) := Lib.hid fun w' hb => (HBXb.out.below hb).c
              go_upto_region 21 with fail
              go_cut [21, 22] from 117 to 123 (fun t1 t2 w' => ∃ p n y, t1 = .pointer (some ⟨p, 0, none⟩) ∧ t2 = .int .i64 n ∧ BoxE wb.heap.size w' p y ∧ Below wb.heap.size wb w' ∧ (n = 0 ∧ y.val = [] ∧ y.ps = [] ∧ y.may))
              case first =>
                refine wp_region_held_drew (S := (fun w' => ∀ j, w'.cell? ⟨p15, j, none⟩ = #[.bool xe, .int .u64 xid, .string xlab, .int .u64 xfr, .int .u64 xtil, .slice Ax xval.length cx, .slice Px nx dx][j]?)) (by kernel_rfl) (K21.out _ (Below.refl _ _).drew) (fun hHeld => ?_)
                refine take_in (i := 0) (v := ?_) (some 118) rfl rfl (by kernel_rfl) (by kernel_rfl) (by kernel_rfl) (fun _ _ _ h => h) (Or.inl ⟨by rfl, ?_⟩) (by assumption) ?_
                rotate_left
                · (intro w hSw; (try dsimp only at hSw); (try go_split_ands); go_simp; try with_reducible rfl)
                try simp only [Act.put, List.setIfInBounds_toArray, List.set_cons_zero, List.set_cons_succ]
                refine wpAnyH_ready (rs := [1, 7]) (by kernel_rfl) (by simp) ?_
                refine (AllReadyH.cons rfl (fun K hK => ?_) (AllReadyH.cons rfl (fun K hK => ?_) AllReadyH.nil))
                · go_simp
                  (with_reducible refine (CP.out _ _ _).mono ?_)
                  rintro e wta ⟨rfl, hb⟩
                  have Hta := Lib.hid ((show Below wb.heap.size wb wb.drew from (Below.refl _ _).drew).trans (hb.mono (show Below wb.heap.size wb wb.drew from (Below.refl _ _).drew).size))
                  clear hb
                  go_wp2_with fail
                  refine hK.out _ _ (K21.out _ Hta.out) (fun hHeld => ?_)
                  clear hK K
                  try simp only [Act.put, List.setIfInBounds_toArray, List.set_cons_zero, List.set_cons_succ]
                  refine take_in (i := 2) (v := ?_) (some 120) rfl rfl (by kernel_rfl) (by kernel_rfl) (by kernel_rfl) (fun _ _ _ h => h) (Or.inl ⟨by rfl, ?_⟩) (by assumption) ?_
                  rotate_left
                  · (intro w hSw; (try dsimp only at hSw); (try go_split_ands); go_simp; try with_reducible rfl)
                  try simp only [Act.put, List.setIfInBounds_toArray, List.set_cons_zero, List.set_cons_succ]
                  refine wpAnyH_ready (rs := [3, 7]) (by kernel_rfl) (by simp) ?_
                  refine (AllReadyH.cons rfl (fun K hK => ?_) (AllReadyH.cons rfl (fun K hK => ?_) AllReadyH.nil))
                  · go_simp
                    (with_reducible refine (CZ.out _ Hta.out).mono ?_)
                    rintro e wtaZ ⟨u, nnt, y, rfl, ho, hb, hq⟩
                    have HtaZ := Lib.hid (Hta.out.trans (hb.mono Hta.out.size))
                    have HQt := Lib.hid hq
                    obtain ⟨ye, yid, ylab, yfr, ytil, yval, yps⟩ := y
                    have OWaZ := Lib.hid (EOwn.mono ho (Hta.out).size)
                    obtain ⟨su, sq, rsu, rfl, hu1, hu2, hu3⟩ := ho
                    obtain ⟨Au, cu, rfl, _⟩ := hu1.at
                    obtain ⟨Aq, cq, rfl, _⟩ := hu2.form
                    clear hb hq hu1 hu2 hu3
                    go_wp2_with fail
                    refine hK.out _ _ (K21.out _ HtaZ.out) (fun hHeld => ?_)
                    clear hK K
                    try simp only [Act.put, List.setIfInBounds_toArray, List.set_cons_zero, List.set_cons_succ]
                    refine take_in (i := 4) (v := ?_) (some 117) rfl rfl (by kernel_rfl) (by kernel_rfl) (by kernel_rfl) (fun _ _ _ h => h) (Or.inl ⟨by rfl, ?_⟩) (by assumption) ?_
                    rotate_left
                    · (intro w hSw; (try dsimp only at hSw); (try go_split_ands); go_simp; try with_reducible rfl)
                    try simp only [Act.put, List.setIfInBounds_toArray, List.set_cons_zero, List.set_cons_succ]
                    refine take_in (i := 5) (v := ?_) (some 122) rfl rfl (by kernel_rfl) (by kernel_rfl) (by kernel_rfl) (fun _ _ _ h => h) (Or.inl ⟨by rfl, ?_⟩) (by assumption) ?_
                    rotate_left
                    · (intro w hSw; (try dsimp only at hSw); (try go_split_ands); go_simp; try with_reducible rfl)
                    try simp only [Act.put, List.setIfInBounds_toArray, List.set_cons_zero, List.set_cons_succ]
                    refine take_in (i := 6) (v := ?_) (some 123) rfl rfl (by kernel_rfl) (by kernel_rfl) (by kernel_rfl) (fun _ _ _ h => h) (Or.inl ⟨by rfl, ?_⟩) (by assumption) ?_
                    rotate_left
                    · (intro w hSw; (try dsimp only at hSw); (try go_split_ands); go_simp; try with_reducible rfl)
                    try simp only [Act.put, List.setIfInBounds_toArray, List.set_cons_zero, List.set_cons_succ]
                    refine wpAnyH_ready (rs := [7]) (by kernel_rfl) (by simp) ?_
                    refine (AllReadyH.cons rfl (fun K hK => ?_) AllReadyH.nil)
                    go_simp
                    refine hK.out _ _ (K21.out _ (HtaZ.out.alloc HtaZ.out.size _)) (fun hHeld => ?_)
                    clear hK K
                    try simp only [Act.put, List.setIfInBounds_toArray, List.set_cons_zero, List.set_cons_succ]
                    obtain ⟨wtaZA, hWt⟩ : ∃ W, wtaZ.alloc (.cells #[.bool false, .int .u64 0, .string ⟨#[]⟩, .int .u64 0, .int .u64 0, .slice none 0 0, .slice none 0 0] 38) = W := ⟨_, rfl⟩
                    have HtaZA := Lib.hid (show Below wb.heap.size wb wtaZA by rw [← hWt]; exact HtaZ.out.alloc HtaZ.out.size _)
                    have YBaZA := Lib.hid (show Bx wtaZA wtaZ.heap.size #[.bool false, .int .u64 0, .string ⟨#[]⟩, .int .u64 0, .int .u64 0, .slice none 0 0, .slice none 0 0] by rw [← hWt]; exact Bx.new wtaZ _ _)
                    have YTaZA := Lib.hid (show HT wtaZA wtaZ.heap.size by rw [← hWt]; exact HT.new wtaZ _)
                    have OWaZA := Lib.hid (show EOwn wb.heap.size wtaZA (.agg (Ent.cells ⟨ye, yid, ylab, yfr, ytil, yval, yps⟩ (.slice Au yval.length cu) (.slice Aq rsu.length cq))) ⟨ye, yid, ylab, yfr, ytil, yval, yps⟩ by rw [← hWt]; exact OWaZ.out.below ((Below.refl _ _).alloc (Nat.le_refl _) _))
                    have y2 := YBaZA.out.c
                    have y3 := YBaZA.out.fr
                    try rw [hWt] at hHeld
                    try rw [hWt]
                    clear hWt
                    refine wpAnyH_ready (rs := [8]) (by kernel_rfl) (by simp) ?_
                    refine (AllReadyH.cons rfl (fun K hK => ?_) AllReadyH.nil)
                    go_simp
                    refine hK.out _ _ (K21.out _ (box_below YBaZA.out HtaZA.out HtaZA.out.size (by first | exact Nat.le_refl _ | exact HtaZ.out.size) _ _ _ _ _ _ _)) (fun hHeld => ?_)
                    clear hK K
                    try simp only [Act.put, List.setIfInBounds_toArray, List.set_cons_zero, List.set_cons_succ]
                    clear y2 y3
                    refine take_in (i := 9) (v := ?_) (some 22) rfl rfl (by kernel_rfl) (by kernel_rfl) (by kernel_rfl) (fun _ _ _ h => h) (Or.inl ⟨by rfl, ?_⟩) (by assumption) ?_
                    rotate_left
                    · (intro w hSw; (try dsimp only at hSw); (try go_split_ands); go_simp; try with_reducible rfl)
                    try simp only [Act.put, List.setIfInBounds_toArray, List.set_cons_zero, List.set_cons_succ]
                    refine wpAnyH_done (by kernel_rfl) ?_ _
                    obtain ⟨W9, hW9, X9, G9⟩ := box_put YBaZA.out YTaZA.out OWaZA.out
                    simp only at hW9
                    rw [hW9]
                    have HX9 := Lib.hid X9
                    have HG9 := Lib.hid (HtaZA.out.grown G9 HtaZA.out.size fun q hq => by have e := Option.some.inj hq; first | omega | (rw [← e]; exact HtaZ.out.size))
                    clear hW9 X9 G9
                    go_wp2_with fail
                    go_meet
                    exact ⟨_, _, _, rfl, rfl, HX9.out, HG9.out, HQt.out⟩
                  · go_simp
                    refine hK.out _ _ (K21.out _ (Hta.out.alloc Hta.out.size _)) (fun hHeld => ?_)
                    clear hK K
                    try simp only [Act.put, List.setIfInBounds_toArray, List.set_cons_zero, List.set_cons_succ]
                    obtain ⟨wtaA, hWt⟩ : ∃ W, wta.alloc (.cells #[.bool false, .int .u64 0, .string ⟨#[]⟩, .int .u64 0, .int .u64 0, .slice none 0 0, .slice none 0 0] 38) = W := ⟨_, rfl⟩
                    have HtaA := Lib.hid (show Below wb.heap.size wb wtaA by rw [← hWt]; exact Hta.out.alloc Hta.out.size _)
                    have YBaA := Lib.hid (show Bx wtaA wta.heap.size #[.bool false, .int .u64 0, .string ⟨#[]⟩, .int .u64 0, .int .u64 0, .slice none 0 0, .slice none 0 0] by rw [← hWt]; exact Bx.new wta _ _)
                    have YTaA := Lib.hid (show HT wtaA wta.heap.size by rw [← hWt]; exact HT.new wta _)
                    try rw [hWt] at hHeld
                    try rw [hWt]
                    clear hWt
                    refine wpAnyH_ready (rs := [3]) (by kernel_rfl) (by simp) ?_
                    refine (AllReadyH.cons rfl (fun K hK => ?_) AllReadyH.nil)
                    go_simp
                    (with_reducible refine (CZ.out _ HtaA.out).mono ?_)
                    rintro e wtaAZ ⟨u, nnt, y, rfl, ho, hb, hq⟩
                    have HtaAZ := Lib.hid (HtaA.out.trans (hb.mono HtaA.out.size))
                    have HQt := Lib.hid hq
                    obtain ⟨ye, yid, ylab, yfr, ytil, yval, yps⟩ := y
                    have OWaAZ := Lib.hid (EOwn.mono ho (HtaA.out).size)
                    obtain ⟨su, sq, rsu, rfl, hu1, hu2, hu3⟩ := ho
                    obtain ⟨Au, cu, rfl, _⟩ := hu1.at
                    obtain ⟨Aq, cq, rfl, _⟩ := hu2.form
                    have YBaAZ := Lib.hid (YBaA.out.below hb)
                    have YTaAZ := Lib.hid (YTaA.out.below hb)
                    have y2 := YBaAZ.out.c
                    have y3 := YBaAZ.out.fr
                    clear hb hq hu1 hu2 hu3
                    go_wp2_with fail
                    refine hK.out _ _ (K21.out _ HtaAZ.out) (fun hHeld => ?_)
                    clear hK K
                    try simp only [Act.put, List.setIfInBounds_toArray, List.set_cons_zero, List.set_cons_succ]
                    refine take_in (i := 4) (v := ?_) (some 117) rfl rfl (by kernel_rfl) (by kernel_rfl) (by kernel_rfl) (fun _ _ _ h => h) (Or.inl ⟨by rfl, ?_⟩) (by assumption) ?_
                    rotate_left
                    · (intro w hSw; (try dsimp only at hSw); (try go_split_ands); go_simp; try with_reducible rfl)
                    try simp only [Act.put, List.setIfInBounds_toArray, List.set_cons_zero, List.set_cons_succ]
                    refine take_in (i := 5) (v := ?_) (some 122) rfl rfl (by kernel_rfl) (by kernel_rfl) (by kernel_rfl) (fun _ _ _ h => h) (Or.inl ⟨by rfl, ?_⟩) (by assumption) ?_
                    rotate_left
                    · (intro w hSw; (try dsimp only at hSw); (try go_split_ands); go_simp; try with_reducible rfl)
                    try simp only [Act.put, List.setIfInBounds_toArray, List.set_cons_zero, List.set_cons_succ]
                    refine take_in (i := 6) (v := ?_) (some 123) rfl rfl (by kernel_rfl) (by kernel_rfl) (by kernel_rfl) (fun _ _ _ h => h) (Or.inl ⟨by rfl, ?_⟩) (by assumption) ?_
                    rotate_left
                    · (intro w hSw; (try dsimp only at hSw); (try go_split_ands); go_simp; try with_reducible rfl)
                    try simp only [Act.put, List.setIfInBounds_toArray, List.set_cons_zero, List.set_cons_succ]
                    refine wpAnyH_ready (rs := [8]) (by kernel_rfl) (by simp) ?_
                    refine (AllReadyH.cons rfl (fun K hK => ?_) AllReadyH.nil)
                    go_simp
                    refine hK.out _ _ (K21.out _ (box_below YBaAZ.out HtaAZ.out HtaAZ.out.size (by first | exact Nat.le_refl _ | exact Hta.out.size) _ _ _ _ _ _ _)) (fun hHeld => ?_)
                    clear hK K
                    try simp only [Act.put, List.setIfInBounds_toArray, List.set_cons_zero, List.set_cons_succ]
                    clear y2 y3
                    refine take_in (i := 9) (v := ?_) (some 22) rfl rfl (by kernel_rfl) (by kernel_rfl) (by kernel_rfl) (fun _ _ _ h => h) (Or.inl ⟨by rfl, ?_⟩) (by assumption) ?_
                    rotate_left
                    · (intro w hSw; (try dsimp only at hSw); (try go_split_ands); go_simp; try with_reducible rfl)
                    try simp only [Act.put, List.setIfInBounds_toArray, List.set_cons_zero, List.set_cons_succ]
                    refine wpAnyH_done (by kernel_rfl) ?_ _
                    obtain ⟨W9, hW9, X9, G9⟩ := box_put YBaAZ.out YTaAZ.out OWaAZ.out
                    simp only at hW9
                    rw [hW9]
                    have HX9 := Lib.hid X9
                    have HG9 := Lib.hid (HtaAZ.out.grown G9 HtaAZ.out.size fun q hq => by have e := Option.some.inj hq; first | omega | (rw [← e]; exact Hta.out.size))
                    clear hW9 X9 G9
                    go_wp2_with fail
                    go_meet
                    exact ⟨_, _, _, rfl, rfl, HX9.out, HG9.out, HQt.out⟩
                · go_simp
                  refine hK.out _ _ (K21.out _ ((show Below wb.heap.size wb wb.drew from (Below.refl _ _).drew).alloc (show Below wb.heap.size wb wb.drew from (Below.refl _ _).drew).size _)) (fun hHeld => ?_)
                  clear hK K
                  try simp only [Act.put, List.setIfInBounds_toArray, List.set_cons_zero, List.set_cons_succ]
                  obtain ⟨wtA, hWt⟩ : ∃ W, (wb.alloc (.cells #[.bool false, .int .u64 0, .string ⟨#[]⟩, .int .u64 0, .int .u64 0, .slice none 0 0, .slice none 0 0] 38)).drew = W := ⟨_, rfl⟩
                  have HtA := Lib.hid (show Below wb.heap.size wb wtA by rw [← hWt]; exact ((Below.refl _ _).alloc (Nat.le_refl _) _).drew)
                  have YBA := Lib.hid (show Bx wtA wb.heap.size #[.bool false, .int .u64 0, .string ⟨#[]⟩, .int .u64 0, .int .u64 0, .slice none 0 0, .slice none 0 0] by rw [← hWt]; exact (Bx.new wb _ _).below (Below.refl _ _).drew)
                  have YTA := Lib.hid (show HT wtA wb.heap.size by rw [← hWt]; exact (HT.new wb _).below (Below.refl _ _).drew)
                  try rw [hWt] at hHeld
                  try rw [hWt]
                  clear hWt
                  refine wpAnyH_ready (rs := [1]) (by kernel_rfl) (by simp) ?_
                  refine (AllReadyH.cons rfl (fun K hK => ?_) AllReadyH.nil)
                  go_simp
                  (with_reducible refine (CP.out _ _ _).mono ?_)
                  rintro e wtAa ⟨rfl, hb⟩
                  have HtAa := Lib.hid (HtA.out.trans (hb.mono HtA.out.size))
                  have YBAa := Lib.hid (YBA.out.below hb)
                  have YTAa := Lib.hid (YTA.out.below hb)
                  clear hb
                  go_wp2_with fail
                  refine hK.out _ _ (K21.out _ HtAa.out) (fun hHeld => ?_)
                  clear hK K
                  try simp only [Act.put, List.setIfInBounds_toArray, List.set_cons_zero, List.set_cons_succ]
                  refine take_in (i := 2) (v := ?_) (some 120) rfl rfl (by kernel_rfl) (by kernel_rfl) (by kernel_rfl) (fun _ _ _ h => h) (Or.inl ⟨by rfl, ?_⟩) (by assumption) ?_
                  rotate_left
                  · (intro w hSw; (try dsimp only at hSw); (try go_split_ands); go_simp; try with_reducible rfl)
                  try simp only [Act.put, List.setIfInBounds_toArray, List.set_cons_zero, List.set_cons_succ]
                  refine wpAnyH_ready (rs := [3]) (by kernel_rfl) (by simp) ?_
                  refine (AllReadyH.cons rfl (fun K hK => ?_) AllReadyH.nil)
                  go_simp
                  (with_reducible refine (CZ.out _ HtAa.out).mono ?_)
                  rintro e wtAaZ ⟨u, nnt, y, rfl, ho, hb, hq⟩
                  have HtAaZ := Lib.hid (HtAa.out.trans (hb.mono HtAa.out.size))
                  have HQt := Lib.hid hq
                  obtain ⟨ye, yid, ylab, yfr, ytil, yval, yps⟩ := y
                  have OWAaZ := Lib.hid (EOwn.mono ho (HtAa.out).size)
                  obtain ⟨su, sq, rsu, rfl, hu1, hu2, hu3⟩ := ho
                  obtain ⟨Au, cu, rfl, _⟩ := hu1.at
                  obtain ⟨Aq, cq, rfl, _⟩ := hu2.form
                  have YBAaZ := Lib.hid (YBAa.out.below hb)
                  have YTAaZ := Lib.hid (YTAa.out.below hb)
                  have y2 := YBAaZ.out.c
                  have y3 := YBAaZ.out.fr
                  clear hb hq hu1 hu2 hu3
                  go_wp2_with fail
                  refine hK.out _ _ (K21.out _ HtAaZ.out) (fun hHeld => ?_)
                  clear hK K
                  try simp only [Act.put, List.setIfInBounds_toArray, List.set_cons_zero, List.set_cons_succ]
                  refine take_in (i := 4) (v := ?_) (some 117) rfl rfl (by kernel_rfl) (by kernel_rfl) (by kernel_rfl) (fun _ _ _ h => h) (Or.inl ⟨by rfl, ?_⟩) (by assumption) ?_
                  rotate_left
                  · (intro w hSw; (try dsimp only at hSw); (try go_split_ands); go_simp; try with_reducible rfl)
                  try simp only [Act.put, List.setIfInBounds_toArray, List.set_cons_zero, List.set_cons_succ]
                  refine take_in (i := 5) (v := ?_) (some 122) rfl rfl (by kernel_rfl) (by kernel_rfl) (by kernel_rfl) (fun _ _ _ h => h) (Or.inl ⟨by rfl, ?_⟩) (by assumption) ?_
                  rotate_left
                  · (intro w hSw; (try dsimp only at hSw); (try go_split_ands); go_simp; try with_reducible rfl)
                  try simp only [Act.put, List.setIfInBounds_toArray, List.set_cons_zero, List.set_cons_succ]
                  refine take_in (i := 6) (v := ?_) (some 123) rfl rfl (by kernel_rfl) (by kernel_rfl) (by kernel_rfl) (fun _ _ _ h => h) (Or.inl ⟨by rfl, ?_⟩) (by assumption) ?_
                  rotate_left
                  · (intro w hSw; (try dsimp only at hSw); (try go_split_ands); go_simp; try with_reducible rfl)
                  try simp only [Act.put, List.setIfInBounds_toArray, List.set_cons_zero, List.set_cons_succ]
                  refine wpAnyH_ready (rs := [8]) (by kernel_rfl) (by simp) ?_
                  refine (AllReadyH.cons rfl (fun K hK => ?_) AllReadyH.nil)
                  go_simp
                  refine hK.out _ _ (K21.out _ (box_below YBAaZ.out HtAaZ.out HtAaZ.out.size (by first | exact Nat.le_refl _ | exact HtAaZ.out.size) _ _ _ _ _ _ _)) (fun hHeld => ?_)
                  clear hK K
                  try simp only [Act.put, List.setIfInBounds_toArray, List.set_cons_zero, List.set_cons_succ]
                  clear y2 y3
                  refine take_in (i := 9) (v := ?_) (some 22) rfl rfl (by kernel_rfl) (by kernel_rfl) (by kernel_rfl) (fun _ _ _ h => h) (Or.inl ⟨by rfl, ?_⟩) (by assumption) ?_
                  rotate_left
                  · (intro w hSw; (try dsimp only at hSw); (try go_split_ands); go_simp; try with_reducible rfl)
                  try simp only [Act.put, List.setIfInBounds_toArray, List.set_cons_zero, List.set_cons_succ]
                  refine wpAnyH_done (by kernel_rfl) ?_ _
                  obtain ⟨W9, hW9, X9, G9⟩ := box_put YBAaZ.out YTAaZ.out OWAaZ.out
                  simp only at hW9
                  rw [hW9]
                  have HX9 := Lib.hid X9
                  have HG9 := Lib.hid (HtAaZ.out.grown G9 HtAaZ.out.size fun q hq => by have e := Option.some.inj hq; first | omega | (rw [← e]; exact HtAaZ.out.size))
                  clear hW9 X9 G9
                  go_wp2_with fail
                  go_meet
                  exact ⟨_, _, _, rfl, rfl, HX9.out, HG9.out, HQt.out⟩
              case rest =>
                obtain ⟨p21, n21, z, rfl, rfl, hbz, hb, rfl, hzv, hzp, hzm⟩ := hcut
                obtain ⟨wd, rfl⟩ : ∃ x : World, x = wc := ⟨_, rfl⟩
                have BBd := Lib.hid (BBb.out.trans (hb.mono BBb.out.size))
                have X1d := Lib.hid (X1b.out.below hb)
                have O1d := Lib.hid (O1b.out.below hb)
                obtain ⟨ze, zid, zlab, zfr, ztil, zval, zps⟩ := z
                simp only at hzv hzp
                subst hzv hzp
                have HZM := Lib.hid hzm
                obtain ⟨Az, cz, Pz, nz, dz, hzx, hzo, _⟩ := hbz
                obtain ⟨zsv, zsp, zrs, ze1, zh1, zh2, zh3⟩ := hzo
                simp at ze1
                obtain ⟨rfl, rfl⟩ := ze1
                have hz0 : zrs.length = 0 := zh3.len
                obtain ⟨_, _, ez, _⟩ := zh2.form
                have hnz : nz = 0 := by
                  injection ez with _ e2 _
                  omega
                subst hnz
                have XZ := Lib.hid (show Bx wd p21 #[.bool ze, .int .u64 zid, .string zlab, .int .u64 zfr, .int .u64 ztil, .slice Az 0 cz, .slice Pz 0 dz] from hzx)
                have EZ := Lib.hid (show EAt wd (.agg #[.bool ze, .int .u64 zid, .string zlab, .int .u64 zfr, .int .u64 ztil, .slice Az 0 cz, .slice Pz 0 dz]) ⟨ze, zid, zlab, zfr, ztil, [], []⟩ from ⟨_, _, rfl, zh1.at, by have h := zh2.sp zh3; exact h⟩)
                clear hb hzm hzx ez zh1 zh2 zh3 hz0 K21 CZ HBXb HOXb X1b O1b BBb BB EX
                have WZ : Ent.wide ⟨ze, zid, zlab, zfr, ztil, [], []⟩ := ⟨fun p hp => by simp at hp, by simp, fun p hp => by simp at hp, fun p hp => by simp at hp, fun p hp => by simp at hp⟩
                have CZM := Lib.hid (fun W (hb : Below wd.heap.size wd W) => (eMay_any _ _ W (EZ.out.below hb) WZ).mono fun _ _ h => h.yes HZM.out)
                have W3 := exE3_good.wide (by omega)
                have CEn := Lib.hid (fun W (hb : Below wd.heap.size wd W) => (eEnds_any (.agg #[.bool false, .int .u64 1, .string ⟨#[110]⟩, .int .u64 0, .int .u64 0, .slice Av 2 cv, .slice (some ⟨g, 0, none⟩) 1 dv]) exE3 W (O1d.out.below hb).at W3 exE3_may (by show 0 < 2; omega) (by show 2 * 2 + 2 * (2 + 0) ≤ 12; omega)).mono fun e w' h => (show ∃ A c, e = .returned (.slice A 6 c) ∧ Below W.heap.size W w' by
                  obtain ⟨u, E, rfl, ho, hE, hb⟩ := h
                  obtain ⟨A, c, rfl, _⟩ := OwnU.form ho
                  exact ⟨A, c, by rw [ends6 hE], hb⟩))
                have CA5 := Lib.hid (fun W (hb : Below wd.heap.size wd W) => (eAt_any (.agg #[.bool false, .int .u64 1, .string ⟨#[110]⟩, .int .u64 0, .int .u64 0, .slice Av 2 cv, .slice (some ⟨g, 0, none⟩) 1 dv]) exE3 bk 5 W (O1d.out.below hb).at W3 exE3_may).mono fun e w' h => (show e = .returned (.agg #[.int .i64 2, .bool false, .int .i64 5, .float .f64 0, .string ⟨#[]⟩]) ∧ Below W.heap.size W w' by rw [at_k5] at h; exact h))
                have CA4 := Lib.hid (fun W (hb : Below wd.heap.size wd W) => (eAt_any (.agg #[.bool false, .int .u64 1, .string ⟨#[110]⟩, .int .u64 0, .int .u64 0, .slice Av 2 cv, .slice (some ⟨g, 0, none⟩) 1 dv]) exE3 bk 4 W (O1d.out.below hb).at W3 exE3_may).mono fun e w' h => (show e = .returned (.agg #[.int .i64 0, .bool false, .int .i64 0, .float .f64 0, .string ⟨#[]⟩]) ∧ Below W.heap.size W w' by rw [at_k4] at h; exact h))
                have CS5 := Lib.hid (fun W => (valSame_any (numV 5) (numV 5) num5_ok.1 num5_ok.1 (numV_may 5) (numV_may 5) W).mono fun _ _ h => h.yes rfl)
                have CS4 := Lib.hid (fun W => (valSame_any VP.none VP.none none_wide none_wide none_may none_may W).mono fun _ _ h => h.yes rfl)
                have CLn := Lib.hid (fun W (hb : Below wd.heap.size wd W) => (eLine_any (.agg #[.bool false, .int .u64 1, .string ⟨#[110]⟩, .int .u64 0, .int .u64 0, .slice Av 2 cv, .slice (some ⟨g, 0, none⟩) 1 dv]) exE3 ⟨#[122]⟩ W (O1d.out.below hb).at W3 exE3_may).mono fun e w' h => (show ∃ A c, e = .returned (.slice A 0 c) ∧ Below W.heap.size W w' by
                  obtain ⟨u, rfl, ho, hb⟩ := h
                  rw [line_z] at ho
                  obtain ⟨A, c, rfl, _⟩ := ho.at
                  exact ⟨A, c, rfl, hb⟩))
                have CH := Lib.hid (fun W => (eHas_any (.agg #[.bool false, .int .u64 0, .string ⟨#[]⟩, .int .u64 0, .int .u64 0, .slice none 0 0, .slice none 0 0]) noE 0 W ⟨_, _, rfl, Se.IsP.nil _, SP.nil _⟩ noE_wide).mono fun _ _ h => h.no fun h => noE_not h.2)
                have CE0 := Lib.hid (fun W => eEnds_no (.agg #[.bool false, .int .u64 0, .string ⟨#[]⟩, .int .u64 0, .int .u64 0, .slice none 0 0, .slice none 0 0]) noE W ⟨_, _, rfl, Se.IsP.nil _, SP.nil _⟩ noE_wide noE_not)
                clear WZ W3
                have z0 := XZ.out.c
                have x0 := X1d.out.c
                go_wp2_with fail
                refine (CZM.out _ (Below.refl wd.heap.size wd)).mono ?_
                rintro e v0 ⟨rfl, hb⟩
                have D0 := Lib.hid (show Below wd.heap.size wd v0 from (Below.refl wd.heap.size wd).trans (hb.mono (Below.refl wd.heap.size wd).size))
                clear hb
                clear z0 x0
                have x0 := (X1d.out.below D0.out).c
                go_wp2_with fail
                refine (CEn.out _ D0.out).mono ?_
                rintro e v1 ⟨A6, c6, rfl, hb⟩
                have D1 := Lib.hid (show Below wd.heap.size wd v1 from D0.out.trans (hb.mono D0.out.size))
                clear hb
                clear x0
                have x0 := (X1d.out.below D1.out).c
                go_wp2_with fail
                refine (CA5.out _ D1.out).mono ?_
                rintro e v2 ⟨rfl, hb⟩
                have D2 := Lib.hid (show Below wd.heap.size wd v2 from D1.out.trans (hb.mono D1.out.size))
                clear hb
                clear x0
                have x0 := (X1d.out.below D2.out).c
                go_wp2_with fail
                refine (CN.out _ _).mono ?_
                rintro e v3 ⟨rfl, hb⟩
                have D3 := Lib.hid (show Below wd.heap.size wd v3 from D2.out.trans (hb.mono D2.out.size))
                clear hb
                clear x0
                have x0 := (X1d.out.below D3.out).c
                go_wp2_with fail
                refine (CS5.out _).mono ?_
                rintro e v4 ⟨rfl, hb⟩
                have D4 := Lib.hid (show Below wd.heap.size wd v4 from D3.out.trans (hb.mono D3.out.size))
                clear hb
                clear x0
                have x0 := (X1d.out.below D4.out).c
                go_wp2_with fail
                refine (CA4.out _ D4.out).mono ?_
                rintro e v5 ⟨rfl, hb⟩
                have D5 := Lib.hid (show Below wd.heap.size wd v5 from D4.out.trans (hb.mono D4.out.size))
                clear hb
                clear x0
                have x0 := (X1d.out.below D5.out).c
                go_wp2_with fail
                refine (CS4.out _).mono ?_
                rintro e v6 ⟨rfl, hb⟩
                have D6 := Lib.hid (show Below wd.heap.size wd v6 from D5.out.trans (hb.mono D5.out.size))
                clear hb
                clear x0
                have x0 := (X1d.out.below D6.out).c
                go_wp2_with fail
                refine (CLn.out _ D6.out).mono ?_
                rintro e v7 ⟨A7, c7, rfl, hb⟩
                have D7 := Lib.hid (show Below wd.heap.size wd v7 from D6.out.trans (hb.mono D6.out.size))
                clear hb
                clear x0
                have x0 := (X1d.out.below D7.out).c
                go_wp2_with fail
                refine (CH.out _).mono ?_
                rintro e v8 ⟨rfl, hb⟩
                have D8 := Lib.hid (show Below wd.heap.size wd v8 from D7.out.trans (hb.mono D7.out.size))
                clear hb
                clear x0
                have x0 := (X1d.out.below D8.out).c
                go_wp2_with fail
                refine (CE0.out _).mono ?_
                rintro e v9 ⟨rfl, hb⟩
                have D9 := Lib.hid (show Below wd.heap.size wd v9 from D8.out.trans (hb.mono D8.out.size))
                clear hb
                clear x0
                have x0 := (X1d.out.below D9.out).c
                go_wp2_with fail
                go_ret
                exact ⟨rfl, BBd.out.trans (D9.out.mono BBd.out.size)⟩
end
end Go.Proofs.YtmolpogehgeebaaGreat

