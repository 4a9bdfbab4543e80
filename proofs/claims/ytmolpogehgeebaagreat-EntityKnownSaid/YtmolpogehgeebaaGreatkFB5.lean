/- The awake test of almanaclaw13. -/
import Derived.Test.YtmolpogehgeebaaGreatkFB3
namespace Go.Proofs.YtmolpogehgeebaaGreat
open Go.RowKit
theorem sl_newL (w : World) (l : List Pie) (t : TypeId) (n c : Nat) (hn : l.length = n) (hm : n ≤ 1000) : SL (w.alloc (.cells (cellsL l).toArray t)) (.slice (some ⟨w.heap.size, 0, none⟩) n c) l := by
  subst hn
  refine ⟨_, c, rfl, fun _ => ⟨w.heap.size, 0, rfl, by simp, fun i hi j v hv => ?_⟩, by omega⟩
  have hj : j < 7 := by
    have := (List.getElem?_eq_some_iff.1 hv).1
    rwa [pie_len] at this
  rw [Nat.zero_add, cell_of_row _ _ _ _ _ _ (heap_alloc_new w _)]
  have := cellsL_get l i hi j hj
  rw [hv] at this
  simpa using this
/-- What the example's entity holds in memory. -/
theorem ex3_form {B : Nat} {w : World} {sv sp : Value} (h : EOwn B w (.agg (exE3.cells sv sp)) exE3) : ∃ Av cv Pv dv g AL cL, sv = .slice Av 2 cv ∧ sp = .slice Pv 1 dv ∧ Se.IsP w (.slice Av 2 cv) [(2, 4), (5, 9)] ∧ Pv = some ⟨g, 0, none⟩ ∧ g < w.heap.size ∧ w.cell? ⟨g, 1, none⟩ = some (.slice AL 2 cL) ∧ SL w (.slice AL 2 cL) exL3 := by
  obtain ⟨s1, s2, rs, e, h1, h2, h3⟩ := h
  simp at e
  obtain ⟨rfl, rfl⟩ := e
  obtain ⟨Av, cv, rfl, hp⟩ := h1.at
  obtain ⟨Pv, dv, rfl, _, _, hA⟩ := h2.form
  have hl : rs.length = 1 := h3.len
  obtain ⟨g, rfl, _, hg, _, hc⟩ := hA (by omega)
  have hr := h3.at' 0 (by omega) (by show 0 < 1; omega)
  have hs := hr.2.at
  obtain ⟨AL, cL, e, _⟩ := hs
  refine ⟨Av, cv, _, dv, g, AL, cL, rfl, by rw [hl], ⟨Av, cv, rfl, hp⟩, rfl, hg, ?_, ?_⟩
  · rw [show (1 : Nat) = 0 * 2 + 1 by rfl, (hc 0 (by omega)).2, e]; rfl
  · have := hr.2.at
    rw [e] at this
    exact this
/-- What example answers, cell by cell. -/
def ExLit (w : World) (e : Ending) (w' : World) : Prop := ∃ sv sp, e = .returned (.tuple #[.agg #[.bool false, .int .u64 1, .string ⟨#[110]⟩, .int .u64 0, .int .u64 0, sv, sp], .bool true]) ∧ EOwn w.heap.size w' (.agg (exE3.cells sv sp)) exE3 ∧ Below w.heap.size w w'
theorem example_lit (w : World) : Calls Tryz.prog 32 #[] w (ExLit w) :=
  (example_any w).mono fun _ _ h => by
    obtain ⟨u, rfl, ho, hb⟩ := h
    obtain ⟨sv, sp, rs, rfl, h1, h2, h3⟩ := ho
    exact ⟨sv, sp, rfl, ⟨sv, sp, rs, rfl, h1, h2, h3⟩, hb⟩
section
set_option linter.unusedSimpArgs false
set_option maxRecDepth 100000
set_option maxHeartbeats 16000000
theorem awake_any (w : World) : Calls Tryz.prog 15 #[] w fun e w' => e = .returned (.bool true) ∧ Below w.heap.size w w' := by
  have CN := Lib.hid num13_any
  have CP := Lib.hid P13_any
  have CX := Lib.hid example_lit
  have C4 := Lib.hid exApply4
  have hsf := store_float
  go_enter Tryz.func15, Tryz.ntmps15
  go_upto_region 2 with (go_at_call 32; (with_reducible refine (CX.out _).mono ?_); rintro e w1 ⟨su, sq, rfl, ho, hb⟩; have B1 := Lib.hid hb; have OW := Lib.hid ho; obtain ⟨Av, cv, Pv, dv, g, AL, cL, rfl, rfl, hf1, rfl, hf2, hf3, hf4⟩ := ex3_form ho; have F1 := Lib.hid hf1; have F2 := Lib.hid hf2; have F3 := Lib.hid hf3; have F4 := Lib.hid hf4; clear hb ho hf1 hf2 hf3 hf4)
  have HAL := (Below.refl w1.heap.size w1).alloc (Nat.le_refl _) (.cells #[.bool false, .int .u64 1, .string ⟨#[110]⟩, .int .u64 0, .int .u64 0, .slice Av 2 cv, .slice (some ⟨g, 0, none⟩) 1 dv] 38)
  have Xv := Lib.hid (Bx.new w1 #[.bool false, .int .u64 1, .string ⟨#[110]⟩, .int .u64 0, .int .u64 0, .slice Av 2 cv, .slice (some ⟨g, 0, none⟩) 1 dv] 38)
  have Ov := Lib.hid ((show EOwn w.heap.size w1 (.agg #[.bool false, .int .u64 1, .string ⟨#[110]⟩, .int .u64 0, .int .u64 0, .slice Av 2 cv, .slice (some ⟨g, 0, none⟩) 1 dv]) exE3 from OW.out).below HAL)
  have G1 := Lib.hid (F1.out.below HAL)
  have G2 := Lib.hid (Nat.lt_of_lt_of_le F2.out HAL.size)
  have G3 := Lib.hid ((HAL.cell (p := ⟨g, 1, none⟩) F2.out).trans F3.out)
  have G4 := Lib.hid (F4.out.below HAL)
  have B2 := Lib.hid (B1.out.trans (HAL.mono B1.out.size))
  obtain ⟨w2, hw2⟩ : ∃ W, w1.alloc (.cells #[.bool false, .int .u64 1, .string ⟨#[110]⟩, .int .u64 0, .int .u64 0, .slice Av 2 cv, .slice (some ⟨g, 0, none⟩) 1 dv] 38) = W := ⟨_, rfl⟩
  rw [hw2] at Xv Ov G1 G2 G3 G4 B2
  try rw [hw2]
  clear hw2 HAL OW F1 F2 F3 F4
  obtain ⟨p1, hp1⟩ : ∃ q, w1.heap.size = q := ⟨_, rfl⟩
  rw [hp1] at Xv
  try rw [hp1]
  clear hp1
  have CA := Lib.hid (fun W (hb : Below w2.heap.size w2 W) => C4.out (.agg #[.bool false, .int .u64 1, .string ⟨#[110]⟩, .int .u64 0, .int .u64 0, .slice Av 2 cv, .slice (some ⟨g, 0, none⟩) 1 dv]) W (Ov.out.below hb).at)
  have Ka : Hid (∀ w', Below w2.heap.size w2 w' → ∀ j, w'.cell? ⟨p1, j, none⟩ = #[.bool false, .int .u64 1, .string ⟨#[110]⟩, .int .u64 0, .int .u64 0, .slice Av 2 cv, .slice (some ⟨g, 0, none⟩) 1 dv][j]?) := Lib.hid fun w' hb => (Xv.out.below hb).c
  go_cut [3, 4] from 9 to 16 (fun t1 t2 w' => ∃ p n y, t1 = .pointer (some ⟨p, 0, none⟩) ∧ t2 = .int .i64 n ∧ BoxE w2.heap.size w' p y ∧ Below w2.heap.size w2 w' ∧ n = 34)
  case first =>
    refine wp_region_held_drew (S := (fun w' => ∀ j, w'.cell? ⟨p1, j, none⟩ = #[.bool false, .int .u64 1, .string ⟨#[110]⟩, .int .u64 0, .int .u64 0, .slice Av 2 cv, .slice (some ⟨g, 0, none⟩) 1 dv][j]?)) (by kernel_rfl) (Ka.out _ (Below.refl _ _).drew) (fun hHeld => ?_)
    refine take_in (i := 0) (v := ?_) (some 10) rfl rfl (by kernel_rfl) (by kernel_rfl) (by kernel_rfl) (fun _ _ _ h => h) (Or.inl ⟨by rfl, ?_⟩) (by assumption) ?_
    rotate_left
    · (intro w hSw; (try dsimp only at hSw); (try go_split_ands); go_simp; try with_reducible rfl)
    try simp only [Act.put, List.setIfInBounds_toArray, List.set_cons_zero, List.set_cons_succ]
    refine wpAnyH_ready (rs := [1, 8]) (by kernel_rfl) (by simp) ?_
    refine (AllReadyH.cons rfl (fun K hK => ?_) (AllReadyH.cons rfl (fun K hK => ?_) AllReadyH.nil))
    · go_simp
      (with_reducible refine (CN.out _ _).mono ?_)
      rintro e waa ⟨rfl, hb⟩
      have Haa := Lib.hid ((show Below w2.heap.size w2 w2.drew from (Below.refl _ _).drew).trans (hb.mono (show Below w2.heap.size w2 w2.drew from (Below.refl _ _).drew).size))
      clear hb
      go_wp2_with fail
      refine hK.out _ _ (Ka.out _ Haa.out) (fun hHeld => ?_)
      clear hK K
      try simp only [Act.put, List.setIfInBounds_toArray, List.set_cons_zero, List.set_cons_succ]
      refine wpAnyH_ready (rs := [2, 8]) (by kernel_rfl) (by simp) ?_
      refine (AllReadyH.cons rfl (fun K hK => ?_) (AllReadyH.cons rfl (fun K hK => ?_) AllReadyH.nil))
      · go_simp
        (with_reducible refine (CP.out _ _ _).mono ?_)
        rintro e waab ⟨rfl, hb⟩
        have Haab := Lib.hid (Haa.out.trans (hb.mono Haa.out.size))
        clear hb
        go_wp2_with fail
        refine hK.out _ _ (Ka.out _ Haab.out) (fun hHeld => ?_)
        clear hK K
        try simp only [Act.put, List.setIfInBounds_toArray, List.set_cons_zero, List.set_cons_succ]
        refine take_in (i := 3) (v := ?_) (some 13) rfl rfl (by kernel_rfl) (by kernel_rfl) (by kernel_rfl) (fun _ _ _ h => h) (Or.inl ⟨by rfl, ?_⟩) (by assumption) ?_
        rotate_left
        · (intro w hSw; (try dsimp only at hSw); (try go_split_ands); go_simp; try with_reducible rfl)
        try simp only [Act.put, List.setIfInBounds_toArray, List.set_cons_zero, List.set_cons_succ]
        refine wpAnyH_ready (rs := [4, 8]) (by kernel_rfl) (by simp) ?_
        refine (AllReadyH.cons rfl (fun K hK => ?_) (AllReadyH.cons rfl (fun K hK => ?_) AllReadyH.nil))
        · go_simp
          (with_reducible refine (CA.out _ Haab.out).mono ?_)
          rintro e waabZ ⟨u, nna, y, rfl, ho, hb, hq⟩
          have HaabZ := Lib.hid (Haab.out.trans (hb.mono Haab.out.size))
          have HQa := Lib.hid hq
          obtain ⟨ye, yid, ylab, yfr, ytil, yval, yps⟩ := y
          have OWabZ := Lib.hid (EOwn.mono ho (Haab.out).size)
          obtain ⟨su, sq, rsu, rfl, hu1, hu2, hu3⟩ := ho
          obtain ⟨Au, cu, rfl, _⟩ := hu1.at
          obtain ⟨Aq, cq, rfl, _⟩ := hu2.form
          clear hb hq hu1 hu2 hu3
          go_wp2_with fail
          refine hK.out _ _ (Ka.out _ HaabZ.out) (fun hHeld => ?_)
          clear hK K
          try simp only [Act.put, List.setIfInBounds_toArray, List.set_cons_zero, List.set_cons_succ]
          refine take_in (i := 5) (v := ?_) (some 9) rfl rfl (by kernel_rfl) (by kernel_rfl) (by kernel_rfl) (fun _ _ _ h => h) (Or.inl ⟨by rfl, ?_⟩) (by assumption) ?_
          rotate_left
          · (intro w hSw; (try dsimp only at hSw); (try go_split_ands); go_simp; try with_reducible rfl)
          try simp only [Act.put, List.setIfInBounds_toArray, List.set_cons_zero, List.set_cons_succ]
          refine take_in (i := 6) (v := ?_) (some 15) rfl rfl (by kernel_rfl) (by kernel_rfl) (by kernel_rfl) (fun _ _ _ h => h) (Or.inl ⟨by rfl, ?_⟩) (by assumption) ?_
          rotate_left
          · (intro w hSw; (try dsimp only at hSw); (try go_split_ands); go_simp; try with_reducible rfl)
          try simp only [Act.put, List.setIfInBounds_toArray, List.set_cons_zero, List.set_cons_succ]
          refine take_in (i := 7) (v := ?_) (some 16) rfl rfl (by kernel_rfl) (by kernel_rfl) (by kernel_rfl) (fun _ _ _ h => h) (Or.inl ⟨by rfl, ?_⟩) (by assumption) ?_
          rotate_left
          · (intro w hSw; (try dsimp only at hSw); (try go_split_ands); go_simp; try with_reducible rfl)
          try simp only [Act.put, List.setIfInBounds_toArray, List.set_cons_zero, List.set_cons_succ]
          refine wpAnyH_ready (rs := [8]) (by kernel_rfl) (by simp) ?_
          refine (AllReadyH.cons rfl (fun K hK => ?_) AllReadyH.nil)
          go_simp
          refine hK.out _ _ (Ka.out _ (HaabZ.out.alloc HaabZ.out.size _)) (fun hHeld => ?_)
          clear hK K
          try simp only [Act.put, List.setIfInBounds_toArray, List.set_cons_zero, List.set_cons_succ]
          obtain ⟨waabZA, hWa⟩ : ∃ W, waabZ.alloc (.cells #[.bool false, .int .u64 0, .string ⟨#[]⟩, .int .u64 0, .int .u64 0, .slice none 0 0, .slice none 0 0] 38) = W := ⟨_, rfl⟩
          have HaabZA := Lib.hid (show Below w2.heap.size w2 waabZA by rw [← hWa]; exact HaabZ.out.alloc HaabZ.out.size _)
          have YBabZA := Lib.hid (show Bx waabZA waabZ.heap.size #[.bool false, .int .u64 0, .string ⟨#[]⟩, .int .u64 0, .int .u64 0, .slice none 0 0, .slice none 0 0] by rw [← hWa]; exact Bx.new waabZ _ _)
          have YTabZA := Lib.hid (show HT waabZA waabZ.heap.size by rw [← hWa]; exact HT.new waabZ _)
          have OWabZA := Lib.hid (show EOwn w2.heap.size waabZA (.agg (Ent.cells ⟨ye, yid, ylab, yfr, ytil, yval, yps⟩ (.slice Au yval.length cu) (.slice Aq rsu.length cq))) ⟨ye, yid, ylab, yfr, ytil, yval, yps⟩ by rw [← hWa]; exact OWabZ.out.below ((Below.refl _ _).alloc (Nat.le_refl _) _))
          have y2 := YBabZA.out.c
          have y3 := YBabZA.out.fr
          try rw [hWa] at hHeld
          try rw [hWa]
          clear hWa
          refine wpAnyH_ready (rs := [9]) (by kernel_rfl) (by simp) ?_
          refine (AllReadyH.cons rfl (fun K hK => ?_) AllReadyH.nil)
          go_simp
          refine hK.out _ _ (Ka.out _ (box_below YBabZA.out HaabZA.out HaabZA.out.size (by first | exact Nat.le_refl _ | exact HaabZ.out.size) _ _ _ _ _ _ _)) (fun hHeld => ?_)
          clear hK K
          try simp only [Act.put, List.setIfInBounds_toArray, List.set_cons_zero, List.set_cons_succ]
          clear y2 y3
          refine take_in (i := 10) (v := ?_) (some 4) rfl rfl (by kernel_rfl) (by kernel_rfl) (by kernel_rfl) (fun _ _ _ h => h) (Or.inl ⟨by rfl, ?_⟩) (by assumption) ?_
          rotate_left
          · (intro w hSw; (try dsimp only at hSw); (try go_split_ands); go_simp; try with_reducible rfl)
          try simp only [Act.put, List.setIfInBounds_toArray, List.set_cons_zero, List.set_cons_succ]
          refine wpAnyH_done (by kernel_rfl) ?_ _
          obtain ⟨W9, hW9, X9, G9⟩ := box_put YBabZA.out YTabZA.out OWabZA.out
          simp only at hW9
          rw [hW9]
          have HX9 := Lib.hid X9
          have HG9 := Lib.hid (HaabZA.out.grown G9 HaabZA.out.size fun q hq => by have e := Option.some.inj hq; first | omega | (rw [← e]; exact HaabZ.out.size))
          clear hW9 X9 G9
          go_wp2_with fail
          go_meet
          exact ⟨_, _, _, rfl, rfl, HX9.out, HG9.out, HQa.out⟩
        · go_simp
          refine hK.out _ _ (Ka.out _ (Haab.out.alloc Haab.out.size _)) (fun hHeld => ?_)
          clear hK K
          try simp only [Act.put, List.setIfInBounds_toArray, List.set_cons_zero, List.set_cons_succ]
          obtain ⟨waabA, hWa⟩ : ∃ W, waab.alloc (.cells #[.bool false, .int .u64 0, .string ⟨#[]⟩, .int .u64 0, .int .u64 0, .slice none 0 0, .slice none 0 0] 38) = W := ⟨_, rfl⟩
          have HaabA := Lib.hid (show Below w2.heap.size w2 waabA by rw [← hWa]; exact Haab.out.alloc Haab.out.size _)
          have YBabA := Lib.hid (show Bx waabA waab.heap.size #[.bool false, .int .u64 0, .string ⟨#[]⟩, .int .u64 0, .int .u64 0, .slice none 0 0, .slice none 0 0] by rw [← hWa]; exact Bx.new waab _ _)
          have YTabA := Lib.hid (show HT waabA waab.heap.size by rw [← hWa]; exact HT.new waab _)
          try rw [hWa] at hHeld
          try rw [hWa]
          clear hWa
          refine wpAnyH_ready (rs := [4]) (by kernel_rfl) (by simp) ?_
          refine (AllReadyH.cons rfl (fun K hK => ?_) AllReadyH.nil)
          go_simp
          (with_reducible refine (CA.out _ HaabA.out).mono ?_)
          rintro e waabAZ ⟨u, nna, y, rfl, ho, hb, hq⟩
          have HaabAZ := Lib.hid (HaabA.out.trans (hb.mono HaabA.out.size))
          have HQa := Lib.hid hq
          obtain ⟨ye, yid, ylab, yfr, ytil, yval, yps⟩ := y
          have OWabAZ := Lib.hid (EOwn.mono ho (HaabA.out).size)
          obtain ⟨su, sq, rsu, rfl, hu1, hu2, hu3⟩ := ho
          obtain ⟨Au, cu, rfl, _⟩ := hu1.at
          obtain ⟨Aq, cq, rfl, _⟩ := hu2.form
          have YBabAZ := Lib.hid (YBabA.out.below hb)
          have YTabAZ := Lib.hid (YTabA.out.below hb)
          have y2 := YBabAZ.out.c
          have y3 := YBabAZ.out.fr
          clear hb hq hu1 hu2 hu3
          go_wp2_with fail
          refine hK.out _ _ (Ka.out _ HaabAZ.out) (fun hHeld => ?_)
          clear hK K
          try simp only [Act.put, List.setIfInBounds_toArray, List.set_cons_zero, List.set_cons_succ]
          refine take_in (i := 5) (v := ?_) (some 9) rfl rfl (by kernel_rfl) (by kernel_rfl) (by kernel_rfl) (fun _ _ _ h => h) (Or.inl ⟨by rfl, ?_⟩) (by assumption) ?_
          rotate_left
          · (intro w hSw; (try dsimp only at hSw); (try go_split_ands); go_simp; try with_reducible rfl)
          try simp only [Act.put, List.setIfInBounds_toArray, List.set_cons_zero, List.set_cons_succ]
          refine take_in (i := 6) (v := ?_) (some 15) rfl rfl (by kernel_rfl) (by kernel_rfl) (by kernel_rfl) (fun _ _ _ h => h) (Or.inl ⟨by rfl, ?_⟩) (by assumption) ?_
          rotate_left
          · (intro w hSw; (try dsimp only at hSw); (try go_split_ands); go_simp; try with_reducible rfl)
          try simp only [Act.put, List.setIfInBounds_toArray, List.set_cons_zero, List.set_cons_succ]
          refine take_in (i := 7) (v := ?_) (some 16) rfl rfl (by kernel_rfl) (by kernel_rfl) (by kernel_rfl) (fun _ _ _ h => h) (Or.inl ⟨by rfl, ?_⟩) (by assumption) ?_
          rotate_left
          · (intro w hSw; (try dsimp only at hSw); (try go_split_ands); go_simp; try with_reducible rfl)
          try simp only [Act.put, List.setIfInBounds_toArray, List.set_cons_zero, List.set_cons_succ]
          refine wpAnyH_ready (rs := [9]) (by kernel_rfl) (by simp) ?_
          refine (AllReadyH.cons rfl (fun K hK => ?_) AllReadyH.nil)
          go_simp
          refine hK.out _ _ (Ka.out _ (box_below YBabAZ.out HaabAZ.out HaabAZ.out.size (by first | exact Nat.le_refl _ | exact Haab.out.size) _ _ _ _ _ _ _)) (fun hHeld => ?_)
          clear hK K
          try simp only [Act.put, List.setIfInBounds_toArray, List.set_cons_zero, List.set_cons_succ]
          clear y2 y3
          refine take_in (i := 10) (v := ?_) (some 4) rfl rfl (by kernel_rfl) (by kernel_rfl) (by kernel_rfl) (fun _ _ _ h => h) (Or.inl ⟨by rfl, ?_⟩) (by assumption) ?_
          rotate_left
          · (intro w hSw; (try dsimp only at hSw); (try go_split_ands); go_simp; try with_reducible rfl)
          try simp only [Act.put, List.setIfInBounds_toArray, List.set_cons_zero, List.set_cons_succ]
          refine wpAnyH_done (by kernel_rfl) ?_ _
          obtain ⟨W9, hW9, X9, G9⟩ := box_put YBabAZ.out YTabAZ.out OWabAZ.out
          simp only at hW9
          rw [hW9]
          have HX9 := Lib.hid X9
          have HG9 := Lib.hid (HaabAZ.out.grown G9 HaabAZ.out.size fun q hq => by have e := Option.some.inj hq; first | omega | (rw [← e]; exact Haab.out.size))
          clear hW9 X9 G9
          go_wp2_with fail
          go_meet
          exact ⟨_, _, _, rfl, rfl, HX9.out, HG9.out, HQa.out⟩
      · go_simp
        refine hK.out _ _ (Ka.out _ (Haa.out.alloc Haa.out.size _)) (fun hHeld => ?_)
        clear hK K
        try simp only [Act.put, List.setIfInBounds_toArray, List.set_cons_zero, List.set_cons_succ]
        obtain ⟨waaA, hWa⟩ : ∃ W, waa.alloc (.cells #[.bool false, .int .u64 0, .string ⟨#[]⟩, .int .u64 0, .int .u64 0, .slice none 0 0, .slice none 0 0] 38) = W := ⟨_, rfl⟩
        have HaaA := Lib.hid (show Below w2.heap.size w2 waaA by rw [← hWa]; exact Haa.out.alloc Haa.out.size _)
        have YBaA := Lib.hid (show Bx waaA waa.heap.size #[.bool false, .int .u64 0, .string ⟨#[]⟩, .int .u64 0, .int .u64 0, .slice none 0 0, .slice none 0 0] by rw [← hWa]; exact Bx.new waa _ _)
        have YTaA := Lib.hid (show HT waaA waa.heap.size by rw [← hWa]; exact HT.new waa _)
        try rw [hWa] at hHeld
        try rw [hWa]
        clear hWa
        refine wpAnyH_ready (rs := [2]) (by kernel_rfl) (by simp) ?_
        refine (AllReadyH.cons rfl (fun K hK => ?_) AllReadyH.nil)
        go_simp
        (with_reducible refine (CP.out _ _ _).mono ?_)
        rintro e waaAb ⟨rfl, hb⟩
        have HaaAb := Lib.hid (HaaA.out.trans (hb.mono HaaA.out.size))
        have YBaAb := Lib.hid (YBaA.out.below hb)
        have YTaAb := Lib.hid (YTaA.out.below hb)
        clear hb
        go_wp2_with fail
        refine hK.out _ _ (Ka.out _ HaaAb.out) (fun hHeld => ?_)
        clear hK K
        try simp only [Act.put, List.setIfInBounds_toArray, List.set_cons_zero, List.set_cons_succ]
        refine take_in (i := 3) (v := ?_) (some 13) rfl rfl (by kernel_rfl) (by kernel_rfl) (by kernel_rfl) (fun _ _ _ h => h) (Or.inl ⟨by rfl, ?_⟩) (by assumption) ?_
        rotate_left
        · (intro w hSw; (try dsimp only at hSw); (try go_split_ands); go_simp; try with_reducible rfl)
        try simp only [Act.put, List.setIfInBounds_toArray, List.set_cons_zero, List.set_cons_succ]
        refine wpAnyH_ready (rs := [4]) (by kernel_rfl) (by simp) ?_
        refine (AllReadyH.cons rfl (fun K hK => ?_) AllReadyH.nil)
        go_simp
        (with_reducible refine (CA.out _ HaaAb.out).mono ?_)
        rintro e waaAbZ ⟨u, nna, y, rfl, ho, hb, hq⟩
        have HaaAbZ := Lib.hid (HaaAb.out.trans (hb.mono HaaAb.out.size))
        have HQa := Lib.hid hq
        obtain ⟨ye, yid, ylab, yfr, ytil, yval, yps⟩ := y
        have OWaAbZ := Lib.hid (EOwn.mono ho (HaaAb.out).size)
        obtain ⟨su, sq, rsu, rfl, hu1, hu2, hu3⟩ := ho
        obtain ⟨Au, cu, rfl, _⟩ := hu1.at
        obtain ⟨Aq, cq, rfl, _⟩ := hu2.form
        have YBaAbZ := Lib.hid (YBaAb.out.below hb)
        have YTaAbZ := Lib.hid (YTaAb.out.below hb)
        have y2 := YBaAbZ.out.c
        have y3 := YBaAbZ.out.fr
        clear hb hq hu1 hu2 hu3
        go_wp2_with fail
        refine hK.out _ _ (Ka.out _ HaaAbZ.out) (fun hHeld => ?_)
        clear hK K
        try simp only [Act.put, List.setIfInBounds_toArray, List.set_cons_zero, List.set_cons_succ]
        refine take_in (i := 5) (v := ?_) (some 9) rfl rfl (by kernel_rfl) (by kernel_rfl) (by kernel_rfl) (fun _ _ _ h => h) (Or.inl ⟨by rfl, ?_⟩) (by assumption) ?_
        rotate_left
        · (intro w hSw; (try dsimp only at hSw); (try go_split_ands); go_simp; try with_reducible rfl)
        try simp only [Act.put, List.setIfInBounds_toArray, List.set_cons_zero, List.set_cons_succ]
        refine take_in (i := 6) (v := ?_) (some 15) rfl rfl (by kernel_rfl) (by kernel_rfl) (by kernel_rfl) (fun _ _ _ h => h) (Or.inl ⟨by rfl, ?_⟩) (by assumption) ?_
        rotate_left
        · (intro w hSw; (try dsimp only at hSw); (try go_split_ands); go_simp; try with_reducible rfl)
        try simp only [Act.put, List.setIfInBounds_toArray, List.set_cons_zero, List.set_cons_succ]
        refine take_in (i := 7) (v := ?_) (some 16) rfl rfl (by kernel_rfl) (by kernel_rfl) (by kernel_rfl) (fun _ _ _ h => h) (Or.inl ⟨by rfl, ?_⟩) (by assumption) ?_
        rotate_left
        · (intro w hSw; (try dsimp only at hSw); (try go_split_ands); go_simp; try with_reducible rfl)
        try simp only [Act.put, List.setIfInBounds_toArray, List.set_cons_zero, List.set_cons_succ]
        refine wpAnyH_ready (rs := [9]) (by kernel_rfl) (by simp) ?_
        refine (AllReadyH.cons rfl (fun K hK => ?_) AllReadyH.nil)
        go_simp
        refine hK.out _ _ (Ka.out _ (box_below YBaAbZ.out HaaAbZ.out HaaAbZ.out.size (by first | exact Nat.le_refl _ | exact Haa.out.size) _ _ _ _ _ _ _)) (fun hHeld => ?_)
        clear hK K
        try simp only [Act.put, List.setIfInBounds_toArray, List.set_cons_zero, List.set_cons_succ]
        clear y2 y3
        refine take_in (i := 10) (v := ?_) (some 4) rfl rfl (by kernel_rfl) (by kernel_rfl) (by kernel_rfl) (fun _ _ _ h => h) (Or.inl ⟨by rfl, ?_⟩) (by assumption) ?_
        rotate_left
        · (intro w hSw; (try dsimp only at hSw); (try go_split_ands); go_simp; try with_reducible rfl)
        try simp only [Act.put, List.setIfInBounds_toArray, List.set_cons_zero, List.set_cons_succ]
        refine wpAnyH_done (by kernel_rfl) ?_ _
        obtain ⟨W9, hW9, X9, G9⟩ := box_put YBaAbZ.out YTaAbZ.out OWaAbZ.out
        simp only at hW9
        rw [hW9]
        have HX9 := Lib.hid X9
        have HG9 := Lib.hid (HaaAbZ.out.grown G9 HaaAbZ.out.size fun q hq => by have e := Option.some.inj hq; first | omega | (rw [← e]; exact Haa.out.size))
        clear hW9 X9 G9
        go_wp2_with fail
        go_meet
        exact ⟨_, _, _, rfl, rfl, HX9.out, HG9.out, HQa.out⟩
    · go_simp
      refine hK.out _ _ (Ka.out _ ((show Below w2.heap.size w2 w2.drew from (Below.refl _ _).drew).alloc (show Below w2.heap.size w2 w2.drew from (Below.refl _ _).drew).size _)) (fun hHeld => ?_)
      clear hK K
      try simp only [Act.put, List.setIfInBounds_toArray, List.set_cons_zero, List.set_cons_succ]
      obtain ⟨waA, hWa⟩ : ∃ W, (w2.alloc (.cells #[.bool false, .int .u64 0, .string ⟨#[]⟩, .int .u64 0, .int .u64 0, .slice none 0 0, .slice none 0 0] 38)).drew = W := ⟨_, rfl⟩
      have HaA := Lib.hid (show Below w2.heap.size w2 waA by rw [← hWa]; exact ((Below.refl _ _).alloc (Nat.le_refl _) _).drew)
      have YBA := Lib.hid (show Bx waA w2.heap.size #[.bool false, .int .u64 0, .string ⟨#[]⟩, .int .u64 0, .int .u64 0, .slice none 0 0, .slice none 0 0] by rw [← hWa]; exact (Bx.new w2 _ _).below (Below.refl _ _).drew)
      have YTA := Lib.hid (show HT waA w2.heap.size by rw [← hWa]; exact (HT.new w2 _).below (Below.refl _ _).drew)
      try rw [hWa] at hHeld
      try rw [hWa]
      clear hWa
      refine wpAnyH_ready (rs := [1]) (by kernel_rfl) (by simp) ?_
      refine (AllReadyH.cons rfl (fun K hK => ?_) AllReadyH.nil)
      go_simp
      (with_reducible refine (CN.out _ _).mono ?_)
      rintro e waAa ⟨rfl, hb⟩
      have HaAa := Lib.hid (HaA.out.trans (hb.mono HaA.out.size))
      have YBAa := Lib.hid (YBA.out.below hb)
      have YTAa := Lib.hid (YTA.out.below hb)
      clear hb
      go_wp2_with fail
      refine hK.out _ _ (Ka.out _ HaAa.out) (fun hHeld => ?_)
      clear hK K
      try simp only [Act.put, List.setIfInBounds_toArray, List.set_cons_zero, List.set_cons_succ]
      refine wpAnyH_ready (rs := [2]) (by kernel_rfl) (by simp) ?_
      refine (AllReadyH.cons rfl (fun K hK => ?_) AllReadyH.nil)
      go_simp
      (with_reducible refine (CP.out _ _ _).mono ?_)
      rintro e waAab ⟨rfl, hb⟩
      have HaAab := Lib.hid (HaAa.out.trans (hb.mono HaAa.out.size))
      have YBAab := Lib.hid (YBAa.out.below hb)
      have YTAab := Lib.hid (YTAa.out.below hb)
      clear hb
      go_wp2_with fail
      refine hK.out _ _ (Ka.out _ HaAab.out) (fun hHeld => ?_)
      clear hK K
      try simp only [Act.put, List.setIfInBounds_toArray, List.set_cons_zero, List.set_cons_succ]
      refine take_in (i := 3) (v := ?_) (some 13) rfl rfl (by kernel_rfl) (by kernel_rfl) (by kernel_rfl) (fun _ _ _ h => h) (Or.inl ⟨by rfl, ?_⟩) (by assumption) ?_
      rotate_left
      · (intro w hSw; (try dsimp only at hSw); (try go_split_ands); go_simp; try with_reducible rfl)
      try simp only [Act.put, List.setIfInBounds_toArray, List.set_cons_zero, List.set_cons_succ]
      refine wpAnyH_ready (rs := [4]) (by kernel_rfl) (by simp) ?_
      refine (AllReadyH.cons rfl (fun K hK => ?_) AllReadyH.nil)
      go_simp
      (with_reducible refine (CA.out _ HaAab.out).mono ?_)
      rintro e waAabZ ⟨u, nna, y, rfl, ho, hb, hq⟩
      have HaAabZ := Lib.hid (HaAab.out.trans (hb.mono HaAab.out.size))
      have HQa := Lib.hid hq
      obtain ⟨ye, yid, ylab, yfr, ytil, yval, yps⟩ := y
      have OWAabZ := Lib.hid (EOwn.mono ho (HaAab.out).size)
      obtain ⟨su, sq, rsu, rfl, hu1, hu2, hu3⟩ := ho
      obtain ⟨Au, cu, rfl, _⟩ := hu1.at
      obtain ⟨Aq, cq, rfl, _⟩ := hu2.form
      have YBAabZ := Lib.hid (YBAab.out.below hb)
      have YTAabZ := Lib.hid (YTAab.out.below hb)
      have y2 := YBAabZ.out.c
      have y3 := YBAabZ.out.fr
      clear hb hq hu1 hu2 hu3
      go_wp2_with fail
      refine hK.out _ _ (Ka.out _ HaAabZ.out) (fun hHeld => ?_)
      clear hK K
      try simp only [Act.put, List.setIfInBounds_toArray, List.set_cons_zero, List.set_cons_succ]
      refine take_in (i := 5) (v := ?_) (some 9) rfl rfl (by kernel_rfl) (by kernel_rfl) (by kernel_rfl) (fun _ _ _ h => h) (Or.inl ⟨by rfl, ?_⟩) (by assumption) ?_
      rotate_left
      · (intro w hSw; (try dsimp only at hSw); (try go_split_ands); go_simp; try with_reducible rfl)
      try simp only [Act.put, List.setIfInBounds_toArray, List.set_cons_zero, List.set_cons_succ]
      refine take_in (i := 6) (v := ?_) (some 15) rfl rfl (by kernel_rfl) (by kernel_rfl) (by kernel_rfl) (fun _ _ _ h => h) (Or.inl ⟨by rfl, ?_⟩) (by assumption) ?_
      rotate_left
      · (intro w hSw; (try dsimp only at hSw); (try go_split_ands); go_simp; try with_reducible rfl)
      try simp only [Act.put, List.setIfInBounds_toArray, List.set_cons_zero, List.set_cons_succ]
      refine take_in (i := 7) (v := ?_) (some 16) rfl rfl (by kernel_rfl) (by kernel_rfl) (by kernel_rfl) (fun _ _ _ h => h) (Or.inl ⟨by rfl, ?_⟩) (by assumption) ?_
      rotate_left
      · (intro w hSw; (try dsimp only at hSw); (try go_split_ands); go_simp; try with_reducible rfl)
      try simp only [Act.put, List.setIfInBounds_toArray, List.set_cons_zero, List.set_cons_succ]
      refine wpAnyH_ready (rs := [9]) (by kernel_rfl) (by simp) ?_
      refine (AllReadyH.cons rfl (fun K hK => ?_) AllReadyH.nil)
      go_simp
      refine hK.out _ _ (Ka.out _ (box_below YBAabZ.out HaAabZ.out HaAabZ.out.size (by first | exact Nat.le_refl _ | exact HaAabZ.out.size) _ _ _ _ _ _ _)) (fun hHeld => ?_)
      clear hK K
      try simp only [Act.put, List.setIfInBounds_toArray, List.set_cons_zero, List.set_cons_succ]
      clear y2 y3
      refine take_in (i := 10) (v := ?_) (some 4) rfl rfl (by kernel_rfl) (by kernel_rfl) (by kernel_rfl) (fun _ _ _ h => h) (Or.inl ⟨by rfl, ?_⟩) (by assumption) ?_
      rotate_left
      · (intro w hSw; (try dsimp only at hSw); (try go_split_ands); go_simp; try with_reducible rfl)
      try simp only [Act.put, List.setIfInBounds_toArray, List.set_cons_zero, List.set_cons_succ]
      refine wpAnyH_done (by kernel_rfl) ?_ _
      obtain ⟨W9, hW9, X9, G9⟩ := box_put YBAabZ.out YTAabZ.out OWAabZ.out
      simp only at hW9
      rw [hW9]
      have HX9 := Lib.hid X9
      have HG9 := Lib.hid (HaAabZ.out.grown G9 HaAabZ.out.size fun q hq => by have e := Option.some.inj hq; first | omega | (rw [← e]; exact HaAabZ.out.size))
      clear hW9 X9 G9
      go_wp2_with fail
      go_meet
      exact ⟨_, _, _, rfl, rfl, HX9.out, HG9.out, HQa.out⟩
  case rest =>
    obtain ⟨p3, n2, z, rfl, rfl, _, hb, rfl⟩ := hcut
    obtain ⟨w3, rfl⟩ : ∃ x : World, x = wc := ⟨_, rfl⟩
    have B3 := Lib.hid (B2.out.trans (hb.mono B2.out.size))
    have X3 := Lib.hid (Xv.out.below hb)
    have D1 := Lib.hid (G1.out.below hb)
    have D2 := Lib.hid (Nat.lt_of_lt_of_le G2.out hb.size)
    have D3 := Lib.hid ((hb.cell (p := ⟨g, 1, none⟩) G2.out).trans G3.out)
    have D4 := Lib.hid (G4.out.below hb)
    clear hb Ka CA Xv Ov G1 G2 G3 G4
    have K3 : Hid (∀ w', Below w3.heap.size w3 w' → (∀ j, w'.cell? ⟨p1, j, none⟩ = #[.bool false, .int .u64 1, .string ⟨#[110]⟩, .int .u64 0, .int .u64 0, .slice Av 2 cv, .slice (some ⟨g, 0, none⟩) 1 dv][j]?) ∧ w'.cell? ⟨g, 1, none⟩ = some (.slice AL 2 cL)) := Lib.hid fun w' hb => ⟨(X3.out.below hb).c, (hb.cell (p := ⟨g, 1, none⟩) D2.out).trans D3.out⟩
    have CE := Lib.hid (fun W va (hb : Below w3.heap.size w3 W) (h : Se.IsP W va [(2, 4), (5, 9)]) => (Se.Equal_any (.slice Av 2 cv) va [(2, 4), (5, 9)] [(2, 4), (5, 9)] W (D1.out.below hb) h (by simp) (by simp)).mono fun e w' h => (show e = .returned (.bool true) ∧ Below W.heap.size W w' from ⟨h.1.trans (by rfl), h.2⟩))
    have CS := Lib.hid (fun W va (hb : Below w3.heap.size w3 W) (h : SL W va exL3) => (pSame_any (.slice AL 2 cL) va exL3 exL3 W (D4.out.below hb) h (line_wm exL3_line) (line_wm exL3_line)).mono fun e w' h => h.yes rfl)
    go_upto_region 3 with fail
    refine wp_region_held_drew (S := (fun w' => (∀ j, w'.cell? ⟨p1, j, none⟩ = #[.bool false, .int .u64 1, .string ⟨#[110]⟩, .int .u64 0, .int .u64 0, .slice Av 2 cv, .slice (some ⟨g, 0, none⟩) 1 dv][j]?) ∧ w'.cell? ⟨g, 1, none⟩ = some (.slice AL 2 cL))) (by kernel_rfl) (K3.out _ (Below.refl _ _).drew) (fun hHeld => ?_)
    refine take_in (i := 0) (v := ?_) (some 17) rfl rfl (by kernel_rfl) (by kernel_rfl) (by kernel_rfl) (fun _ _ _ h => h) (Or.inl ⟨by rfl, ?_⟩) (by assumption) ?_
    rotate_left
    · (intro w hSw; (try dsimp only at hSw); (try go_split_ands); go_simp; try with_reducible rfl)
    try simp only [Act.put, List.setIfInBounds_toArray, List.set_cons_zero, List.set_cons_succ]
    refine take_in (i := 1) (v := ?_) (some 18) rfl rfl (by kernel_rfl) (by kernel_rfl) (by kernel_rfl) (fun _ _ _ h => h) (Or.inl ⟨by rfl, ?_⟩) (by assumption) ?_
    rotate_left
    · (intro w hSw; (try dsimp only at hSw); (try go_split_ands); go_simp; try with_reducible rfl)
    try simp only [Act.put, List.setIfInBounds_toArray, List.set_cons_zero, List.set_cons_succ]
    refine take_in (i := 2) (v := ?_) (some 19) rfl rfl (by kernel_rfl) (by kernel_rfl) (by kernel_rfl) (fun _ _ _ h => h) (Or.inl ⟨by rfl, ?_⟩) (by assumption) ?_
    rotate_left
    · (intro w hSw; (try dsimp only at hSw); (try go_split_ands); go_simp; try with_reducible rfl)
    try simp only [Act.put, List.setIfInBounds_toArray, List.set_cons_zero, List.set_cons_succ]
    refine take_in (i := 3) (v := ?_) (some 20) rfl rfl (by kernel_rfl) (by kernel_rfl) (by kernel_rfl) (fun _ _ _ h => h) (Or.inl ⟨by rfl, ?_⟩) (by assumption) ?_
    rotate_left
    · (intro w hSw; (try dsimp only at hSw); (try go_split_ands); go_simp; try with_reducible rfl)
    try simp only [Act.put, List.setIfInBounds_toArray, List.set_cons_zero, List.set_cons_succ]
    refine take_in (i := 4) (v := ?_) (some 21) rfl rfl (by kernel_rfl) (by kernel_rfl) (by kernel_rfl) (fun _ _ _ h => h) (Or.inl ⟨by rfl, ?_⟩) (by assumption) ?_
    rotate_left
    · (intro w hSw; (try dsimp only at hSw); (try go_split_ands); go_simp; try with_reducible rfl)
    try simp only [Act.put, List.setIfInBounds_toArray, List.set_cons_zero, List.set_cons_succ]
    refine take_in (i := 5) (v := ?_) (some 22) rfl rfl (by kernel_rfl) (by kernel_rfl) (by kernel_rfl) (fun _ _ _ h => h) (Or.inl ⟨by rfl, ?_⟩) (by assumption) ?_
    rotate_left
    · (intro w hSw; (try dsimp only at hSw); (try go_split_ands); go_simp; try with_reducible rfl)
    try simp only [Act.put, List.setIfInBounds_toArray, List.set_cons_zero, List.set_cons_succ]
    refine take_in (i := 6) (v := ?_) (some 23) rfl rfl (by kernel_rfl) (by kernel_rfl) (by kernel_rfl) (fun _ _ _ h => h) (Or.inl ⟨by rfl, ?_⟩) (by assumption) ?_
    rotate_left
    · (intro w hSw; (try dsimp only at hSw); (try go_split_ands); go_simp; try with_reducible rfl)
    try simp only [Act.put, List.setIfInBounds_toArray, List.set_cons_zero, List.set_cons_succ]
    refine take_in (i := 7) (v := ?_) (some 24) rfl rfl (by kernel_rfl) (by kernel_rfl) (by kernel_rfl) (fun _ _ _ h => h) (Or.inl ⟨by rfl, ?_⟩) (by assumption) ?_
    rotate_left
    · (intro w hSw; (try dsimp only at hSw); (try go_split_ands); go_simp; try with_reducible rfl)
    try simp only [Act.put, List.setIfInBounds_toArray, List.set_cons_zero, List.set_cons_succ]
    refine wpAnyH_ready (rs := [8]) (by kernel_rfl) (by simp) ?_
    refine AllReadyH.cons rfl (fun K hK => ?_) AllReadyH.nil
    go_simp
    (with_reducible refine (CP.out _ _ _).mono ?_)
    rintro e v1 ⟨rfl, hb⟩
    have V1 := Lib.hid ((show Below w3.heap.size w3 w3.drew from (Below.refl _ _).drew).trans (hb.mono (show Below w3.heap.size w3 w3.drew from (Below.refl _ _).drew).size))
    clear hb
    go_wp2_with fail
    refine hK.out _ _ (K3.out _ V1.out) (fun hHeld => ?_)
    clear hK K
    try simp only [Act.put, List.setIfInBounds_toArray, List.set_cons_zero, List.set_cons_succ]
    refine wpAnyH_ready (rs := [9]) (by kernel_rfl) (by simp) ?_
    refine AllReadyH.cons rfl (fun K hK => ?_) AllReadyH.nil
    go_simp
    (with_reducible refine (CP.out _ _ _).mono ?_)
    rintro e v2 ⟨rfl, hb⟩
    have V2 := Lib.hid (V1.out.trans (hb.mono V1.out.size))
    clear hb
    go_wp2_with fail
    refine hK.out _ _ (K3.out _ V2.out) (fun hHeld => ?_)
    clear hK K
    try simp only [Act.put, List.setIfInBounds_toArray, List.set_cons_zero, List.set_cons_succ]
    refine wpAnyH_ready (rs := [10]) (by kernel_rfl) (by simp) ?_
    refine AllReadyH.cons rfl (fun K hK => ?_) AllReadyH.nil
    go_simp
    refine hK.out _ _ (K3.out _ (V2.out.alloc V2.out.size _)) (fun hHeld => ?_)
    clear hK K
    try simp only [Act.put, List.setIfInBounds_toArray, List.set_cons_zero, List.set_cons_succ]
    refine wpAnyH_ready (rs := [11]) (by kernel_rfl) (by simp) ?_
    refine AllReadyH.cons rfl (fun K hK => ?_) AllReadyH.nil
    go_simp
    have VA := Lib.hid (V2.out.alloc V2.out.size (.cells #[.int .u64 2, .int .u64 4, .int .u64 5, .int .u64 9] 33))
    (with_reducible refine (CE.out _ _ VA.out (show Se.IsP (v2.alloc (.cells #[.int .u64 2, .int .u64 4, .int .u64 5, .int .u64 9] 33)) (.slice (some ⟨v2.heap.size, 0, none⟩) 2 2) [(2, 4), (5, 9)] by have h := isP_new v2 [(2, 4), (5, 9)] 33 2 2 rfl; simpa [Se.cellsP] using h)).mono ?_)
    rintro e v3 ⟨rfl, hb⟩
    have V3 := Lib.hid (VA.out.trans (hb.mono VA.out.size))
    clear hb
    go_wp2_with fail
    refine hK.out _ _ (K3.out _ V3.out) (fun hHeld => ?_)
    clear hK K
    try simp only [Act.put, List.setIfInBounds_toArray, List.set_cons_zero, List.set_cons_succ]
    refine take_in (i := 12) (v := ?_) (some 29) rfl rfl (by kernel_rfl) (by kernel_rfl) (by kernel_rfl) (fun _ _ _ h => h) (Or.inl ⟨by rfl, ?_⟩) (by assumption) ?_
    rotate_left
    · (intro w hSw; (try dsimp only at hSw); (try go_split_ands); go_simp; try with_reducible rfl)
    try simp only [Act.put, List.setIfInBounds_toArray, List.set_cons_zero, List.set_cons_succ]
    refine take_in (i := 13) (v := ?_) (some 30) rfl rfl (by kernel_rfl) (by kernel_rfl) (by kernel_rfl) (fun _ _ _ h => h) (Or.inl ⟨by rfl, ?_⟩) (by assumption) ?_
    rotate_left
    · (intro w hSw; (try dsimp only at hSw); (try go_split_ands); go_simp; try with_reducible rfl)
    try simp only [Act.put, List.setIfInBounds_toArray, List.set_cons_zero, List.set_cons_succ]
    refine take_in (i := 14) (v := ?_) (some 31) rfl rfl (by kernel_rfl) (by kernel_rfl) (by kernel_rfl) (fun _ _ _ h => h) (Or.inl ⟨by rfl, ?_⟩) (by assumption) ?_
    rotate_left
    · (intro w hSw; (try dsimp only at hSw); (try go_split_ands); go_simp; try with_reducible rfl)
    try simp only [Act.put, List.setIfInBounds_toArray, List.set_cons_zero, List.set_cons_succ]
    refine take_in (i := 15) (v := ?_) (some 32) rfl rfl (by kernel_rfl) (by kernel_rfl) (by kernel_rfl) (fun _ _ _ h => h) (Or.inl ⟨by rfl, ?_⟩) (by assumption) ?_
    rotate_left
    · (intro w hSw; (try dsimp only at hSw); (try go_split_ands); go_simp; try with_reducible rfl)
    try simp only [Act.put, List.setIfInBounds_toArray, List.set_cons_zero, List.set_cons_succ]
    refine take_in (i := 16) (v := ?_) (some 33) rfl rfl (by kernel_rfl) (by kernel_rfl) (by kernel_rfl) (fun _ _ _ h => h) (Or.inl ⟨by rfl, ?_⟩) (by assumption) ?_
    rotate_left
    · (intro w hSw; (try dsimp only at hSw); (try go_split_ands); go_simp; try with_reducible rfl)
    try simp only [Act.put, List.setIfInBounds_toArray, List.set_cons_zero, List.set_cons_succ]
    refine take_in (i := 17) (v := ?_) (some 34) rfl rfl (by kernel_rfl) (by kernel_rfl) (by kernel_rfl) (fun _ _ _ h => h) (Or.inl ⟨by rfl, ?_⟩) (by assumption) ?_
    rotate_left
    · (intro w hSw; (try dsimp only at hSw); (try go_split_ands); go_simp; try with_reducible rfl)
    try simp only [Act.put, List.setIfInBounds_toArray, List.set_cons_zero, List.set_cons_succ]
    refine take_in (i := 18) (v := ?_) (some 35) rfl rfl (by kernel_rfl) (by kernel_rfl) (by kernel_rfl) (fun _ _ _ h => h) (Or.inl ⟨by rfl, ?_⟩) (by assumption) ?_
    rotate_left
    · (intro w hSw; (try dsimp only at hSw); (try go_split_ands); go_simp; try with_reducible rfl)
    try simp only [Act.put, List.setIfInBounds_toArray, List.set_cons_zero, List.set_cons_succ]
    refine take_in (i := 19) (v := ?_) (some 36) rfl rfl (by kernel_rfl) (by kernel_rfl) (by kernel_rfl) (fun _ _ _ h => h) (Or.inl ⟨by rfl, ?_⟩) (by assumption) ?_
    rotate_left
    · (intro w hSw; (try dsimp only at hSw); (try go_split_ands); go_simp; try with_reducible rfl)
    try simp only [Act.put, List.setIfInBounds_toArray, List.set_cons_zero, List.set_cons_succ]
    refine take_in (i := 20) (v := ?_) (some 37) rfl rfl (by kernel_rfl) (by kernel_rfl) (by kernel_rfl) (fun _ _ _ h => h) (Or.inl ⟨by rfl, ?_⟩) (by assumption) ?_
    rotate_left
    · (intro w hSw; (try dsimp only at hSw); (try go_split_ands); go_simp; try with_reducible rfl)
    try simp only [Act.put, List.setIfInBounds_toArray, List.set_cons_zero, List.set_cons_succ]
    refine take_in (i := 21) (v := ?_) (some 38) rfl rfl (by kernel_rfl) (by kernel_rfl) (by kernel_rfl) (fun _ _ _ h => h) (Or.inl ⟨by rfl, ?_⟩) (by assumption) ?_
    rotate_left
    · (intro w hSw; (try dsimp only at hSw); (try go_split_ands); go_simp; try with_reducible rfl)
    try simp only [Act.put, List.setIfInBounds_toArray, List.set_cons_zero, List.set_cons_succ]
    refine take_in (i := 22) (v := ?_) (some 39) rfl rfl (by kernel_rfl) (by kernel_rfl) (by kernel_rfl) (fun _ _ _ h => h) (Or.inl ⟨by rfl, ?_⟩) (by assumption) ?_
    rotate_left
    · (intro w hSw; (try dsimp only at hSw); (try go_split_ands); go_simp; try with_reducible rfl)
    try simp only [Act.put, List.setIfInBounds_toArray, List.set_cons_zero, List.set_cons_succ]
    refine take_in (i := 23) (v := ?_) (some 40) rfl rfl (by kernel_rfl) (by kernel_rfl) (by kernel_rfl) (fun _ _ _ h => h) (Or.inl ⟨by rfl, ?_⟩) (by assumption) ?_
    rotate_left
    · (intro w hSw; (try dsimp only at hSw); (try go_split_ands); go_simp; try with_reducible rfl)
    try simp only [Act.put, List.setIfInBounds_toArray, List.set_cons_zero, List.set_cons_succ]
    refine take_in (i := 24) (v := ?_) (some 41) rfl rfl (by kernel_rfl) (by kernel_rfl) (by kernel_rfl) (fun _ _ _ h => h) (Or.inl ⟨by rfl, ?_⟩) (by assumption) ?_
    rotate_left
    · (intro w hSw; (try dsimp only at hSw); (try go_split_ands); go_simp; try with_reducible rfl)
    try simp only [Act.put, List.setIfInBounds_toArray, List.set_cons_zero, List.set_cons_succ]
    refine wpAnyH_ready (rs := [25]) (by kernel_rfl) (by simp) ?_
    refine AllReadyH.cons rfl (fun K hK => ?_) AllReadyH.nil
    go_simp
    (with_reducible refine (CP.out _ _ _).mono ?_)
    rintro e v4 ⟨rfl, hb⟩
    have V4 := Lib.hid (V3.out.trans (hb.mono V3.out.size))
    clear hb
    go_wp2_with fail
    refine hK.out _ _ (K3.out _ V4.out) (fun hHeld => ?_)
    clear hK K
    try simp only [Act.put, List.setIfInBounds_toArray, List.set_cons_zero, List.set_cons_succ]
    refine wpAnyH_ready (rs := [26]) (by kernel_rfl) (by simp) ?_
    refine AllReadyH.cons rfl (fun K hK => ?_) AllReadyH.nil
    go_simp
    (with_reducible refine (CN.out _ _).mono ?_)
    rintro e v5 ⟨rfl, hb⟩
    have V5 := Lib.hid (V4.out.trans (hb.mono V4.out.size))
    clear hb
    go_wp2_with fail
    refine hK.out _ _ (K3.out _ V5.out) (fun hHeld => ?_)
    clear hK K
    try simp only [Act.put, List.setIfInBounds_toArray, List.set_cons_zero, List.set_cons_succ]
    refine take_in (i := 27) (v := ?_) (some 44) rfl rfl (by kernel_rfl) (by kernel_rfl) (by kernel_rfl) (fun _ _ _ h => h) (Or.inl ⟨by rfl, ?_⟩) (by assumption) ?_
    rotate_left
    · (intro w hSw; (try dsimp only at hSw); (try go_split_ands); go_simp; try with_reducible rfl)
    try simp only [Act.put, List.setIfInBounds_toArray, List.set_cons_zero, List.set_cons_succ]
    refine wpAnyH_ready (rs := [28]) (by kernel_rfl) (by simp) ?_
    refine AllReadyH.cons rfl (fun K hK => ?_) AllReadyH.nil
    go_simp
    (with_reducible refine (CP.out _ _ _).mono ?_)
    rintro e v6 ⟨rfl, hb⟩
    have V6 := Lib.hid (V5.out.trans (hb.mono V5.out.size))
    clear hb
    go_wp2_with fail
    refine hK.out _ _ (K3.out _ V6.out) (fun hHeld => ?_)
    clear hK K
    try simp only [Act.put, List.setIfInBounds_toArray, List.set_cons_zero, List.set_cons_succ]
    refine wpAnyH_ready (rs := [29]) (by kernel_rfl) (by simp) ?_
    refine AllReadyH.cons rfl (fun K hK => ?_) AllReadyH.nil
    go_simp
    (with_reducible refine (CN.out _ _).mono ?_)
    rintro e v7 ⟨rfl, hb⟩
    have V7 := Lib.hid (V6.out.trans (hb.mono V6.out.size))
    clear hb
    go_wp2_with fail
    refine hK.out _ _ (K3.out _ V7.out) (fun hHeld => ?_)
    clear hK K
    try simp only [Act.put, List.setIfInBounds_toArray, List.set_cons_zero, List.set_cons_succ]
    refine take_in (i := 30) (v := ?_) (some 47) rfl rfl (by kernel_rfl) (by kernel_rfl) (by kernel_rfl) (fun _ _ _ h => h) (Or.inl ⟨by rfl, ?_⟩) (by assumption) ?_
    rotate_left
    · (intro w hSw; (try dsimp only at hSw); (try go_split_ands); go_simp; try with_reducible rfl)
    try simp only [Act.put, List.setIfInBounds_toArray, List.set_cons_zero, List.set_cons_succ]
    refine wpAnyH_ready (rs := [31]) (by kernel_rfl) (by simp) ?_
    refine AllReadyH.cons rfl (fun K hK => ?_) AllReadyH.nil
    go_simp
    refine hK.out _ _ (K3.out _ (V7.out.alloc V7.out.size _)) (fun hHeld => ?_)
    clear hK K
    try simp only [Act.put, List.setIfInBounds_toArray, List.set_cons_zero, List.set_cons_succ]
    refine wpAnyH_ready (rs := [32]) (by kernel_rfl) (by simp) ?_
    refine AllReadyH.cons rfl (fun K hK => ?_) AllReadyH.nil
    go_simp
    have VB := Lib.hid (V7.out.alloc V7.out.size (.cells #[.int .u64 3, .int .u64 4, .int .i64 2, .bool false, .int .i64 5, .float .f64 0, .string ⟨#[]⟩, .int .u64 5, .int .u64 6, .int .i64 2, .bool false, .int .i64 5, .float .f64 0, .string ⟨#[]⟩] 148))
    (with_reducible refine (CS.out _ _ VB.out (show SL (v7.alloc (.cells #[.int .u64 3, .int .u64 4, .int .i64 2, .bool false, .int .i64 5, .float .f64 0, .string ⟨#[]⟩, .int .u64 5, .int .u64 6, .int .i64 2, .bool false, .int .i64 5, .float .f64 0, .string ⟨#[]⟩] 148)) (.slice (some ⟨v7.heap.size, 0, none⟩) 2 2) exL3 by have h := sl_newL v7 exL3 148 2 2 rfl (by omega); simp [cellsL, numV] at h; rw [← Co.mk_empty] at h; exact h)).mono ?_)
    rintro e v8 ⟨rfl, hb⟩
    have V8 := Lib.hid (VB.out.trans (hb.mono VB.out.size))
    clear hb
    go_wp2_with fail
    refine hK.out _ _ (K3.out _ V8.out) (fun hHeld => ?_)
    clear hK K
    try simp only [Act.put, List.setIfInBounds_toArray, List.set_cons_zero, List.set_cons_succ]
    refine take_in (i := 33) (v := ?_) (some 50) rfl rfl (by kernel_rfl) (by kernel_rfl) (by kernel_rfl) (fun _ _ _ h => h) (Or.inl ⟨by rfl, ?_⟩) (by assumption) ?_
    rotate_left
    · (intro w hSw; (try dsimp only at hSw); (try go_split_ands); go_simp; try with_reducible rfl)
    try simp only [Act.put, List.setIfInBounds_toArray, List.set_cons_zero, List.set_cons_succ]
    refine take_in (i := 34) (v := ?_) (some 0) rfl rfl (by kernel_rfl) (by kernel_rfl) (by kernel_rfl) (fun _ _ _ h => h) (Or.inl ⟨by rfl, ?_⟩) (by assumption) ?_
    rotate_left
    · (intro w hSw; (try dsimp only at hSw); (try go_split_ands); go_simp; try with_reducible rfl)
    try simp only [Act.put, List.setIfInBounds_toArray, List.set_cons_zero, List.set_cons_succ]
    refine wpAnyH_done (by kernel_rfl) ?_ _
    go_wp2_with fail
    go_ret
    exact ⟨rfl, B3.out.trans (V8.out.mono B3.out.size)⟩
end
end Go.Proofs.YtmolpogehgeebaaGreat

