/- The chapter's example, and the awake test. -/
import Derived.Test.YtmolpogehgeebaaGreatbFB1
import Derived.Test.YtmolpogehgeebaaGreatbS1
namespace Go.Proofs.YtmolpogehgeebaaGreat
open Go.RowKit
/-- What example answers. -/
def ExEnd (w : World) (e : Ending) (w' : World) : Prop := ∃ u, e = .returned (.tuple #[u, .bool true]) ∧ EOwn w.heap.size w' u exE3 ∧ Below w.heap.size w w'
section
set_option maxRecDepth 100000
set_option maxHeartbeats 16000000
theorem example_any (w : World) : Calls Tryz.prog 32 #[] w (ExEnd w) := by
  have CN := Lib.hid num13_any
  have CP := Lib.hid P13_any
  have CM := Lib.hid exMake
  have C2 := Lib.hid exApply2
  have C3 := Lib.hid exApply3
  have hsf := store_float
  have B0 := Lib.hid ((Below.refl w.heap.size w).alloc (Nat.le_refl _) (.cells #[.bool false, .int .u64 0, .string ⟨#[]⟩, .int .u64 0, .int .u64 0, .slice none 0 0, .slice none 0 0] 38))
  have Y0 := Lib.hid (Bx.new w #[.bool false, .int .u64 0, .string ⟨#[]⟩, .int .u64 0, .int .u64 0, .slice none 0 0, .slice none 0 0] 38)
  have T0 := Lib.hid (HT.new w #[.bool false, .int .u64 0, .string ⟨#[]⟩, .int .u64 0, .int .u64 0, .slice none 0 0, .slice none 0 0])
  go_enter Tryz.func32, Tryz.ntmps32
  go_upto_region 1 with fail
  obtain ⟨w0, hw0⟩ : ∃ W, w.alloc (.cells #[.bool false, .int .u64 0, .string ⟨#[]⟩, .int .u64 0, .int .u64 0, .slice none 0 0, .slice none 0 0] 38) = W := ⟨_, rfl⟩
  rw [hw0] at B0 Y0 T0
  try rw [hw0]
  clear hw0
  go_upto_region 2 with (first
    | (go_at_call 33; (with_reducible refine (CP.out _ _ _).mono ?_); rintro e w1 ⟨rfl, hb⟩; have B1 := Lib.hid (B0.out.trans (hb.mono B0.out.size)); have Y1 := Lib.hid (Y0.out.below hb); have T1 := Lib.hid (T0.out.below hb); clear hb)
    | (go_at_call 16; (with_reducible refine (CM.out _).mono ?_); rintro e w2 ⟨u, n1, y, rfl, ho, hb, rfl, hq⟩; have HQ1 := Lib.hid hq; obtain ⟨ye, yid, ylab, yfr, ytil, yval, yps⟩ := y; have B2 := Lib.hid (B1.out.trans (hb.mono B1.out.size)); have Y2 := Lib.hid (Y1.out.below hb); have T2 := Lib.hid (T1.out.below hb); have OW := Lib.hid (EOwn.mono ho B1.out.size); obtain ⟨su, sq, rsu, rfl, hu1, hu2, hu3⟩ := ho; obtain ⟨Ay, cy, rfl, _⟩ := hu1.at; obtain ⟨Py, dy, rfl, _⟩ := hu2.form; clear hb hq hu1 hu2 hu3)
    | fail)
  have AL := (Below.refl w2.heap.size w2).alloc (Nat.le_refl _) (.cells #[.bool ye, .int .u64 yid, .string ylab, .int .u64 yfr, .int .u64 ytil, .slice Ay yval.length cy, .slice Py rsu.length dy] 38)
  have Xy := Lib.hid (Bx.new w2 #[.bool ye, .int .u64 yid, .string ylab, .int .u64 yfr, .int .u64 ytil, .slice Ay yval.length cy, .slice Py rsu.length dy] 38)
  have Oy := Lib.hid (OW.out.below AL)
  have B3 := Lib.hid (B2.out.trans (AL.mono B2.out.size))
  have Y3 := Lib.hid (Y2.out.below AL)
  have T3 := Lib.hid (T2.out.below AL)
  obtain ⟨w3, hw3⟩ : ∃ W, w2.alloc (.cells #[.bool ye, .int .u64 yid, .string ylab, .int .u64 yfr, .int .u64 ytil, .slice Ay yval.length cy, .slice Py rsu.length dy] 38) = W := ⟨_, rfl⟩
  rw [hw3] at Xy Oy B3 Y3 T3
  try rw [hw3]
  clear hw3 AL OW
  obtain ⟨p2, hp2⟩ : ∃ q, w2.heap.size = q := ⟨_, rfl⟩
  rw [hp2] at Xy
  try rw [hp2]
  clear hp2
  obtain ⟨ny, hny⟩ : ∃ q, rsu.length = q := ⟨_, rfl⟩
  rw [hny] at Xy Oy
  try rw [hny]
  clear hny
  have CA := Lib.hid (fun W (hb : Below w3.heap.size w3 W) => C2.out (.agg #[.bool ye, .int .u64 yid, .string ylab, .int .u64 yfr, .int .u64 ytil, .slice Ay yval.length cy, .slice Py ny dy]) W (by have h : EAt W (.agg #[.bool ye, .int .u64 yid, .string ylab, .int .u64 yfr, .int .u64 ytil, .slice Ay yval.length cy, .slice Py ny dy]) ⟨ye, yid, ylab, yfr, ytil, yval, yps⟩ := (Oy.out.below hb).at; rw [HQ1.out] at h; exact h))
  have Ka : Hid (∀ w', Below w3.heap.size w3 w' → ∀ j, w'.cell? ⟨p2, j, none⟩ = #[.bool ye, .int .u64 yid, .string ylab, .int .u64 yfr, .int .u64 ytil, .slice Ay yval.length cy, .slice Py ny dy][j]?) := Lib.hid fun w' hb => (Xy.out.below hb).c
  go_cut [4, 5] from 14 to 21 (fun t1 t2 w' => ∃ p n y, t1 = .pointer (some ⟨p, 0, none⟩) ∧ t2 = .int .i64 n ∧ BoxE w3.heap.size w' p y ∧ Below w3.heap.size w3 w' ∧ (n = 0 ∧ y = exE2))
  case first =>
    refine wp_region_held_drew (S := (fun w' => ∀ j, w'.cell? ⟨p2, j, none⟩ = #[.bool ye, .int .u64 yid, .string ylab, .int .u64 yfr, .int .u64 ytil, .slice Ay yval.length cy, .slice Py ny dy][j]?)) (by kernel_rfl) (Ka.out _ (Below.refl _ _).drew) (fun hHeld => ?_)
    refine take_in (i := 0) (v := ?_) (some 15) rfl rfl (by kernel_rfl) (by kernel_rfl) (by kernel_rfl) (fun _ _ _ h => h) (Or.inl ⟨by rfl, ?_⟩) (by assumption) ?_
    rotate_left
    · (intro w hSw; (try dsimp only at hSw); (try go_split_ands); go_simp; try with_reducible rfl)
    try simp only [Act.put, List.setIfInBounds_toArray, List.set_cons_zero, List.set_cons_succ]
    refine wpAnyH_ready (rs := [1, 8]) (by kernel_rfl) (by simp) ?_
    refine (AllReadyH.cons rfl (fun K hK => ?_) (AllReadyH.cons rfl (fun K hK => ?_) AllReadyH.nil))
    · go_simp
      (with_reducible refine (CN.out _ _).mono ?_)
      rintro e waa ⟨rfl, hb⟩
      have Haa := Lib.hid ((show Below w3.heap.size w3 w3.drew from (Below.refl _ _).drew).trans (hb.mono (show Below w3.heap.size w3 w3.drew from (Below.refl _ _).drew).size))
      clear hb
      go_wp2_with fail
      refine hK.out _ _ (Ka.out _ Haa.out) (fun hHeld => ?_)
      clear hK K
      try simp only [Act.put, List.setIfInBounds_toArray, List.set_cons_zero, List.set_cons_succ]
      refine wpAnyH_ready (rs := [2, 8]) (by kernel_rfl) (by simp) ?_
      refine (AllReadyH.cons rfl (fun K hK => ?_) (AllReadyH.cons rfl (fun K hK => ?_) AllReadyH.nil))
      · go_simp
        (with_reducible refine (CP.out _ _ _).mono ?_)
        rintro e waab ⟨rfl, hb⟩
        have Haab := Lib.hid (Haa.out.trans (hb.mono Haa.out.size))
        clear hb
        go_wp2_with fail
        refine hK.out _ _ (Ka.out _ Haab.out) (fun hHeld => ?_)
        clear hK K
        try simp only [Act.put, List.setIfInBounds_toArray, List.set_cons_zero, List.set_cons_succ]
        refine take_in (i := 3) (v := ?_) (some 18) rfl rfl (by kernel_rfl) (by kernel_rfl) (by kernel_rfl) (fun _ _ _ h => h) (Or.inl ⟨by rfl, ?_⟩) (by assumption) ?_
        rotate_left
        · (intro w hSw; (try dsimp only at hSw); (try go_split_ands); go_simp; try with_reducible rfl)
        try simp only [Act.put, List.setIfInBounds_toArray, List.set_cons_zero, List.set_cons_succ]
        refine wpAnyH_ready (rs := [4, 8]) (by kernel_rfl) (by simp) ?_
        refine (AllReadyH.cons rfl (fun K hK => ?_) (AllReadyH.cons rfl (fun K hK => ?_) AllReadyH.nil))
        · go_simp
          (with_reducible refine (CA.out _ Haab.out).mono ?_)
          rintro e waabZ ⟨u, nna, y, rfl, ho, hb, hq⟩
          have HaabZ := Lib.hid (Haab.out.trans (hb.mono Haab.out.size))
          have HQa := Lib.hid hq
          obtain ⟨ye, yid, ylab, yfr, ytil, yval, yps⟩ := y
          have OWabZ := Lib.hid (EOwn.mono ho (Haab.out).size)
          obtain ⟨su, sq, rsu, rfl, hu1, hu2, hu3⟩ := ho
          obtain ⟨Au, cu, rfl, _⟩ := hu1.at
          obtain ⟨Aq, cq, rfl, _⟩ := hu2.form
          clear hb hq hu1 hu2 hu3
          go_wp2_with fail
          refine hK.out _ _ (Ka.out _ HaabZ.out) (fun hHeld => ?_)
          clear hK K
          try simp only [Act.put, List.setIfInBounds_toArray, List.set_cons_zero, List.set_cons_succ]
          refine take_in (i := 5) (v := ?_) (some 14) rfl rfl (by kernel_rfl) (by kernel_rfl) (by kernel_rfl) (fun _ _ _ h => h) (Or.inl ⟨by rfl, ?_⟩) (by assumption) ?_
          rotate_left
          · (intro w hSw; (try dsimp only at hSw); (try go_split_ands); go_simp; try with_reducible rfl)
          try simp only [Act.put, List.setIfInBounds_toArray, List.set_cons_zero, List.set_cons_succ]
          refine take_in (i := 6) (v := ?_) (some 20) rfl rfl (by kernel_rfl) (by kernel_rfl) (by kernel_rfl) (fun _ _ _ h => h) (Or.inl ⟨by rfl, ?_⟩) (by assumption) ?_
          rotate_left
          · (intro w hSw; (try dsimp only at hSw); (try go_split_ands); go_simp; try with_reducible rfl)
          try simp only [Act.put, List.setIfInBounds_toArray, List.set_cons_zero, List.set_cons_succ]
          refine take_in (i := 7) (v := ?_) (some 21) rfl rfl (by kernel_rfl) (by kernel_rfl) (by kernel_rfl) (fun _ _ _ h => h) (Or.inl ⟨by rfl, ?_⟩) (by assumption) ?_
          rotate_left
          · (intro w hSw; (try dsimp only at hSw); (try go_split_ands); go_simp; try with_reducible rfl)
          try simp only [Act.put, List.setIfInBounds_toArray, List.set_cons_zero, List.set_cons_succ]
          refine wpAnyH_ready (rs := [8]) (by kernel_rfl) (by simp) ?_
          refine (AllReadyH.cons rfl (fun K hK => ?_) AllReadyH.nil)
          go_simp
          refine hK.out _ _ (Ka.out _ (HaabZ.out.alloc HaabZ.out.size _)) (fun hHeld => ?_)
          clear hK K
          try simp only [Act.put, List.setIfInBounds_toArray, List.set_cons_zero, List.set_cons_succ]
          obtain ⟨waabZA, hWa⟩ : ∃ W, waabZ.alloc (.cells #[.bool false, .int .u64 0, .string ⟨#[]⟩, .int .u64 0, .int .u64 0, .slice none 0 0, .slice none 0 0] 38) = W := ⟨_, rfl⟩
          have HaabZA := Lib.hid (show Below w3.heap.size w3 waabZA by rw [← hWa]; exact HaabZ.out.alloc HaabZ.out.size _)
          have YBabZA := Lib.hid (show Bx waabZA waabZ.heap.size #[.bool false, .int .u64 0, .string ⟨#[]⟩, .int .u64 0, .int .u64 0, .slice none 0 0, .slice none 0 0] by rw [← hWa]; exact Bx.new waabZ _ _)
          have YTabZA := Lib.hid (show HT waabZA waabZ.heap.size by rw [← hWa]; exact HT.new waabZ _)
          have OWabZA := Lib.hid (show EOwn w3.heap.size waabZA (.agg (Ent.cells ⟨ye, yid, ylab, yfr, ytil, yval, yps⟩ (.slice Au yval.length cu) (.slice Aq rsu.length cq))) ⟨ye, yid, ylab, yfr, ytil, yval, yps⟩ by rw [← hWa]; exact OWabZ.out.below ((Below.refl _ _).alloc (Nat.le_refl _) _))
          have y2 := YBabZA.out.c
          have y3 := YBabZA.out.fr
          try rw [hWa] at hHeld
          try rw [hWa]
          clear hWa
          refine wpAnyH_ready (rs := [9]) (by kernel_rfl) (by simp) ?_
          refine (AllReadyH.cons rfl (fun K hK => ?_) AllReadyH.nil)
          go_simp
          refine hK.out _ _ (Ka.out _ (box_below YBabZA.out HaabZA.out HaabZA.out.size (by first | exact Nat.le_refl _ | exact HaabZ.out.size) _ _ _ _ _ _ _)) (fun hHeld => ?_)
          clear hK K
          try simp only [Act.put, List.setIfInBounds_toArray, List.set_cons_zero, List.set_cons_succ]
          clear y2 y3
          refine take_in (i := 10) (v := ?_) (some 5) rfl rfl (by kernel_rfl) (by kernel_rfl) (by kernel_rfl) (fun _ _ _ h => h) (Or.inl ⟨by rfl, ?_⟩) (by assumption) ?_
          rotate_left
          · (intro w hSw; (try dsimp only at hSw); (try go_split_ands); go_simp; try with_reducible rfl)
          try simp only [Act.put, List.setIfInBounds_toArray, List.set_cons_zero, List.set_cons_succ]
          refine wpAnyH_done (by kernel_rfl) ?_ _
          obtain ⟨W9, hW9, X9, G9⟩ := box_put YBabZA.out YTabZA.out OWabZA.out
          simp only at hW9
          rw [hW9]
          have HX9 := Lib.hid X9
          have HG9 := Lib.hid (HaabZA.out.grown G9 HaabZA.out.size fun q hq => by have e := Option.some.inj hq; first | omega | (rw [← e]; exact HaabZ.out.size))
          clear hW9 X9 G9
          go_wp2_with fail
          go_meet
          exact ⟨_, _, _, rfl, rfl, HX9.out, HG9.out, HQa.out⟩
        · go_simp
          refine hK.out _ _ (Ka.out _ (Haab.out.alloc Haab.out.size _)) (fun hHeld => ?_)
          clear hK K
          try simp only [Act.put, List.setIfInBounds_toArray, List.set_cons_zero, List.set_cons_succ]
          obtain ⟨waabA, hWa⟩ : ∃ W, waab.alloc (.cells #[.bool false, .int .u64 0, .string ⟨#[]⟩, .int .u64 0, .int .u64 0, .slice none 0 0, .slice none 0 0] 38) = W := ⟨_, rfl⟩
          have HaabA := Lib.hid (show Below w3.heap.size w3 waabA by rw [← hWa]; exact Haab.out.alloc Haab.out.size _)
          have YBabA := Lib.hid (show Bx waabA waab.heap.size #[.bool false, .int .u64 0, .string ⟨#[]⟩, .int .u64 0, .int .u64 0, .slice none 0 0, .slice none 0 0] by rw [← hWa]; exact Bx.new waab _ _)
          have YTabA := Lib.hid (show HT waabA waab.heap.size by rw [← hWa]; exact HT.new waab _)
          try rw [hWa] at hHeld
          try rw [hWa]
          clear hWa
          refine wpAnyH_ready (rs := [4]) (by kernel_rfl) (by simp) ?_
          refine (AllReadyH.cons rfl (fun K hK => ?_) AllReadyH.nil)
          go_simp
          (with_reducible refine (CA.out _ HaabA.out).mono ?_)
          rintro e waabAZ ⟨u, nna, y, rfl, ho, hb, hq⟩
          have HaabAZ := Lib.hid (HaabA.out.trans (hb.mono HaabA.out.size))
          have HQa := Lib.hid hq
          obtain ⟨ye, yid, ylab, yfr, ytil, yval, yps⟩ := y
          have OWabAZ := Lib.hid (EOwn.mono ho (HaabA.out).size)
          obtain ⟨su, sq, rsu, rfl, hu1, hu2, hu3⟩ := ho
          obtain ⟨Au, cu, rfl, _⟩ := hu1.at
          obtain ⟨Aq, cq, rfl, _⟩ := hu2.form
          have YBabAZ := Lib.hid (YBabA.out.below hb)
          have YTabAZ := Lib.hid (YTabA.out.below hb)
          have y2 := YBabAZ.out.c
          have y3 := YBabAZ.out.fr
          clear hb hq hu1 hu2 hu3
          go_wp2_with fail
          refine hK.out _ _ (Ka.out _ HaabAZ.out) (fun hHeld => ?_)
          clear hK K
          try simp only [Act.put, List.setIfInBounds_toArray, List.set_cons_zero, List.set_cons_succ]
          refine take_in (i := 5) (v := ?_) (some 14) rfl rfl (by kernel_rfl) (by kernel_rfl) (by kernel_rfl) (fun _ _ _ h => h) (Or.inl ⟨by rfl, ?_⟩) (by assumption) ?_
          rotate_left
          · (intro w hSw; (try dsimp only at hSw); (try go_split_ands); go_simp; try with_reducible rfl)
          try simp only [Act.put, List.setIfInBounds_toArray, List.set_cons_zero, List.set_cons_succ]
          refine take_in (i := 6) (v := ?_) (some 20) rfl rfl (by kernel_rfl) (by kernel_rfl) (by kernel_rfl) (fun _ _ _ h => h) (Or.inl ⟨by rfl, ?_⟩) (by assumption) ?_
          rotate_left
          · (intro w hSw; (try dsimp only at hSw); (try go_split_ands); go_simp; try with_reducible rfl)
          try simp only [Act.put, List.setIfInBounds_toArray, List.set_cons_zero, List.set_cons_succ]
          refine take_in (i := 7) (v := ?_) (some 21) rfl rfl (by kernel_rfl) (by kernel_rfl) (by kernel_rfl) (fun _ _ _ h => h) (Or.inl ⟨by rfl, ?_⟩) (by assumption) ?_
          rotate_left
          · (intro w hSw; (try dsimp only at hSw); (try go_split_ands); go_simp; try with_reducible rfl)
          try simp only [Act.put, List.setIfInBounds_toArray, List.set_cons_zero, List.set_cons_succ]
          refine wpAnyH_ready (rs := [9]) (by kernel_rfl) (by simp) ?_
          refine (AllReadyH.cons rfl (fun K hK => ?_) AllReadyH.nil)
          go_simp
          refine hK.out _ _ (Ka.out _ (box_below YBabAZ.out HaabAZ.out HaabAZ.out.size (by first | exact Nat.le_refl _ | exact Haab.out.size) _ _ _ _ _ _ _)) (fun hHeld => ?_)
          clear hK K
          try simp only [Act.put, List.setIfInBounds_toArray, List.set_cons_zero, List.set_cons_succ]
          clear y2 y3
          refine take_in (i := 10) (v := ?_) (some 5) rfl rfl (by kernel_rfl) (by kernel_rfl) (by kernel_rfl) (fun _ _ _ h => h) (Or.inl ⟨by rfl, ?_⟩) (by assumption) ?_
          rotate_left
          · (intro w hSw; (try dsimp only at hSw); (try go_split_ands); go_simp; try with_reducible rfl)
          try simp only [Act.put, List.setIfInBounds_toArray, List.set_cons_zero, List.set_cons_succ]
          refine wpAnyH_done (by kernel_rfl) ?_ _
          obtain ⟨W9, hW9, X9, G9⟩ := box_put YBabAZ.out YTabAZ.out OWabAZ.out
          simp only at hW9
          rw [hW9]
          have HX9 := Lib.hid X9
          have HG9 := Lib.hid (HaabAZ.out.grown G9 HaabAZ.out.size fun q hq => by have e := Option.some.inj hq; first | omega | (rw [← e]; exact Haab.out.size))
          clear hW9 X9 G9
          go_wp2_with fail
          go_meet
          exact ⟨_, _, _, rfl, rfl, HX9.out, HG9.out, HQa.out⟩
      · go_simp
        refine hK.out _ _ (Ka.out _ (Haa.out.alloc Haa.out.size _)) (fun hHeld => ?_)
        clear hK K
        try simp only [Act.put, List.setIfInBounds_toArray, List.set_cons_zero, List.set_cons_succ]
        obtain ⟨waaA, hWa⟩ : ∃ W, waa.alloc (.cells #[.bool false, .int .u64 0, .string ⟨#[]⟩, .int .u64 0, .int .u64 0, .slice none 0 0, .slice none 0 0] 38) = W := ⟨_, rfl⟩
        have HaaA := Lib.hid (show Below w3.heap.size w3 waaA by rw [← hWa]; exact Haa.out.alloc Haa.out.size _)
        have YBaA := Lib.hid (show Bx waaA waa.heap.size #[.bool false, .int .u64 0, .string ⟨#[]⟩, .int .u64 0, .int .u64 0, .slice none 0 0, .slice none 0 0] by rw [← hWa]; exact Bx.new waa _ _)
        have YTaA := Lib.hid (show HT waaA waa.heap.size by rw [← hWa]; exact HT.new waa _)
        try rw [hWa] at hHeld
        try rw [hWa]
        clear hWa
        refine wpAnyH_ready (rs := [2]) (by kernel_rfl) (by simp) ?_
        refine (AllReadyH.cons rfl (fun K hK => ?_) AllReadyH.nil)
        go_simp
        (with_reducible refine (CP.out _ _ _).mono ?_)
        rintro e waaAb ⟨rfl, hb⟩
        have HaaAb := Lib.hid (HaaA.out.trans (hb.mono HaaA.out.size))
        have YBaAb := Lib.hid (YBaA.out.below hb)
        have YTaAb := Lib.hid (YTaA.out.below hb)
        clear hb
        go_wp2_with fail
        refine hK.out _ _ (Ka.out _ HaaAb.out) (fun hHeld => ?_)
        clear hK K
        try simp only [Act.put, List.setIfInBounds_toArray, List.set_cons_zero, List.set_cons_succ]
        refine take_in (i := 3) (v := ?_) (some 18) rfl rfl (by kernel_rfl) (by kernel_rfl) (by kernel_rfl) (fun _ _ _ h => h) (Or.inl ⟨by rfl, ?_⟩) (by assumption) ?_
        rotate_left
        · (intro w hSw; (try dsimp only at hSw); (try go_split_ands); go_simp; try with_reducible rfl)
        try simp only [Act.put, List.setIfInBounds_toArray, List.set_cons_zero, List.set_cons_succ]
        refine wpAnyH_ready (rs := [4]) (by kernel_rfl) (by simp) ?_
        refine (AllReadyH.cons rfl (fun K hK => ?_) AllReadyH.nil)
        go_simp
        (with_reducible refine (CA.out _ HaaAb.out).mono ?_)
        rintro e waaAbZ ⟨u, nna, y, rfl, ho, hb, hq⟩
        have HaaAbZ := Lib.hid (HaaAb.out.trans (hb.mono HaaAb.out.size))
        have HQa := Lib.hid hq
        obtain ⟨ye, yid, ylab, yfr, ytil, yval, yps⟩ := y
        have OWaAbZ := Lib.hid (EOwn.mono ho (HaaAb.out).size)
        obtain ⟨su, sq, rsu, rfl, hu1, hu2, hu3⟩ := ho
        obtain ⟨Au, cu, rfl, _⟩ := hu1.at
        obtain ⟨Aq, cq, rfl, _⟩ := hu2.form
        have YBaAbZ := Lib.hid (YBaAb.out.below hb)
        have YTaAbZ := Lib.hid (YTaAb.out.below hb)
        have y2 := YBaAbZ.out.c
        have y3 := YBaAbZ.out.fr
        clear hb hq hu1 hu2 hu3
        go_wp2_with fail
        refine hK.out _ _ (Ka.out _ HaaAbZ.out) (fun hHeld => ?_)
        clear hK K
        try simp only [Act.put, List.setIfInBounds_toArray, List.set_cons_zero, List.set_cons_succ]
        refine take_in (i := 5) (v := ?_) (some 14) rfl rfl (by kernel_rfl) (by kernel_rfl) (by kernel_rfl) (fun _ _ _ h => h) (Or.inl ⟨by rfl, ?_⟩) (by assumption) ?_
        rotate_left
        · (intro w hSw; (try dsimp only at hSw); (try go_split_ands); go_simp; try with_reducible rfl)
        try simp only [Act.put, List.setIfInBounds_toArray, List.set_cons_zero, List.set_cons_succ]
        refine take_in (i := 6) (v := ?_) (some 20) rfl rfl (by kernel_rfl) (by kernel_rfl) (by kernel_rfl) (fun _ _ _ h => h) (Or.inl ⟨by rfl, ?_⟩) (by assumption) ?_
        rotate_left
        · (intro w hSw; (try dsimp only at hSw); (try go_split_ands); go_simp; try with_reducible rfl)
        try simp only [Act.put, List.setIfInBounds_toArray, List.set_cons_zero, List.set_cons_succ]
        refine take_in (i := 7) (v := ?_) (some 21) rfl rfl (by kernel_rfl) (by kernel_rfl) (by kernel_rfl) (fun _ _ _ h => h) (Or.inl ⟨by rfl, ?_⟩) (by assumption) ?_
        rotate_left
        · (intro w hSw; (try dsimp only at hSw); (try go_split_ands); go_simp; try with_reducible rfl)
        try simp only [Act.put, List.setIfInBounds_toArray, List.set_cons_zero, List.set_cons_succ]
        refine wpAnyH_ready (rs := [9]) (by kernel_rfl) (by simp) ?_
        refine (AllReadyH.cons rfl (fun K hK => ?_) AllReadyH.nil)
        go_simp
        refine hK.out _ _ (Ka.out _ (box_below YBaAbZ.out HaaAbZ.out HaaAbZ.out.size (by first | exact Nat.le_refl _ | exact Haa.out.size) _ _ _ _ _ _ _)) (fun hHeld => ?_)
        clear hK K
        try simp only [Act.put, List.setIfInBounds_toArray, List.set_cons_zero, List.set_cons_succ]
        clear y2 y3
        refine take_in (i := 10) (v := ?_) (some 5) rfl rfl (by kernel_rfl) (by kernel_rfl) (by kernel_rfl) (fun _ _ _ h => h) (Or.inl ⟨by rfl, ?_⟩) (by assumption) ?_
        rotate_left
        · (intro w hSw; (try dsimp only at hSw); (try go_split_ands); go_simp; try with_reducible rfl)
        try simp only [Act.put, List.setIfInBounds_toArray, List.set_cons_zero, List.set_cons_succ]
        refine wpAnyH_done (by kernel_rfl) ?_ _
        obtain ⟨W9, hW9, X9, G9⟩ := box_put YBaAbZ.out YTaAbZ.out OWaAbZ.out
        simp only at hW9
        rw [hW9]
        have HX9 := Lib.hid X9
        have HG9 := Lib.hid (HaaAbZ.out.grown G9 HaaAbZ.out.size fun q hq => by have e := Option.some.inj hq; first | omega | (rw [← e]; exact Haa.out.size))
        clear hW9 X9 G9
        go_wp2_with fail
        go_meet
        exact ⟨_, _, _, rfl, rfl, HX9.out, HG9.out, HQa.out⟩
    · go_simp
      refine hK.out _ _ (Ka.out _ ((show Below w3.heap.size w3 w3.drew from (Below.refl _ _).drew).alloc (show Below w3.heap.size w3 w3.drew from (Below.refl _ _).drew).size _)) (fun hHeld => ?_)
      clear hK K
      try simp only [Act.put, List.setIfInBounds_toArray, List.set_cons_zero, List.set_cons_succ]
      obtain ⟨waA, hWa⟩ : ∃ W, (w3.alloc (.cells #[.bool false, .int .u64 0, .string ⟨#[]⟩, .int .u64 0, .int .u64 0, .slice none 0 0, .slice none 0 0] 38)).drew = W := ⟨_, rfl⟩
      have HaA := Lib.hid (show Below w3.heap.size w3 waA by rw [← hWa]; exact ((Below.refl _ _).alloc (Nat.le_refl _) _).drew)
      have YBA := Lib.hid (show Bx waA w3.heap.size #[.bool false, .int .u64 0, .string ⟨#[]⟩, .int .u64 0, .int .u64 0, .slice none 0 0, .slice none 0 0] by rw [← hWa]; exact (Bx.new w3 _ _).below (Below.refl _ _).drew)
      have YTA := Lib.hid (show HT waA w3.heap.size by rw [← hWa]; exact (HT.new w3 _).below (Below.refl _ _).drew)
      try rw [hWa] at hHeld
      try rw [hWa]
      clear hWa
      refine wpAnyH_ready (rs := [1]) (by kernel_rfl) (by simp) ?_
      refine (AllReadyH.cons rfl (fun K hK => ?_) AllReadyH.nil)
      go_simp
      (with_reducible refine (CN.out _ _).mono ?_)
      rintro e waAa ⟨rfl, hb⟩
      have HaAa := Lib.hid (HaA.out.trans (hb.mono HaA.out.size))
      have YBAa := Lib.hid (YBA.out.below hb)
      have YTAa := Lib.hid (YTA.out.below hb)
      clear hb
      go_wp2_with fail
      refine hK.out _ _ (Ka.out _ HaAa.out) (fun hHeld => ?_)
      clear hK K
      try simp only [Act.put, List.setIfInBounds_toArray, List.set_cons_zero, List.set_cons_succ]
      refine wpAnyH_ready (rs := [2]) (by kernel_rfl) (by simp) ?_
      refine (AllReadyH.cons rfl (fun K hK => ?_) AllReadyH.nil)
      go_simp
      (with_reducible refine (CP.out _ _ _).mono ?_)
      rintro e waAab ⟨rfl, hb⟩
      have HaAab := Lib.hid (HaAa.out.trans (hb.mono HaAa.out.size))
      have YBAab := Lib.hid (YBAa.out.below hb)
      have YTAab := Lib.hid (YTAa.out.below hb)
      clear hb
      go_wp2_with fail
      refine hK.out _ _ (Ka.out _ HaAab.out) (fun hHeld => ?_)
      clear hK K
      try simp only [Act.put, List.setIfInBounds_toArray, List.set_cons_zero, List.set_cons_succ]
      refine take_in (i := 3) (v := ?_) (some 18) rfl rfl (by kernel_rfl) (by kernel_rfl) (by kernel_rfl) (fun _ _ _ h => h) (Or.inl ⟨by rfl, ?_⟩) (by assumption) ?_
      rotate_left
      · (intro w hSw; (try dsimp only at hSw); (try go_split_ands); go_simp; try with_reducible rfl)
      try simp only [Act.put, List.setIfInBounds_toArray, List.set_cons_zero, List.set_cons_succ]
      refine wpAnyH_ready (rs := [4]) (by kernel_rfl) (by simp) ?_
      refine (AllReadyH.cons rfl (fun K hK => ?_) AllReadyH.nil)
      go_simp
      (with_reducible refine (CA.out _ HaAab.out).mono ?_)
      rintro e waAabZ ⟨u, nna, y, rfl, ho, hb, hq⟩
      have HaAabZ := Lib.hid (HaAab.out.trans (hb.mono HaAab.out.size))
      have HQa := Lib.hid hq
      obtain ⟨ye, yid, ylab, yfr, ytil, yval, yps⟩ := y
      have OWAabZ := Lib.hid (EOwn.mono ho (HaAab.out).size)
      obtain ⟨su, sq, rsu, rfl, hu1, hu2, hu3⟩ := ho
      obtain ⟨Au, cu, rfl, _⟩ := hu1.at
      obtain ⟨Aq, cq, rfl, _⟩ := hu2.form
      have YBAabZ := Lib.hid (YBAab.out.below hb)
      have YTAabZ := Lib.hid (YTAab.out.below hb)
      have y2 := YBAabZ.out.c
      have y3 := YBAabZ.out.fr
      clear hb hq hu1 hu2 hu3
      go_wp2_with fail
      refine hK.out _ _ (Ka.out _ HaAabZ.out) (fun hHeld => ?_)
      clear hK K
      try simp only [Act.put, List.setIfInBounds_toArray, List.set_cons_zero, List.set_cons_succ]
      refine take_in (i := 5) (v := ?_) (some 14) rfl rfl (by kernel_rfl) (by kernel_rfl) (by kernel_rfl) (fun _ _ _ h => h) (Or.inl ⟨by rfl, ?_⟩) (by assumption) ?_
      rotate_left
      · (intro w hSw; (try dsimp only at hSw); (try go_split_ands); go_simp; try with_reducible rfl)
      try simp only [Act.put, List.setIfInBounds_toArray, List.set_cons_zero, List.set_cons_succ]
      refine take_in (i := 6) (v := ?_) (some 20) rfl rfl (by kernel_rfl) (by kernel_rfl) (by kernel_rfl) (fun _ _ _ h => h) (Or.inl ⟨by rfl, ?_⟩) (by assumption) ?_
      rotate_left
      · (intro w hSw; (try dsimp only at hSw); (try go_split_ands); go_simp; try with_reducible rfl)
      try simp only [Act.put, List.setIfInBounds_toArray, List.set_cons_zero, List.set_cons_succ]
      refine take_in (i := 7) (v := ?_) (some 21) rfl rfl (by kernel_rfl) (by kernel_rfl) (by kernel_rfl) (fun _ _ _ h => h) (Or.inl ⟨by rfl, ?_⟩) (by assumption) ?_
      rotate_left
      · (intro w hSw; (try dsimp only at hSw); (try go_split_ands); go_simp; try with_reducible rfl)
      try simp only [Act.put, List.setIfInBounds_toArray, List.set_cons_zero, List.set_cons_succ]
      refine wpAnyH_ready (rs := [9]) (by kernel_rfl) (by simp) ?_
      refine (AllReadyH.cons rfl (fun K hK => ?_) AllReadyH.nil)
      go_simp
      refine hK.out _ _ (Ka.out _ (box_below YBAabZ.out HaAabZ.out HaAabZ.out.size (by first | exact Nat.le_refl _ | exact HaAabZ.out.size) _ _ _ _ _ _ _)) (fun hHeld => ?_)
      clear hK K
      try simp only [Act.put, List.setIfInBounds_toArray, List.set_cons_zero, List.set_cons_succ]
      clear y2 y3
      refine take_in (i := 10) (v := ?_) (some 5) rfl rfl (by kernel_rfl) (by kernel_rfl) (by kernel_rfl) (fun _ _ _ h => h) (Or.inl ⟨by rfl, ?_⟩) (by assumption) ?_
      rotate_left
      · (intro w hSw; (try dsimp only at hSw); (try go_split_ands); go_simp; try with_reducible rfl)
      try simp only [Act.put, List.setIfInBounds_toArray, List.set_cons_zero, List.set_cons_succ]
      refine wpAnyH_done (by kernel_rfl) ?_ _
      obtain ⟨W9, hW9, X9, G9⟩ := box_put YBAabZ.out YTAabZ.out OWAabZ.out
      simp only at hW9
      rw [hW9]
      have HX9 := Lib.hid X9
      have HG9 := Lib.hid (HaAabZ.out.grown G9 HaAabZ.out.size fun q hq => by have e := Option.some.inj hq; first | omega | (rw [← e]; exact HaAabZ.out.size))
      clear hW9 X9 G9
      go_wp2_with fail
      go_meet
      exact ⟨_, _, _, rfl, rfl, HX9.out, HG9.out, HQa.out⟩
  case rest =>
    obtain ⟨p4, n2, z, rfl, rfl, hbx, hb, rfl, hq⟩ := hcut
    obtain ⟨ze, zid, zlab, zfr, ztil, zval, zps⟩ := z
    obtain ⟨Az, cz, Pz, nz, dz, hxz, hoz, htz⟩ := hbx
    have Xz := Lib.hid hxz
    have Oz := Lib.hid hoz
    have Jz := Lib.hid htz
    clear hxz hoz htz
    have HQ2 := Lib.hid hq
    have B4 := Lib.hid (B3.out.trans (hb.mono B3.out.size))
    have Y4 := Lib.hid (Y3.out.below hb)
    have T4 := Lib.hid (T3.out.below hb)
    obtain ⟨w4, rfl⟩ : ∃ x : World, x = wc := ⟨_, rfl⟩
    clear hb hq
    have CA2 := Lib.hid (fun W (hb : Below w4.heap.size w4 W) => C3.out (.agg #[.bool ze, .int .u64 zid, .string zlab, .int .u64 zfr, .int .u64 ztil, .slice Az zval.length cz, .slice Pz nz dz]) W (by have h : EAt W (.agg #[.bool ze, .int .u64 zid, .string zlab, .int .u64 zfr, .int .u64 ztil, .slice Az zval.length cz, .slice Pz nz dz]) ⟨ze, zid, zlab, zfr, ztil, zval, zps⟩ := (Oz.out.below hb).at; rw [HQ2.out] at h; exact h))
    go_upto_region 3 with fail
    have Kb : Hid (∀ w', Below w4.heap.size w4 w' → ∀ j, w'.cell? ⟨p4, j, none⟩ = #[.bool ze, .int .u64 zid, .string zlab, .int .u64 zfr, .int .u64 ztil, .slice Az zval.length cz, .slice Pz nz dz][j]?) := Lib.hid fun w' hb => (Xz.out.below hb).c
    go_cut [6, 7] from 22 to 28 (fun t1 t2 w' => ∃ p n y, t1 = .pointer (some ⟨p, 0, none⟩) ∧ t2 = .int .i64 n ∧ BoxE w4.heap.size w' p y ∧ Below w4.heap.size w4 w' ∧ (n = 0 ∧ y = exE3))
    case first =>
      refine wp_region_held_drew (S := (fun w' => ∀ j, w'.cell? ⟨p4, j, none⟩ = #[.bool ze, .int .u64 zid, .string zlab, .int .u64 zfr, .int .u64 ztil, .slice Az zval.length cz, .slice Pz nz dz][j]?)) (by kernel_rfl) (Kb.out _ (Below.refl _ _).drew) (fun hHeld => ?_)
      refine take_in (i := 0) (v := ?_) (some 23) rfl rfl (by kernel_rfl) (by kernel_rfl) (by kernel_rfl) (fun _ _ _ h => h) (Or.inl ⟨by rfl, ?_⟩) (by assumption) ?_
      rotate_left
      · (intro w hSw; (try dsimp only at hSw); (try go_split_ands); go_simp; try with_reducible rfl)
      try simp only [Act.put, List.setIfInBounds_toArray, List.set_cons_zero, List.set_cons_succ]
      refine wpAnyH_ready (rs := [1, 7]) (by kernel_rfl) (by simp) ?_
      refine (AllReadyH.cons rfl (fun K hK => ?_) (AllReadyH.cons rfl (fun K hK => ?_) AllReadyH.nil))
      · go_simp
        (with_reducible refine (CP.out _ _ _).mono ?_)
        rintro e wba ⟨rfl, hb⟩
        have Hba := Lib.hid ((show Below w4.heap.size w4 w4.drew from (Below.refl _ _).drew).trans (hb.mono (show Below w4.heap.size w4 w4.drew from (Below.refl _ _).drew).size))
        clear hb
        go_wp2_with fail
        refine hK.out _ _ (Kb.out _ Hba.out) (fun hHeld => ?_)
        clear hK K
        try simp only [Act.put, List.setIfInBounds_toArray, List.set_cons_zero, List.set_cons_succ]
        refine take_in (i := 2) (v := ?_) (some 25) rfl rfl (by kernel_rfl) (by kernel_rfl) (by kernel_rfl) (fun _ _ _ h => h) (Or.inl ⟨by rfl, ?_⟩) (by assumption) ?_
        rotate_left
        · (intro w hSw; (try dsimp only at hSw); (try go_split_ands); go_simp; try with_reducible rfl)
        try simp only [Act.put, List.setIfInBounds_toArray, List.set_cons_zero, List.set_cons_succ]
        refine wpAnyH_ready (rs := [3, 7]) (by kernel_rfl) (by simp) ?_
        refine (AllReadyH.cons rfl (fun K hK => ?_) (AllReadyH.cons rfl (fun K hK => ?_) AllReadyH.nil))
        · go_simp
          (with_reducible refine (CA2.out _ Hba.out).mono ?_)
          rintro e wbaZ ⟨u, nnb, y, rfl, ho, hb, hq⟩
          have HbaZ := Lib.hid (Hba.out.trans (hb.mono Hba.out.size))
          have HQb := Lib.hid hq
          obtain ⟨ye, yid, ylab, yfr, ytil, yval, yps⟩ := y
          have OWaZ := Lib.hid (EOwn.mono ho (Hba.out).size)
          obtain ⟨su, sq, rsu, rfl, hu1, hu2, hu3⟩ := ho
          obtain ⟨Au, cu, rfl, _⟩ := hu1.at
          obtain ⟨Aq, cq, rfl, _⟩ := hu2.form
          clear hb hq hu1 hu2 hu3
          go_wp2_with fail
          refine hK.out _ _ (Kb.out _ HbaZ.out) (fun hHeld => ?_)
          clear hK K
          try simp only [Act.put, List.setIfInBounds_toArray, List.set_cons_zero, List.set_cons_succ]
          refine take_in (i := 4) (v := ?_) (some 22) rfl rfl (by kernel_rfl) (by kernel_rfl) (by kernel_rfl) (fun _ _ _ h => h) (Or.inl ⟨by rfl, ?_⟩) (by assumption) ?_
          rotate_left
          · (intro w hSw; (try dsimp only at hSw); (try go_split_ands); go_simp; try with_reducible rfl)
          try simp only [Act.put, List.setIfInBounds_toArray, List.set_cons_zero, List.set_cons_succ]
          refine take_in (i := 5) (v := ?_) (some 27) rfl rfl (by kernel_rfl) (by kernel_rfl) (by kernel_rfl) (fun _ _ _ h => h) (Or.inl ⟨by rfl, ?_⟩) (by assumption) ?_
          rotate_left
          · (intro w hSw; (try dsimp only at hSw); (try go_split_ands); go_simp; try with_reducible rfl)
          try simp only [Act.put, List.setIfInBounds_toArray, List.set_cons_zero, List.set_cons_succ]
          refine take_in (i := 6) (v := ?_) (some 28) rfl rfl (by kernel_rfl) (by kernel_rfl) (by kernel_rfl) (fun _ _ _ h => h) (Or.inl ⟨by rfl, ?_⟩) (by assumption) ?_
          rotate_left
          · (intro w hSw; (try dsimp only at hSw); (try go_split_ands); go_simp; try with_reducible rfl)
          try simp only [Act.put, List.setIfInBounds_toArray, List.set_cons_zero, List.set_cons_succ]
          refine wpAnyH_ready (rs := [7]) (by kernel_rfl) (by simp) ?_
          refine (AllReadyH.cons rfl (fun K hK => ?_) AllReadyH.nil)
          go_simp
          refine hK.out _ _ (Kb.out _ (HbaZ.out.alloc HbaZ.out.size _)) (fun hHeld => ?_)
          clear hK K
          try simp only [Act.put, List.setIfInBounds_toArray, List.set_cons_zero, List.set_cons_succ]
          obtain ⟨wbaZA, hWb⟩ : ∃ W, wbaZ.alloc (.cells #[.bool false, .int .u64 0, .string ⟨#[]⟩, .int .u64 0, .int .u64 0, .slice none 0 0, .slice none 0 0] 38) = W := ⟨_, rfl⟩
          have HbaZA := Lib.hid (show Below w4.heap.size w4 wbaZA by rw [← hWb]; exact HbaZ.out.alloc HbaZ.out.size _)
          have YBaZA := Lib.hid (show Bx wbaZA wbaZ.heap.size #[.bool false, .int .u64 0, .string ⟨#[]⟩, .int .u64 0, .int .u64 0, .slice none 0 0, .slice none 0 0] by rw [← hWb]; exact Bx.new wbaZ _ _)
          have YTaZA := Lib.hid (show HT wbaZA wbaZ.heap.size by rw [← hWb]; exact HT.new wbaZ _)
          have OWaZA := Lib.hid (show EOwn w4.heap.size wbaZA (.agg (Ent.cells ⟨ye, yid, ylab, yfr, ytil, yval, yps⟩ (.slice Au yval.length cu) (.slice Aq rsu.length cq))) ⟨ye, yid, ylab, yfr, ytil, yval, yps⟩ by rw [← hWb]; exact OWaZ.out.below ((Below.refl _ _).alloc (Nat.le_refl _) _))
          have y2 := YBaZA.out.c
          have y3 := YBaZA.out.fr
          try rw [hWb] at hHeld
          try rw [hWb]
          clear hWb
          refine wpAnyH_ready (rs := [8]) (by kernel_rfl) (by simp) ?_
          refine (AllReadyH.cons rfl (fun K hK => ?_) AllReadyH.nil)
          go_simp
          refine hK.out _ _ (Kb.out _ (box_below YBaZA.out HbaZA.out HbaZA.out.size (by first | exact Nat.le_refl _ | exact HbaZ.out.size) _ _ _ _ _ _ _)) (fun hHeld => ?_)
          clear hK K
          try simp only [Act.put, List.setIfInBounds_toArray, List.set_cons_zero, List.set_cons_succ]
          clear y2 y3
          refine take_in (i := 9) (v := ?_) (some 7) rfl rfl (by kernel_rfl) (by kernel_rfl) (by kernel_rfl) (fun _ _ _ h => h) (Or.inl ⟨by rfl, ?_⟩) (by assumption) ?_
          rotate_left
          · (intro w hSw; (try dsimp only at hSw); (try go_split_ands); go_simp; try with_reducible rfl)
          try simp only [Act.put, List.setIfInBounds_toArray, List.set_cons_zero, List.set_cons_succ]
          refine wpAnyH_done (by kernel_rfl) ?_ _
          obtain ⟨W9, hW9, X9, G9⟩ := box_put YBaZA.out YTaZA.out OWaZA.out
          simp only at hW9
          rw [hW9]
          have HX9 := Lib.hid X9
          have HG9 := Lib.hid (HbaZA.out.grown G9 HbaZA.out.size fun q hq => by have e := Option.some.inj hq; first | omega | (rw [← e]; exact HbaZ.out.size))
          clear hW9 X9 G9
          go_wp2_with fail
          go_meet
          exact ⟨_, _, _, rfl, rfl, HX9.out, HG9.out, HQb.out⟩
        · go_simp
          refine hK.out _ _ (Kb.out _ (Hba.out.alloc Hba.out.size _)) (fun hHeld => ?_)
          clear hK K
          try simp only [Act.put, List.setIfInBounds_toArray, List.set_cons_zero, List.set_cons_succ]
          obtain ⟨wbaA, hWb⟩ : ∃ W, wba.alloc (.cells #[.bool false, .int .u64 0, .string ⟨#[]⟩, .int .u64 0, .int .u64 0, .slice none 0 0, .slice none 0 0] 38) = W := ⟨_, rfl⟩
          have HbaA := Lib.hid (show Below w4.heap.size w4 wbaA by rw [← hWb]; exact Hba.out.alloc Hba.out.size _)
          have YBaA := Lib.hid (show Bx wbaA wba.heap.size #[.bool false, .int .u64 0, .string ⟨#[]⟩, .int .u64 0, .int .u64 0, .slice none 0 0, .slice none 0 0] by rw [← hWb]; exact Bx.new wba _ _)
          have YTaA := Lib.hid (show HT wbaA wba.heap.size by rw [← hWb]; exact HT.new wba _)
          try rw [hWb] at hHeld
          try rw [hWb]
          clear hWb
          refine wpAnyH_ready (rs := [3]) (by kernel_rfl) (by simp) ?_
          refine (AllReadyH.cons rfl (fun K hK => ?_) AllReadyH.nil)
          go_simp
          (with_reducible refine (CA2.out _ HbaA.out).mono ?_)
          rintro e wbaAZ ⟨u, nnb, y, rfl, ho, hb, hq⟩
          have HbaAZ := Lib.hid (HbaA.out.trans (hb.mono HbaA.out.size))
          have HQb := Lib.hid hq
          obtain ⟨ye, yid, ylab, yfr, ytil, yval, yps⟩ := y
          have OWaAZ := Lib.hid (EOwn.mono ho (HbaA.out).size)
          obtain ⟨su, sq, rsu, rfl, hu1, hu2, hu3⟩ := ho
          obtain ⟨Au, cu, rfl, _⟩ := hu1.at
          obtain ⟨Aq, cq, rfl, _⟩ := hu2.form
          have YBaAZ := Lib.hid (YBaA.out.below hb)
          have YTaAZ := Lib.hid (YTaA.out.below hb)
          have y2 := YBaAZ.out.c
          have y3 := YBaAZ.out.fr
          clear hb hq hu1 hu2 hu3
          go_wp2_with fail
          refine hK.out _ _ (Kb.out _ HbaAZ.out) (fun hHeld => ?_)
          clear hK K
          try simp only [Act.put, List.setIfInBounds_toArray, List.set_cons_zero, List.set_cons_succ]
          refine take_in (i := 4) (v := ?_) (some 22) rfl rfl (by kernel_rfl) (by kernel_rfl) (by kernel_rfl) (fun _ _ _ h => h) (Or.inl ⟨by rfl, ?_⟩) (by assumption) ?_
          rotate_left
          · (intro w hSw; (try dsimp only at hSw); (try go_split_ands); go_simp; try with_reducible rfl)
          try simp only [Act.put, List.setIfInBounds_toArray, List.set_cons_zero, List.set_cons_succ]
          refine take_in (i := 5) (v := ?_) (some 27) rfl rfl (by kernel_rfl) (by kernel_rfl) (by kernel_rfl) (fun _ _ _ h => h) (Or.inl ⟨by rfl, ?_⟩) (by assumption) ?_
          rotate_left
          · (intro w hSw; (try dsimp only at hSw); (try go_split_ands); go_simp; try with_reducible rfl)
          try simp only [Act.put, List.setIfInBounds_toArray, List.set_cons_zero, List.set_cons_succ]
          refine take_in (i := 6) (v := ?_) (some 28) rfl rfl (by kernel_rfl) (by kernel_rfl) (by kernel_rfl) (fun _ _ _ h => h) (Or.inl ⟨by rfl, ?_⟩) (by assumption) ?_
          rotate_left
          · (intro w hSw; (try dsimp only at hSw); (try go_split_ands); go_simp; try with_reducible rfl)
          try simp only [Act.put, List.setIfInBounds_toArray, List.set_cons_zero, List.set_cons_succ]
          refine wpAnyH_ready (rs := [8]) (by kernel_rfl) (by simp) ?_
          refine (AllReadyH.cons rfl (fun K hK => ?_) AllReadyH.nil)
          go_simp
          refine hK.out _ _ (Kb.out _ (box_below YBaAZ.out HbaAZ.out HbaAZ.out.size (by first | exact Nat.le_refl _ | exact Hba.out.size) _ _ _ _ _ _ _)) (fun hHeld => ?_)
          clear hK K
          try simp only [Act.put, List.setIfInBounds_toArray, List.set_cons_zero, List.set_cons_succ]
          clear y2 y3
          refine take_in (i := 9) (v := ?_) (some 7) rfl rfl (by kernel_rfl) (by kernel_rfl) (by kernel_rfl) (fun _ _ _ h => h) (Or.inl ⟨by rfl, ?_⟩) (by assumption) ?_
          rotate_left
          · (intro w hSw; (try dsimp only at hSw); (try go_split_ands); go_simp; try with_reducible rfl)
          try simp only [Act.put, List.setIfInBounds_toArray, List.set_cons_zero, List.set_cons_succ]
          refine wpAnyH_done (by kernel_rfl) ?_ _
          obtain ⟨W9, hW9, X9, G9⟩ := box_put YBaAZ.out YTaAZ.out OWaAZ.out
          simp only at hW9
          rw [hW9]
          have HX9 := Lib.hid X9
          have HG9 := Lib.hid (HbaAZ.out.grown G9 HbaAZ.out.size fun q hq => by have e := Option.some.inj hq; first | omega | (rw [← e]; exact Hba.out.size))
          clear hW9 X9 G9
          go_wp2_with fail
          go_meet
          exact ⟨_, _, _, rfl, rfl, HX9.out, HG9.out, HQb.out⟩
      · go_simp
        refine hK.out _ _ (Kb.out _ ((show Below w4.heap.size w4 w4.drew from (Below.refl _ _).drew).alloc (show Below w4.heap.size w4 w4.drew from (Below.refl _ _).drew).size _)) (fun hHeld => ?_)
        clear hK K
        try simp only [Act.put, List.setIfInBounds_toArray, List.set_cons_zero, List.set_cons_succ]
        obtain ⟨wbA, hWb⟩ : ∃ W, (w4.alloc (.cells #[.bool false, .int .u64 0, .string ⟨#[]⟩, .int .u64 0, .int .u64 0, .slice none 0 0, .slice none 0 0] 38)).drew = W := ⟨_, rfl⟩
        have HbA := Lib.hid (show Below w4.heap.size w4 wbA by rw [← hWb]; exact ((Below.refl _ _).alloc (Nat.le_refl _) _).drew)
        have YBA := Lib.hid (show Bx wbA w4.heap.size #[.bool false, .int .u64 0, .string ⟨#[]⟩, .int .u64 0, .int .u64 0, .slice none 0 0, .slice none 0 0] by rw [← hWb]; exact (Bx.new w4 _ _).below (Below.refl _ _).drew)
        have YTA := Lib.hid (show HT wbA w4.heap.size by rw [← hWb]; exact (HT.new w4 _).below (Below.refl _ _).drew)
        try rw [hWb] at hHeld
        try rw [hWb]
        clear hWb
        refine wpAnyH_ready (rs := [1]) (by kernel_rfl) (by simp) ?_
        refine (AllReadyH.cons rfl (fun K hK => ?_) AllReadyH.nil)
        go_simp
        (with_reducible refine (CP.out _ _ _).mono ?_)
        rintro e wbAa ⟨rfl, hb⟩
        have HbAa := Lib.hid (HbA.out.trans (hb.mono HbA.out.size))
        have YBAa := Lib.hid (YBA.out.below hb)
        have YTAa := Lib.hid (YTA.out.below hb)
        clear hb
        go_wp2_with fail
        refine hK.out _ _ (Kb.out _ HbAa.out) (fun hHeld => ?_)
        clear hK K
        try simp only [Act.put, List.setIfInBounds_toArray, List.set_cons_zero, List.set_cons_succ]
        refine take_in (i := 2) (v := ?_) (some 25) rfl rfl (by kernel_rfl) (by kernel_rfl) (by kernel_rfl) (fun _ _ _ h => h) (Or.inl ⟨by rfl, ?_⟩) (by assumption) ?_
        rotate_left
        · (intro w hSw; (try dsimp only at hSw); (try go_split_ands); go_simp; try with_reducible rfl)
        try simp only [Act.put, List.setIfInBounds_toArray, List.set_cons_zero, List.set_cons_succ]
        refine wpAnyH_ready (rs := [3]) (by kernel_rfl) (by simp) ?_
        refine (AllReadyH.cons rfl (fun K hK => ?_) AllReadyH.nil)
        go_simp
        (with_reducible refine (CA2.out _ HbAa.out).mono ?_)
        rintro e wbAaZ ⟨u, nnb, y, rfl, ho, hb, hq⟩
        have HbAaZ := Lib.hid (HbAa.out.trans (hb.mono HbAa.out.size))
        have HQb := Lib.hid hq
        obtain ⟨ye, yid, ylab, yfr, ytil, yval, yps⟩ := y
        have OWAaZ := Lib.hid (EOwn.mono ho (HbAa.out).size)
        obtain ⟨su, sq, rsu, rfl, hu1, hu2, hu3⟩ := ho
        obtain ⟨Au, cu, rfl, _⟩ := hu1.at
        obtain ⟨Aq, cq, rfl, _⟩ := hu2.form
        have YBAaZ := Lib.hid (YBAa.out.below hb)
        have YTAaZ := Lib.hid (YTAa.out.below hb)
        have y2 := YBAaZ.out.c
        have y3 := YBAaZ.out.fr
        clear hb hq hu1 hu2 hu3
        go_wp2_with fail
        refine hK.out _ _ (Kb.out _ HbAaZ.out) (fun hHeld => ?_)
        clear hK K
        try simp only [Act.put, List.setIfInBounds_toArray, List.set_cons_zero, List.set_cons_succ]
        refine take_in (i := 4) (v := ?_) (some 22) rfl rfl (by kernel_rfl) (by kernel_rfl) (by kernel_rfl) (fun _ _ _ h => h) (Or.inl ⟨by rfl, ?_⟩) (by assumption) ?_
        rotate_left
        · (intro w hSw; (try dsimp only at hSw); (try go_split_ands); go_simp; try with_reducible rfl)
        try simp only [Act.put, List.setIfInBounds_toArray, List.set_cons_zero, List.set_cons_succ]
        refine take_in (i := 5) (v := ?_) (some 27) rfl rfl (by kernel_rfl) (by kernel_rfl) (by kernel_rfl) (fun _ _ _ h => h) (Or.inl ⟨by rfl, ?_⟩) (by assumption) ?_
        rotate_left
        · (intro w hSw; (try dsimp only at hSw); (try go_split_ands); go_simp; try with_reducible rfl)
        try simp only [Act.put, List.setIfInBounds_toArray, List.set_cons_zero, List.set_cons_succ]
        refine take_in (i := 6) (v := ?_) (some 28) rfl rfl (by kernel_rfl) (by kernel_rfl) (by kernel_rfl) (fun _ _ _ h => h) (Or.inl ⟨by rfl, ?_⟩) (by assumption) ?_
        rotate_left
        · (intro w hSw; (try dsimp only at hSw); (try go_split_ands); go_simp; try with_reducible rfl)
        try simp only [Act.put, List.setIfInBounds_toArray, List.set_cons_zero, List.set_cons_succ]
        refine wpAnyH_ready (rs := [8]) (by kernel_rfl) (by simp) ?_
        refine (AllReadyH.cons rfl (fun K hK => ?_) AllReadyH.nil)
        go_simp
        refine hK.out _ _ (Kb.out _ (box_below YBAaZ.out HbAaZ.out HbAaZ.out.size (by first | exact Nat.le_refl _ | exact HbAaZ.out.size) _ _ _ _ _ _ _)) (fun hHeld => ?_)
        clear hK K
        try simp only [Act.put, List.setIfInBounds_toArray, List.set_cons_zero, List.set_cons_succ]
        clear y2 y3
        refine take_in (i := 9) (v := ?_) (some 7) rfl rfl (by kernel_rfl) (by kernel_rfl) (by kernel_rfl) (fun _ _ _ h => h) (Or.inl ⟨by rfl, ?_⟩) (by assumption) ?_
        rotate_left
        · (intro w hSw; (try dsimp only at hSw); (try go_split_ands); go_simp; try with_reducible rfl)
        try simp only [Act.put, List.setIfInBounds_toArray, List.set_cons_zero, List.set_cons_succ]
        refine wpAnyH_done (by kernel_rfl) ?_ _
        obtain ⟨W9, hW9, X9, G9⟩ := box_put YBAaZ.out YTAaZ.out OWAaZ.out
        simp only at hW9
        rw [hW9]
        have HX9 := Lib.hid X9
        have HG9 := Lib.hid (HbAaZ.out.grown G9 HbAaZ.out.size fun q hq => by have e := Option.some.inj hq; first | omega | (rw [← e]; exact HbAaZ.out.size))
        clear hW9 X9 G9
        go_wp2_with fail
        go_meet
        exact ⟨_, _, _, rfl, rfl, HX9.out, HG9.out, HQb.out⟩
    case rest =>
      obtain ⟨p6, n3, v, rfl, rfl, hbx, hb, rfl, hq⟩ := hcut
      obtain ⟨ve, vid, vlab, vfr, vtil, vval, vps⟩ := v
      obtain ⟨Av, cv, Pv, nv, dv, hxv, hov, htv⟩ := hbx
      have Xv := Lib.hid hxv
      have Ov := Lib.hid hov
      have Jv := Lib.hid htv
      clear hxv hov htv
      have HQ3 := Lib.hid hq
      have B5 := Lib.hid (B4.out.trans (hb.mono B4.out.size))
      have Y5 := Lib.hid (Y4.out.below hb)
      have T5 := Lib.hid (T4.out.below hb)
      clear hb hq
      have x0 := Xv.out.c
      have y0 := Y5.out.c
      have y1 := Y5.out.fr
      go_wp2_with fail
      obtain ⟨W9, hW9, X9, G9⟩ := box_put (x := ⟨ve, vid, vlab, vfr, vtil, vval, vps⟩) Y5.out T5.out Ov.out
      simp only at hW9
      rw [hW9]
      have HB9 := Lib.hid (B5.out.grown G9 B5.out.size fun q hq => Nat.le_of_eq (Option.some.inj hq))
      have HX9 := Lib.hid X9
      clear hW9 X9 G9 x0 y0 y1
      obtain ⟨Ar, cr, Pr, nr, dr, hxr, hor, _⟩ := HX9.out
      simp only at hxr
      have HOr := Lib.hid hor
      have s0 := hxr.c 0
      have s1 := hxr.c 1
      have s2 := hxr.c 2
      have s3 := hxr.c 3
      have s4 := hxr.c 4
      have s5 := hxr.c 5
      have s6 := hxr.c 6
      refine bodyPost_ret (v := .tuple #[.agg #[.bool ve, .int .u64 vid, .string vlab, .int .u64 vfr, .int .u64 vtil, .slice Ar vval.length cr, .slice Pr nr dr], .bool true]) (by simp [results, Tryz.results32, go_sem, s0, s1, s2, s3, s4, s5, s6]) rfl ?_
      exact ⟨_, rfl, by have h : EOwn w.heap.size W9 (.agg #[.bool ve, .int .u64 vid, .string vlab, .int .u64 vfr, .int .u64 vtil, .slice Ar vval.length cr, .slice Pr nr dr]) ⟨ve, vid, vlab, vfr, vtil, vval, vps⟩ := EOwn.mono HOr.out B4.out.size; rw [HQ3.out] at h; exact h, HB9.out⟩
end
end Go.Proofs.YtmolpogehgeebaaGreat

