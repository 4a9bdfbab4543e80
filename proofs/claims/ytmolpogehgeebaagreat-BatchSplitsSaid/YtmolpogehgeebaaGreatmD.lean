/- What a list of operations makes of a state: Apply. -/
import Derived.Test.YtmolpogehgeebaaGreatmC
import Derived.Test.YtmolpogehgeebaaGreatbCOJ
namespace Go.Proofs.YtmolpogehgeebaaGreat
open List (setIfInBounds_toArray set_cons_zero set_cons_succ)
open Go.RowKit
/-- What Apply answers. -/
def BApplyEnd (s : St) (ops : List Co.OP) (w : World) (e : Ending) (w' : World) : Prop := ∃ (u : Value) (n : Int) (z : St), e = .returned (.tuple #[u, .int .i64 n]) ∧ Below w.heap.size w w' ∧ SOwn w.heap.size w' u z ∧ BApplied s ops n z ∧ (n ≠ 0 → z = ⟨[], []⟩)
/-- The operations so far. -/
structure BI (p : Nat) (s : St) (ops : List Co.OP) (w wr : World) (k : Nat) (z : St) : Prop where
  box : SBox w.heap.size p wr z
  run : RunOk s (ops.take k) z
  bel : Below w.heap.size w wr
theorem run_take {s z y : St} {ops : List Co.OP} {k : Nat} (hk : k < ops.length) (h : RunOk s (ops.take k) z) (g : StepOk z ops[k] y) : RunOk s (ops.take (k + 1)) y := by
  rw [List.take_succ_eq_append_getElem hk]
  exact h.snoc g
theorem bad_take {s z : St} {ops : List Co.OP} {k : Nat} {n : Int} (hk : k < ops.length) (h : RunOk s (ops.take k) z) (g : StepBad z ops[k] n) : RunBad s ops n := by
  have e : ops = ops.take k ++ ops[k] :: ops.drop (k + 1) := by
    rw [← List.drop_eq_getElem_cons hk, List.take_append_drop]
  rw [e]
  exact RunBad.snoc h g _
/-- Two cells put. -/
theorem put2 {w : World} {p : Nat} {c0 c1 : Value} (h : Bx w p #[c0, c1]) (a b : Value) : Bx ((w.setCell ⟨p, 0, none⟩ a).setCell ⟨p, 1, none⟩ b) p #[a, b] ∧ w.grownBy ((w.setCell ⟨p, 0, none⟩ a).setCell ⟨p, 1, none⟩ b) (some p) :=
  ⟨(h.set 0 a (by simp)).set 1 b (by simp), (grownBy_set w p 0 a).trans (grownBy_set _ p 1 b)⟩
theorem LE.grownBox {base p : Nat} {w w' : World} {v : Value} {l : List Ent} (h : LE base w v l) (hp : Blk 76 w p) (hg : w.grownBy w' (some p)) : LE base w' v l := by
  obtain ⟨rs, h1, h2, h3⟩ := h
  refine ⟨rs, h1.grown hg (.inr (hp.ne h1 (by decide))), fun r hr => ?_, h3⟩
  obtain ⟨sv, sp, ps, e, k1, k2, k3⟩ := h2 r hr
  exact ⟨sv, sp, ps, e, World.ownsRow.kept k1 hg (.inr (hp.ne k1 (by decide))), World.ownsRow.kept k2 hg (.inr (hp.ne k2 (by decide))), k3.len, fun i hi hj => ⟨(k3.at' i hi hj).1, World.ownsRow.kept (k3.at' i hi hj).2 hg (.inr (hp.ne (k3.at' i hi hj).2 (by decide)))⟩⟩
/-- The result box of Apply, filled. -/
theorem res2 {base p : Nat} {w W : World} {c0 c1 a b : Value} {z : St} (h : Bx W p #[c0, c1]) (ht : Blk 76 W p) (hp : base ≤ p) (ha : LE base W a z.ns) (hb : LE base W b z.es) (hbel : Below base w W) (hW : base ≤ W.heap.size) :
    ∃ W2, (W.setCell ⟨p, 0, none⟩ a).setCell ⟨p, 1, none⟩ b = W2 ∧ Bx W2 p #[a, b] ∧ Below base w W2 ∧ SOwn base W2 (.agg #[a, b]) z := by
  obtain ⟨h1, h2⟩ := put2 h a b
  exact ⟨_, rfl, h1, hbel.grown h2 hW (fun q hq => by have e : p = q := Option.some.inj hq; omega), a, b, rfl, ha.grownBox ht h2, hb.grownBox ht h2⟩
/-- The box of a state, filled with two lists of one's own. -/
theorem state_put {base p : Nat} {w W : World} {c0 c1 a b : Value} {s : St} (h : Bx W p #[c0, c1]) (ht : Blk 76 W p) (hp : base ≤ p) (ha : LE base W a s.ns) (hb : LE base W b s.es) (hab : ∀ k, a.ownBlock = some k → b.ownBlock ≠ some k) (hbel : Below base w W) (hW : base ≤ W.heap.size) :
    ∃ W2, (W.setCell ⟨p, 0, none⟩ a).setCell ⟨p, 1, none⟩ b = W2 ∧ SBox base p W2 s ∧ Below base w W2 ∧ W.grownBy W2 (some p) := by
  obtain ⟨h1, h2⟩ := put2 h a b
  exact ⟨_, rfl, ⟨(ht.set p 0 a).set p 1 b, hp, a, b, h1, ha.grownBox ht h2, hb.grownBox ht h2, hab⟩, hbel.grown h2 hW (fun q hq => by have e : p = q := Option.some.inj hq; omega), h2⟩
theorem SBox.sat {base p : Nat} {w : World} {s : St} (h : SBox base p w s) : ∃ An cn Ae ce, Bx w p #[.slice An s.ns.length cn, .slice Ae s.es.length ce] ∧ LE base w (.slice An s.ns.length cn) s.ns ∧ LE base w (.slice Ae s.es.length ce) s.es := by
  obtain ⟨_, _, vn, ve, h3, h4, h5, _⟩ := h
  obtain ⟨An, cn, rfl, _⟩ := h4.form
  obtain ⟨Ae, ce, rfl, _⟩ := h5.form
  exact ⟨An, cn, Ae, ce, h3, h4, h5⟩
theorem fitsK {k : Int} (h : fits k) : (Lit.int .i64 k).wf = true := by
  unfold fits at h
  simp [Lit.wf, IntKind.min, IntKind.max, IntKind.signed, IntKind.bits]; omega
theorem St.good.wide {s : St} {n m : Nat} (h : s.good n m) (hn : n ≤ 100000) (hm : m ≤ 100000) : s.wide := ⟨fun x hx => (h.ns x hx).wide hn, fun x hx => (h.es x hx).wide hn, Nat.le_trans h.ln (by omega), Nat.le_trans h.le (by omega)⟩
section
set_option linter.unusedSimpArgs false
set_option maxRecDepth 100000
set_option maxHeartbeats 16000000
theorem bApply_any (v sv : Value) (s : St) (ops : List Co.OP) (nn mm : Nat) (w : World) (h : SAt w v s) (hs : s.wide) (hg : s.may → s.good nn mm) (hnm : nn ≤ 50000 ∧ mm ≤ 50000) (ho : Co.SO w sv ops) (hw : ∀ o ∈ ops, o.wide) :
    Calls Tryz.prog 36 #[v, sv] w (BApplyEnd s ops w) := by
  obtain ⟨sn, se, rfl, hn, he⟩ := h
  have CM := Lib.hid (fun W (hb : Below w.heap.size w W) => bMay_any (.agg #[sn, se]) s W ⟨sn, se, rfl, hn.below hb, he.below hb⟩ hs)
  have CL1 := Lib.hid (fun W (hb : Below w.heap.size w W) (hm : s.may) => copiedList_any sn s.ns W (hn.below hb) (by have := hs.ln; omega) hs.ns (fun x hx => (hg hm).ns x hx |>.may))
  have CL2 := Lib.hid (fun W (hb : Below w.heap.size w W) (hm : s.may) => copiedList_any se s.es W (he.below hb) (by have := hs.le; omega) hs.es (fun x hx => (hg hm).es x hx |>.may))
  have HG := Lib.hid hg
  have HNM := Lib.hid hnm
  have HW := Lib.hid hw
  obtain ⟨An, cn, rfl, _, _⟩ := hn
  obtain ⟨Ae, ce, rfl, _, _⟩ := he
  obtain ⟨Ao, co, rfl, hA, hm⟩ := ho
  have HA := Lib.hid hA
  clear hA hg hnm hw hs
  have hsf := store_float
  have B0 := Lib.hid (((Below.refl w.heap.size w).alloc (Nat.le_refl _) (.cells #[.slice An s.ns.length cn, .slice Ae s.es.length ce] 76)).alloc (by simp) (.cells #[.slice none 0 0, .slice none 0 0] 76))
  have X0 := Lib.hid ((Bx.new w #[.slice An s.ns.length cn, .slice Ae s.es.length ce] 76).below ((Below.refl _ _).alloc (Nat.le_refl _) (.cells #[.slice none 0 0, .slice none 0 0] 76)))
  have Y0 := Lib.hid (Bx.new (w.alloc (.cells #[.slice An s.ns.length cn, .slice Ae s.es.length ce] 76)) #[.slice none 0 0, .slice none 0 0] 76)
  have YT0 := Lib.hid (Blk.new (w.alloc (.cells #[.slice An s.ns.length cn, .slice Ae s.es.length ce] 76)) #[.slice none 0 0, .slice none 0 0] 76)
  rw [show (w.alloc (.cells #[.slice An s.ns.length cn, .slice Ae s.es.length ce] 76)).heap.size = w.heap.size + 1 by simp] at Y0 YT0
  go_enter Tryz.func36, Tryz.ntmps36
  go_upto_region 1 with fail
  obtain ⟨W0, hW0⟩ : ∃ W, (w.alloc (.cells #[.slice An s.ns.length cn, .slice Ae s.es.length ce] 76)).alloc (.cells #[.slice none 0 0, .slice none 0 0] 76) = W := ⟨_, rfl⟩
  rw [hW0] at B0 X0 Y0 YT0
  try rw [hW0]
  clear hW0
  obtain ⟨p2, hp2⟩ : ∃ q, w.heap.size = q := ⟨_, rfl⟩
  obtain ⟨p4, hp4⟩ : ∃ q, w.heap.size + 1 = q := ⟨_, rfl⟩
  have HP := Lib.hid (show w.heap.size ≤ p4 by omega)
  rw [hp4] at Y0 YT0
  try rw [hp4]
  rw [hp2] at X0
  try rw [hp2]
  clear hp2 hp4
  have x0 := X0.out.c
  go_upto_if 15 with (go_at_call 37; (with_reducible refine (CM.out _ B0.out).mono ?_); rintro e w1 ⟨c1, rfl, hc, hb⟩; have HC := Lib.hid hc; have B1 := Lib.hid (B0.out.trans (hb.mono B0.out.size)); have X1 := Lib.hid (X0.out.below hb); have Y1 := Lib.hid (Y0.out.below hb); have YT1 := Lib.hid (YT0.out.below hb); clear hb hc x0; cases c1)
  · have HMN := Lib.hid (show ¬ s.may from fun h => by have := HC.out.2 h; cases this)
    have y0 := Y1.out.c
    have y1 := Y1.out.fr
    go_wp2_with fail
    obtain ⟨W9, hW9, X9, B9, E9⟩ := res2 (z := ⟨[], []⟩) Y1.out YT1.out HP.out (LE.nil _ _) (LE.nil _ _) B1.out B1.out.size
    try simp only at hW9
    rw [hW9]
    have HB9 := Lib.hid B9
    have HE9 := Lib.hid E9
    have s0 := X9.c 0
    have s1 := X9.c 1
    clear hW9 B9 E9 y0 y1 X9
    try simp only at s0 s1
    refine bodyPost_ret (v := .tuple #[.agg #[.slice none 0 0, .slice none 0 0], .int .i64 5]) (by simp [results, Tryz.results36, go_sem, s0, s1]) rfl ?_
    exact ⟨_, _, ⟨[], []⟩, rfl, HB9.out, HE9.out, .inl ⟨HMN.out, rfl⟩, fun _ => rfl⟩
  have HM := Lib.hid (HC.out.1 (by trivial))
  by_cases hlen : ops.length ≤ 256
  case neg =>
    have hl1 : (256 : Int) < (ops.length : Int) := by omega
    have HL := Lib.hid (show 256 < ops.length by omega)
    clear hlen
    have y0 := Y1.out.c
    have y1 := Y1.out.fr
    go_wp2_with fail
    obtain ⟨W9, hW9, X9, B9, E9⟩ := res2 (z := ⟨[], []⟩) Y1.out YT1.out HP.out (LE.nil _ _) (LE.nil _ _) B1.out B1.out.size
    try simp only at hW9
    rw [hW9]
    have HB9 := Lib.hid B9
    have HE9 := Lib.hid E9
    have s0 := X9.c 0
    have s1 := X9.c 1
    clear hW9 B9 E9 y0 y1 X9
    try simp only at s0 s1
    refine bodyPost_ret (v := .tuple #[.agg #[.slice none 0 0, .slice none 0 0], .int .i64 3]) (by simp [results, Tryz.results36, go_sem, s0, s1]) rfl ?_
    exact ⟨_, _, ⟨[], []⟩, rfl, HB9.out, HE9.out, .inr (.inl ⟨HM.out, HL.out, rfl⟩), fun _ => rfl⟩
  have hl1 : ¬ (256 : Int) < (ops.length : Int) := by omega
  have HL := Lib.hid hlen
  clear hlen
  go_upto_region 5 with fail
  clear hl1
  have CLa := Lib.hid (fun W hb => CL1.out W hb HM.out)
  have CLb := Lib.hid (fun W hb => CL2.out W hb HM.out)
  have K0 : Hid (∀ w', Below w1.heap.size w1 w' → w'.cell? ⟨p2, 0, none⟩ = some (.slice An s.ns.length cn) ∧ w'.cell? ⟨p2, 1, none⟩ = some (.slice Ae s.es.length ce)) := Lib.hid fun w' hb => ⟨(X1.out.below hb).c 0, (X1.out.below hb).c 1⟩
  go_cut [6] from 6 to 27 (fun t wd => ∃ p6, t = .pointer (some ⟨p6, 0, none⟩) ∧ SBox w1.heap.size p6 wd s ∧ Below w1.heap.size w1 wd)
  case first =>
    refine wp_region_held_drew (S := (fun w' => w'.cell? ⟨p2, 0, none⟩ = some (.slice An s.ns.length cn) ∧ w'.cell? ⟨p2, 1, none⟩ = some (.slice Ae s.es.length ce))) (by kernel_rfl) (K0.out _ (Below.refl _ _).drew) (fun hHeld => ?_)
    refine take_in (i := 0) (v := ?_) (some 21) rfl rfl (by kernel_rfl) (by kernel_rfl) (by kernel_rfl) (fun _ _ _ h => h) (Or.inl ⟨by rfl, ?_⟩) (by assumption) ?_
    rotate_left
    · (intro w hSw; (try dsimp only at hSw); (try go_split_ands); go_simp; try with_reducible rfl)
    try simp only [Act.put, setIfInBounds_toArray, set_cons_zero, set_cons_succ]
    refine take_in (i := 1) (v := ?_) (some 22) rfl rfl (by kernel_rfl) (by kernel_rfl) (by kernel_rfl) (fun _ _ _ h => h) (Or.inl ⟨by rfl, ?_⟩) (by assumption) ?_
    rotate_left
    · (intro w hSw; (try dsimp only at hSw); (try go_split_ands); go_simp; try with_reducible rfl)
    try simp only [Act.put, setIfInBounds_toArray, set_cons_zero, set_cons_succ]
    refine take_in (i := 3) (v := ?_) (some 24) rfl rfl (by kernel_rfl) (by kernel_rfl) (by kernel_rfl) (fun _ _ _ h => h) (Or.inl ⟨by rfl, ?_⟩) (by assumption) ?_
    rotate_left
    · (intro w hSw; (try dsimp only at hSw); (try go_split_ands); go_simp; try with_reducible rfl)
    try simp only [Act.put, setIfInBounds_toArray, set_cons_zero, set_cons_succ]
    refine take_in (i := 4) (v := ?_) (some 25) rfl rfl (by kernel_rfl) (by kernel_rfl) (by kernel_rfl) (fun _ _ _ h => h) (Or.inl ⟨by rfl, ?_⟩) (by assumption) ?_
    rotate_left
    · (intro w hSw; (try dsimp only at hSw); (try go_split_ands); go_simp; try with_reducible rfl)
    try simp only [Act.put, setIfInBounds_toArray, set_cons_zero, set_cons_succ]
    refine wpAnyH_ready (rs := [2, 7]) (by kernel_rfl) (by simp) ?_
    refine (AllReadyH.cons rfl (fun K hK => ?_) (AllReadyH.cons rfl (fun K hK => ?_) AllReadyH.nil))
    · go_simp
      (with_reducible refine (CLa.out _ (B1.out.trans ((show Below w1.heap.size w1 w1.drew from (Below.refl _ _).drew).mono B1.out.size))).mono ?_)
      rintro e va ⟨u1, rfl, hl, hb⟩
      obtain ⟨A1, c1, rfl, _, _⟩ := hl.form
      have Ha := Lib.hid ((show Below w1.heap.size w1 w1.drew from (Below.refl _ _).drew).trans (hb.mono (show Below w1.heap.size w1 w1.drew from (Below.refl _ _).drew).size))
      have Pa := Lib.hid (LE.mono hl (show Below w1.heap.size w1 w1.drew from (Below.refl _ _).drew).size)
      clear hb hl
      go_wp2_with fail
      refine hK.out _ _ (K0.out _ Ha.out) (fun hHeld => ?_)
      clear hK K
      try simp only [Act.put, setIfInBounds_toArray, set_cons_zero, set_cons_succ]
      refine wpAnyH_ready (rs := [5, 7]) (by kernel_rfl) (by simp) ?_
      refine (AllReadyH.cons rfl (fun K hK => ?_) (AllReadyH.cons rfl (fun K hK => ?_) AllReadyH.nil))
      · go_simp
        (with_reducible refine (CLb.out _ (B1.out.trans (Ha.out.mono B1.out.size))).mono ?_)
        rintro e vab ⟨u2, rfl, hl, hb⟩
        obtain ⟨A2, c2, rfl, _, _⟩ := hl.form
        have Hab := Lib.hid (Ha.out.trans (hb.mono Ha.out.size))
        have HAB : Hid (∀ k, (Value.slice A1 s.ns.length c1).ownBlock = some k → (Value.slice A2 s.es.length c2).ownBlock ≠ some k) := Lib.hid fun k h1 h2 => absurd (Pa.out.blk h1).2.2 (Nat.not_lt.2 (hl.blk h2).2.1)
        have Pab := Lib.hid (Pa.out.below hb)
        have Qab := Lib.hid (LE.mono hl Ha.out.size)
        clear hb hl
        go_wp2_with fail
        refine hK.out _ _ (K0.out _ Hab.out) (fun hHeld => ?_)
        clear hK K
        try simp only [Act.put, setIfInBounds_toArray, set_cons_zero, set_cons_succ]
        refine take_in (i := 6) (v := ?_) (some 27) rfl rfl (by kernel_rfl) (by kernel_rfl) (by kernel_rfl) (fun _ _ _ h => h) (Or.inl ⟨by rfl, ?_⟩) (by assumption) ?_
        rotate_left
        · (intro w hSw; (try dsimp only at hSw); (try go_split_ands); go_simp; try with_reducible rfl)
        try simp only [Act.put, setIfInBounds_toArray, set_cons_zero, set_cons_succ]
        refine wpAnyH_ready (rs := [7]) (by kernel_rfl) (by simp) ?_
        refine (AllReadyH.cons rfl (fun K hK => ?_) AllReadyH.nil)
        go_simp
        refine hK.out _ _ (K0.out _ (Hab.out.alloc Hab.out.size _)) (fun hHeld => ?_)
        clear hK K
        try simp only [Act.put, setIfInBounds_toArray, set_cons_zero, set_cons_succ]
        obtain ⟨vabA, hW⟩ : ∃ W, vab.alloc (.cells #[.slice none 0 0, .slice none 0 0] 76) = W := ⟨_, rfl⟩
        have HabA := Lib.hid (show Below w1.heap.size w1 vabA by rw [← hW]; exact Hab.out.alloc Hab.out.size _)
        have YBabA := Lib.hid (show Bx vabA vab.heap.size #[.slice none 0 0, .slice none 0 0] by rw [← hW]; exact Bx.new vab _ _)
        have YKabA := Lib.hid (show Blk 76 vabA vab.heap.size by rw [← hW]; exact Blk.new vab _ _)
        have PabA := Lib.hid (show LE w1.heap.size vabA (.slice A1 s.ns.length c1) s.ns by rw [← hW]; exact Pab.out.below ((Below.refl _ _).alloc (Nat.le_refl _) _))
        have QabA := Lib.hid (show LE w1.heap.size vabA (.slice A2 s.es.length c2) s.es by rw [← hW]; exact Qab.out.below ((Below.refl _ _).alloc (Nat.le_refl _) _))
        have y2 := YBabA.out.c
        have y3 := YBabA.out.fr
        try rw [hW] at hHeld
        try rw [hW]
        clear hW
        refine wpAnyH_ready (rs := [8]) (by kernel_rfl) (by simp) ?_
        refine (AllReadyH.cons rfl (fun K hK => ?_) AllReadyH.nil)
        go_simp
        refine hK.out _ _ (K0.out _ (HabA.out.grown (put2 YBabA.out _ _).2 HabA.out.size fun q hq => by have e := Option.some.inj hq; have h1 : w1.heap.size ≤ q := (by rw [← e]; exact Hab.out.size); exact h1)) (fun hHeld => ?_)
        clear hK K
        try simp only [Act.put, setIfInBounds_toArray, set_cons_zero, set_cons_succ]
        clear y2 y3
        refine wpAnyH_done (by kernel_rfl) ?_ _
        obtain ⟨W9, hW9, X9, G9, GG⟩ := state_put (s := s) YBabA.out YKabA.out (Hab.out.size) PabA.out QabA.out HAB.out HabA.out HabA.out.size
        rw [hW9]
        have HX9 := Lib.hid X9
        have HB9 := Lib.hid G9
        clear hW9 X9 G9 GG
        go_wp2_with fail
        go_meet
        exact ⟨_, rfl, HX9.out, HB9.out⟩
      · go_simp
        refine hK.out _ _ (K0.out _ (Ha.out.alloc Ha.out.size _)) (fun hHeld => ?_)
        clear hK K
        try simp only [Act.put, setIfInBounds_toArray, set_cons_zero, set_cons_succ]
        obtain ⟨vaA, hW⟩ : ∃ W, va.alloc (.cells #[.slice none 0 0, .slice none 0 0] 76) = W := ⟨_, rfl⟩
        have HaA := Lib.hid (show Below w1.heap.size w1 vaA by rw [← hW]; exact Ha.out.alloc Ha.out.size _)
        have YBaA := Lib.hid (show Bx vaA va.heap.size #[.slice none 0 0, .slice none 0 0] by rw [← hW]; exact Bx.new va _ _)
        have YKaA := Lib.hid (show Blk 76 vaA va.heap.size by rw [← hW]; exact Blk.new va _ _)
        have PaA := Lib.hid (show LE w1.heap.size vaA (.slice A1 s.ns.length c1) s.ns by rw [← hW]; exact Pa.out.below ((Below.refl _ _).alloc (Nat.le_refl _) _))
        try rw [hW] at hHeld
        try rw [hW]
        clear hW
        refine wpAnyH_ready (rs := [5]) (by kernel_rfl) (by simp) ?_
        refine (AllReadyH.cons rfl (fun K hK => ?_) AllReadyH.nil)
        go_simp
        (with_reducible refine (CLb.out _ (B1.out.trans (HaA.out.mono B1.out.size))).mono ?_)
        rintro e vaAb ⟨u2, rfl, hl, hb⟩
        obtain ⟨A2, c2, rfl, _, _⟩ := hl.form
        have HaAb := Lib.hid (HaA.out.trans (hb.mono HaA.out.size))
        have HAB : Hid (∀ k, (Value.slice A1 s.ns.length c1).ownBlock = some k → (Value.slice A2 s.es.length c2).ownBlock ≠ some k) := Lib.hid fun k h1 h2 => absurd (PaA.out.blk h1).2.2 (Nat.not_lt.2 (hl.blk h2).2.1)
        have PaAb := Lib.hid (PaA.out.below hb)
        have QaAb := Lib.hid (LE.mono hl HaA.out.size)
        have YBaAb := Lib.hid (YBaA.out.below hb)
        have YKaAb := Lib.hid (YKaA.out.below hb)
        have y2 := YBaAb.out.c
        have y3 := YBaAb.out.fr
        clear hb hl
        go_wp2_with fail
        refine hK.out _ _ (K0.out _ HaAb.out) (fun hHeld => ?_)
        clear hK K
        try simp only [Act.put, setIfInBounds_toArray, set_cons_zero, set_cons_succ]
        refine take_in (i := 6) (v := ?_) (some 27) rfl rfl (by kernel_rfl) (by kernel_rfl) (by kernel_rfl) (fun _ _ _ h => h) (Or.inl ⟨by rfl, ?_⟩) (by assumption) ?_
        rotate_left
        · (intro w hSw; (try dsimp only at hSw); (try go_split_ands); go_simp; try with_reducible rfl)
        try simp only [Act.put, setIfInBounds_toArray, set_cons_zero, set_cons_succ]
        refine wpAnyH_ready (rs := [8]) (by kernel_rfl) (by simp) ?_
        refine (AllReadyH.cons rfl (fun K hK => ?_) AllReadyH.nil)
        go_simp
        refine hK.out _ _ (K0.out _ (HaAb.out.grown (put2 YBaAb.out _ _).2 HaAb.out.size fun q hq => by have e := Option.some.inj hq; have h1 : w1.heap.size ≤ q := (by rw [← e]; exact Ha.out.size); exact h1)) (fun hHeld => ?_)
        clear hK K
        try simp only [Act.put, setIfInBounds_toArray, set_cons_zero, set_cons_succ]
        clear y2 y3
        refine wpAnyH_done (by kernel_rfl) ?_ _
        obtain ⟨W9, hW9, X9, G9, GG⟩ := state_put (s := s) YBaAb.out YKaAb.out (Ha.out.size) PaAb.out QaAb.out HAB.out HaAb.out HaAb.out.size
        rw [hW9]
        have HX9 := Lib.hid X9
        have HB9 := Lib.hid G9
        clear hW9 X9 G9 GG
        go_wp2_with fail
        go_meet
        exact ⟨_, rfl, HX9.out, HB9.out⟩
    · go_simp
      refine hK.out _ _ (K0.out _ ((show Below w1.heap.size w1 w1.drew from (Below.refl _ _).drew).alloc (show Below w1.heap.size w1 w1.drew from (Below.refl _ _).drew).size _)) (fun hHeld => ?_)
      clear hK K
      try simp only [Act.put, setIfInBounds_toArray, set_cons_zero, set_cons_succ]
      obtain ⟨vA, hW⟩ : ∃ W, (w1.alloc (.cells #[.slice none 0 0, .slice none 0 0] 76)).drew = W := ⟨_, rfl⟩
      have HA := Lib.hid (show Below w1.heap.size w1 vA by rw [← hW]; exact ((Below.refl _ _).alloc (Nat.le_refl _) _).drew)
      have YBA := Lib.hid (show Bx vA w1.heap.size #[.slice none 0 0, .slice none 0 0] by rw [← hW]; exact (Bx.new w1 _ _).below (Below.refl _ _).drew)
      have YKA := Lib.hid (show Blk 76 vA w1.heap.size by rw [← hW]; exact (Blk.new w1 _ _).below (Below.refl _ _).drew)
      try rw [hW] at hHeld
      try rw [hW]
      clear hW
      refine wpAnyH_ready (rs := [2]) (by kernel_rfl) (by simp) ?_
      refine (AllReadyH.cons rfl (fun K hK => ?_) AllReadyH.nil)
      go_simp
      (with_reducible refine (CLa.out _ (B1.out.trans (HA.out.mono B1.out.size))).mono ?_)
      rintro e vAa ⟨u1, rfl, hl, hb⟩
      obtain ⟨A1, c1, rfl, _, _⟩ := hl.form
      have HAa := Lib.hid (HA.out.trans (hb.mono HA.out.size))
      have PAa := Lib.hid (LE.mono hl HA.out.size)
      have YBAa := Lib.hid (YBA.out.below hb)
      have YKAa := Lib.hid (YKA.out.below hb)
      clear hb hl
      go_wp2_with fail
      refine hK.out _ _ (K0.out _ HAa.out) (fun hHeld => ?_)
      clear hK K
      try simp only [Act.put, setIfInBounds_toArray, set_cons_zero, set_cons_succ]
      refine wpAnyH_ready (rs := [5]) (by kernel_rfl) (by simp) ?_
      refine (AllReadyH.cons rfl (fun K hK => ?_) AllReadyH.nil)
      go_simp
      (with_reducible refine (CLb.out _ (B1.out.trans (HAa.out.mono B1.out.size))).mono ?_)
      rintro e vAab ⟨u2, rfl, hl, hb⟩
      obtain ⟨A2, c2, rfl, _, _⟩ := hl.form
      have HAab := Lib.hid (HAa.out.trans (hb.mono HAa.out.size))
      have HAB : Hid (∀ k, (Value.slice A1 s.ns.length c1).ownBlock = some k → (Value.slice A2 s.es.length c2).ownBlock ≠ some k) := Lib.hid fun k h1 h2 => absurd (PAa.out.blk h1).2.2 (Nat.not_lt.2 (hl.blk h2).2.1)
      have PAab := Lib.hid (PAa.out.below hb)
      have QAab := Lib.hid (LE.mono hl HAa.out.size)
      have YBAab := Lib.hid (YBAa.out.below hb)
      have YKAab := Lib.hid (YKAa.out.below hb)
      have y2 := YBAab.out.c
      have y3 := YBAab.out.fr
      clear hb hl
      go_wp2_with fail
      refine hK.out _ _ (K0.out _ HAab.out) (fun hHeld => ?_)
      clear hK K
      try simp only [Act.put, setIfInBounds_toArray, set_cons_zero, set_cons_succ]
      refine take_in (i := 6) (v := ?_) (some 27) rfl rfl (by kernel_rfl) (by kernel_rfl) (by kernel_rfl) (fun _ _ _ h => h) (Or.inl ⟨by rfl, ?_⟩) (by assumption) ?_
      rotate_left
      · (intro w hSw; (try dsimp only at hSw); (try go_split_ands); go_simp; try with_reducible rfl)
      try simp only [Act.put, setIfInBounds_toArray, set_cons_zero, set_cons_succ]
      refine wpAnyH_ready (rs := [8]) (by kernel_rfl) (by simp) ?_
      refine (AllReadyH.cons rfl (fun K hK => ?_) AllReadyH.nil)
      go_simp
      refine hK.out _ _ (K0.out _ (HAab.out.grown (put2 YBAab.out _ _).2 HAab.out.size fun q hq => by have e := Option.some.inj hq; have h1 : w1.heap.size ≤ q := (by rw [← e]; exact Nat.le_refl _); exact h1)) (fun hHeld => ?_)
      clear hK K
      try simp only [Act.put, setIfInBounds_toArray, set_cons_zero, set_cons_succ]
      clear y2 y3
      refine wpAnyH_done (by kernel_rfl) ?_ _
      obtain ⟨W9, hW9, X9, G9, GG⟩ := state_put (s := s) YBAab.out YKAab.out (Nat.le_refl _) PAab.out QAab.out HAB.out HAab.out HAab.out.size
      rw [hW9]
      have HX9 := Lib.hid X9
      have HB9 := Lib.hid G9
      clear hW9 X9 G9 GG
      go_wp2_with fail
      go_meet
      exact ⟨_, rfl, HX9.out, HB9.out⟩
  case rest =>
    obtain ⟨p6, rfl, hsb, hbd⟩ := hcut
    obtain ⟨w5, rfl⟩ : ∃ x : World, x = wc := ⟨_, rfl⟩
    have BI0 := Lib.hid (show BI p6 s ops w1 w5 0 s from ⟨hsb, rfl, hbd⟩)
    clear hsb hbd K0 CLa CLb X1
    have i9 : (ops.length : Int) ≤ 256 := by have := HL.out; omega
    go_wp2_with fail
    go_loopw [30] (fun i wr => ∃ (k : Nat) (z : St), k ≤ ops.length ∧ i = .int .i64 k ∧ BI p6 s ops w1 wr k z) (fun i _ => ops.length - (intOf i).toNat)
    case atStart => exact ⟨0, s, Nat.zero_le _, rfl, BI0.out⟩
    case round =>
      obtain ⟨k, z, hk, rfl, hbi⟩ := hrel
      have BK := Lib.hid hbi
      have HBw := Lib.hid (B1.out.trans (hbi.bel.mono B1.out.size))
      have HGZ := Lib.hid (show z.good (nn + 2 * k) (mm + k) by
        have h1 := hbi.run.good (HG.out HM.out)
        rw [List.length_take, Nat.min_eq_left hk] at h1
        exact h1)
      have HSZ := Lib.hid (hbi.run.sound HM.out.1)
      have YK := Lib.hid (Y1.out.below hbi.bel)
      have YTK := Lib.hid (YT1.out.below hbi.bel)
      clear hbi
      by_cases hlt : k < ops.length
      · obtain ⟨g, off, rfl, lg, cg⟩ := (HA.out.below HBw.out) (by omega)
        have r := cg k hlt
        have HWO := Lib.hid (HW.out _ (List.getElem_mem hlt))
        have CA := Lib.hid (fun W (hb : Below wr.heap.size wr W) => apply_any w1.heap.size p6 z ops[k] W (BK.out.box.below hb) (Nat.le_trans BK.out.bel.size hb.size) HSZ.out (fun x hx => by
          have h1 := HGZ.out
          have h2 := HNM.out
          have h3 := HL.out
          cases he : ops[k].edge
          · rw [he] at hx; exact (h1.ns x hx).wide (by omega)
          · rw [he] at hx; exact (h1.es x hx).wide (by omega)) HWO.out.2.2.2.2.2.2.1 HWO.out.2.2.2.2.2.2.1.2.2.1 (fitsK HWO.out.1) (by have h1 := HGZ.out.ln; have h2 := HNM.out; have h3 := HL.out; omega) (by have h1 := HGZ.out.le; have h2 := HNM.out; have h3 := HL.out; omega))
        have HOKS := Lib.hid (fun z' (h : StepOk z ops[k] z') => run_take hlt BK.out.run h)
        have HBDS := Lib.hid (fun n (h : StepBad z ops[k] n) => bad_take hlt BK.out.run h)
        have i0 : (k : Int) < (ops.length : Int) := by omega
        have i1 : (0 : Int) ≤ (k : Int) := by omega
        clear cg
        generalize ops[k] = o at *
        obtain ⟨SE, hSE⟩ : ∃ P : World → Ending → World → Prop, (fun W => StepEnd w1.heap.size p6 z o W) = P := ⟨_, rfl⟩
        have HSE := Lib.hid (fun W e w' (h : SE W e w') => (show StepEnd w1.heap.size p6 z o W e w' by rw [← hSE] at h; exact h))
        have CA2 := Lib.hid (fun W hb => (show Calls Tryz.prog 111 #[.pointer (some ⟨p6, 0, none⟩), o.val] W (SE W) by rw [← hSE]; exact CA.out W hb))
        clear hSE CA
        have HSE2 := Lib.hid (fun W e w' (h : SE W e w') => (show ∃ n : Int, e = .returned (.int .i64 n) ∧ Below w1.heap.size W w' ∧ ((n = 0 ∧ ∃ z', RunOk s (ops.take (k + 1)) z' ∧ SBox w1.heap.size p6 w' z') ∨ (n ≠ 0 ∧ RunBad s ops n)) by
          obtain ⟨n, h1, h2, h3⟩ := HSE.out W e w' h
          refine ⟨n, h1, h2, ?_⟩
          rcases h3 with ⟨h3, z', h4, h5⟩ | ⟨h3, h4⟩
          · exact .inl ⟨h3, z', HOKS.out z' h4, h5⟩
          · exact .inr ⟨h3, HBDS.out n h4⟩))
        clear HSE HOKS HBDS
        obtain ⟨kind, edge, id, label, fr, til, key, ⟨kk, b, n, f, s5⟩, pf, pt⟩ := o
        simp only at CA2 r
        go_upto_region 9 with (refine wpList_load_mid rfl 35 (.tmp 32) rfl g (off + k * 14) rfl _ _ r Tryz.underlying35 rfl rowOpB ?_)
        have HA1 := Lib.hid ((Below.refl wr.heap.size wr).alloc (Nat.le_refl _) (.cells #[.int .i64 kind, .bool edge, .int .u64 (id : Int), .string label, .int .u64 (fr : Int), .int .u64 (til : Int), .string key, .int .i64 kk, .bool b, .int .i64 n, .float .f64 f, .string s5, .int .u64 (pf : Int), .int .u64 (pt : Int)] 35))
        have X8 := Lib.hid (Bx.new wr #[.int .i64 kind, .bool edge, .int .u64 (id : Int), .string label, .int .u64 (fr : Int), .int .u64 (til : Int), .string key, .int .i64 kk, .bool b, .int .i64 n, .float .f64 f, .string s5, .int .u64 (pf : Int), .int .u64 (pt : Int)] 35)
        obtain ⟨V, hV⟩ : ∃ W, wr.alloc (.cells #[.int .i64 kind, .bool edge, .int .u64 (id : Int), .string label, .int .u64 (fr : Int), .int .u64 (til : Int), .string key, .int .i64 kk, .bool b, .int .i64 n, .float .f64 f, .string s5, .int .u64 (pf : Int), .int .u64 (pt : Int)] 35) = W := ⟨_, rfl⟩
        rw [hV] at HA1 X8
        try rw [hV]
        clear hV r
        obtain ⟨p8, hp8⟩ : ∃ q, wr.heap.size = q := ⟨_, rfl⟩
        have Z8 := Lib.hid hp8
        rw [hp8] at X8
        try rw [hp8]
        clear hp8
        have RG := Lib.hid X8.out.rng
        go_upto_region 10 with (first
          | (refine wpList_load_mid rfl 35 (.tmp 8) rfl p8 0 rfl _ _ RG.out Tryz.underlying35 rfl rowOpB ?_)
          | (go_at_call 111; (with_reducible refine (CA2.out _ HA1.out).mono ?_); intro e w6 hx; obtain ⟨n6, rfl, hb6, hq6⟩ := HSE2.out _ _ _ hx; have HB6 := Lib.hid (BK.out.bel.trans ((HA1.out.mono BK.out.bel.size).trans hb6)); have HQ6 := Lib.hid hq6; clear hx hb6 hq6)
          | fail)
        have Y6 := Lib.hid (Y1.out.below HB6.out)
        have YT6 := Lib.hid (YT1.out.below HB6.out)
        have B6 := Lib.hid (B1.out.trans (HB6.out.mono B1.out.size))
        rcases HQ6.out with ⟨rfl, z', hz1, hz2⟩ | ⟨hn6, hr6⟩
        · have BN := Lib.hid (show BI p6 s ops w1 w6 (k + 1) z' from ⟨hz2, hz1, HB6.out⟩)
          clear hz1 hz2 HQ6
          go_wp2_with fail
          exact ⟨⟨k + 1, z', by omega, by go_num, BN.out⟩, by simp [intOf]; omega⟩
        · have t0 : (n6 != 0) = true := by simpa using hn6
          have HR6 := Lib.hid hr6
          clear hn6 hr6 HQ6
          have y0 := Y6.out.c
          have y1 := Y6.out.fr
          go_wp2_with fail
          obtain ⟨W9, hW9, X9, B9, E9⟩ := res2 (z := ⟨[], []⟩) Y6.out YT6.out HP.out (LE.nil _ _) (LE.nil _ _) B6.out B6.out.size
          try simp only at hW9
          rw [hW9]
          have HB9 := Lib.hid B9
          have HE9 := Lib.hid E9
          have s0 := X9.c 0
          have s1 := X9.c 1
          clear hW9 B9 E9 y0 y1 X9
          try simp only at s0 s1
          refine bodyPost_ret (v := .tuple #[.agg #[.slice none 0 0, .slice none 0 0], .int .i64 n6]) (by simp [results, Tryz.results36, go_sem, s0, s1]) rfl ?_
          exact ⟨_, _, ⟨[], []⟩, rfl, HB9.out, HE9.out, .inr (.inr (.inl ⟨HM.out, HL.out, HR6.out⟩)), fun _ => rfl⟩
      · have HRZ := Lib.hid (show RunOk s ops z by
          have h1 := BK.out.run
          rwa [show k = ops.length by omega, List.take_length] at h1)
        have HSW := Lib.hid (HGZ.out.wide (by have h2 := HNM.out; have h3 := HL.out; omega) (by have h2 := HNM.out; have h3 := HL.out; omega))
        obtain ⟨An2, cn2, Ae2, ce2, hx, hl1, hl2⟩ := BK.out.box.sat
        have CD := Lib.hid (fun W (hb : Below wr.heap.size wr W) => Dangling_any (.agg #[.slice An2 z.ns.length cn2, .slice Ae2 z.es.length ce2]) z W ⟨_, _, rfl, (hl1.below hb).se, (hl2.below hb).se⟩ HSW.out)
        have X6 := Lib.hid hx
        have L1 := Lib.hid hl1
        have L2 := Lib.hid hl2
        clear hx hl1 hl2
        have x6 := X6.out.c
        go_upto_region 14 with (go_at_call 44; (with_reducible refine (CD.out _ (Below.refl _ _)).mono ?_); rintro e w7 ⟨n7, t7, is7, rfl, hd, hb⟩; have HD := Lib.hid hd.tight; have H7 := Lib.hid (BK.out.bel.trans (hb.mono BK.out.bel.size)); have X7 := Lib.hid (X6.out.below hb); have M1 := Lib.hid (L1.out.below hb); have M2 := Lib.hid (L2.out.below hb); clear hd hb x6)
        have Y7 := Lib.hid (Y1.out.below H7.out)
        have YT7 := Lib.hid (YT1.out.below H7.out)
        have B7 := Lib.hid (B1.out.trans (H7.out.mono B1.out.size))
        cases is7
        case true =>
          have HND := Lib.hid (show ¬ NoLoose z from fun h => by have := HD.out.2 h; cases this)
          have y0 := Y7.out.c
          have y1 := Y7.out.fr
          go_wp2_with fail
          obtain ⟨W9, hW9, X9, B9, E9⟩ := res2 (z := ⟨[], []⟩) Y7.out YT7.out HP.out (LE.nil _ _) (LE.nil _ _) B7.out B7.out.size
          try simp only at hW9
          rw [hW9]
          have HB9 := Lib.hid B9
          have HE9 := Lib.hid E9
          have s0 := X9.c 0
          have s1 := X9.c 1
          clear hW9 B9 E9 y0 y1 X9
          try simp only at s0 s1
          refine bodyPost_ret (v := .tuple #[.agg #[.slice none 0 0, .slice none 0 0], .int .i64 33]) (by simp [results, Tryz.results36, go_sem, s0, s1]) rfl ?_
          exact ⟨_, _, ⟨[], []⟩, rfl, HB9.out, HE9.out, .inr (.inr (.inr (.inl ⟨HM.out, HL.out, z, HRZ.out, HND.out, rfl⟩))), fun _ => rfl⟩
        case false =>
          have HND := Lib.hid (HD.out.1 (by trivial))
          have x7 := X7.out.c
          have y0 := Y7.out.c
          have y1 := Y7.out.fr
          go_wp2_with fail
          obtain ⟨W9, hW9, X9, B9, E9⟩ := res2 (z := z) Y7.out YT7.out HP.out (LE.mono M1.out B1.out.size) (LE.mono M2.out B1.out.size) B7.out B7.out.size
          try simp only at hW9
          rw [hW9]
          have HB9 := Lib.hid B9
          have HE9 := Lib.hid E9
          have s0 := X9.c 0
          have s1 := X9.c 1
          clear hW9 B9 E9 y0 y1 x7 X9
          try simp only at s0 s1
          refine bodyPost_ret (v := .tuple #[.agg #[.slice An2 z.ns.length cn2, .slice Ae2 z.es.length ce2], .int .i64 0]) (by simp [results, Tryz.results36, go_sem, s0, s1]) rfl ?_
          exact ⟨_, _, z, rfl, HB9.out, HE9.out, .inr (.inr (.inr (.inr ⟨HM.out, HL.out, HRZ.out, HND.out, rfl⟩))), fun h => absurd rfl h⟩
end
end Go.Proofs.YtmolpogehgeebaaGreat


