/- The statement CrcCalls, walked. -/
import Derived.Test.YtgaipgpendemfaaDoorP7
namespace Go.Proofs.YtgaipgpendemfaaDoor
open Go.RowKit
/-- Two rows of bytes that the call owns, the second one perhaps none; all that lay there stays. -/
def Two (B : Nat) (W : World) (gm nm : Nat) (S : Option Addr) (gs ns : Nat) (wr : World) : Prop :=
  Below B W wr ∧ (∃ L : List UInt8, L.length = nm ∧ Mine B wr gm L) ∧ ((S = none ∧ ns = 0) ∨ (S = some ⟨gs, 0, none⟩ ∧ ∃ L : List UInt8, L.length = ns ∧ Mine B wr gs L))
theorem mine_other {B : Nat} {w : World} {b g q : Nat} {l : List UInt8} (h : Mine B w b l) (hne : b ≠ g) (v : Value) : Mine B (w.setCell ⟨g, q, none⟩ v) b l :=
  ⟨h.ge, by simpa [World.setCell] using h.lt, fun i hi => (World.cell?_setCell_other _ _ _ _ (fun e => hne (congrArg Addr.block e).symm)).trans (h.cell i hi), fun i => by rw [World.frozen?_setCell]; exact h.free i⟩
theorem flip_val (x : UInt8) : bits .xor .u8 (x.toNat : Int) 255 = ((x ^^^ 255).toNat : Int) := bx8 x 255
theorem Two.setm {B : Nat} {W wr : World} {gm nm gs ns : Nat} {S : Option Addr} (h : Two B W gm nm S gs ns wr) (hne : gm ≠ gs) (j : Nat) (v : UInt8) : Two B W gm nm S gs ns (wr.setCell ⟨gm, j, none⟩ (bv v)) := by
  obtain ⟨h1, ⟨L, hL, hm⟩, h3⟩ := h
  refine ⟨below_set h1 hm.ge j _, ⟨_, (List.length_set ..).trans hL, set_bytes hm j v⟩, h3.imp id fun ⟨e, L', hL', hm'⟩ => ⟨e, L', hL', mine_other hm' hne.symm _⟩⟩
theorem Two.sets {B : Nat} {W wr : World} {gm nm gs ns : Nat} {S : Option Addr} (h : Two B W gm nm S gs ns wr) (hS : S = some ⟨gs, 0, none⟩) (hne : gm ≠ gs) (j : Nat) (v : UInt8) : Two B W gm nm S gs ns (wr.setCell ⟨gs, j, none⟩ (bv v)) := by
  obtain ⟨h1, ⟨L, hL, hm⟩, h3⟩ := h
  rcases h3 with ⟨e, _⟩ | ⟨_, L', hL', hm'⟩
  · rw [hS] at e; cases e
  · exact ⟨below_set h1 hm'.ge j _, ⟨L, hL, mine_other hm hne _⟩, .inr ⟨hS, _, (List.length_set ..).trans hL', set_bytes hm' j v⟩⟩
theorem Two.cellm {B : Nat} {W wr : World} {gm nm gs ns j : Nat} {S : Option Addr} (h : Two B W gm nm S gs ns wr) (hj : j < nm) : ∃ x : UInt8, wr.cell? ⟨gm, j, none⟩ = some (.int .u8 (x.toNat : Int)) ∧ wr.frozen? ⟨gm, j, none⟩ = false := by
  obtain ⟨_, ⟨L, hL, hm⟩, _⟩ := h
  exact ⟨L.getD j 0, hm.cell j (by omega), hm.free j⟩
theorem Two.cells {B : Nat} {W wr : World} {gm nm gs ns j : Nat} {S : Option Addr} (h : Two B W gm nm S gs ns wr) (hj : j < ns) : S = some ⟨gs, 0, none⟩ ∧ ∃ x : UInt8, wr.cell? ⟨gs, j, none⟩ = some (.int .u8 (x.toNat : Int)) ∧ wr.frozen? ⟨gs, j, none⟩ = false := by
  obtain ⟨_, _, h3⟩ := h
  rcases h3 with ⟨_, e⟩ | ⟨e, L, hL, hm⟩
  · omega
  · exact ⟨e, L.getD j 0, hm.cell j (by omega), hm.free j⟩
theorem index_first (v u : Value) (w : World) : (Instr.index 32 (.agg #[v, u]) (.int .i64 0)).run Tryd.prog w = .ok v w := by kernel_rfl
theorem index_second (v u : Value) (w : World) : (Instr.index 32 (.agg #[v, u]) (.int .i64 1)).run Tryd.prog w = .ok u w := by kernel_rfl
set_option maxRecDepth 100000 in
set_option maxHeartbeats 8000000 in
theorem CrcCalls_walk (s : BitVec 32) (A : Option Addr) (ca : Nat) (a : List UInt8) (B : Option Addr) (cb : Nat) (b : List UInt8) (w : World) (hA : At w A a) (zA : A = none → ca = 0) (ma : a.length + 4 ≤ 140737488355328) (_la : a.length ≤ ca)
    (hB : At w B b) (zB : B = none → cb = 0) (mb : b.length + 4 ≤ 140737488355328) (lb : b.length ≤ cb) (h : Env w) :
    Calls Tryd.prog 3 #[.int .u32 (s.toNat : Int), .slice A a.length ca, .slice B b.length cb] w fun e w' => e = .returned (.bool true) ∧ Below w.heap.size w w' := by
  have HA := Lib.hid hA
  have HB := Lib.hid hB
  have ZA := Lib.hid zA
  have ZB := Lib.hid zB
  have HE := Lib.hid h
  clear hA hB zA zB h
  go_enter Tryd.func3, Tryd.ntmps3
  go_wp2_with (first
    | (at_builtin; refine wpList_app _ rfl (.const (.slice none 0 0)) (.tmp 18) rfl w.heap.size (.slice none 0 0) [] rfl (Own1.nil _ _) A a.length ca a rfl HA.out ZA.out rfl (by simp; omega) (Nat.le_refl _) w (Below.refl _ _) ?_; intro v1 w1 ho1 hb1 _ _; have O1 : Hid (Own1 w.heap.size w1 v1 a) := ho1; have B1 := Lib.hid hb1; clear ho1 hb1)
    | (at_builtin; refine wpList_app _ rfl (.const (.slice none 0 0)) (.tmp 20) rfl w.heap.size (.slice none 0 0) [] rfl (Own1.nil _ _) B b.length cb b rfl (HB.out.below B1.out) ZB.out rfl (by simp; omega) B1.out.size w B1.out ?_; intro v2 w2 ho2 hb2 hg2 _; have O2 : Hid (Own1 w.heap.size w2 v2 b) := ho2; have G2 := Lib.hid hg2; have B2 := Lib.hid hb2; clear ho2 hb2 hg2))
  obtain ⟨X, cx, rfl, zX, lX, hX⟩ := O1.out.at
  obtain ⟨Y, cy, rfl, zY, lY, hY⟩ := O2.out.at
  have X2 : At w2 X a := hX.below ((Below.refl w1.heap.size w1).grown G2.out (Nat.le_refl _) (fun k hk => by cases hk))
  have E2 : Env w2 := HE.out.below B2.out
  have s2 := B2.out.size
  obtain ⟨mk, hmk⟩ : ∃ mk, markL a = mk := ⟨_, rfl⟩
  have hmkl : mk.length = a.length + 4 := by rw [← hmk]; exact markL_length a
  refine (Mark_mine X a a.length cx w2 E2 X2 zX ma rfl).mono ?_
  rintro e w3 ⟨cm, rfl, hcm, hm3, hb3⟩
  rw [hmk] at hm3
  go_wp2_with fail
  refine (StripL Y b b.length cy w3 (E2.below hb3) (hY.below hb3) zY lY (by omega) rfl).mono ?_
  rintro e w4 ⟨S, cs, rfl, _, hS, hSm, hb4⟩
  have D4 : Below w2.heap.size w2 w4 := hb3.trans (hb4.mono hb3.size)
  go_wp2_with fail
  refine (refStrip_any B b cb w4 ((HB.out.below B2.out).below D4) lb (by omega)).mono ?_
  rintro e w5 ⟨T, ct, rfl, hT, hb5⟩
  have D5 : Below w2.heap.size w2 w5 := D4.trans (hb5.mono D4.size)
  have M5 := (hm3.below hb4).below hb5
  have S5 := hS.below hb5
  have SM5 : S = none ∨ (S = some ⟨w3.heap.size, 0, none⟩ ∧ Mine w3.heap.size w5 w3.heap.size (stripL b)) := hSm.imp id fun h => ⟨h.1, h.2.below hb5⟩
  have hg23 : w2.heap.size < w3.heap.size := hm3.lt
  obtain ⟨sl, hsl⟩ : ∃ sl, stripL b = sl := ⟨_, rfl⟩
  obtain ⟨se, hse⟩ : ∃ se, stripE b = se := ⟨_, rfl⟩
  rw [hsl, hse]
  rw [hsl] at hT S5 SM5
  clear hm3 hS hSm hb3 hb4 hb5 D4
  go_upto_region 5 with fail
  go_cut [14] (fun v w' => v = .bool true ∧ Below w5.heap.size w5 w')
  case first => as_aux_lemma =>
    have EN := fun wk (hb : Below w5.heap.size w5 wk) => (E2.below D5).below hb
    have c1 := fun wk (hb : Below w5.heap.size w5 wk) => on hb (SumL X a a.length cx wk (EN wk hb) ((X2.below D5).below hb) (by omega) rfl)
    have c3 := fun wk (hb : Below w5.heap.size w5 wk) => on hb (refSum_any A a a.length ca wk (((HA.out.below B2.out).below D5).below hb) (by omega) rfl)
    have c8 := fun wk (hb : Below w5.heap.size w5 wk) => on hb (MoreL s _ X a a.length cx wk (EN wk hb) ((X2.below D5).below hb) (by omega) rfl rfl)
    have c11 := fun wk (hb : Below w5.heap.size w5 wk) => on hb (refMore_any s A a ca wk (((HA.out.below B2.out).below D5).below hb) (by omega))
    have c18 := fun wk (hb : Below w5.heap.size w5 wk) => refMark_any A a a.length ca wk (((HA.out.below B2.out).below D5).below hb) ZA.out ma rfl
    obtain ⟨P, hP⟩ : ∃ P, moreV 0#32 a = P := ⟨_, rfl⟩
    obtain ⟨Q, hQ⟩ : ∃ P, moreV s a = P := ⟨_, rfl⟩
    rw [hP] at c1 c3
    rw [hQ] at c8 c11
    rw [hmk] at c18
    have K0 := Lib.hid (fun wk (hb : Below w5.heap.size w5 wk) => (⟨hb, conv_text' wk (some ⟨w2.heap.size, 0, none⟩) mk (a.length + 4) cm (M5.at_.below hb) hmkl, conv_text wk S sl cs (S5.below hb), conv_text wk T sl ct (hT.below hb)⟩ :
      Below w5.heap.size w5 wk ∧ (convert 23 9 (.slice (some ⟨w2.heap.size, 0, none⟩) (a.length + 4) cm)).run Tryd.prog wk = .ok (.string ⟨mk.toArray⟩) wk ∧ (convert 23 9 (.slice S sl.length cs)).run Tryd.prog wk = .ok (.string ⟨sl.toArray⟩) wk ∧ (convert 23 9 (.slice T sl.length ct)).run Tryd.prog wk = .ok (.string ⟨sl.toArray⟩) wk))
    have C1 := Lib.hid c1
    have C3 := Lib.hid c3
    have C8 := Lib.hid c8
    have C11 := Lib.hid c11
    have C18 := Lib.hid c18
    clear c1 c3 c8 c11 c18 EN M5 S5 SM5 hT hP hQ hmk X2 E2 D5 zX zY hX hY
    refine wp_region_held_drew (S := (fun wk => Below w5.heap.size w5 wk ∧ (convert 23 9 (.slice (some ⟨w2.heap.size, 0, none⟩) (a.length + 4) cm)).run Tryd.prog wk = .ok (.string ⟨mk.toArray⟩) wk ∧ (convert 23 9 (.slice S sl.length cs)).run Tryd.prog wk = .ok (.string ⟨sl.toArray⟩) wk ∧ (convert 23 9 (.slice T sl.length ct)).run Tryd.prog wk = .ok (.string ⟨sl.toArray⟩) wk)) (by kernel_rfl) (K0.out _ (Below.refl _ _).drew) (fun hHeld => ?_)
    refine take_in (i := 0) (v := ?_) (some 34) rfl rfl (by kernel_rfl) (by kernel_rfl) (by kernel_rfl) (fun _ _ _ h => h) (Or.inl ⟨by rfl, ?_⟩) (by assumption) ?_
    rotate_left
    · (intro w hSw; (try dsimp only at hSw); (try go_split_ands); go_simp; try with_reducible rfl)
    try simp only [Act.put, List.setIfInBounds_toArray, List.set_cons_zero, List.set_cons_succ]
    refine take_in (i := 2) (v := ?_) (some 36) rfl rfl (by kernel_rfl) (by kernel_rfl) (by kernel_rfl) (fun _ _ _ h => h) (Or.inl ⟨by rfl, ?_⟩) (by assumption) ?_
    rotate_left
    · (intro w hSw; (try dsimp only at hSw); (try go_split_ands); go_simp; try with_reducible rfl)
    try simp only [Act.put, List.setIfInBounds_toArray, List.set_cons_zero, List.set_cons_succ]
    refine wpAnyH_ready (rs := [1]) (by kernel_rfl) (by simp) ?_
    refine AllReadyH.cons rfl (fun K hK => ?_) AllReadyH.nil
    go_simp
    refine (C1.out _ hHeld.1).mono ?_
    rintro e w6 ⟨rfl, hb6⟩
    go_wp2_with fail
    refine hK.out _ _ (K0.out _ hb6) (fun hHeld => ?_)
    clear hK K
    try simp only [Act.put, List.setIfInBounds_toArray, List.set_cons_zero, List.set_cons_succ]
    refine wpAnyH_ready (rs := [3]) (by kernel_rfl) (by simp) ?_
    refine AllReadyH.cons rfl (fun K hK => ?_) AllReadyH.nil
    go_simp
    refine (C3.out _ hHeld.1).mono ?_
    rintro e w6 ⟨rfl, hb6⟩
    go_wp2_with fail
    refine hK.out _ _ (K0.out _ hb6) (fun hHeld => ?_)
    clear hK K
    try simp only [Act.put, List.setIfInBounds_toArray, List.set_cons_zero, List.set_cons_succ]
    refine take_in (i := 4) (v := ?_) (some 38) rfl rfl (by kernel_rfl) (by kernel_rfl) (by kernel_rfl) (fun _ _ _ h => h) (Or.inl ⟨by rfl, ?_⟩) (by assumption) ?_
    rotate_left
    · (intro w hSw; (try dsimp only at hSw); (try go_split_ands); go_simp; try with_reducible rfl)
    try simp only [Act.put, List.setIfInBounds_toArray, List.set_cons_zero, List.set_cons_succ]
    refine take_in (i := 5) (v := ?_) (some 39) rfl rfl (by kernel_rfl) (by kernel_rfl) (by kernel_rfl) (fun _ _ _ h => h) (Or.inl ⟨by rfl, ?_⟩) (by assumption) ?_
    rotate_left
    · (intro w hSw; (try dsimp only at hSw); (try go_split_ands); go_simp; try with_reducible rfl)
    try simp only [Act.put, List.setIfInBounds_toArray, List.set_cons_zero, List.set_cons_succ]
    refine take_in (i := 6) (v := ?_) (some 40) rfl rfl (by kernel_rfl) (by kernel_rfl) (by kernel_rfl) (fun _ _ _ h => h) (Or.inl ⟨by rfl, ?_⟩) (by assumption) ?_
    rotate_left
    · (intro w hSw; (try dsimp only at hSw); (try go_split_ands); go_simp; try with_reducible rfl)
    try simp only [Act.put, List.setIfInBounds_toArray, List.set_cons_zero, List.set_cons_succ]
    refine take_in (i := 7) (v := ?_) (some 41) rfl rfl (by kernel_rfl) (by kernel_rfl) (by kernel_rfl) (fun _ _ _ h => h) (Or.inl ⟨by rfl, ?_⟩) (by assumption) ?_
    rotate_left
    · (intro w hSw; (try dsimp only at hSw); (try go_split_ands); go_simp; try with_reducible rfl)
    try simp only [Act.put, List.setIfInBounds_toArray, List.set_cons_zero, List.set_cons_succ]
    refine take_in (i := 9) (v := ?_) (some 43) rfl rfl (by kernel_rfl) (by kernel_rfl) (by kernel_rfl) (fun _ _ _ h => h) (Or.inl ⟨by rfl, ?_⟩) (by assumption) ?_
    rotate_left
    · (intro w hSw; (try dsimp only at hSw); (try go_split_ands); go_simp; try with_reducible rfl)
    try simp only [Act.put, List.setIfInBounds_toArray, List.set_cons_zero, List.set_cons_succ]
    refine take_in (i := 10) (v := ?_) (some 44) rfl rfl (by kernel_rfl) (by kernel_rfl) (by kernel_rfl) (fun _ _ _ h => h) (Or.inl ⟨by rfl, ?_⟩) (by assumption) ?_
    rotate_left
    · (intro w hSw; (try dsimp only at hSw); (try go_split_ands); go_simp; try with_reducible rfl)
    try simp only [Act.put, List.setIfInBounds_toArray, List.set_cons_zero, List.set_cons_succ]
    refine wpAnyH_ready (rs := [8]) (by kernel_rfl) (by simp) ?_
    refine AllReadyH.cons rfl (fun K hK => ?_) AllReadyH.nil
    go_simp
    refine (C8.out _ hHeld.1).mono ?_
    rintro e w6 ⟨rfl, hb6⟩
    go_wp2_with fail
    refine hK.out _ _ (K0.out _ hb6) (fun hHeld => ?_)
    clear hK K
    try simp only [Act.put, List.setIfInBounds_toArray, List.set_cons_zero, List.set_cons_succ]
    refine wpAnyH_ready (rs := [11]) (by kernel_rfl) (by simp) ?_
    refine AllReadyH.cons rfl (fun K hK => ?_) AllReadyH.nil
    go_simp
    refine (C11.out _ hHeld.1).mono ?_
    rintro e w6 ⟨rfl, hb6⟩
    go_wp2_with fail
    refine hK.out _ _ (K0.out _ hb6) (fun hHeld => ?_)
    clear hK K
    try simp only [Act.put, List.setIfInBounds_toArray, List.set_cons_zero, List.set_cons_succ]
    refine take_in (i := 12) (v := ?_) (some 46) rfl rfl (by kernel_rfl) (by kernel_rfl) (by kernel_rfl) (fun _ _ _ h => h) (Or.inl ⟨by rfl, ?_⟩) (by assumption) ?_
    rotate_left
    · (intro w hSw; (try dsimp only at hSw); (try go_split_ands); go_simp; try with_reducible rfl)
    try simp only [Act.put, List.setIfInBounds_toArray, List.set_cons_zero, List.set_cons_succ]
    refine take_in (i := 13) (v := ?_) (some 47) rfl rfl (by kernel_rfl) (by kernel_rfl) (by kernel_rfl) (fun _ _ _ h => h) (Or.inl ⟨by rfl, ?_⟩) (by assumption) ?_
    rotate_left
    · (intro w hSw; (try dsimp only at hSw); (try go_split_ands); go_simp; try with_reducible rfl)
    try simp only [Act.put, List.setIfInBounds_toArray, List.set_cons_zero, List.set_cons_succ]
    refine take_in (i := 14) (v := ?_) (some 48) rfl rfl (by kernel_rfl) (by kernel_rfl) (by kernel_rfl) (fun _ _ _ h => h) (Or.inl ⟨by rfl, ?_⟩) (by assumption) ?_
    rotate_left
    · (intro w hSw; (try dsimp only at hSw); (try go_split_ands); go_simp; try with_reducible rfl)
    try simp only [Act.put, List.setIfInBounds_toArray, List.set_cons_zero, List.set_cons_succ]
    refine take_in (i := 15) (v := ?_) (some 49) rfl rfl (by kernel_rfl) (by kernel_rfl) (by kernel_rfl) (fun _ _ _ h => h) (Or.inl ⟨by rfl, ?_⟩) (by assumption) ?_
    rotate_left
    · (intro w hSw; (try dsimp only at hSw); (try go_split_ands); go_simp; try with_reducible rfl)
    try simp only [Act.put, List.setIfInBounds_toArray, List.set_cons_zero, List.set_cons_succ]
    refine take_in (i := 16) (v := ?_) (some 50) rfl rfl (by kernel_rfl) (by kernel_rfl) (by kernel_rfl) (fun _ _ _ h => h) (Or.inl ⟨by rfl, ?_⟩) (by assumption) ?_
    rotate_left
    · (intro w hSw; (try dsimp only at hSw); (try go_split_ands); go_simp; try with_reducible rfl)
    try simp only [Act.put, List.setIfInBounds_toArray, List.set_cons_zero, List.set_cons_succ]
    refine take_in (i := 17) (v := ?_) (some 51) rfl rfl (by kernel_rfl) (by kernel_rfl) (by kernel_rfl) (fun _ _ _ h => h) (Or.inl ⟨by rfl, ?_⟩) (by assumption) ?_
    rotate_left
    · (intro w hSw; (try dsimp only at hSw); (try go_split_ands); go_simp; try with_reducible rfl)
    try simp only [Act.put, List.setIfInBounds_toArray, List.set_cons_zero, List.set_cons_succ]
    refine wpAnyH_ready (rs := [18]) (by kernel_rfl) (by simp) ?_
    refine AllReadyH.cons rfl (fun K hK => ?_) AllReadyH.nil
    go_simp
    refine (C18.out _ hHeld.1).mono ?_
    rintro e w7 ⟨v7, rfl, ho7, hb7⟩
    have hv7 := own_conv ho7
    replace hb7 := hHeld.1.trans (hb7.mono hHeld.1.size)
    clear ho7
    go_wp2_with fail
    refine hK.out _ _ (K0.out _ hb7) (fun hHeld => ?_)
    clear hK K
    try simp only [Act.put, List.setIfInBounds_toArray, List.set_cons_zero, List.set_cons_succ]
    refine wpAnyH_ready (rs := [19]) (by kernel_rfl) (by simp) ?_
    refine AllReadyH.cons rfl (fun K hK => ?_) AllReadyH.nil
    go_simp
    refine hK.out _ _ (hHeld) (fun hHeld => ?_)
    clear hK K
    try simp only [Act.put, List.setIfInBounds_toArray, List.set_cons_zero, List.set_cons_succ]
    refine take_in (i := 20) (v := ?_) (some 54) rfl rfl (by kernel_rfl) (by kernel_rfl) (by kernel_rfl) (fun _ _ _ h => h) (Or.inl ⟨by rfl, ?_⟩) (by assumption) ?_
    rotate_left
    · (intro w hSw; (try dsimp only at hSw); (try go_split_ands); go_simp; try with_reducible rfl)
    try simp only [Act.put, List.setIfInBounds_toArray, List.set_cons_zero, List.set_cons_succ]
    refine take_in (i := 21) (v := ?_) (some 55) rfl rfl (by kernel_rfl) (by kernel_rfl) (by kernel_rfl) (fun _ _ _ h => h) (Or.inl ⟨by rfl, ?_⟩) (by assumption) ?_
    rotate_left
    · (intro w hSw; (try dsimp only at hSw); (try go_split_ands); go_simp; try with_reducible rfl)
    try simp only [Act.put, List.setIfInBounds_toArray, List.set_cons_zero, List.set_cons_succ]
    refine take_in (i := 22) (v := ?_) (some 56) rfl rfl (by kernel_rfl) (by kernel_rfl) (by kernel_rfl) (fun _ _ _ h => h) (Or.inl ⟨by rfl, ?_⟩) (by assumption) ?_
    rotate_left
    · (intro w hSw; (try dsimp only at hSw); (try go_split_ands); go_simp; try with_reducible rfl)
    try simp only [Act.put, List.setIfInBounds_toArray, List.set_cons_zero, List.set_cons_succ]
    refine take_in (i := 23) (v := ?_) (some 57) rfl rfl (by kernel_rfl) (by kernel_rfl) (by kernel_rfl) (fun _ _ _ h => h) (Or.inl ⟨by rfl, ?_⟩) (by assumption) ?_
    rotate_left
    · (intro w hSw; (try dsimp only at hSw); (try go_split_ands); go_simp; try with_reducible rfl)
    try simp only [Act.put, List.setIfInBounds_toArray, List.set_cons_zero, List.set_cons_succ]
    refine take_in (i := 24) (v := ?_) (some 58) rfl rfl (by kernel_rfl) (by kernel_rfl) (by kernel_rfl) (fun _ _ _ h => h) (Or.inl ⟨by rfl, ?_⟩) (by assumption) ?_
    rotate_left
    · (intro w hSw; (try dsimp only at hSw); (try go_split_ands); go_simp; try with_reducible rfl)
    try simp only [Act.put, List.setIfInBounds_toArray, List.set_cons_zero, List.set_cons_succ]
    refine take_in (i := 25) (v := ?_) (some 59) rfl rfl (by kernel_rfl) (by kernel_rfl) (by kernel_rfl) (fun _ _ _ h => h) (Or.inl ⟨by rfl, ?_⟩) (by assumption) ?_
    rotate_left
    · (intro w hSw; (try dsimp only at hSw); (try go_split_ands); go_simp; try with_reducible rfl)
    try simp only [Act.put, List.setIfInBounds_toArray, List.set_cons_zero, List.set_cons_succ]
    refine take_in (i := 26) (v := ?_) (some 60) rfl rfl (by kernel_rfl) (by kernel_rfl) (by kernel_rfl) (fun _ _ _ h => h) (Or.inl ⟨by rfl, ?_⟩) (by assumption) ?_
    rotate_left
    · (intro w hSw; (try dsimp only at hSw); (try go_split_ands); go_simp; try with_reducible rfl)
    try simp only [Act.put, List.setIfInBounds_toArray, List.set_cons_zero, List.set_cons_succ]
    refine take_in (i := 27) (v := ?_) (some 61) rfl rfl (by kernel_rfl) (by kernel_rfl) (by kernel_rfl) (fun _ _ _ h => h) (Or.inl ⟨by rfl, ?_⟩) (by assumption) ?_
    rotate_left
    · (intro w hSw; (try dsimp only at hSw); (try go_split_ands); go_simp; try with_reducible rfl)
    try simp only [Act.put, List.setIfInBounds_toArray, List.set_cons_zero, List.set_cons_succ]
    refine take_in (i := 28) (v := ?_) (some 62) rfl rfl (by kernel_rfl) (by kernel_rfl) (by kernel_rfl) (fun _ _ _ h => h) (Or.inl ⟨by rfl, ?_⟩) (by assumption) ?_
    rotate_left
    · (intro w hSw; (try dsimp only at hSw); (try go_split_ands); go_simp; try with_reducible rfl)
    try simp only [Act.put, List.setIfInBounds_toArray, List.set_cons_zero, List.set_cons_succ]
    refine take_in (i := 29) (v := ?_) (some 63) rfl rfl (by kernel_rfl) (by kernel_rfl) (by kernel_rfl) (fun _ _ _ h => h) (Or.inl ⟨by rfl, ?_⟩) (by assumption) ?_
    rotate_left
    · (intro w hSw; (try dsimp only at hSw); (try go_split_ands); go_simp; try with_reducible rfl)
    try simp only [Act.put, List.setIfInBounds_toArray, List.set_cons_zero, List.set_cons_succ]
    refine take_in (i := 30) (v := ?_) (some 64) rfl rfl (by kernel_rfl) (by kernel_rfl) (by kernel_rfl) (fun _ _ _ h => h) (Or.inl ⟨by rfl, ?_⟩) (by assumption) ?_
    rotate_left
    · (intro w hSw; (try dsimp only at hSw); (try go_split_ands); go_simp; try with_reducible rfl)
    try simp only [Act.put, List.setIfInBounds_toArray, List.set_cons_zero, List.set_cons_succ]
    refine take_in (i := 31) (v := ?_) (some 65) rfl rfl (by kernel_rfl) (by kernel_rfl) (by kernel_rfl) (fun _ _ _ h => h) (Or.inl ⟨by rfl, ?_⟩) (by assumption) ?_
    rotate_left
    · (intro w hSw; (try dsimp only at hSw); (try go_split_ands); go_simp; try with_reducible rfl)
    try simp only [Act.put, List.setIfInBounds_toArray, List.set_cons_zero, List.set_cons_succ]
    refine take_in (i := 32) (v := ?_) (some 66) rfl rfl (by kernel_rfl) (by kernel_rfl) (by kernel_rfl) (fun _ _ _ h => h) (Or.inl ⟨by rfl, ?_⟩) (by assumption) ?_
    rotate_left
    · (intro w hSw; (try dsimp only at hSw); (try go_split_ands); go_simp; try with_reducible rfl)
    try simp only [Act.put, List.setIfInBounds_toArray, List.set_cons_zero, List.set_cons_succ]
    refine take_in (i := 33) (v := ?_) (some 67) rfl rfl (by kernel_rfl) (by kernel_rfl) (by kernel_rfl) (fun _ _ _ h => h) (Or.inl ⟨by rfl, ?_⟩) (by assumption) ?_
    rotate_left
    · (intro w hSw; (try dsimp only at hSw); (try go_split_ands); go_simp; try with_reducible rfl)
    try simp only [Act.put, List.setIfInBounds_toArray, List.set_cons_zero, List.set_cons_succ]
    refine take_in (i := 34) (v := ?_) (some 14) rfl rfl (by kernel_rfl) (by kernel_rfl) (by kernel_rfl) (fun _ _ _ h => h) (Or.inl ⟨by rfl, ?_⟩) (by assumption) ?_
    rotate_left
    · (intro w hSw; (try dsimp only at hSw); (try go_split_ands); go_simp; try with_reducible rfl)
    try simp only [Act.put, List.setIfInBounds_toArray, List.set_cons_zero, List.set_cons_succ]
    refine wpAnyH_done (by kernel_rfl) ?_ _
    go_wp2
    go_meet
    exact ⟨rfl, hHeld.1⟩
  case rest =>
    obtain ⟨rfl, hb6⟩ := hcut
    have I7 := Lib.hid (show Two w2.heap.size w2 w2.heap.size (a.length + 4) S w3.heap.size sl.length wc from ⟨D5.trans (hb6.mono D5.size), ⟨mk, hmkl, (M5.below hb6).weaken (Nat.le_refl _)⟩, by
      rcases SM5 with e | ⟨e, hm⟩
      · subst e; exact .inl ⟨rfl, by rw [S5.none_nil]; rfl⟩
      · exact .inr ⟨e, sl, rfl, (hm.below hb6).weaken (Nat.le_of_lt hg23)⟩⟩)
    have hne : w2.heap.size ≠ w3.heap.size := Nat.ne_of_lt hg23
    have hsll : (sl.length : Int) ≤ 140737488355328 := by
      have : (stripL b).length ≤ b.length := by unfold stripL; split <;> simp [List.length_take]
      rw [hsl] at this
      omega
    clear hb6 M5 SM5 S5 hT D5 hmk hsl hse hg23 hmkl
    have x0 := index_first
    have x1 := index_second
    go_wp2_with fail
    go_loopw [71] (fun i wr => ∃ k : Nat, k ≤ 2 ∧ i = .int .i64 k ∧ Two w2.heap.size w2 w2.heap.size (a.length + 4) S w3.heap.size sl.length wr) (fun i _ => 2 - (intOf i).toNat)
    case atStart => exact ⟨0, Nat.zero_le _, rfl, I7.out⟩
    case round =>
      obtain ⟨k, hk, rfl, hI⟩ := hrel
      rcases (show k = 0 ∨ k = 1 ∨ k = 2 by omega) with rfl | rfl | rfl
      · go_wp2_with fail
        go_loopw [17] (fun i wr => ∃ j : Nat, j ≤ a.length + 4 ∧ i = .int .i64 j ∧ Two w2.heap.size w2 w2.heap.size (a.length + 4) S w3.heap.size sl.length wr) (fun i _ => a.length + 4 - (intOf i).toNat)
        case atStart => exact ⟨0, Nat.zero_le _, rfl, hI⟩
        case round =>
          obtain ⟨j, hj, rfl, hJ⟩ := hrel
          by_cases hlt : j < a.length + 4
          · obtain ⟨x, q1, q2⟩ := hJ.cellm hlt
            have HV := Lib.hid (flip_val x)
            have HS := Lib.hid (hJ.setm hne j (x ^^^ 255))
            unfold bv at HS
            have i1 : (j : Int) < (a.length : Int) + 4 := by omega
            have i2 : (0 : Int) ≤ (j : Int) := by omega
            clear hJ hI
            go_wp2
            rw [HV.out]
            exact ⟨⟨j + 1, by omega, by go_num, HS.out⟩, by simp [intOf]; omega⟩
          · obtain rfl : j = a.length + 4 := by omega
            have i1 : ¬ ((a.length + 4 : Nat) : Int) < (a.length : Int) + 4 := by omega
            go_wp2
            exact ⟨⟨1, by omega, by go_num, hJ⟩, by simp [intOf]⟩
      · go_wp2_with fail
        go_loopw [17] (fun i wr => ∃ j : Nat, j ≤ sl.length ∧ i = .int .i64 j ∧ Two w2.heap.size w2 w2.heap.size (a.length + 4) S w3.heap.size sl.length wr) (fun i _ => sl.length - (intOf i).toNat)
        case atStart => exact ⟨0, Nat.zero_le _, rfl, hI⟩
        case round =>
          obtain ⟨j, hj, rfl, hJ⟩ := hrel
          by_cases hlt : j < sl.length
          · obtain ⟨rfl, x, q1, q2⟩ := hJ.cells hlt
            have HV := Lib.hid (flip_val x)
            have HS := Lib.hid (hJ.sets rfl hne j (x ^^^ 255))
            unfold bv at HS
            have i1 : (j : Int) < (sl.length : Int) := by omega
            have i2 : (0 : Int) ≤ (j : Int) := by omega
            clear hJ hI
            go_wp2
            rw [HV.out]
            exact ⟨⟨j + 1, by omega, by go_num, HS.out⟩, by simp [intOf]; omega⟩
          · obtain rfl : j = sl.length := by omega
            go_wp2
            exact ⟨⟨2, by omega, by go_num, hJ⟩, by simp [intOf]⟩
      · have hb8 := hI.1
        have p1 := conv_text wr X a cx (X2.below hb8)
        have p2 := conv_text wr A a ca ((HA.out.below B2.out).below hb8)
        have p3 := conv_text wr Y b cy (hY.below hb8)
        have p4 := conv_text wr B b cb ((HB.out.below B2.out).below hb8)
        have E8 := Lib.hid (E2.below hb8)
        have B8 := Lib.hid (B2.out.trans (hb8.mono s2))
        clear hb8 hI
        go_wp2_with fail
        refine (wakes_any _ E8.out).mono ?_
        rintro e w9 ⟨rfl, hb9⟩
        have B9 := Lib.hid (B8.out.trans (hb9.mono B8.out.size))
        clear hb9
        go_wp2
        go_ret
        exact ⟨rfl, B9.out⟩
end Go.Proofs.YtgaipgpendemfaaDoor
