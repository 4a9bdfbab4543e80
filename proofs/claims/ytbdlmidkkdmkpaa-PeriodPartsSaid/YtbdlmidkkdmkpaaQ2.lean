/- The statement PeriodParts, walked. -/
import Derived.Test.YtbdlmidkkdmkpaaP13
import Derived.Test.YtbdlmidkkdmkpaaK1
import Derived.Test.YtbdlmidkkdmkpaaQ1
namespace Go.Proofs.Ytbdlmidkkdmkpaa
open Go.RowKit
theorem wpAnyH_skipd {P : Program} {ops : Array Oper} {Q : Exit → Act → World → Prop} {md : Region.Mode} {S : World → Prop} (hs : Region.noSelect ops = true) (hQ : ∀ c (a : Act) (d : Option Tmp) w, Q (.panic c) (a.put d undef) w → Q (.panic c) a w)
    (us ds : List Nat) (fuel k : Nat) (hk : us.length = k) (listed l' : Array Bool) (a : Act) (w : World) (hm : maySkip md ops listed a.tmps us = true) (he : skipped ops a us = ds.foldl (fun a d => a.put (some d) undef) a) (hl : skipListed listed us = l') (hS : S w)
    (h : wpAnyH P md ops Q S fuel l' (ds.foldl (fun a d => a.put (some d) undef) a) w) : wpAnyH P md ops Q S (fuel + k) listed a w := by
  subst hk hl
  exact wpAnyH_skip hs hQ us fuel listed a w hm hS (by rw [he]; exact h)
def totL (n : Int) (L : List (Int × Int)) (x : Int) (k : Nat) : Int := n + cntL L x k
theorem tot_zero (n : Int) (L : List (Int × Int)) (x : Int) : totL n L x 0 = n := by rw [totL, cnt_zero', Int.add_zero]
theorem tot_no {n : Int} {L : List (Int × Int)} {x y z : Int} {k : Nat} (h : k < L.length) (hy : L[k].1 = y) (hz : L[k].2 = z) (hn : hasB y z x = false) : totL n L x (k + 1) = totL n L x k := by
  subst hy hz
  rw [totL, totL, cnt_succ L x k h, hn]
  simp
theorem tot_yes {n : Int} {L : List (Int × Int)} {x y z : Int} {k : Nat} (h : k < L.length) (hy : L[k].1 = y) (hz : L[k].2 = z) (hn : hasB y z x = true) : totL n L x (k + 1) = totL n L x k + 1 := by
  subst hy hz
  rw [totL, totL, cnt_succ L x k h, hn]
  simp
  omega
theorem last_is {L : List (Int × Int)} {z : Int} {k : Nat} (h : k < L.length) (hz : L[k].2 = z) : lastL L (k + 1) = z := hz ▸ last_succ L k h
/-- Five instants in a row. -/
def Row5 (w : World) (g : Nat) : Prop := ∀ i, i < 5 → ∃ x : Int, w.cell? ⟨g, i, none⟩ = some (.int .u64 x)
set_option maxRecDepth 100000 in
set_option maxHeartbeats 40000000 in
theorem Parts_walk (a b c d t : Int) (w : World) (ha : 0 ≤ a) (hb : 0 ≤ b) (hc : 0 ≤ c) (hd : 0 ≤ d) (ht0 : 0 ≤ t) :
    Calls Try.prog 7 #[.agg #[.int .u64 a, .int .u64 b], .agg #[.int .u64 c, .int .u64 d], .int .u64 t] w fun e w' => e = .returned (.bool true) ∧ Below w.heap.size w w' := by
  have CM := Lib.hid (Meet_any a b c d)
  have CN := Lib.hid (Minus_any a b c d)
  have CH := Lib.hid (Hull_any a b c d)
  have HP := Lib.hid (P_any 0 0)
  have AW := Lib.hid awake_any
  have CP := Lib.hid (May_any a b)
  have CQ := Lib.hid (May_any c d)
  have TP := Lib.hid (fun x => Has_any a b x)
  have TQ := Lib.hid (fun x => Has_any c d x)
  have TM := Lib.hid (fun x => Has_any (meetF a b c d) (meetT a b c d) x)
  have TH := Lib.hid (fun x => Has_any (hullF a b c d) (hullT a b c d) x)
  have CMM := Lib.hid (May_any (meetF a b c d) (meetT a b c d))
  have A1 := Lib.hid (fun h : meetB a b c d = true => meet_may2 h)
  have A2 := Lib.hid (fun h : meetB a b c d = false => meet_no h)
  have A3 := Lib.hid (fun x => has_meet a b c d x)
  have A4 := Lib.hid (fun x k h => minus_each a b c d x k h)
  have A5 := Lib.hid (fun x => minus_count a b c d x)
  have A6 := Lib.hid (fun x k => cnt_le a b c d x k)
  have A7 := Lib.hid (fun x (h : bothB a b c d = true) hx => hull_has (x := x) h hx)
  have A8 := Lib.hid (fun h : bothB a b c d = true => hull_ends h)
  have A9 := Lib.hid (fun h : bothB a b c d = true => (hull_yes h).2.2)
  have A10 := Lib.hid (fun h : bothB a b c d = false => (hull_no h).2.2)
  have A11 := Lib.hid (show bothB a b c d = (mayB a b && mayB c d) from rfl)
  have A12 := Lib.hid (fun x (h : hasB a b x = true) => show mayB a b = true by rw [may_iff]; exact (has_iff.1 h).1)
  have A13 := Lib.hid (fun x (h : hasB c d x = true) => show mayB c d = true by rw [may_iff]; exact (has_iff.1 h).1)
  have hL := minus_length a b c d
  generalize meetF a b c d = mf at *
  generalize meetT a b c d = mt at *
  generalize meetB a b c d = mb at *
  generalize hullF a b c d = hf at *
  generalize hullT a b c d = ht at *
  generalize badE a b c d = be at *
  generalize bothB a b c d = bo at *
  generalize mayB a b = mp at *
  generalize mayB c d = mq at *
  generalize minusL a b c d = L at *
  go_enter Try.func7, Try.ntmps7
  go_upto_region 2 with fail
  obtain ⟨w0, hw0⟩ : ∃ w0, (w.alloc (.cells #[.int .u64 a, .int .u64 b] 24)).alloc (.cells #[.int .u64 c, .int .u64 d] 24) = w0 := ⟨_, rfl⟩
  have XP : Box w0 w.heap.size a b := by rw [← hw0]; exact Box.alloc (box_at _ _ _ _ _ rfl) _
  have XQ : Box w0 (w.heap.size + 1) c d := by rw [← hw0]; exact box_at _ _ _ _ _ (by simp)
  have BW : Below w.heap.size w w0 := by rw [← hw0]; exact ((Below.refl _ _).alloc (Nat.le_refl _) _).alloc (by simp) _
  try rw [hw0]
  clear hw0
  go_cut [32, 33, 34] (fun v n i w' => n = .int .i64 5 ∧ i = .int .i64 0 ∧ (∃ g, v = .slice (some ⟨g, 0, none⟩) 5 5 ∧ Row5 w' g ∧ g < w'.heap.size) ∧ Box w' w.heap.size a b ∧ Box w' (w.heap.size + 1) c d ∧ Below w.heap.size w w')
  case first => as_aux_lemma =>
    obtain ⟨p0, p1, p2, p3⟩ := XP
    obtain ⟨q0, q1, q2, q3⟩ := XQ
    go_wp2
    go_meet
    refine ⟨rfl, rfl, ⟨_, rfl, ?_, by simp⟩, Box.alloc ⟨p0, p1, p2, p3⟩ _, Box.alloc ⟨q0, q1, q2, q3⟩ _, BW.alloc (by have := BW.size; omega) _⟩
    intro i hi
    match i, hi with
    | 0, _ => exact ⟨_, by go_simp; rfl⟩
    | 1, _ => exact ⟨_, by go_simp; rfl⟩
    | 2, _ => exact ⟨_, by go_simp; rfl⟩
    | 3, _ => exact ⟨_, by go_simp; rfl⟩
    | 4, _ => exact ⟨_, by go_simp; rfl⟩
  case rest => as_aux_lemma =>
  clear XP XQ BW w0
  obtain ⟨rfl, rfl, ⟨gi, rfl, hr5, lgi⟩, XP, XQ, BW⟩ := hcut
  obtain ⟨w0, rfl⟩ : ∃ w0 : World, w0 = wc := ⟨_, rfl⟩
  have K0 := Lib.hid (fun wk (hb : Below w0.heap.size w0 wk) => (⟨XP.below hb, XQ.below hb⟩ : Box wk w.heap.size a b ∧ Box wk (w.heap.size + 1) c d))
  have K1 := Lib.hid (fun wk (hb : Below w0.heap.size w0 wk) i (hi : i < 5) => (by obtain ⟨x, hx⟩ := hr5 i hi; exact ⟨x, (hb.cell (p := ⟨gi, i, none⟩) lgi).trans hx⟩ : ∃ x : Int, wk.cell? ⟨gi, i, none⟩ = some (.int .u64 x)))
  have BW0 := Lib.hid BW
  clear XP XQ BW hr5 lgi
  go_wp2
  go_loopw [34] (fun v wr => ∃ k : Nat, k ≤ 5 ∧ v = .int .i64 k ∧ Below w0.heap.size w0 wr) (fun v _ => 5 - (intOf v).toNat)
  case atStart => exact ⟨0, by omega, rfl, Below.refl _ _⟩
  case round =>
    obtain ⟨k, hk, rfl, hb⟩ := hrel
    obtain ⟨w1, rfl⟩ : ∃ w1 : World, w1 = wr := ⟨_, rfl⟩
    have B1 := Lib.hid hb
    clear hb
    by_cases hlt : k < 5
    · obtain ⟨x, hx⟩ := K1.out _ B1.out k hlt
      have i0 : (k : Int) < 5 := by omega
      have i1 : (0 : Int) ≤ (k : Int) := by omega
      have TPx := Lib.hid (TP.out x)
      have TQx := Lib.hid (TQ.out x)
      have TMx := Lib.hid (TM.out x)
      have THx := Lib.hid (TH.out x)
      have cm := A3.out x
      rw [cm] at TMx
      clear cm
      have A4x := Lib.hid (A4.out x)
      have A5x := Lib.hid (A5.out x)
      have A6x := Lib.hid (A6.out x)
      have A7x := Lib.hid (A7.out x)
      have A12x := Lib.hid (A12.out x)
      have A13x := Lib.hid (A13.out x)
      clear A3 A4 A5 A6 A7 A12 A13
      generalize hasB a b x = hp at *
      generalize hasB c d x = hq at *
      generalize hasB hf ht x = hh at *
      obtain ⟨⟨p0, p1, p2, p3⟩, q0, q1, q2, q3⟩ := K0.out _ B1.out
      go_wp2_with fail
      refine (CM.out _).mono ?_
      rintro e w2 ⟨rfl, hb2⟩
      have B2 := Lib.hid (B1.out.trans (hb2.mono B1.out.size))
      clear p0 p1 p2 p3 q0 q1 q2 q3
      clear hx
      obtain ⟨gm, hgm⟩ : ∃ gm, w2.heap.size = gm := ⟨_, rfl⟩
      obtain ⟨w3, hw3⟩ : ∃ w3, w2.alloc (.cells #[.int .u64 mf, .int .u64 mt] 24) = w3 := ⟨_, rfl⟩
      have X3 : Hid (Box w3 gm mf mt) := Lib.hid (by rw [← hw3]; exact box_at _ _ _ _ _ hgm)
      have B3 : Hid (Below w0.heap.size w0 w3) := Lib.hid (by rw [← hw3]; exact B2.out.alloc B2.out.size _)
      go_upto_region 7 with fail
      try rw [hw3]
      try rw [hgm]
      clear hw3 hgm hb2
      go_cut [58] (fun v w' => v = .bool false ∧ Box w' gm mf mt ∧ Below w0.heap.size w0 w')
      case first => as_aux_lemma =>
        cases mb
        · have em := A2.out rfl
          obtain ⟨rfl, rfl⟩ := em
          have KM := Lib.hid (fun wk (hb : Below w3.heap.size w3 wk) => (⟨hb, (X3.out.below hb).c0, (X3.out.below hb).c1⟩ : Below w3.heap.size w3 wk ∧ wk.cell? ⟨gm, 0, none⟩ = some (.int .u64 0) ∧ wk.cell? ⟨gm, 1, none⟩ = some (.int .u64 0)))
          refine wp_region_held_drew (S := (fun wk => Below w3.heap.size w3 wk ∧ wk.cell? ⟨gm, 0, none⟩ = some (.int .u64 0) ∧ wk.cell? ⟨gm, 1, none⟩ = some (.int .u64 0))) (by kernel_rfl) (KM.out _ (Below.refl _ _).drew) (fun hHeld => ?_)
          refine take_in (i := 0) (v := ?_) (some 44) rfl rfl (by kernel_rfl) (by kernel_rfl) (by kernel_rfl) (fun _ _ _ h => h) (Or.inl ⟨by rfl, ?_⟩) (by assumption) ?_
          rotate_left
          · (intro w hSw; (try dsimp only at hSw); (try go_split_ands); go_simp; try with_reducible rfl)
          try simp only [Act.put, List.setIfInBounds_toArray, List.set_cons_zero, List.set_cons_succ]
          refine take_in (i := 1) (v := ?_) (some 45) rfl rfl (by kernel_rfl) (by kernel_rfl) (by kernel_rfl) (fun _ _ _ h => h) (Or.inl ⟨by rfl, ?_⟩) (by assumption) ?_
          rotate_left
          · (intro w hSw; (try dsimp only at hSw); (try go_split_ands); go_simp; try with_reducible rfl)
          try simp only [Act.put, List.setIfInBounds_toArray, List.set_cons_zero, List.set_cons_succ]
          refine wpAnyH_skipd (by kernel_rfl) (fun _ _ d _ h => by cases d <;> exact h) [2, 3, 4] [46, 47, 48] 10 3 rfl _ _ _ _ (by kernel_rfl) (by kernel_rfl) rfl (by assumption) ?_
          try simp only [List.foldl_cons, List.foldl_nil, Act.put, List.setIfInBounds_toArray, List.set_cons_zero, List.set_cons_succ]
          refine take_in (i := 5) (v := ?_) (some 49) rfl rfl (by kernel_rfl) (by kernel_rfl) (by kernel_rfl) (fun _ _ _ h => h) (Or.inl ⟨by rfl, ?_⟩) (by assumption) ?_
          rotate_left
          · (intro w hSw; (try dsimp only at hSw); (try go_split_ands); go_simp; try with_reducible rfl)
          try simp only [Act.put, List.setIfInBounds_toArray, List.set_cons_zero, List.set_cons_succ]
          refine take_in (i := 6) (v := ?_) (some 50) rfl rfl (by kernel_rfl) (by kernel_rfl) (by kernel_rfl) (fun _ _ _ h => h) (Or.inl ⟨by rfl, ?_⟩) (by assumption) ?_
          rotate_left
          · (intro w hSw; (try dsimp only at hSw); (try go_split_ands); go_simp; try with_reducible rfl)
          try simp only [Act.put, List.setIfInBounds_toArray, List.set_cons_zero, List.set_cons_succ]
          refine take_in (i := 7) (v := ?_) (some 51) rfl rfl (by kernel_rfl) (by kernel_rfl) (by kernel_rfl) (fun _ _ _ h => h) (Or.inl ⟨by rfl, ?_⟩) (by assumption) ?_
          rotate_left
          · (intro w hSw; (try dsimp only at hSw); (try go_split_ands); go_simp; try with_reducible rfl)
          try simp only [Act.put, List.setIfInBounds_toArray, List.set_cons_zero, List.set_cons_succ]
          refine take_in (i := 8) (v := ?_) (some 52) rfl rfl (by kernel_rfl) (by kernel_rfl) (by kernel_rfl) (fun _ _ _ h => h) (Or.inl ⟨by rfl, ?_⟩) (by assumption) ?_
          rotate_left
          · (intro w hSw; (try dsimp only at hSw); (try go_split_ands); go_simp; try with_reducible rfl)
          try simp only [Act.put, List.setIfInBounds_toArray, List.set_cons_zero, List.set_cons_succ]
          refine take_in (i := 9) (v := ?_) (some 53) rfl rfl (by kernel_rfl) (by kernel_rfl) (by kernel_rfl) (fun _ _ _ h => h) (Or.inl ⟨by rfl, ?_⟩) (by assumption) ?_
          rotate_left
          · (intro w hSw; (try dsimp only at hSw); (try go_split_ands); go_simp; try with_reducible rfl)
          try simp only [Act.put, List.setIfInBounds_toArray, List.set_cons_zero, List.set_cons_succ]
          refine take_in (i := 10) (v := ?_) (some 54) rfl rfl (by kernel_rfl) (by kernel_rfl) (by kernel_rfl) (fun _ _ _ h => h) (Or.inl ⟨by rfl, ?_⟩) (by assumption) ?_
          rotate_left
          · (intro w hSw; (try dsimp only at hSw); (try go_split_ands); go_simp; try with_reducible rfl)
          try simp only [Act.put, List.setIfInBounds_toArray, List.set_cons_zero, List.set_cons_succ]
          refine wpAnyH_ready (rs := [11]) (by kernel_rfl) (by simp) ?_
          refine AllReadyH.cons rfl (fun K hK => ?_) AllReadyH.nil
          go_simp
          refine (HP.out _).mono ?_
          rintro e a1 ⟨rfl, p1⟩
          have hB := hHeld.1.trans (p1.mono hHeld.1.size)
          go_wp2_with fail
          refine hK.out _ _ (KM.out _ hB) (fun hHeld => ?_)
          clear hK K
          try simp only [Act.put, List.setIfInBounds_toArray, List.set_cons_zero, List.set_cons_succ]
          refine take_in (i := 12) (v := ?_) (some 56) rfl rfl (by kernel_rfl) (by kernel_rfl) (by kernel_rfl) (fun _ _ _ h => h) (Or.inl ⟨by rfl, ?_⟩) (by assumption) ?_
          rotate_left
          · (intro w hSw; (try dsimp only at hSw); (try go_split_ands); go_simp; try with_reducible rfl)
          try simp only [Act.put, List.setIfInBounds_toArray, List.set_cons_zero, List.set_cons_succ]
          refine take_in (i := 13) (v := ?_) (some 57) rfl rfl (by kernel_rfl) (by kernel_rfl) (by kernel_rfl) (fun _ _ _ h => h) (Or.inl ⟨by rfl, ?_⟩) (by assumption) ?_
          rotate_left
          · (intro w hSw; (try dsimp only at hSw); (try go_split_ands); go_simp; try with_reducible rfl)
          try simp only [Act.put, List.setIfInBounds_toArray, List.set_cons_zero, List.set_cons_succ]
          refine take_in (i := 14) (v := ?_) (some 58) rfl rfl (by kernel_rfl) (by kernel_rfl) (by kernel_rfl) (fun _ _ _ h => h) (Or.inl ⟨by rfl, ?_⟩) (by assumption) ?_
          rotate_left
          · (intro w hSw; (try dsimp only at hSw); (try go_split_ands); go_simp; try with_reducible rfl)
          try simp only [Act.put, List.setIfInBounds_toArray, List.set_cons_zero, List.set_cons_succ]
          refine wpAnyH_done (by kernel_rfl) ?_ _
          go_wp2
          go_meet
          exact ⟨rfl, X3.out.below hHeld.1, B3.out.trans (hHeld.1.mono B3.out.size)⟩
        · have em := A1.out rfl
          rw [em] at CMM
          have KM := Lib.hid (fun wk (hb : Below w3.heap.size w3 wk) => (⟨hb, (X3.out.below hb).c0, (X3.out.below hb).c1⟩ : Below w3.heap.size w3 wk ∧ wk.cell? ⟨gm, 0, none⟩ = some (.int .u64 mf) ∧ wk.cell? ⟨gm, 1, none⟩ = some (.int .u64 mt)))
          refine wp_region_held_drew (S := (fun wk => Below w3.heap.size w3 wk ∧ wk.cell? ⟨gm, 0, none⟩ = some (.int .u64 mf) ∧ wk.cell? ⟨gm, 1, none⟩ = some (.int .u64 mt))) (by kernel_rfl) (KM.out _ (Below.refl _ _).drew) (fun hHeld => ?_)
          refine take_in (i := 0) (v := ?_) (some 44) rfl rfl (by kernel_rfl) (by kernel_rfl) (by kernel_rfl) (fun _ _ _ h => h) (Or.inl ⟨by rfl, ?_⟩) (by assumption) ?_
          rotate_left
          · (intro w hSw; (try dsimp only at hSw); (try go_split_ands); go_simp; try with_reducible rfl)
          try simp only [Act.put, List.setIfInBounds_toArray, List.set_cons_zero, List.set_cons_succ]
          refine take_in (i := 1) (v := ?_) (some 45) rfl rfl (by kernel_rfl) (by kernel_rfl) (by kernel_rfl) (fun _ _ _ h => h) (Or.inl ⟨by rfl, ?_⟩) (by assumption) ?_
          rotate_left
          · (intro w hSw; (try dsimp only at hSw); (try go_split_ands); go_simp; try with_reducible rfl)
          try simp only [Act.put, List.setIfInBounds_toArray, List.set_cons_zero, List.set_cons_succ]
          refine take_in (i := 2) (v := ?_) (some 46) rfl rfl (by kernel_rfl) (by kernel_rfl) (by kernel_rfl) (fun _ _ _ h => h) (Or.inl ⟨by rfl, ?_⟩) (by assumption) ?_
          rotate_left
          · (intro w hSw; (try dsimp only at hSw); (try go_split_ands); go_simp; try with_reducible rfl)
          try simp only [Act.put, List.setIfInBounds_toArray, List.set_cons_zero, List.set_cons_succ]
          refine wpAnyH_ready (rs := [3]) (by kernel_rfl) (by simp) ?_
          refine AllReadyH.cons rfl (fun K hK => ?_) AllReadyH.nil
          go_simp
          refine (CMM.out _).mono ?_
          rintro e a1 ⟨rfl, p1⟩
          have hB := hHeld.1.trans (p1.mono hHeld.1.size)
          go_wp2_with fail
          refine hK.out _ _ (KM.out _ hB) (fun hHeld => ?_)
          clear hK K
          try simp only [Act.put, List.setIfInBounds_toArray, List.set_cons_zero, List.set_cons_succ]
          refine take_in (i := 4) (v := ?_) (some 48) rfl rfl (by kernel_rfl) (by kernel_rfl) (by kernel_rfl) (fun _ _ _ h => h) (Or.inl ⟨by rfl, ?_⟩) (by assumption) ?_
          rotate_left
          · (intro w hSw; (try dsimp only at hSw); (try go_split_ands); go_simp; try with_reducible rfl)
          try simp only [Act.put, List.setIfInBounds_toArray, List.set_cons_zero, List.set_cons_succ]
          refine take_in (i := 5) (v := ?_) (some 49) rfl rfl (by kernel_rfl) (by kernel_rfl) (by kernel_rfl) (fun _ _ _ h => h) (Or.inl ⟨by rfl, ?_⟩) (by assumption) ?_
          rotate_left
          · (intro w hSw; (try dsimp only at hSw); (try go_split_ands); go_simp; try with_reducible rfl)
          try simp only [Act.put, List.setIfInBounds_toArray, List.set_cons_zero, List.set_cons_succ]
          refine take_in (i := 6) (v := ?_) (some 50) rfl rfl (by kernel_rfl) (by kernel_rfl) (by kernel_rfl) (fun _ _ _ h => h) (Or.inl ⟨by rfl, ?_⟩) (by assumption) ?_
          rotate_left
          · (intro w hSw; (try dsimp only at hSw); (try go_split_ands); go_simp; try with_reducible rfl)
          try simp only [Act.put, List.setIfInBounds_toArray, List.set_cons_zero, List.set_cons_succ]
          refine take_in (i := 7) (v := ?_) (some 51) rfl rfl (by kernel_rfl) (by kernel_rfl) (by kernel_rfl) (fun _ _ _ h => h) (Or.inl ⟨by rfl, ?_⟩) (by assumption) ?_
          rotate_left
          · (intro w hSw; (try dsimp only at hSw); (try go_split_ands); go_simp; try with_reducible rfl)
          try simp only [Act.put, List.setIfInBounds_toArray, List.set_cons_zero, List.set_cons_succ]
          refine take_in (i := 8) (v := ?_) (some 52) rfl rfl (by kernel_rfl) (by kernel_rfl) (by kernel_rfl) (fun _ _ _ h => h) (Or.inl ⟨by rfl, ?_⟩) (by assumption) ?_
          rotate_left
          · (intro w hSw; (try dsimp only at hSw); (try go_split_ands); go_simp; try with_reducible rfl)
          try simp only [Act.put, List.setIfInBounds_toArray, List.set_cons_zero, List.set_cons_succ]
          refine take_in (i := 9) (v := ?_) (some 53) rfl rfl (by kernel_rfl) (by kernel_rfl) (by kernel_rfl) (fun _ _ _ h => h) (Or.inl ⟨by rfl, ?_⟩) (by assumption) ?_
          rotate_left
          · (intro w hSw; (try dsimp only at hSw); (try go_split_ands); go_simp; try with_reducible rfl)
          try simp only [Act.put, List.setIfInBounds_toArray, List.set_cons_zero, List.set_cons_succ]
          refine wpAnyH_skipd (by kernel_rfl) (fun _ _ d _ h => by cases d <;> exact h) [10, 11, 12] [54, 55, 56] 2 3 rfl _ _ _ _ (by kernel_rfl) (by kernel_rfl) rfl (by assumption) ?_
          try simp only [List.foldl_cons, List.foldl_nil, Act.put, List.setIfInBounds_toArray, List.set_cons_zero, List.set_cons_succ]
          refine take_in (i := 13) (v := ?_) (some 57) rfl rfl (by kernel_rfl) (by kernel_rfl) (by kernel_rfl) (fun _ _ _ h => h) (Or.inl ⟨by rfl, ?_⟩) (by assumption) ?_
          rotate_left
          · (intro w hSw; (try dsimp only at hSw); (try go_split_ands); go_simp; try with_reducible rfl)
          try simp only [Act.put, List.setIfInBounds_toArray, List.set_cons_zero, List.set_cons_succ]
          refine take_in (i := 14) (v := ?_) (some 58) rfl rfl (by kernel_rfl) (by kernel_rfl) (by kernel_rfl) (fun _ _ _ h => h) (Or.inl ⟨by rfl, ?_⟩) (by assumption) ?_
          rotate_left
          · (intro w hSw; (try dsimp only at hSw); (try go_split_ands); go_simp; try with_reducible rfl)
          try simp only [Act.put, List.setIfInBounds_toArray, List.set_cons_zero, List.set_cons_succ]
          refine wpAnyH_done (by kernel_rfl) ?_ _
          go_wp2
          go_meet
          exact ⟨rfl, X3.out.below hHeld.1, B3.out.trans (hHeld.1.mono B3.out.size)⟩
      case rest => as_aux_lemma =>
        obtain ⟨rfl, x4, b4⟩ := hcut
        obtain ⟨w4, rfl⟩ : ∃ w4 : World, w4 = wc := ⟨_, rfl⟩
        have B4 := Lib.hid b4
        have X4 := Lib.hid x4
        clear b4 x4 X3 B3 CMM A1 A2 HP B2
        obtain ⟨m0, m1, m2, m3⟩ := X4.out
        cases hm : (hp && hq)
        · rw [hm] at TMx
          go_wp2_with fail
          refine (TMx.out _).mono ?_
          rintro e w5 ⟨rfl, hb5⟩
          have B5 := Lib.hid (B4.out.trans (hb5.mono B4.out.size))
          clear m0 m1 m2 m3 X4 hb5
          obtain ⟨⟨p0, p1, p2, p3⟩, q0, q1, q2, q3⟩ := K0.out _ B5.out
          go_wp2_with fail
          refine (CN.out _).mono ?_
          rintro e w6 ⟨A, cp, rfl, hA, hb6⟩
          have B6 := Lib.hid (B5.out.trans (hb6.mono B5.out.size))
          clear p0 p1 p2 p3 q0 q1 q2 q3
          have HA := Lib.hid hA
          clear hA hb6
          go_wp2
          go_loopw [9, 12, 78] (fun n l v wr => ∃ j : Nat, j ≤ L.length ∧ v = .int .i64 j ∧ n = .int .i64 (totL 0 L x j) ∧ l = .int .u64 (lastL L j) ∧ Below w6.heap.size w6 wr) (fun _ _ v _ => L.length - (intOf v).toNat)
          case atStart => exact ⟨0, by omega, rfl, by rw [tot_zero], rfl, Below.refl _ _⟩
          case round =>
            obtain ⟨j, hj, rfl, rfl, rfl, hb⟩ := hrel
            obtain ⟨w7, rfl⟩ : ∃ w7 : World, w7 = wr := ⟨_, rfl⟩
            have C7 := Lib.hid hb
            have B7 := Lib.hid (B6.out.trans (hb.mono B6.out.size))
            clear hb
            have hn : 0 ≤ totL 0 L x j ∧ totL 0 L x j ≤ 3 := by have h6 := A6x.out j; unfold totL; omega
            by_cases hj2 : j < L.length
            · obtain ⟨g, rfl, lg, cg⟩ := (HA.out.below C7.out) (by omega)
              obtain ⟨x0, x1⟩ := cg j hj2
              obtain ⟨e1, e2, e3⟩ := A4x.out j hj2
              obtain ⟨y, hy⟩ : ∃ y, L[j].1 = y := ⟨_, rfl⟩
              obtain ⟨z, hz⟩ : ∃ z, L[j].2 = z := ⟨_, rfl⟩
              have C0 := Lib.hid (fun h => tot_no (n := 0) (x := x) hj2 hy hz h)
              have C1 := Lib.hid (fun h => tot_yes (n := 0) (x := x) hj2 hy hz h)
              have C2 := Lib.hid (last_is hj2 hz)
              rw [hy] at x0
              rw [hz] at x1
              rw [hy, hz] at e1 e3
              rw [hy] at e2
              clear hy hz
              generalize totL 0 L x j = cj at *
              generalize lastL L j = la at *
              have j0 : (j : Int) < (L.length : Int) := by omega
              have j1 : (0 : Int) ≤ (j : Int) := by omega
              have MY := May_any y z
              rw [e1] at MY
              have MY := Lib.hid MY
              have HY := Lib.hid (Has_any y z x)
              generalize hasB y z x = hv at *
              have E2 := Lib.hid e2
              have E3 := Lib.hid e3
              clear e1 e2 e3 cg lg
              obtain ⟨gx, hgx⟩ : ∃ gx, w7.heap.size = gx := ⟨_, rfl⟩
              obtain ⟨w8, hw8⟩ : ∃ w8, w7.alloc (.cells #[.int .u64 y, .int .u64 z] 24) = w8 := ⟨_, rfl⟩
              have X8 : Hid (Box w8 gx y z) := Lib.hid (by rw [← hw8]; exact box_at _ _ _ _ _ hgx)
              have B8 : Hid (Below w6.heap.size w6 w8) := Lib.hid (by rw [← hw8]; exact C7.out.alloc C7.out.size _)
              go_upto_region 17 with fail
              try rw [hw8]
              try rw [hgx]
              clear hw8 hgx x0 x1
              go_cut [95] (fun v w' => v = .bool false ∧ Box w' gx y z ∧ Below w6.heap.size w6 w')
              case first => as_aux_lemma =>
                obtain ⟨x0, x1, x2, x3⟩ := X8.out
                go_wp2_with fail
                refine (MY.out _).mono ?_
                rintro e w9 ⟨rfl, hb9⟩
                obtain ⟨x4, x5, x6, x7⟩ := X8.out.below hb9
                clear x0 x1 x2 x3
                rcases Nat.eq_zero_or_pos j with hj3 | hj3
                · have e4 : (j : Int) ≤ 0 := by omega
                  clear hj3
                  go_wp2
                  go_meet
                  exact ⟨rfl, ⟨x4, x5, x6, x7⟩, B8.out.trans (hb9.mono B8.out.size)⟩
                · have e4 : decide ((0 : Int) < (j : Int)) = true := by simp; omega
                  have e5 : decide (y ≤ la) = false := by simpa using E2.out hj3
                  go_wp2
                  go_meet
                  exact ⟨by first | rfl | rw [e5], ⟨x4, x5, x6, x7⟩, B8.out.trans (hb9.mono B8.out.size)⟩
              case rest => as_aux_lemma =>
                obtain ⟨rfl, x9, b9⟩ := hcut
                obtain ⟨w9, rfl⟩ : ∃ w9 : World, w9 = wc := ⟨_, rfl⟩
                have C9 := Lib.hid b9
                have X9 := Lib.hid x9
                clear b9 x9 B8 X8 MY B7
                obtain ⟨x0, x1, x2, x3⟩ := X9.out
                go_wp2_with fail
                refine (HY.out _).mono ?_
                rintro e w10 ⟨rfl, hb10⟩
                have C10 := Lib.hid (C9.out.trans (hb10.mono C9.out.size))
                clear x0 x1 x2 x3
                cases hv
                · go_wp2
                  exact ⟨⟨j + 1, by omega, by go_num, by rw [C0.out (by first | rfl | trivial)], by rw [C2.out], C10.out⟩, by simp [intOf]; omega⟩
                · have hq2 := E3.out rfl
                  rw [hq2] at TQx
                  have B10 := Lib.hid (B6.out.trans (C10.out.mono B6.out.size))
                  obtain ⟨⟨p0, p1, p2, p3⟩, q0, q1, q2, q3⟩ := K0.out _ B10.out
                  have c4 := C1.out rfl
                  have w1 : IntKind.i64.wrap (cj + 1) = cj + 1 := IntWalk.i64_in _ (by omega)
                  go_wp2_with fail
                  refine (TQx.out _).mono ?_
                  rintro e w11 ⟨rfl, hb11⟩
                  go_wp2
                  exact ⟨⟨j + 1, by omega, by go_num, by rw [c4], by rw [C2.out], C10.out.trans (hb11.mono C10.out.size)⟩, by simp [intOf]; omega⟩
            · obtain rfl : j = L.length := by omega
              have ct := A5x.out
              clear hj hj2 A4x A6x HA
              clear C7
              have hn1 : totL 0 L x L.length = oneIf hp := by rw [hm] at ct; exact ct
              generalize totL 0 L x L.length = nn at *
              clear ct hn
              go_upto_region 25 with fail
              go_cut [116] (fun v w' => v = .bool false ∧ Below w0.heap.size w0 w')
              case first => as_aux_lemma =>
                obtain ⟨⟨p0, p1, p2, p3⟩, q0, q1, q2, q3⟩ := K0.out _ B7.out
                cases hp
                · obtain rfl : nn = 0 := hn1
                  go_wp2_with fail
                  refine (TPx.out _).mono ?_
                  rintro e w8 ⟨rfl, hb8⟩
                  go_wp2
                  go_meet
                  exact ⟨rfl, B7.out.trans (hb8.mono B7.out.size)⟩
                · obtain rfl : nn = 1 := hn1
                  go_wp2_with fail
                  refine (TPx.out _).mono ?_
                  rintro e w8 ⟨rfl, hb8⟩
                  go_wp2
                  go_meet
                  exact ⟨rfl, B7.out.trans (hb8.mono B7.out.size)⟩
              case rest => as_aux_lemma =>
                clear B7 B6 hn1
                obtain ⟨rfl, b8⟩ := hcut
                obtain ⟨w8, rfl⟩ : ∃ w8 : World, w8 = wc := ⟨_, rfl⟩
                have B8 := Lib.hid b8
                clear b8
                obtain ⟨⟨p0, p1, p2, p3⟩, q0, q1, q2, q3⟩ := K0.out _ B8.out
                go_wp2_with fail
                refine (CH.out _).mono ?_
                rintro e w9 ⟨rfl, hb9⟩
                have B9 := Lib.hid (B8.out.trans (hb9.mono B8.out.size))
                clear p0 p1 p2 p3 q0 q1 q2 q3
                obtain ⟨gh, hgh⟩ : ∃ gh, w9.heap.size = gh := ⟨_, rfl⟩
                obtain ⟨w10, hw10⟩ : ∃ w10, w9.alloc (.cells #[.int .u64 hf, .int .u64 ht] 24) = w10 := ⟨_, rfl⟩
                have X10 : Hid (Box w10 gh hf ht) := Lib.hid (by rw [← hw10]; exact box_at _ _ _ _ _ hgh)
                have B10 : Hid (Below w0.heap.size w0 w10) := Lib.hid (by rw [← hw10]; exact B9.out.alloc B9.out.size _)
                go_upto_region 28 with fail
                try rw [hw10]
                try rw [hgh]
                clear hw10 hgh hb9
                go_cut [140] (fun v w' => v = .bool false ∧ Box w' gh hf ht ∧ Below w0.heap.size w0 w')
                case first => as_aux_lemma =>
                  have a11 := A11.out
                  obtain ⟨h0, h1, h2, h3⟩ := X10.out
                  obtain ⟨⟨p0, p1, p2, p3⟩, q0, q1, q2, q3⟩ := K0.out _ B10.out
                  cases bo
                  · obtain rfl : be = 1 := A10.out rfl
                    clear a11
                    go_wp2
                    go_meet
                    exact ⟨rfl, X10.out, B10.out⟩
                  · obtain rfl : be = 0 := A9.out rfl
                    have hh1 := A7x.out rfl
                    cases hp
                    · cases hq
                      · clear a11 hm
                        go_wp2_with fail
                        refine (TPx.out _).mono ?_
                        rintro e z0 ⟨rfl, u0⟩
                        have hbz := u0
                        clear h0 h1 h2 h3 p0 p1 p2 p3 q0 q1 q2 q3
                        obtain ⟨h0, h1, h2, h3⟩ := X10.out.below hbz
                        obtain ⟨⟨p0, p1, p2, p3⟩, q0, q1, q2, q3⟩ := K0.out _ (B10.out.trans (hbz.mono B10.out.size))
                        go_wp2_with fail
                        refine (TQx.out _).mono ?_
                        rintro e z1 ⟨rfl, u1⟩
                        have hbz := hbz.trans (u1.mono hbz.size)
                        clear h0 h1 h2 h3 p0 p1 p2 p3 q0 q1 q2 q3
                        obtain ⟨h0, h1, h2, h3⟩ := X10.out.below hbz
                        obtain ⟨⟨p0, p1, p2, p3⟩, q0, q1, q2, q3⟩ := K0.out _ (B10.out.trans (hbz.mono B10.out.size))
                        go_wp2
                        go_meet
                        exact ⟨rfl, X10.out.below hbz, B10.out.trans (hbz.mono B10.out.size)⟩
                      · have e6 := hh1 (.inr (by first | rfl | trivial))
                        rw [e6] at THx
                        clear a11 hm
                        go_wp2_with fail
                        refine (TPx.out _).mono ?_
                        rintro e z0 ⟨rfl, u0⟩
                        have hbz := u0
                        clear h0 h1 h2 h3 p0 p1 p2 p3 q0 q1 q2 q3
                        obtain ⟨h0, h1, h2, h3⟩ := X10.out.below hbz
                        obtain ⟨⟨p0, p1, p2, p3⟩, q0, q1, q2, q3⟩ := K0.out _ (B10.out.trans (hbz.mono B10.out.size))
                        go_wp2_with fail
                        refine (TQx.out _).mono ?_
                        rintro e z1 ⟨rfl, u1⟩
                        have hbz := hbz.trans (u1.mono hbz.size)
                        clear h0 h1 h2 h3 p0 p1 p2 p3 q0 q1 q2 q3
                        obtain ⟨h0, h1, h2, h3⟩ := X10.out.below hbz
                        obtain ⟨⟨p0, p1, p2, p3⟩, q0, q1, q2, q3⟩ := K0.out _ (B10.out.trans (hbz.mono B10.out.size))
                        go_wp2_with fail
                        refine (THx.out _).mono ?_
                        rintro e z2 ⟨rfl, u2⟩
                        have hbz := hbz.trans (u2.mono hbz.size)
                        clear h0 h1 h2 h3 p0 p1 p2 p3 q0 q1 q2 q3
                        obtain ⟨h0, h1, h2, h3⟩ := X10.out.below hbz
                        obtain ⟨⟨p0, p1, p2, p3⟩, q0, q1, q2, q3⟩ := K0.out _ (B10.out.trans (hbz.mono B10.out.size))
                        go_wp2
                        go_meet
                        exact ⟨rfl, X10.out.below hbz, B10.out.trans (hbz.mono B10.out.size)⟩
                    · have e6 := hh1 (.inl (by first | rfl | trivial))
                      rw [e6] at THx
                      clear a11 hm
                      go_wp2_with fail
                      refine (TPx.out _).mono ?_
                      rintro e z0 ⟨rfl, u0⟩
                      have hbz := u0
                      clear h0 h1 h2 h3 p0 p1 p2 p3 q0 q1 q2 q3
                      obtain ⟨h0, h1, h2, h3⟩ := X10.out.below hbz
                      obtain ⟨⟨p0, p1, p2, p3⟩, q0, q1, q2, q3⟩ := K0.out _ (B10.out.trans (hbz.mono B10.out.size))
                      go_wp2_with fail
                      refine (THx.out _).mono ?_
                      rintro e z1 ⟨rfl, u1⟩
                      have hbz := hbz.trans (u1.mono hbz.size)
                      clear h0 h1 h2 h3 p0 p1 p2 p3 q0 q1 q2 q3
                      obtain ⟨h0, h1, h2, h3⟩ := X10.out.below hbz
                      obtain ⟨⟨p0, p1, p2, p3⟩, q0, q1, q2, q3⟩ := K0.out _ (B10.out.trans (hbz.mono B10.out.size))
                      go_wp2
                      go_meet
                      exact ⟨rfl, X10.out.below hbz, B10.out.trans (hbz.mono B10.out.size)⟩
                case rest => as_aux_lemma =>
                  clear X10 B10 B9 B8
                  obtain ⟨rfl, x11, b11⟩ := hcut
                  obtain ⟨w11, rfl⟩ : ∃ w11 : World, w11 = wc := ⟨_, rfl⟩
                  have B11 := Lib.hid b11
                  have X11 := Lib.hid x11
                  clear b11 x11
                  go_upto_region 30 with fail
                  go_cut [170] (fun v w' => v = .bool false ∧ w11 = w')
                  case first => as_aux_lemma =>
                    obtain ⟨h0, h1, h2, h3⟩ := X11.out
                    obtain ⟨⟨p0, p1, p2, p3⟩, q0, q1, q2, q3⟩ := K0.out _ B11.out
                    cases bo
                    · obtain rfl : be = 1 := A10.out rfl
                      go_wp2
                      go_meet
                      exact ⟨rfl, rfl⟩
                    · obtain rfl : be = 0 := A9.out rfl
                      obtain ⟨v1, v2⟩ := A8.out rfl
                      by_cases y1 : hf = a <;> by_cases y2 : ht = b
                      · have z1 : (hf != a) = false := by simp [y1]
                        have z2 : (ht != b) = false := by simp [y2]
                        clear y1 y2 v1 v2
                        go_wp2
                        go_meet
                        exact ⟨rfl, rfl⟩
                      · have z1 : (hf != a) = false := by simp [y1]
                        have z2 : (ht != b) = true := by simp [y2]
                        have z4 : (ht != d) = false := by simp; omega
                        clear y1 y2 v1 v2
                        go_wp2
                        go_meet
                        exact ⟨rfl, rfl⟩
                      · have z1 : (hf != a) = true := by simp [y1]
                        have z3 : (hf != c) = false := by simp; omega
                        have z2 : (ht != b) = false := by simp [y2]
                        clear y1 y2 v1 v2
                        go_wp2
                        go_meet
                        exact ⟨rfl, rfl⟩
                      · have z1 : (hf != a) = true := by simp [y1]
                        have z3 : (hf != c) = false := by simp; omega
                        have z2 : (ht != b) = true := by simp [y2]
                        have z4 : (ht != d) = false := by simp; omega
                        clear y1 y2 v1 v2
                        go_wp2
                        go_meet
                        exact ⟨rfl, rfl⟩
                  case rest => as_aux_lemma =>
                    obtain ⟨rfl, rfl⟩ := hcut
                    clear X11
                    go_upto_region 32 with fail
                    go_cut [179] (fun v w' => v = .bool false ∧ Below w0.heap.size w0 w')
                    case first => as_aux_lemma =>
                      have a11 := A11.out
                      obtain ⟨⟨p0, p1, p2, p3⟩, q0, q1, q2, q3⟩ := K0.out _ B11.out
                      cases bo
                      · obtain rfl : be = 1 := A10.out rfl
                        cases mp
                        · clear a11 hm
                          go_wp2_with fail
                          refine (CP.out _).mono ?_
                          rintro e z0 ⟨rfl, u0⟩
                          have hbz := u0
                          clear p0 p1 p2 p3 q0 q1 q2 q3
                          obtain ⟨⟨p0, p1, p2, p3⟩, q0, q1, q2, q3⟩ := K0.out _ (B11.out.trans (hbz.mono B11.out.size))
                          go_wp2
                          go_meet
                          exact ⟨rfl, B11.out.trans (hbz.mono B11.out.size)⟩
                        · obtain rfl : mq = false := by simpa using a11.symm
                          clear a11 hm
                          go_wp2_with fail
                          refine (CP.out _).mono ?_
                          rintro e z0 ⟨rfl, u0⟩
                          have hbz := u0
                          clear p0 p1 p2 p3 q0 q1 q2 q3
                          obtain ⟨⟨p0, p1, p2, p3⟩, q0, q1, q2, q3⟩ := K0.out _ (B11.out.trans (hbz.mono B11.out.size))
                          go_wp2_with fail
                          refine (CQ.out _).mono ?_
                          rintro e z1 ⟨rfl, u1⟩
                          have hbz := hbz.trans (u1.mono hbz.size)
                          clear p0 p1 p2 p3 q0 q1 q2 q3
                          obtain ⟨⟨p0, p1, p2, p3⟩, q0, q1, q2, q3⟩ := K0.out _ (B11.out.trans (hbz.mono B11.out.size))
                          go_wp2
                          go_meet
                          exact ⟨rfl, B11.out.trans (hbz.mono B11.out.size)⟩
                      · obtain rfl : be = 0 := A9.out rfl
                        obtain ⟨rfl, rfl⟩ : mp = true ∧ mq = true := by simpa using a11.symm
                        clear a11 hm
                        go_wp2_with fail
                        refine (CP.out _).mono ?_
                        rintro e z0 ⟨rfl, u0⟩
                        have hbz := u0
                        clear p0 p1 p2 p3 q0 q1 q2 q3
                        obtain ⟨⟨p0, p1, p2, p3⟩, q0, q1, q2, q3⟩ := K0.out _ (B11.out.trans (hbz.mono B11.out.size))
                        go_wp2_with fail
                        refine (CQ.out _).mono ?_
                        rintro e z1 ⟨rfl, u1⟩
                        have hbz := hbz.trans (u1.mono hbz.size)
                        clear p0 p1 p2 p3 q0 q1 q2 q3
                        obtain ⟨⟨p0, p1, p2, p3⟩, q0, q1, q2, q3⟩ := K0.out _ (B11.out.trans (hbz.mono B11.out.size))
                        go_wp2
                        go_meet
                        exact ⟨rfl, B11.out.trans (hbz.mono B11.out.size)⟩
                    case rest => as_aux_lemma =>
                      obtain ⟨rfl, b12⟩ := hcut
                      obtain ⟨w12, rfl⟩ : ∃ w12 : World, w12 = wc := ⟨_, rfl⟩
                      go_wp2
                      exact ⟨⟨k + 1, by omega, by go_num, b12⟩, by simp [intOf]; omega⟩
        · obtain ⟨rfl, rfl⟩ : hp = true ∧ hq = true := by simpa using hm
          rw [hm] at TMx
          go_wp2_with fail
          refine (TMx.out _).mono ?_
          rintro e w41 ⟨rfl, hb41⟩
          have B41 := Lib.hid (B4.out.trans (hb41.mono B4.out.size))
          clear m0 m1 m2 m3 X4 hb41
          obtain ⟨⟨p0, p1, p2, p3⟩, q0, q1, q2, q3⟩ := K0.out _ B41.out
          go_wp2_with fail
          refine (TPx.out _).mono ?_
          rintro e w42 ⟨rfl, hb42⟩
          have B42 := Lib.hid (B41.out.trans (hb42.mono B41.out.size))
          clear p0 p1 p2 p3 q0 q1 q2 q3
          obtain ⟨⟨p0, p1, p2, p3⟩, q0, q1, q2, q3⟩ := K0.out _ B42.out
          go_wp2_with fail
          refine (TQx.out _).mono ?_
          rintro e w5 ⟨rfl, hb5⟩
          have B5 := Lib.hid (B42.out.trans (hb5.mono B42.out.size))
          clear p0 p1 p2 p3 q0 q1 q2 q3
          clear hb5 hb42
          obtain ⟨⟨p0, p1, p2, p3⟩, q0, q1, q2, q3⟩ := K0.out _ B5.out
          go_wp2_with fail
          refine (CN.out _).mono ?_
          rintro e w6 ⟨A, cp, rfl, hA, hb6⟩
          have B6 := Lib.hid (B5.out.trans (hb6.mono B5.out.size))
          clear p0 p1 p2 p3 q0 q1 q2 q3
          have HA := Lib.hid hA
          clear hA hb6
          go_wp2
          go_loopw [9, 12, 78] (fun n l v wr => ∃ j : Nat, j ≤ L.length ∧ v = .int .i64 j ∧ n = .int .i64 (totL 1 L x j) ∧ l = .int .u64 (lastL L j) ∧ Below w6.heap.size w6 wr) (fun _ _ v _ => L.length - (intOf v).toNat)
          case atStart => exact ⟨0, by omega, rfl, by rw [tot_zero], rfl, Below.refl _ _⟩
          case round =>
            obtain ⟨j, hj, rfl, rfl, rfl, hb⟩ := hrel
            obtain ⟨w7, rfl⟩ : ∃ w7 : World, w7 = wr := ⟨_, rfl⟩
            have C7 := Lib.hid hb
            have B7 := Lib.hid (B6.out.trans (hb.mono B6.out.size))
            clear hb
            have hn : 0 ≤ totL 1 L x j ∧ totL 1 L x j ≤ 3 := by have h6 := A6x.out j; unfold totL; omega
            by_cases hj2 : j < L.length
            · obtain ⟨g, rfl, lg, cg⟩ := (HA.out.below C7.out) (by omega)
              obtain ⟨x0, x1⟩ := cg j hj2
              obtain ⟨e1, e2, e3⟩ := A4x.out j hj2
              obtain ⟨y, hy⟩ : ∃ y, L[j].1 = y := ⟨_, rfl⟩
              obtain ⟨z, hz⟩ : ∃ z, L[j].2 = z := ⟨_, rfl⟩
              have C0 := Lib.hid (fun h => tot_no (n := 1) (x := x) hj2 hy hz h)
              have C1 := Lib.hid (fun h => tot_yes (n := 1) (x := x) hj2 hy hz h)
              have C2 := Lib.hid (last_is hj2 hz)
              rw [hy] at x0
              rw [hz] at x1
              rw [hy, hz] at e1 e3
              rw [hy] at e2
              clear hy hz
              generalize totL 1 L x j = cj at *
              generalize lastL L j = la at *
              have j0 : (j : Int) < (L.length : Int) := by omega
              have j1 : (0 : Int) ≤ (j : Int) := by omega
              have MY := May_any y z
              rw [e1] at MY
              have MY := Lib.hid MY
              have HY := Lib.hid (Has_any y z x)
              generalize hasB y z x = hv at *
              have E2 := Lib.hid e2
              have E3 := Lib.hid e3
              clear e1 e2 e3 cg lg
              obtain ⟨gx, hgx⟩ : ∃ gx, w7.heap.size = gx := ⟨_, rfl⟩
              obtain ⟨w8, hw8⟩ : ∃ w8, w7.alloc (.cells #[.int .u64 y, .int .u64 z] 24) = w8 := ⟨_, rfl⟩
              have X8 : Hid (Box w8 gx y z) := Lib.hid (by rw [← hw8]; exact box_at _ _ _ _ _ hgx)
              have B8 : Hid (Below w6.heap.size w6 w8) := Lib.hid (by rw [← hw8]; exact C7.out.alloc C7.out.size _)
              go_upto_region 17 with fail
              try rw [hw8]
              try rw [hgx]
              clear hw8 hgx x0 x1
              go_cut [95] (fun v w' => v = .bool false ∧ Box w' gx y z ∧ Below w6.heap.size w6 w')
              case first => as_aux_lemma =>
                obtain ⟨x0, x1, x2, x3⟩ := X8.out
                go_wp2_with fail
                refine (MY.out _).mono ?_
                rintro e w9 ⟨rfl, hb9⟩
                obtain ⟨x4, x5, x6, x7⟩ := X8.out.below hb9
                clear x0 x1 x2 x3
                rcases Nat.eq_zero_or_pos j with hj3 | hj3
                · have e4 : (j : Int) ≤ 0 := by omega
                  clear hj3
                  go_wp2
                  go_meet
                  exact ⟨rfl, ⟨x4, x5, x6, x7⟩, B8.out.trans (hb9.mono B8.out.size)⟩
                · have e4 : decide ((0 : Int) < (j : Int)) = true := by simp; omega
                  have e5 : decide (y ≤ la) = false := by simpa using E2.out hj3
                  go_wp2
                  go_meet
                  exact ⟨by first | rfl | rw [e5], ⟨x4, x5, x6, x7⟩, B8.out.trans (hb9.mono B8.out.size)⟩
              case rest => as_aux_lemma =>
                obtain ⟨rfl, x9, b9⟩ := hcut
                obtain ⟨w9, rfl⟩ : ∃ w9 : World, w9 = wc := ⟨_, rfl⟩
                have C9 := Lib.hid b9
                have X9 := Lib.hid x9
                clear b9 x9 B8 X8 MY B7
                obtain ⟨x0, x1, x2, x3⟩ := X9.out
                go_wp2_with fail
                refine (HY.out _).mono ?_
                rintro e w10 ⟨rfl, hb10⟩
                have C10 := Lib.hid (C9.out.trans (hb10.mono C9.out.size))
                clear x0 x1 x2 x3
                cases hv
                · go_wp2
                  exact ⟨⟨j + 1, by omega, by go_num, by rw [C0.out (by first | rfl | trivial)], by rw [C2.out], C10.out⟩, by simp [intOf]; omega⟩
                · exact absurd (E3.out rfl) (by decide)
            · obtain rfl : j = L.length := by omega
              have ct := A5x.out
              clear hj hj2 A4x A6x HA
              clear C7
              have hn1 : totL 1 L x L.length = oneIf true := by rw [hm] at ct; exact ct
              generalize totL 1 L x L.length = nn at *
              clear ct hn
              go_upto_region 25 with fail
              go_cut [116] (fun v w' => v = .bool false ∧ Below w0.heap.size w0 w')
              case first => as_aux_lemma =>
                obtain ⟨⟨p0, p1, p2, p3⟩, q0, q1, q2, q3⟩ := K0.out _ B7.out
                obtain rfl : nn = 1 := hn1
                go_wp2_with fail
                refine (TPx.out _).mono ?_
                rintro e w8 ⟨rfl, hb8⟩
                go_wp2
                go_meet
                exact ⟨rfl, B7.out.trans (hb8.mono B7.out.size)⟩
              case rest => as_aux_lemma =>
                clear B7 B6 hn1
                obtain ⟨rfl, b8⟩ := hcut
                obtain ⟨w8, rfl⟩ : ∃ w8 : World, w8 = wc := ⟨_, rfl⟩
                have B8 := Lib.hid b8
                clear b8
                obtain ⟨⟨p0, p1, p2, p3⟩, q0, q1, q2, q3⟩ := K0.out _ B8.out
                go_wp2_with fail
                refine (CH.out _).mono ?_
                rintro e w9 ⟨rfl, hb9⟩
                have B9 := Lib.hid (B8.out.trans (hb9.mono B8.out.size))
                clear p0 p1 p2 p3 q0 q1 q2 q3
                obtain ⟨gh, hgh⟩ : ∃ gh, w9.heap.size = gh := ⟨_, rfl⟩
                obtain ⟨w10, hw10⟩ : ∃ w10, w9.alloc (.cells #[.int .u64 hf, .int .u64 ht] 24) = w10 := ⟨_, rfl⟩
                have X10 : Hid (Box w10 gh hf ht) := Lib.hid (by rw [← hw10]; exact box_at _ _ _ _ _ hgh)
                have B10 : Hid (Below w0.heap.size w0 w10) := Lib.hid (by rw [← hw10]; exact B9.out.alloc B9.out.size _)
                go_upto_region 28 with fail
                try rw [hw10]
                try rw [hgh]
                clear hw10 hgh hb9
                go_cut [140] (fun v w' => v = .bool false ∧ Box w' gh hf ht ∧ Below w0.heap.size w0 w')
                case first => as_aux_lemma =>
                  have a11 := A11.out
                  obtain ⟨h0, h1, h2, h3⟩ := X10.out
                  obtain ⟨⟨p0, p1, p2, p3⟩, q0, q1, q2, q3⟩ := K0.out _ B10.out
                  cases bo
                  · obtain rfl : be = 1 := A10.out rfl
                    clear a11
                    go_wp2
                    go_meet
                    exact ⟨rfl, X10.out, B10.out⟩
                  · obtain rfl : be = 0 := A9.out rfl
                    have hh1 := A7x.out rfl
                    have e6 := hh1 (.inl (by first | rfl | trivial))
                    rw [e6] at THx
                    clear a11 hm
                    go_wp2_with fail
                    refine (TPx.out _).mono ?_
                    rintro e z0 ⟨rfl, u0⟩
                    have hbz := u0
                    clear h0 h1 h2 h3 p0 p1 p2 p3 q0 q1 q2 q3
                    obtain ⟨h0, h1, h2, h3⟩ := X10.out.below hbz
                    obtain ⟨⟨p0, p1, p2, p3⟩, q0, q1, q2, q3⟩ := K0.out _ (B10.out.trans (hbz.mono B10.out.size))
                    go_wp2_with fail
                    refine (THx.out _).mono ?_
                    rintro e z1 ⟨rfl, u1⟩
                    have hbz := hbz.trans (u1.mono hbz.size)
                    clear h0 h1 h2 h3 p0 p1 p2 p3 q0 q1 q2 q3
                    obtain ⟨h0, h1, h2, h3⟩ := X10.out.below hbz
                    obtain ⟨⟨p0, p1, p2, p3⟩, q0, q1, q2, q3⟩ := K0.out _ (B10.out.trans (hbz.mono B10.out.size))
                    go_wp2
                    go_meet
                    exact ⟨rfl, X10.out.below hbz, B10.out.trans (hbz.mono B10.out.size)⟩
                case rest => as_aux_lemma =>
                  clear X10 B10 B9 B8
                  obtain ⟨rfl, x11, b11⟩ := hcut
                  obtain ⟨w11, rfl⟩ : ∃ w11 : World, w11 = wc := ⟨_, rfl⟩
                  have B11 := Lib.hid b11
                  have X11 := Lib.hid x11
                  clear b11 x11
                  go_upto_region 30 with fail
                  go_cut [170] (fun v w' => v = .bool false ∧ w11 = w')
                  case first => as_aux_lemma =>
                    obtain ⟨h0, h1, h2, h3⟩ := X11.out
                    obtain ⟨⟨p0, p1, p2, p3⟩, q0, q1, q2, q3⟩ := K0.out _ B11.out
                    cases bo
                    · obtain rfl : be = 1 := A10.out rfl
                      go_wp2
                      go_meet
                      exact ⟨rfl, rfl⟩
                    · obtain rfl : be = 0 := A9.out rfl
                      obtain ⟨v1, v2⟩ := A8.out rfl
                      by_cases y1 : hf = a <;> by_cases y2 : ht = b
                      · have z1 : (hf != a) = false := by simp [y1]
                        have z2 : (ht != b) = false := by simp [y2]
                        clear y1 y2 v1 v2
                        go_wp2
                        go_meet
                        exact ⟨rfl, rfl⟩
                      · have z1 : (hf != a) = false := by simp [y1]
                        have z2 : (ht != b) = true := by simp [y2]
                        have z4 : (ht != d) = false := by simp; omega
                        clear y1 y2 v1 v2
                        go_wp2
                        go_meet
                        exact ⟨rfl, rfl⟩
                      · have z1 : (hf != a) = true := by simp [y1]
                        have z3 : (hf != c) = false := by simp; omega
                        have z2 : (ht != b) = false := by simp [y2]
                        clear y1 y2 v1 v2
                        go_wp2
                        go_meet
                        exact ⟨rfl, rfl⟩
                      · have z1 : (hf != a) = true := by simp [y1]
                        have z3 : (hf != c) = false := by simp; omega
                        have z2 : (ht != b) = true := by simp [y2]
                        have z4 : (ht != d) = false := by simp; omega
                        clear y1 y2 v1 v2
                        go_wp2
                        go_meet
                        exact ⟨rfl, rfl⟩
                  case rest => as_aux_lemma =>
                    obtain ⟨rfl, rfl⟩ := hcut
                    clear X11
                    go_upto_region 32 with fail
                    go_cut [179] (fun v w' => v = .bool false ∧ Below w0.heap.size w0 w')
                    case first => as_aux_lemma =>
                      have a11 := A11.out
                      obtain ⟨⟨p0, p1, p2, p3⟩, q0, q1, q2, q3⟩ := K0.out _ B11.out
                      cases bo
                      · obtain rfl : be = 1 := A10.out rfl
                        cases mp
                        · clear a11 hm
                          go_wp2_with fail
                          refine (CP.out _).mono ?_
                          rintro e z0 ⟨rfl, u0⟩
                          have hbz := u0
                          clear p0 p1 p2 p3 q0 q1 q2 q3
                          obtain ⟨⟨p0, p1, p2, p3⟩, q0, q1, q2, q3⟩ := K0.out _ (B11.out.trans (hbz.mono B11.out.size))
                          go_wp2
                          go_meet
                          exact ⟨rfl, B11.out.trans (hbz.mono B11.out.size)⟩
                        · obtain rfl : mq = false := by simpa using a11.symm
                          clear a11 hm
                          go_wp2_with fail
                          refine (CP.out _).mono ?_
                          rintro e z0 ⟨rfl, u0⟩
                          have hbz := u0
                          clear p0 p1 p2 p3 q0 q1 q2 q3
                          obtain ⟨⟨p0, p1, p2, p3⟩, q0, q1, q2, q3⟩ := K0.out _ (B11.out.trans (hbz.mono B11.out.size))
                          go_wp2_with fail
                          refine (CQ.out _).mono ?_
                          rintro e z1 ⟨rfl, u1⟩
                          have hbz := hbz.trans (u1.mono hbz.size)
                          clear p0 p1 p2 p3 q0 q1 q2 q3
                          obtain ⟨⟨p0, p1, p2, p3⟩, q0, q1, q2, q3⟩ := K0.out _ (B11.out.trans (hbz.mono B11.out.size))
                          go_wp2
                          go_meet
                          exact ⟨rfl, B11.out.trans (hbz.mono B11.out.size)⟩
                      · obtain rfl : be = 0 := A9.out rfl
                        obtain ⟨rfl, rfl⟩ : mp = true ∧ mq = true := by simpa using a11.symm
                        clear a11 hm
                        go_wp2_with fail
                        refine (CP.out _).mono ?_
                        rintro e z0 ⟨rfl, u0⟩
                        have hbz := u0
                        clear p0 p1 p2 p3 q0 q1 q2 q3
                        obtain ⟨⟨p0, p1, p2, p3⟩, q0, q1, q2, q3⟩ := K0.out _ (B11.out.trans (hbz.mono B11.out.size))
                        go_wp2_with fail
                        refine (CQ.out _).mono ?_
                        rintro e z1 ⟨rfl, u1⟩
                        have hbz := hbz.trans (u1.mono hbz.size)
                        clear p0 p1 p2 p3 q0 q1 q2 q3
                        obtain ⟨⟨p0, p1, p2, p3⟩, q0, q1, q2, q3⟩ := K0.out _ (B11.out.trans (hbz.mono B11.out.size))
                        go_wp2
                        go_meet
                        exact ⟨rfl, B11.out.trans (hbz.mono B11.out.size)⟩
                    case rest => as_aux_lemma =>
                      obtain ⟨rfl, b12⟩ := hcut
                      obtain ⟨w12, rfl⟩ : ∃ w12 : World, w12 = wc := ⟨_, rfl⟩
                      go_wp2
                      exact ⟨⟨k + 1, by omega, by go_num, b12⟩, by simp [intOf]; omega⟩
    · obtain rfl : k = 5 := by omega
      clear hlt hk
      go_wp2_with fail
      refine (AW.out _).mono ?_
      rintro e w2 ⟨rfl, hb2⟩
      go_wp2
      go_ret
      exact ⟨rfl, BW0.out.trans ((B1.out.trans (hb2.mono B1.out.size)).mono BW0.out.size)⟩
end Go.Proofs.Ytbdlmidkkdmkpaa
