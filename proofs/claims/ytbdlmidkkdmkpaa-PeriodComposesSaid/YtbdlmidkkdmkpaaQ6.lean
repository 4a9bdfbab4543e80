/- The document's table of what is composed: all placings below six, marked. -/
import Derived.Test.YtbdlmidkkdmkpaaQ5
namespace Go.Proofs.Ytbdlmidkkdmkpaa
open Go.RowKit
theorem OwnP.where {base : Nat} {w : World} {v : Value} {L : List (Int × Int)} (h : OwnP base w v L) (h0 : 0 < L.length) : ∃ g c, v = .slice (some ⟨g, 0, none⟩) L.length c ∧ base ≤ g ∧ g < w.heap.size ∧ ∀ i (h : i < L.length), w.cell? ⟨g, i * 2, none⟩ = some (.int .u64 (L[i].1)) ∧ w.cell? ⟨g, i * 2 + 1, none⟩ = some (.int .u64 (L[i].2)) := by
  obtain ⟨A, c, e, hA⟩ := h.at
  obtain ⟨g, rfl, hl, hc⟩ := hA h0
  refine ⟨g, c, e, ?_, hl, hc⟩
  rcases h.2 with ⟨e2, h2⟩ | ⟨g2, cap, cur, e2, hg, _⟩
  · omega
  · rw [e2] at e
    injection e with e3 _ _
    injection e3 with e4
    injection e4 with e5
    omega
theorem results_cell {fn : Func} {t : Tmp} {ty : TypeId} (h : fn.results = #[.cell t ty]) {tmps : Array Value} {P : Program} {w : World} {b : Nat} {v : Value} (ht : tmps[t]?.getD undef = .pointer (some ⟨b, 0, none⟩)) (hl : (loadVar ty ⟨b, 0, none⟩).run P w = .ok v w) : (results fn tmps).run P w = .ok v w := by
  simp [results, h, ht, asAddr, hl]
theorem bel_setCells {B : Nat} {a : World} (b : Nat) (hb : B ≤ b) : ∀ (vs : List Value) (o : Nat) (w : World), Below B a w → Below B a (w.setCells b o vs)
  | [], _, _, h => h
  | v :: r, o, w, h => by
    rw [World.setCells]
    exact bel_setCells b hb r (o + 1) _ (h.setCell hb _)
set_option maxRecDepth 100000 in
set_option maxHeartbeats 20000000 in
theorem Composed_any (w : World) : Calls Try.prog 40 #[] w fun e w' => ∃ C : Array Value, e = .returned (.agg C) ∧ C.size = 2744 ∧ (∀ o, o < 2744 → C[o]? = some (.bool ((codes1 RL).contains o))) ∧ Below w.heap.size w w' := by
  obtain ⟨w1, hw1⟩ : ∃ w1, (w.alloc (.cells Try.zeroCells70 70)).alloc (.cells Try.zeroCells70 70) = w1 := ⟨_, rfl⟩
  have T0 : Hid (Tab w1 w.heap.size []) := Lib.hid (by rw [← hw1]; exact World.rowIs.alloc (Tab.new w _ rfl) _)
  have T1 : Hid (Tab w1 (w.heap.size + 1) []) := Lib.hid (by rw [← hw1]; exact Tab.new _ _ (by simp))
  have BW : Hid (Below w.heap.size w w1) := Lib.hid (by rw [← hw1]; exact ((Below.refl _ _).alloc (Nat.le_refl _) _).alloc (by simp) _)
  have hs1 : w1.heap.size = w.heap.size + 2 := by rw [← hw1]; simp
  go_enter Try.func40, Try.ntmps40
  go_upto_region 3 with fail
  try rw [hw1]
  clear hw1
  go_wp2
  go_loopw [2, 3] (fun v t wr => ∃ n : Nat, n ≤ 6 ∧ t = .int .u64 n ∧ OwnP w1.heap.size wr v (rfAll n) ∧ Below w1.heap.size w1 wr) (fun _ t _ => 6 - (intOf t).toNat)
  case atStart => exact ⟨0, by omega, rfl, OwnP.nil _ _, Below.refl _ _⟩
  case round =>
    obtain ⟨n, hn, rfl, ho, hb⟩ := hrel
    have HO := Lib.hid ho
    have HB := Lib.hid hb
    clear ho hb
    by_cases hlt : n < 6
    · have h0 : (n : Int) < 6 := by omega
      have h1 : (0 : Int) ≤ (n : Int) := by omega
      obtain ⟨wo, rfl⟩ : ∃ wo : World, wo = wr := ⟨_, rfl⟩
      go_wp2
      go_loopw [2, 4] (fun v t wr => ∃ k : Nat, k ≤ 5 - n ∧ t = .int .u64 ((n + 1 + k : Nat) : Int) ∧ OwnP w1.heap.size wr v (rfAll n ++ rfRow n k) ∧ Below w1.heap.size w1 wr) (fun _ t _ => 6 - (intOf t).toNat)
      case atStart => exact ⟨0, by omega, by go_num, by simpa [rfRow] using HO.out, HB.out⟩
      case round =>
        obtain ⟨k, hk, rfl, ho2, hb2⟩ := hrel
        have HO2 := Lib.hid ho2
        have HB2 := Lib.hid hb2
        clear ho2 hb2
        by_cases hlt2 : k < 5 - n
        · obtain ⟨m, hm⟩ : ∃ m, n + 1 + k = m := ⟨_, rfl⟩
          have hrow := rfRow_succ n k
          rw [hm] at hrow ⊢
          have h2 : (m : Int) < 6 := by omega
          have h3 : (0 : Int) ≤ (m : Int) := by omega
          have hs := HB2.out.size
          have hmk : m + 1 = n + 1 + (k + 1) := by omega
          go_wp2_with (at_builtin; refine wpList_appP rfl (.tmp 24) (.tmp 28) rfl w1.heap.size _ (rfAll n ++ rfRow n k) rfl (HO2.out.alloc _) wr.heap.size (n : Int) (m : Int) rfl (by go_simp) (by go_simp) (rf_small n k hlt (by omega)) (by simp; omega) ?_; intro v1 w2 ho1 hb1 _; rw [List.append_assoc, ← hrow] at ho1; have HO3 := Lib.hid ho1; have HB3 := Lib.hid ((HB2.out.alloc hs (.cells #[.int .u64 (n : Int), .int .u64 (m : Int)] 24)).trans hb1); clear ho1 hb1)
          exact ⟨⟨k + 1, by omega, by rw [← hmk]; go_num, HO3.out, HB3.out⟩, by simp [intOf]; omega⟩
        · obtain rfl : k = 5 - n := by omega
          rw [← rfAll_succ] at HO2
          have h4 : ¬ (((n + 1 + (5 - n) : Nat) : Int) < 6) := by omega
          go_wp2
          exact ⟨⟨n + 1, by omega, by go_num, HO2.out, HB2.out⟩, by simp [intOf]; omega⟩
    · obtain rfl : n = 6 := by omega
      obtain ⟨w5, rfl⟩ : ∃ w5 : World, w5 = wr := ⟨_, rfl⟩
      obtain ⟨g, cp, rfl, hg, lg, hcl⟩ := OwnP.where HO.out (show 0 < (rfAll 6).length by decide)
      change ∀ i (h : i < RL.length), _ at hcl
      rw [show (rfAll 6).length = 15 from rl_length, show ((6 : Nat) : Int) = 6 from rfl]
      have HP := Lib.hid hcl
      clear hcl HO hlt hn
      have hs5 := HB.out.size
      obtain ⟨b1, hb1⟩ : ∃ b1, w.heap.size + 1 = b1 := ⟨_, rfl⟩
      have hgb : g ≠ b1 := by omega
      have hwb : w.heap.size ≤ b1 := by omega
      have T05 : Hid (Tab w5 w.heap.size []) := Lib.hid (T0.out.block (HB.out.block _ (by omega)))
      have T15 : Hid (Tab w5 b1 []) := Lib.hid (by rw [← hb1]; exact T1.out.block (HB.out.block _ (by omega)))
      have BW5 : Hid (Below w.heap.size w w5) := Lib.hid (BW.out.trans (HB.out.mono BW.out.size))
      have hlw : w.heap.size < w5.heap.size := by omega
      have hlb : b1 < w5.heap.size := by omega
      rw [hb1]
      have hwn : w.heap.size ≠ b1 := by omega
      clear T0 T1 BW HB hs1 hs5 hg hb1
      go_wp2
      go_loopw [5] (fun x wr => ∃ i : Nat, i ≤ 15 ∧ x = .int .i64 i ∧ Inv w w5 wr b1 (codes1 (RL.take i))) (fun x _ => 15 - (intOf x).toNat)
      case atStart => exact ⟨0, by omega, rfl, Inv.start BW5.out T15.out⟩
      case round =>
        obtain ⟨i, hi, rfl, hI⟩ := hrel
        have Ii := Lib.hid hI
        clear hI
        by_cases li : i < 15
        · have i0 : i < RL.length := by rw [rl_length]; exact li
          obtain ⟨p, hp⟩ : ∃ p, RL[i] = p := ⟨_, rfl⟩
          have cp := getP i0 hp (HP.out i i0)
          have mp : p ∈ RL := hp ▸ List.getElem_mem i0
          have ei1 : (i : Int) < 15 := by omega
          have ei2 : (0 : Int) ≤ (i : Int) := by omega
          obtain ⟨w6, rfl⟩ : ∃ w6 : World, w6 = wr := ⟨_, rfl⟩
          go_wp2
          go_loopw [6] (fun x wr => ∃ j : Nat, j ≤ 15 ∧ x = .int .i64 j ∧ Inv w w5 wr b1 (cB i j p)) (fun x _ => 15 - (intOf x).toNat)
          case atStart => exact ⟨0, by omega, rfl, by rw [cB_zero]; exact Ii.out⟩
          case round =>
            obtain ⟨j, hj, rfl, hI⟩ := hrel
            have Ij := Lib.hid hI
            clear hI
            by_cases lj : j < 15
            · have j0 : j < RL.length := by rw [rl_length]; exact lj
              obtain ⟨q, hq⟩ : ∃ q, RL[j] = q := ⟨_, rfl⟩
              have cq := getP j0 hq (HP.out j j0)
              have mq : q ∈ RL := hq ▸ List.getElem_mem j0
              have ej1 : (j : Int) < 15 := by omega
              have ej2 : (0 : Int) ≤ (j : Int) := by omega
              obtain ⟨w6, rfl⟩ : ∃ w6 : World, w6 = wr := ⟨_, rfl⟩
              go_wp2
              go_loopw [7] (fun x wr => ∃ k : Nat, k ≤ 15 ∧ x = .int .i64 k ∧ Inv w w5 wr b1 (cA i j k p q)) (fun x _ => 15 - (intOf x).toNat)
              case atStart => exact ⟨0, by omega, rfl, by rw [cA_zero]; exact Ij.out⟩
              case round =>
                obtain ⟨k, hk, rfl, hI⟩ := hrel
                have Ik := Lib.hid hI
                clear hI
                by_cases lk : k < 15
                · have k0 : k < RL.length := by rw [rl_length]; exact lk
                  obtain ⟨u, hu⟩ : ∃ u, RL[k] = u := ⟨_, rfl⟩
                  have cu := getP k0 hu (HP.out k k0)
                  have mu : u ∈ RL := hu ▸ List.getElem_mem k0
                  have ek1 : (k : Int) < 15 := by omega
                  have ek2 : (0 : Int) ≤ (k : Int) := by omega
                  have r1 := refRelation_any p.1 p.2 q.1 q.2
                  have r2 := refRelation_any q.1 q.2 u.1 u.2
                  have r3 := refRelation_any p.1 p.2 u.1 u.2
                  rw [(rl_both mp mq).1, (rl_both mp mq).2] at r1
                  rw [(rl_both mq mu).1, (rl_both mq mu).2] at r2
                  rw [(rl_both mp mu).1, (rl_both mp mu).2] at r3
                  have k1 := (rn_is p q).2
                  have k2 := (rn_is q u).2
                  have k3 := (rn_is p u).2
                  have hcs := cA_succ (i := i) (j := j) (p := p) (q := q) k0 hu
                  have hcode : code p q u = rn p q * 196 + rn q u * 14 + rn p u := rfl
                  rw [hcode] at hcs
                  clear hcode
                  generalize rn p q = x1 at *
                  generalize rn q u = x2 at *
                  generalize rn p u = x3 at *
                  have HCS := Lib.hid hcs
                  clear hcs
                  generalize cA i j k p q = SS at *
                  have R1 := Lib.hid r1
                  have R2 := Lib.hid r2
                  have R3 := Lib.hid r3
                  clear r1 r2 r3
                  obtain ⟨k11, k12⟩ := k1
                  obtain ⟨k21, k22⟩ := k2
                  obtain ⟨k31, k32⟩ := k3
                  have f1 : (x1 : Int) < 14 := by omega
                  have f2 : (0 : Int) ≤ (x1 : Int) := by omega
                  have f3 : (x2 : Int) < 14 := by omega
                  have f4 : (0 : Int) ≤ (x2 : Int) := by omega
                  have f5 : (x3 : Int) < 14 := by omega
                  have f6 : (0 : Int) ≤ (x3 : Int) := by omega
                  have KI := Lib.hid (fun wk (h : Inv w w5 wk b1 SS) => (⟨h, (h.cell lg hgb _).trans cp.1, (h.cell lg hgb _).trans cp.2, (h.cell lg hgb _).trans cq.1, (h.cell lg hgb _).trans cq.2, (h.cell lg hgb _).trans cu.1, (h.cell lg hgb _).trans cu.2⟩ : Inv w w5 wk b1 SS ∧ wk.cell? ⟨g, i * 2, none⟩ = some (.int .u64 p.1) ∧ wk.cell? ⟨g, i * 2 + 1, none⟩ = some (.int .u64 p.2) ∧ wk.cell? ⟨g, j * 2, none⟩ = some (.int .u64 q.1) ∧ wk.cell? ⟨g, j * 2 + 1, none⟩ = some (.int .u64 q.2) ∧ wk.cell? ⟨g, k * 2, none⟩ = some (.int .u64 u.1) ∧ wk.cell? ⟨g, k * 2 + 1, none⟩ = some (.int .u64 u.2)))
                  obtain ⟨w6, rfl⟩ : ∃ w6 : World, w6 = wr := ⟨_, rfl⟩
                  have i0' := i0
                  go_upto_region 19 with fail
                  refine wp_region_held_drew (S := (fun wk => Inv w w5 wk b1 SS ∧ wk.cell? ⟨g, i * 2, none⟩ = some (.int .u64 p.1) ∧ wk.cell? ⟨g, i * 2 + 1, none⟩ = some (.int .u64 p.2) ∧ wk.cell? ⟨g, j * 2, none⟩ = some (.int .u64 q.1) ∧ wk.cell? ⟨g, j * 2 + 1, none⟩ = some (.int .u64 q.2) ∧ wk.cell? ⟨g, k * 2, none⟩ = some (.int .u64 u.1) ∧ wk.cell? ⟨g, k * 2 + 1, none⟩ = some (.int .u64 u.2))) (by kernel_rfl) (KI.out _ (Ik.out.call (Below.refl _ _).drew)) (fun hHeld => ?_)
                  refine take_in (i := 0) (v := ?_) (some 49) rfl rfl (by kernel_rfl) (by kernel_rfl) (by kernel_rfl) (fun _ _ _ h => h) (Or.inl ⟨by rfl, ?_⟩) (by assumption) ?_
                  rotate_left
                  · (intro w hSw; (try dsimp only at hSw); (try go_split_ands); go_simp; try with_reducible rfl)
                  try simp only [Act.put, List.setIfInBounds_toArray, List.set_cons_zero, List.set_cons_succ]
                  refine take_in (i := 1) (v := ?_) (some 50) rfl rfl (by kernel_rfl) (by kernel_rfl) (by kernel_rfl) (fun _ _ _ h => h) (Or.inl ⟨by rfl, ?_⟩) (by assumption) ?_
                  rotate_left
                  · (intro w hSw; (try dsimp only at hSw); (try go_split_ands); go_simp; try with_reducible rfl)
                  try simp only [Act.put, List.setIfInBounds_toArray, List.set_cons_zero, List.set_cons_succ]
                  refine take_in (i := 2) (v := ?_) (some 51) rfl rfl (by kernel_rfl) (by kernel_rfl) (by kernel_rfl) (fun _ _ _ h => h) (Or.inl ⟨by rfl, ?_⟩) (by assumption) ?_
                  rotate_left
                  · (intro w hSw; (try dsimp only at hSw); (try go_split_ands); go_simp; try with_reducible rfl)
                  try simp only [Act.put, List.setIfInBounds_toArray, List.set_cons_zero, List.set_cons_succ]
                  refine take_in (i := 3) (v := ?_) (some 52) rfl rfl (by kernel_rfl) (by kernel_rfl) (by kernel_rfl) (fun _ _ _ h => h) (Or.inl ⟨by rfl, ?_⟩) (by assumption) ?_
                  rotate_left
                  · (intro w hSw; (try dsimp only at hSw); (try go_split_ands); go_simp; try with_reducible rfl)
                  try simp only [Act.put, List.setIfInBounds_toArray, List.set_cons_zero, List.set_cons_succ]
                  refine take_in (i := 4) (v := ?_) (some 53) rfl rfl (by kernel_rfl) (by kernel_rfl) (by kernel_rfl) (fun _ _ _ h => h) (Or.inl ⟨by rfl, ?_⟩) (by assumption) ?_
                  rotate_left
                  · (intro w hSw; (try dsimp only at hSw); (try go_split_ands); go_simp; try with_reducible rfl)
                  try simp only [Act.put, List.setIfInBounds_toArray, List.set_cons_zero, List.set_cons_succ]
                  refine take_in (i := 5) (v := ?_) (some 54) rfl rfl (by kernel_rfl) (by kernel_rfl) (by kernel_rfl) (fun _ _ _ h => h) (Or.inl ⟨by rfl, ?_⟩) (by assumption) ?_
                  rotate_left
                  · (intro w hSw; (try dsimp only at hSw); (try go_split_ands); go_simp; try with_reducible rfl)
                  try simp only [Act.put, List.setIfInBounds_toArray, List.set_cons_zero, List.set_cons_succ]
                  refine take_in (i := 6) (v := ?_) (some 55) rfl rfl (by kernel_rfl) (by kernel_rfl) (by kernel_rfl) (fun _ _ _ h => h) (Or.inl ⟨by rfl, ?_⟩) (by assumption) ?_
                  rotate_left
                  · (intro w hSw; (try dsimp only at hSw); (try go_split_ands); go_simp; try with_reducible rfl)
                  try simp only [Act.put, List.setIfInBounds_toArray, List.set_cons_zero, List.set_cons_succ]
                  refine take_in (i := 7) (v := ?_) (some 56) rfl rfl (by kernel_rfl) (by kernel_rfl) (by kernel_rfl) (fun _ _ _ h => h) (Or.inl ⟨by rfl, ?_⟩) (by assumption) ?_
                  rotate_left
                  · (intro w hSw; (try dsimp only at hSw); (try go_split_ands); go_simp; try with_reducible rfl)
                  try simp only [Act.put, List.setIfInBounds_toArray, List.set_cons_zero, List.set_cons_succ]
                  refine wpAnyH_ready (rs := [8]) (by kernel_rfl) (by simp) ?_
                  refine AllReadyH.cons rfl (fun K hK => ?_) AllReadyH.nil
                  go_simp
                  refine (R1.out _).mono ?_
                  rintro e a19 ⟨rfl, p1⟩
                  have hB := hHeld.1.call p1
                  go_wp2_with fail
                  refine hK.out _ _ (KI.out _ hB) (fun hHeld => ?_)
                  clear hK K
                  try simp only [Act.put, List.setIfInBounds_toArray, List.set_cons_zero, List.set_cons_succ]
                  refine take_in (i := 9) (v := ?_) (some 48) rfl rfl (by kernel_rfl) (by kernel_rfl) (by kernel_rfl) (fun _ _ _ h => h) (Or.inl ⟨by rfl, ?_⟩) (by assumption) ?_
                  rotate_left
                  · (intro w hSw; (try dsimp only at hSw); (try go_split_ands); go_simp; try with_reducible rfl)
                  try simp only [Act.put, List.setIfInBounds_toArray, List.set_cons_zero, List.set_cons_succ]
                  refine take_in (i := 10) (v := ?_) (some 58) rfl rfl (by kernel_rfl) (by kernel_rfl) (by kernel_rfl) (fun _ _ _ h => h) (Or.inl ⟨by rfl, ?_⟩) (by assumption) ?_
                  rotate_left
                  · (intro w hSw; (try dsimp only at hSw); (try go_split_ands); go_simp; try with_reducible rfl)
                  try simp only [Act.put, List.setIfInBounds_toArray, List.set_cons_zero, List.set_cons_succ]
                  refine take_in (i := 11) (v := ?_) (some 59) rfl rfl (by kernel_rfl) (by kernel_rfl) (by kernel_rfl) (fun _ _ _ h => h) (Or.inl ⟨by rfl, ?_⟩) (by assumption) ?_
                  rotate_left
                  · (intro w hSw; (try dsimp only at hSw); (try go_split_ands); go_simp; try with_reducible rfl)
                  try simp only [Act.put, List.setIfInBounds_toArray, List.set_cons_zero, List.set_cons_succ]
                  refine take_in (i := 12) (v := ?_) (some 8) rfl rfl (by kernel_rfl) (by kernel_rfl) (by kernel_rfl) (fun _ _ _ h => h) (Or.inl ⟨by rfl, ?_⟩) (by assumption) ?_
                  rotate_left
                  · (intro w hSw; (try dsimp only at hSw); (try go_split_ands); go_simp; try with_reducible rfl)
                  try simp only [Act.put, List.setIfInBounds_toArray, List.set_cons_zero, List.set_cons_succ]
                  refine take_in (i := 13) (v := ?_) (some 9) rfl rfl (by kernel_rfl) (by kernel_rfl) (by kernel_rfl) (fun _ _ _ h => h) (Or.inl ⟨by rfl, ?_⟩) (by assumption) ?_
                  rotate_left
                  · (intro w hSw; (try dsimp only at hSw); (try go_split_ands); go_simp; try with_reducible rfl)
                  try simp only [Act.put, List.setIfInBounds_toArray, List.set_cons_zero, List.set_cons_succ]
                  refine wpAnyH_done (by kernel_rfl) ?_ _
                  have I7 := Lib.hid hHeld.1
                  clear hHeld
                  go_upto_region 20 with fail
                  refine wp_region_held_drew (S := (fun wk => Inv w w5 wk b1 SS ∧ wk.cell? ⟨g, i * 2, none⟩ = some (.int .u64 p.1) ∧ wk.cell? ⟨g, i * 2 + 1, none⟩ = some (.int .u64 p.2) ∧ wk.cell? ⟨g, j * 2, none⟩ = some (.int .u64 q.1) ∧ wk.cell? ⟨g, j * 2 + 1, none⟩ = some (.int .u64 q.2) ∧ wk.cell? ⟨g, k * 2, none⟩ = some (.int .u64 u.1) ∧ wk.cell? ⟨g, k * 2 + 1, none⟩ = some (.int .u64 u.2))) (by kernel_rfl) (KI.out _ (I7.out.call (Below.refl _ _).drew)) (fun hHeld => ?_)
                  refine take_in (i := 0) (v := ?_) (some 61) rfl rfl (by kernel_rfl) (by kernel_rfl) (by kernel_rfl) (fun _ _ _ h => h) (Or.inl ⟨by rfl, ?_⟩) (by assumption) ?_
                  rotate_left
                  · (intro w hSw; (try dsimp only at hSw); (try go_split_ands); go_simp; try with_reducible rfl)
                  try simp only [Act.put, List.setIfInBounds_toArray, List.set_cons_zero, List.set_cons_succ]
                  refine take_in (i := 1) (v := ?_) (some 62) rfl rfl (by kernel_rfl) (by kernel_rfl) (by kernel_rfl) (fun _ _ _ h => h) (Or.inl ⟨by rfl, ?_⟩) (by assumption) ?_
                  rotate_left
                  · (intro w hSw; (try dsimp only at hSw); (try go_split_ands); go_simp; try with_reducible rfl)
                  try simp only [Act.put, List.setIfInBounds_toArray, List.set_cons_zero, List.set_cons_succ]
                  refine take_in (i := 2) (v := ?_) (some 63) rfl rfl (by kernel_rfl) (by kernel_rfl) (by kernel_rfl) (fun _ _ _ h => h) (Or.inl ⟨by rfl, ?_⟩) (by assumption) ?_
                  rotate_left
                  · (intro w hSw; (try dsimp only at hSw); (try go_split_ands); go_simp; try with_reducible rfl)
                  try simp only [Act.put, List.setIfInBounds_toArray, List.set_cons_zero, List.set_cons_succ]
                  refine take_in (i := 3) (v := ?_) (some 64) rfl rfl (by kernel_rfl) (by kernel_rfl) (by kernel_rfl) (fun _ _ _ h => h) (Or.inl ⟨by rfl, ?_⟩) (by assumption) ?_
                  rotate_left
                  · (intro w hSw; (try dsimp only at hSw); (try go_split_ands); go_simp; try with_reducible rfl)
                  try simp only [Act.put, List.setIfInBounds_toArray, List.set_cons_zero, List.set_cons_succ]
                  refine take_in (i := 4) (v := ?_) (some 65) rfl rfl (by kernel_rfl) (by kernel_rfl) (by kernel_rfl) (fun _ _ _ h => h) (Or.inl ⟨by rfl, ?_⟩) (by assumption) ?_
                  rotate_left
                  · (intro w hSw; (try dsimp only at hSw); (try go_split_ands); go_simp; try with_reducible rfl)
                  try simp only [Act.put, List.setIfInBounds_toArray, List.set_cons_zero, List.set_cons_succ]
                  refine take_in (i := 5) (v := ?_) (some 66) rfl rfl (by kernel_rfl) (by kernel_rfl) (by kernel_rfl) (fun _ _ _ h => h) (Or.inl ⟨by rfl, ?_⟩) (by assumption) ?_
                  rotate_left
                  · (intro w hSw; (try dsimp only at hSw); (try go_split_ands); go_simp; try with_reducible rfl)
                  try simp only [Act.put, List.setIfInBounds_toArray, List.set_cons_zero, List.set_cons_succ]
                  refine take_in (i := 6) (v := ?_) (some 67) rfl rfl (by kernel_rfl) (by kernel_rfl) (by kernel_rfl) (fun _ _ _ h => h) (Or.inl ⟨by rfl, ?_⟩) (by assumption) ?_
                  rotate_left
                  · (intro w hSw; (try dsimp only at hSw); (try go_split_ands); go_simp; try with_reducible rfl)
                  try simp only [Act.put, List.setIfInBounds_toArray, List.set_cons_zero, List.set_cons_succ]
                  refine take_in (i := 7) (v := ?_) (some 68) rfl rfl (by kernel_rfl) (by kernel_rfl) (by kernel_rfl) (fun _ _ _ h => h) (Or.inl ⟨by rfl, ?_⟩) (by assumption) ?_
                  rotate_left
                  · (intro w hSw; (try dsimp only at hSw); (try go_split_ands); go_simp; try with_reducible rfl)
                  try simp only [Act.put, List.setIfInBounds_toArray, List.set_cons_zero, List.set_cons_succ]
                  refine wpAnyH_ready (rs := [8]) (by kernel_rfl) (by simp) ?_
                  refine AllReadyH.cons rfl (fun K hK => ?_) AllReadyH.nil
                  go_simp
                  refine (R2.out _).mono ?_
                  rintro e a20 ⟨rfl, p1⟩
                  have hB := hHeld.1.call p1
                  go_wp2_with fail
                  refine hK.out _ _ (KI.out _ hB) (fun hHeld => ?_)
                  clear hK K
                  try simp only [Act.put, List.setIfInBounds_toArray, List.set_cons_zero, List.set_cons_succ]
                  refine take_in (i := 9) (v := ?_) (some 60) rfl rfl (by kernel_rfl) (by kernel_rfl) (by kernel_rfl) (fun _ _ _ h => h) (Or.inl ⟨by rfl, ?_⟩) (by assumption) ?_
                  rotate_left
                  · (intro w hSw; (try dsimp only at hSw); (try go_split_ands); go_simp; try with_reducible rfl)
                  try simp only [Act.put, List.setIfInBounds_toArray, List.set_cons_zero, List.set_cons_succ]
                  refine take_in (i := 10) (v := ?_) (some 70) rfl rfl (by kernel_rfl) (by kernel_rfl) (by kernel_rfl) (fun _ _ _ h => h) (Or.inl ⟨by rfl, ?_⟩) (by assumption) ?_
                  rotate_left
                  · (intro w hSw; (try dsimp only at hSw); (try go_split_ands); go_simp; try with_reducible rfl)
                  try simp only [Act.put, List.setIfInBounds_toArray, List.set_cons_zero, List.set_cons_succ]
                  refine take_in (i := 11) (v := ?_) (some 71) rfl rfl (by kernel_rfl) (by kernel_rfl) (by kernel_rfl) (fun _ _ _ h => h) (Or.inl ⟨by rfl, ?_⟩) (by assumption) ?_
                  rotate_left
                  · (intro w hSw; (try dsimp only at hSw); (try go_split_ands); go_simp; try with_reducible rfl)
                  try simp only [Act.put, List.setIfInBounds_toArray, List.set_cons_zero, List.set_cons_succ]
                  refine take_in (i := 12) (v := ?_) (some 10) rfl rfl (by kernel_rfl) (by kernel_rfl) (by kernel_rfl) (fun _ _ _ h => h) (Or.inl ⟨by rfl, ?_⟩) (by assumption) ?_
                  rotate_left
                  · (intro w hSw; (try dsimp only at hSw); (try go_split_ands); go_simp; try with_reducible rfl)
                  try simp only [Act.put, List.setIfInBounds_toArray, List.set_cons_zero, List.set_cons_succ]
                  refine take_in (i := 13) (v := ?_) (some 11) rfl rfl (by kernel_rfl) (by kernel_rfl) (by kernel_rfl) (fun _ _ _ h => h) (Or.inl ⟨by rfl, ?_⟩) (by assumption) ?_
                  rotate_left
                  · (intro w hSw; (try dsimp only at hSw); (try go_split_ands); go_simp; try with_reducible rfl)
                  try simp only [Act.put, List.setIfInBounds_toArray, List.set_cons_zero, List.set_cons_succ]
                  refine wpAnyH_done (by kernel_rfl) ?_ _
                  have I8 := Lib.hid hHeld.1
                  clear hHeld
                  go_upto_region 21 with fail
                  refine wp_region_held_drew (S := (fun wk => Inv w w5 wk b1 SS ∧ wk.cell? ⟨g, i * 2, none⟩ = some (.int .u64 p.1) ∧ wk.cell? ⟨g, i * 2 + 1, none⟩ = some (.int .u64 p.2) ∧ wk.cell? ⟨g, j * 2, none⟩ = some (.int .u64 q.1) ∧ wk.cell? ⟨g, j * 2 + 1, none⟩ = some (.int .u64 q.2) ∧ wk.cell? ⟨g, k * 2, none⟩ = some (.int .u64 u.1) ∧ wk.cell? ⟨g, k * 2 + 1, none⟩ = some (.int .u64 u.2))) (by kernel_rfl) (KI.out _ (I8.out.call (Below.refl _ _).drew)) (fun hHeld => ?_)
                  refine take_in (i := 0) (v := ?_) (some 73) rfl rfl (by kernel_rfl) (by kernel_rfl) (by kernel_rfl) (fun _ _ _ h => h) (Or.inl ⟨by rfl, ?_⟩) (by assumption) ?_
                  rotate_left
                  · (intro w hSw; (try dsimp only at hSw); (try go_split_ands); go_simp; try with_reducible rfl)
                  try simp only [Act.put, List.setIfInBounds_toArray, List.set_cons_zero, List.set_cons_succ]
                  refine take_in (i := 1) (v := ?_) (some 74) rfl rfl (by kernel_rfl) (by kernel_rfl) (by kernel_rfl) (fun _ _ _ h => h) (Or.inl ⟨by rfl, ?_⟩) (by assumption) ?_
                  rotate_left
                  · (intro w hSw; (try dsimp only at hSw); (try go_split_ands); go_simp; try with_reducible rfl)
                  try simp only [Act.put, List.setIfInBounds_toArray, List.set_cons_zero, List.set_cons_succ]
                  refine take_in (i := 2) (v := ?_) (some 75) rfl rfl (by kernel_rfl) (by kernel_rfl) (by kernel_rfl) (fun _ _ _ h => h) (Or.inl ⟨by rfl, ?_⟩) (by assumption) ?_
                  rotate_left
                  · (intro w hSw; (try dsimp only at hSw); (try go_split_ands); go_simp; try with_reducible rfl)
                  try simp only [Act.put, List.setIfInBounds_toArray, List.set_cons_zero, List.set_cons_succ]
                  refine take_in (i := 3) (v := ?_) (some 76) rfl rfl (by kernel_rfl) (by kernel_rfl) (by kernel_rfl) (fun _ _ _ h => h) (Or.inl ⟨by rfl, ?_⟩) (by assumption) ?_
                  rotate_left
                  · (intro w hSw; (try dsimp only at hSw); (try go_split_ands); go_simp; try with_reducible rfl)
                  try simp only [Act.put, List.setIfInBounds_toArray, List.set_cons_zero, List.set_cons_succ]
                  refine take_in (i := 4) (v := ?_) (some 77) rfl rfl (by kernel_rfl) (by kernel_rfl) (by kernel_rfl) (fun _ _ _ h => h) (Or.inl ⟨by rfl, ?_⟩) (by assumption) ?_
                  rotate_left
                  · (intro w hSw; (try dsimp only at hSw); (try go_split_ands); go_simp; try with_reducible rfl)
                  try simp only [Act.put, List.setIfInBounds_toArray, List.set_cons_zero, List.set_cons_succ]
                  refine take_in (i := 5) (v := ?_) (some 78) rfl rfl (by kernel_rfl) (by kernel_rfl) (by kernel_rfl) (fun _ _ _ h => h) (Or.inl ⟨by rfl, ?_⟩) (by assumption) ?_
                  rotate_left
                  · (intro w hSw; (try dsimp only at hSw); (try go_split_ands); go_simp; try with_reducible rfl)
                  try simp only [Act.put, List.setIfInBounds_toArray, List.set_cons_zero, List.set_cons_succ]
                  refine take_in (i := 6) (v := ?_) (some 79) rfl rfl (by kernel_rfl) (by kernel_rfl) (by kernel_rfl) (fun _ _ _ h => h) (Or.inl ⟨by rfl, ?_⟩) (by assumption) ?_
                  rotate_left
                  · (intro w hSw; (try dsimp only at hSw); (try go_split_ands); go_simp; try with_reducible rfl)
                  try simp only [Act.put, List.setIfInBounds_toArray, List.set_cons_zero, List.set_cons_succ]
                  refine take_in (i := 7) (v := ?_) (some 80) rfl rfl (by kernel_rfl) (by kernel_rfl) (by kernel_rfl) (fun _ _ _ h => h) (Or.inl ⟨by rfl, ?_⟩) (by assumption) ?_
                  rotate_left
                  · (intro w hSw; (try dsimp only at hSw); (try go_split_ands); go_simp; try with_reducible rfl)
                  try simp only [Act.put, List.setIfInBounds_toArray, List.set_cons_zero, List.set_cons_succ]
                  refine wpAnyH_ready (rs := [8]) (by kernel_rfl) (by simp) ?_
                  refine AllReadyH.cons rfl (fun K hK => ?_) AllReadyH.nil
                  go_simp
                  refine (R3.out _).mono ?_
                  rintro e a21 ⟨rfl, p1⟩
                  have hB := hHeld.1.call p1
                  go_wp2_with fail
                  refine hK.out _ _ (KI.out _ hB) (fun hHeld => ?_)
                  clear hK K
                  try simp only [Act.put, List.setIfInBounds_toArray, List.set_cons_zero, List.set_cons_succ]
                  refine take_in (i := 9) (v := ?_) (some 72) rfl rfl (by kernel_rfl) (by kernel_rfl) (by kernel_rfl) (fun _ _ _ h => h) (Or.inl ⟨by rfl, ?_⟩) (by assumption) ?_
                  rotate_left
                  · (intro w hSw; (try dsimp only at hSw); (try go_split_ands); go_simp; try with_reducible rfl)
                  try simp only [Act.put, List.setIfInBounds_toArray, List.set_cons_zero, List.set_cons_succ]
                  refine take_in (i := 10) (v := ?_) (some 82) rfl rfl (by kernel_rfl) (by kernel_rfl) (by kernel_rfl) (fun _ _ _ h => h) (Or.inl ⟨by rfl, ?_⟩) (by assumption) ?_
                  rotate_left
                  · (intro w hSw; (try dsimp only at hSw); (try go_split_ands); go_simp; try with_reducible rfl)
                  try simp only [Act.put, List.setIfInBounds_toArray, List.set_cons_zero, List.set_cons_succ]
                  refine take_in (i := 11) (v := ?_) (some 83) rfl rfl (by kernel_rfl) (by kernel_rfl) (by kernel_rfl) (fun _ _ _ h => h) (Or.inl ⟨by rfl, ?_⟩) (by assumption) ?_
                  rotate_left
                  · (intro w hSw; (try dsimp only at hSw); (try go_split_ands); go_simp; try with_reducible rfl)
                  try simp only [Act.put, List.setIfInBounds_toArray, List.set_cons_zero, List.set_cons_succ]
                  refine take_in (i := 12) (v := ?_) (some 12) rfl rfl (by kernel_rfl) (by kernel_rfl) (by kernel_rfl) (fun _ _ _ h => h) (Or.inl ⟨by rfl, ?_⟩) (by assumption) ?_
                  rotate_left
                  · (intro w hSw; (try dsimp only at hSw); (try go_split_ands); go_simp; try with_reducible rfl)
                  try simp only [Act.put, List.setIfInBounds_toArray, List.set_cons_zero, List.set_cons_succ]
                  refine take_in (i := 13) (v := ?_) (some 13) rfl rfl (by kernel_rfl) (by kernel_rfl) (by kernel_rfl) (fun _ _ _ h => h) (Or.inl ⟨by rfl, ?_⟩) (by assumption) ?_
                  rotate_left
                  · (intro w hSw; (try dsimp only at hSw); (try go_split_ands); go_simp; try with_reducible rfl)
                  try simp only [Act.put, List.setIfInBounds_toArray, List.set_cons_zero, List.set_cons_succ]
                  refine wpAnyH_done (by kernel_rfl) ?_ _
                  have I9 := Lib.hid hHeld.1
                  clear hHeld KI R1 R2 R3
                  have tc := World.rowIs.cell I9.out.tab (show x1 * 196 + x2 * 14 + x3 < 2744 by omega)
                  have tf := World.rowIs.frozen I9.out.tab (x1 * 196 + x2 * 14 + x3)
                  generalize (SS.contains (x1 * 196 + x2 * 14 + x3)) = old at tc
                  go_wp2
                  exact ⟨⟨k + 1, by omega, by go_num, by rw [HCS.out]; exact I9.out.mark hwb _⟩, by simp [intOf]; omega⟩
                · obtain rfl : k = 15 := by omega
                  rw [cA_full j0 hq] at Ik
                  clear lk hk
                  go_wp2
                  exact ⟨⟨j + 1, by omega, by go_num, Ik.out⟩, by simp [intOf]; omega⟩
            · obtain rfl : j = 15 := by omega
              rw [cB_full i0 hp] at Ij
              clear lj hj
              go_wp2
              exact ⟨⟨i + 1, by omega, by go_num, Ij.out⟩, by simp [intOf]; omega⟩
        · obtain rfl : i = 15 := by omega
          rw [show RL.take 15 = RL by rw [← rl_length, List.take_length]] at Ii
          clear li hi HP
          obtain ⟨w7, rfl⟩ : ∃ w7 : World, w7 = wr := ⟨_, rfl⟩
          have T07 : Tab w7 w.heap.size [] := T05.out.block (Ii.out.keep _ hlw hwn)
          obtain ⟨C, hC, hn, hget⟩ := Ii.out.tab
          have rng : w7.rangeAt b1 0 C.toList := fun j v hv => by
            rw [Nat.zero_add]
            simpa [World.cell?, hC] using hv
          have hbool : ∀ v ∈ C.toList, v.oneCell' = true := fun v hv => by
            obtain ⟨j, hj, e⟩ := List.getElem_of_mem hv
            have hj2 : j < C.size := by simpa using hj
            have e2 := hget j (by omega)
            rw [Array.getElem?_eq_getElem hj2] at e2
            injection e2 with e2
            rw [← e, Array.getElem_toList, e2]
            rfl
          have thr : w7.there w.heap.size 0 C.size := fun j hj => by
            rw [Nat.zero_add]
            exact ⟨by rw [World.rowIs.cell T07 (by omega)]; rfl, World.rowIs.frozen T07 j⟩
          have hall : C.all (·.oneCell') = true := Array.all_eq_true_iff_forall_mem.2 (fun v hv => hbool v (by simpa using hv))
          have hinf : (Try.prog.info? 70).map (·.size) = some C.size := by rw [hn]; exact sizeA
          have hinf2 : (Try.prog.info? 70).map (·.size) = some C.toList.length := by rw [Array.length_toList]; exact hinf
          have hback : (w7.setCells w.heap.size 0 C.toList).rangeAt w.heap.size 0 C.toList := World.rangeAt_setCells_same w7 _ _ _ (by simpa using thr)
          have hend : Below w.heap.size w (w7.setCells w.heap.size 0 C.toList) := bel_setCells _ (Nat.le_refl _) _ _ _ Ii.out.bel
          have hld := run_loadVar_mid (P := Try.prog) _ _ _ 70 _ (.array 14 69) hback Try.underlying70 rfl hinf2
          have HEND := Lib.hid hend
          have HGET := Lib.hid hget
          have HN := Lib.hid hn
          clear hend hget hn hC T07 T05 T15 BW5 Ii hback hbool
          go_upto_region 23 with fail
          go_wp2_with (first | refine wpList_load_mid rfl 70 (.tmp 1) rfl b1 0 rfl C.toList _ rng Try.underlying70 rfl hinf2 ?_ | refine wpList_store_mid rfl 70 (.tmp 0) (.tmp 90) rfl w.heap.size 0 C.toList.toArray rfl rfl (by simpa using thr) (by simpa using hinf) (by simpa using hall) ?_)
          rw [Array.toArray_toList] at hld
          refine bodyPost_ret (results_cell (t := 0) Try.results40 rfl hld) rfl ?_
          exact ⟨C, rfl, HN.out, fun o ho => by simpa using HGET.out o ho, HEND.out⟩
end Go.Proofs.Ytbdlmidkkdmkpaa
