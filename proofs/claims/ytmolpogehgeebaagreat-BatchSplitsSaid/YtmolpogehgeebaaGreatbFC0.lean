/- math/bits.Len. -/
/- slices.Sort of at most twelve words: the insertion sort alone. -/
/- iset.Has: an instant looked for in a list of periods. -/
/- Questions asked of an entity: Has, lineOf, At, Line. -/
import Derived.Test.YtmolpogehgeebaaGreatbEB3
import Derived.Lib.BitFns
import Derived.Test.YtmolpogehgeebaaGreatbED6d
import Derived.Test.YtmolpogehgeebaaGreatbH8
namespace Go.Proofs.YtmolpogehgeebaaGreat
open Go.RowKit
theorem ret1u {a b : Int} (h : a = b) : Ending.returned (.int .i64 a) = .returned (.int .i64 b) := by rw [h]
theorem tab_at (T : ByteArray) (i : Nat) (h : i < T.size) : ((((T[((i : Nat) : Int).toNat]?).getD 0).toNat : Nat) : Int) = ((T[i]'h).toNat : Int) := by
  rw [Int.toNat_natCast, getElem?_pos T i h, Option.getD_some]
theorem tab_len (i : Nat) (h : i < Lib.len8tab.size) : ((Lib.len8tab[i]'h).toNat : Int) = (Lib.bitLen i : Int) ∧ i < 256 ∧ Lib.bitLen i ≤ 8 := by
  have hs : i < 256 := Nat.lt_of_lt_of_eq h Lib.len8tab_size
  have e := Lib.len8_of (i : Int) (Int.natCast_nonneg i) (Int.le_of_lt_add_one (Int.ofNat_lt.2 hs))
  have l := Lib.bitLen_le8' (i : Int) (Int.natCast_nonneg i) (Int.le_of_lt_add_one (Int.ofNat_lt.2 hs))
  rw [Lib.len8, tab_at Lib.len8tab i h] at e
  exact ⟨e, hs, l⟩
theorem leaf_num (n : Nat) (k i : Nat) (l : Lib.bitLen i ≤ 8) (hn : n < 2 ^ 64) (hk : k = 0 ∨ 2 ^ k ≤ n) (hi : i = n / 2 ^ k) (h64 : k ≤ 64) : wrap64 ((k : Int) + wrap64 (Lib.bitLen i : Int)) = Lib.bitLen n := by
  have s : Lib.bitLen n = k + Lib.bitLen i := by
    rcases hk with rfl | hk
    · rw [Nat.pow_zero, Nat.div_one] at hi; rw [hi, Nat.zero_add]
    · rw [hi]; exact Lib.bitLen_shift k n hk hn
  rw [s]
  unfold wrap64
  omega
/-- The byte of the table, behind the shift of a number by k bits. -/
theorem len_leaf (n : Nat) (K : Int) (k i : Nat) (h : i < Lib.len8tab.size) (hK : K = (k : Int)) (hn : n < 2 ^ 64) (hk : k = 0 ∨ 2 ^ k ≤ n) (hi : i = n / 2 ^ k) (h64 : k ≤ 64) : wrap64 (K + wrap64 ((Lib.len8tab[i]'h).toNat : Int)) = Lib.bitLen n := by
  obtain ⟨e, _, l⟩ := tab_len i h
  rw [e, hK]
  exact leaf_num n k i l hn hk hi h64
theorem below_tab {i : Nat} (h : i < 256) : i < Lib.len8tab.size := Nat.lt_of_lt_of_eq h Lib.len8tab_size.symm
theorem wrap_zero (x : Int) : wrap64 (wrap64 x) = wrap64 (0 + wrap64 x) := by rw [Int.zero_add]
set_option maxHeartbeats 4000000 in
set_option maxRecDepth 100000 in
theorem Len64_int (n : Int) (w : World) (h0 : 0 ≤ n) (h1 : n ≤ 18446744073709551615) :
    Calls Tryz.prog 220 #[.int .u64 n] w fun e w' => e = .returned (.int .i64 (Lib.bitLen n.toNat)) ∧ w = w' := by
  have hsz := Lib.len8tab_size
  go_enter Tryz.func220, Tryz.ntmps220
  go_wp2
  all_goals (go_ret; refine ⟨ret1u ?_, rfl⟩)
  · exact len_leaf n.toNat 56 56 _ (below_tab (by omega)) rfl (by omega) (.inr (by omega)) (by omega) (by omega)
  · exact len_leaf n.toNat 48 48 _ (below_tab (by omega)) rfl (by omega) (.inr (by omega)) (by omega) (by omega)
  · exact len_leaf n.toNat 40 40 _ (below_tab (by omega)) rfl (by omega) (.inr (by omega)) (by omega) (by omega)
  · exact len_leaf n.toNat 32 32 _ (below_tab (by omega)) rfl (by omega) (.inr (by omega)) (by omega) (by omega)
  · exact len_leaf n.toNat 24 24 _ (below_tab (by omega)) rfl (by omega) (.inr (by omega)) (by omega) (by omega)
  · exact len_leaf n.toNat 16 16 _ (below_tab (by omega)) rfl (by omega) (.inr (by omega)) (by omega) (by omega)
  · exact len_leaf n.toNat 8 8 _ (below_tab (by omega)) rfl (by omega) (.inr (by omega)) (by omega) (by omega)
  · rw [wrap_zero]
    exact len_leaf n.toNat 0 0 _ (below_tab (by omega)) rfl (by omega) (.inl rfl) (by omega) (by omega)
theorem Len64_any (n : Nat) (w : World) (hn : n < 2 ^ 64) :
    Calls Tryz.prog 220 #[.int .u64 n] w fun e w' => e = .returned (.int .i64 (Lib.bitLen n)) ∧ w = w' := by
  have h := Len64_int n w (by omega) (by omega)
  rw [Int.toNat_natCast] at h
  exact h
theorem Len_bits (n : Nat) (hn : n < 2 ^ 64) (w : World) : Calls Tryz.prog 166 #[.int .u64 n] w fun e w' => e = .returned (.int .i64 (Lib.bitLen n)) ∧ w = w' := by
  have C := Lib.hid (fun w => Len64_any n w hn)
  clear hn
  go_enter Tryz.func166, Tryz.ntmps166
  go_wp2_with (go_at_call 220; ((with_reducible refine (C.out _).mono ?_); rintro e w' ⟨rfl, rfl⟩))
  go_ret
  exact ⟨rfl, rfl⟩
end Go.Proofs.YtmolpogehgeebaaGreat


namespace Go.Proofs.YtmolpogehgeebaaGreat
open Go.RowKit
/-- What lies at a place of a list. -/
def atU (L : List Int) (i : Nat) : Int := L.getD i 0
/-- Sorted up to i, but for the place j, which is at most what stands behind it. -/
def InsI (L : List Int) (i j : Nat) : Prop := ∀ p q, p < q → q ≤ i → q ≠ j → atU L p ≤ atU L q
def SortT (L : List Int) (i : Nat) : Prop := ∀ p q, p < q → q < i → atU L p ≤ atU L q
theorem InsI.start {L : List Int} {i : Nat} (h : SortT L i) : InsI L i i := fun p q h1 h2 h3 => h p q h1 (by omega)
theorem InsI.done {L : List Int} {i j : Nat} (h : InsI L i j) (hc : j = 0 ∨ ¬ atU L j < atU L (j - 1)) : SortT L (i + 1) := fun p q h1 h2 => by
  by_cases e : q = j
  · subst e
    rcases hc with hc | hc
    · omega
    · by_cases e2 : p = q - 1
      · subst e2; omega
      · have := h p (q - 1) (by omega) (by omega) (by omega)
        omega
  · exact h p q h1 (by omega) e
theorem atU_set (L : List Int) (i : Nat) (x : Int) (p : Nat) (hi : i < L.length) : atU (L.set i x) p = if p = i then x else atU L p := by
  unfold atU
  rw [List.getD_eq_getElem?_getD, List.getD_eq_getElem?_getD, List.getElem?_set]
  by_cases e : i = p
  · subst e; simp [hi]
  · rw [if_neg e, if_neg fun h => e h.symm]
def swapU (L : List Int) (j : Nat) : List Int := (L.set j (atU L (j - 1))).set (j - 1) (atU L j)
theorem swapU_length (L : List Int) (j : Nat) : (swapU L j).length = L.length := by unfold swapU; simp
theorem atU_swap {L : List Int} {j : Nat} (h0 : 0 < j) (hj : j < L.length) (p : Nat) : atU (swapU L j) p = if p = j - 1 then atU L j else if p = j then atU L (j - 1) else atU L p := by
  unfold swapU
  rw [atU_set _ _ _ _ (by simp; omega), atU_set _ _ _ _ hj]
theorem InsI.next {L : List Int} {i j : Nat} (h : InsI L i j) (h0 : 0 < j) (hij : j ≤ i) (hi : i < L.length) (hl : atU L j < atU L (j - 1)) : InsI (swapU L j) i (j - 1) := fun p q h1 h2 h3 => by
  rw [atU_swap h0 (by omega), atU_swap h0 (by omega)]
  rw [if_neg h3]
  by_cases e : q = j
  · subst e
    rw [if_pos rfl]
    by_cases e2 : p = q - 1
    · rw [if_pos e2]; omega
    · rw [if_neg e2, if_neg (by omega)]
      exact h p (q - 1) (by omega) (by omega) (by omega)
  · rw [if_neg e]
    by_cases e2 : p = j - 1
    · rw [if_pos e2]
      exact h j q (by omega) h2 e
    · rw [if_neg e2]
      by_cases e3 : p = j
      · rw [if_pos e3]
        exact h (j - 1) q (by omega) h2 e
      · rw [if_neg e3]
        exact h p q h1 h2 e
theorem swapU_mem {L : List Int} {j : Nat} (h0 : 0 < j) (hj : j < L.length) (t : Int) : t ∈ swapU L j ↔ t ∈ L := by
  have e1 : atU L (j - 1) = L[j - 1]'(by omega) := by unfold atU; rw [List.getD_eq_getElem?_getD, List.getElem?_eq_getElem (by omega)]; rfl
  have e2 : atU L j = L[j] := by unfold atU; rw [List.getD_eq_getElem?_getD, List.getElem?_eq_getElem hj]; rfl
  unfold swapU
  rw [e1, e2]
  exact (List.set_set_perm hj (show j - 1 < L.length by omega)).mem_iff
theorem sortT_row {L : List Int} (h : SortT L L.length) : L.Pairwise (· ≤ ·) := by
  rw [List.pairwise_iff_getElem]
  intro p q hp hq hpq
  have := h p q hpq hq
  unfold atU at this
  rw [List.getD_eq_getElem?_getD, List.getD_eq_getElem?_getD, List.getElem?_eq_getElem hp, List.getElem?_eq_getElem hq] at this
  exact this
theorem OwnU.put {base g c n : Nat} {w : World} {L : List Int} (h : Se.OwnU base w (.slice (some ⟨g, 0, none⟩) n c) L) (hn : L.length = n) (i : Nat) (x : Int) : Se.OwnU base (w.setCell ⟨g, i, none⟩ (.int .u64 x)) (.slice (some ⟨g, 0, none⟩) n c) (L.set i x) ∧ w.grownBy (w.setCell ⟨g, i, none⟩ (.int .u64 x)) (some g) := by
  subst hn
  have := World.ownsRow.stored h i (.int .u64 x)
  unfold Se.OwnU
  rw [List.length_set, List.map_set]
  exact this
theorem OwnU.form {base : Nat} {w : World} {v : Value} {L : List Int} (h : Se.OwnU base w v L) : ∃ A c, v = .slice A L.length c ∧ (0 < L.length → ∃ g, A = some ⟨g, 0, none⟩ ∧ base ≤ g ∧ g < w.heap.size) := by
  rcases h.2 with ⟨rfl, h0⟩ | ⟨g, cap, cur, rfl, hb, hg, _⟩
  · exact ⟨none, 0, by rw [h0], fun h => by omega⟩
  · exact ⟨_, cap, rfl, fun _ => ⟨g, rfl, hb, lt_heap hg⟩⟩
theorem OwnU.cells {base g c n : Nat} {w : World} {L : List Int} (h : Se.OwnU base w (.slice (some ⟨g, 0, none⟩) n c) L) (i : Nat) (hi : i < L.length) : w.cell? ⟨g, i, none⟩ = some (.int .u64 (atU L i)) ∧ w.frozen? ⟨g, i, none⟩ = false := by
  rcases h.2 with ⟨h', _⟩ | ⟨g', cap', cur, h', hb, hg, hnc, hcm, hcs, ht⟩
  · simp at h'
  · simp only [Value.slice.injEq, Option.some.injEq, Addr.mk.injEq, and_true] at h'
    obtain ⟨rfl, _, _⟩ := h'
    have c0 : (L.map (Value.int .u64))[i]? = some (.int .u64 (atU L i)) := by
      unfold atU
      simp [hi]
    rw [← ht, List.getElem?_take_of_lt (by omega), Array.getElem?_toList] at c0
    exact ⟨(cell_of_row w _ i cur _ _ hg).trans c0, by unfold World.frozen?; simp only []; rw [hg]; simp⟩
section
set_option maxRecDepth 100000
set_option maxHeartbeats 4000000
theorem isNaN_u (x : Int) (w : World) : Calls Tryz.prog 259 #[.int .u64 x] w fun e w' => e = .returned (.bool false) ∧ w' = w := by
  go_enter Tryz.func259, Tryz.ntmps259
  go_wp2
  go_ret
  exact ⟨by simp, rfl⟩
theorem less_u (a b : Int) (w : World) : Calls Tryz.prog 216 #[.int .u64 a, .int .u64 b] w fun e w' => e = .returned (.bool (decide (a < b))) ∧ w' = w := by
  have C := Lib.hid isNaN_u
  go_enter Tryz.func216, Tryz.ntmps216
  go_wp2_with (go_at_call 259; (with_reducible refine (C.out _ _).mono ?_); rintro e w1 ⟨rfl, rfl⟩)
  go_ret
  exact ⟨rfl, rfl⟩
/-- How far the insertion sort has come. -/
structure SI (base g c n : Nat) (L : List Int) (w0 w : World) (cur : List Int) : Prop where
  own : Se.OwnU base w (.slice (some ⟨g, 0, none⟩) n c) cur
  len : cur.length = n
  mem : ∀ t, t ∈ cur ↔ t ∈ L
  gr : w0.grownBy w (some g)
theorem SI.below {base g c n : Nat} {L : List Int} {w0 w w' : World} {cur : List Int} (h : SI base g c n L w0 w cur) (hb : Below w.heap.size w w') : SI base g c n L w0 w' cur :=
  ⟨h.own.below hb, h.len, h.mem, h.gr.trans ⟨hb.os, hb.tape, hb.output, hb.size, fun k hk _ => hb.block k hk⟩⟩
theorem SI.swap {base g c n j : Nat} {L : List Int} {w0 w : World} {cur : List Int} (h : SI base g c n L w0 w cur) (h0 : 0 < j) (hj : j < n) :
    SI base g c n L w0 ((w.setCell ⟨g, j, none⟩ (.int .u64 (atU cur (j - 1)))).setCell ⟨g, j - 1, none⟩ (.int .u64 (atU cur j))) (swapU cur j) := by
  obtain ⟨h1, h2⟩ := OwnU.put h.own h.len j (atU cur (j - 1))
  obtain ⟨h3, h4⟩ := OwnU.put h1 (by rw [List.length_set]; exact h.len) (j - 1) (atU cur j)
  exact ⟨h3, by rw [swapU_length]; exact h.len, fun t => (swapU_mem h0 (by rw [h.len]; exact hj) t).trans (h.mem t), (h.gr.trans h2).trans h4⟩
def InsEnd (base g c n : Nat) (L : List Int) (w : World) (w' : World) : Prop := ∃ cur, SI base g c n L w w' cur ∧ SortT cur n
theorem insertion_u (base g c n : Nat) (L : List Int) (w : World) (h : Se.OwnU base w (.slice (some ⟨g, 0, none⟩) n c) L) (hn : L.length = n) (hm : n ≤ 1000000) :
    Calls Tryz.prog 210 #[.slice (some ⟨g, 0, none⟩) n c, .int .i64 0, .int .i64 n] w fun e w' => e = .returned (.tuple #[]) ∧ InsEnd base g c n L w w' := by
  have S0 := Lib.hid (show SI base g c n L w w L from ⟨h, hn, fun _ => Iff.rfl, World.grownBy.refl _ _⟩)
  have C := Lib.hid less_u
  clear h hn
  go_enter Tryz.func210, Tryz.ntmps210
  go_wp2_with fail
  go_loopw [6] (fun i wr => ∃ (k : Nat) (cur : List Int), i = .int .i64 k ∧ 1 ≤ k ∧ (k ≤ n ∨ k = 1) ∧ SI base g c n L w wr cur ∧ SortT cur k) (fun i _ => n + 1 - (intOf i).toNat)
  case atStart => exact ⟨1, L, rfl, Nat.le_refl _, .inr rfl, S0.out, fun p q h1 h2 => by omega⟩
  case round =>
    obtain ⟨k, cur, rfl, hk1, hk2, hs, ht⟩ := hrel
    have HS := Lib.hid hs
    have HT := Lib.hid ht
    clear hs ht S0
    have i1 : (1 : Int) ≤ (k : Int) := by omega
    have i2 : (k : Int) ≤ 1000001 := by omega
    by_cases hlt : k < n
    · have i0 : (k : Int) < (n : Int) := by omega
      go_wp2_with fail
      go_loopw [7] (fun j wr => ∃ (m : Nat) (cur : List Int), j = .int .i64 m ∧ m ≤ k ∧ SI base g c n L w wr cur ∧ InsI cur k m) (fun j _ => (intOf j).toNat)
      case atStart => exact ⟨k, cur, rfl, Nat.le_refl _, HS.out, InsI.start HT.out⟩
      case round =>
        obtain ⟨m, cur2, rfl, hm2, hs, ht⟩ := hrel
        have H2 := Lib.hid hs
        have T2 := Lib.hid ht
        clear hs ht
        have HLN := Lib.hid H2.out.len
        by_cases hm0 : m = 0
        · have TD := Lib.hid (T2.out.done (.inl hm0))
          subst hm0
          go_upto_region 4 with fail
          go_quiet (fail)
          go_wp2_with fail
          exact ⟨⟨k + 1, cur2, by go_num, by omega, by omega, H2.out.below (below_drewN' (Below.refl _ _) _), TD.out⟩, by simp [intOf]; omega⟩
        · obtain ⟨a, ha⟩ : ∃ x, atU cur2 m = x := ⟨_, rfl⟩
          obtain ⟨b, hb⟩ : ∃ x, atU cur2 (m - 1) = x := ⟨_, rfl⟩
          obtain ⟨q1, f1⟩ := OwnU.cells H2.out.own m (by rw [HLN.out]; omega)
          obtain ⟨q2, f2⟩ := OwnU.cells H2.out.own (m - 1) (by rw [HLN.out]; omega)
          have SW := Lib.hid (fun W (h : SI base g c n L w W cur2) => h.swap (j := m) (by omega) (by omega))
          obtain ⟨m1, hm1⟩ : ∃ x, m - 1 = x := ⟨_, rfl⟩
          rw [ha] at q1 SW
          rw [hb] at q2 SW
          rw [hm1] at q2 f2 SW
          have CL := Lib.hid (fun W => C.out a b W)
          have TD := Lib.hid (fun (h : ¬ a < b) => T2.out.done (.inr (by rw [ha, hb]; exact h)))
          have TN := Lib.hid (fun (h : a < b) => T2.out.next (show 0 < m by omega) hm2 (by rw [HLN.out]; exact hlt) (by rw [ha, hb]; exact h))
          rw [hm1] at TN
          have e1 : (m : Int) - 1 = (m1 : Int) := by omega
          have j1 : (0 : Int) < (m : Int) := by omega
          have td : decide ((0 : Int) < (m : Int)) = true := by simpa using j1
          have tdn : decide (0 < m) = true := by simpa using (Nat.pos_of_ne_zero hm0)
          clear j1
          have j1 : (0 : Int) ≤ (m : Int) := by omega
          have j2 : (m : Int) < (n : Int) := by omega
          have j3 : (m1 : Int) < (n : Int) := by omega
          have j4 : (0 : Int) ≤ (m1 : Int) := by omega
          have j5 : (m : Int) ≤ 1000001 := by omega
          have hw1 : IntKind.i64.wrap ((m : Int) - 1) = (m1 : Int) := by rw [IntKind.wrap_i64]; omega
          have hw2 : IntKind.i64.wrap (m1 : Int) = (m1 : Int) := by rw [IntKind.wrap_i64]; omega
          have HM := Lib.hid hm1
          have LT := Lib.hid (show g < wr.heap.size from World.block_lt_of_cell? wr _ q1)
          clear ha hb hm1
          have K0 : Hid (∀ w', Below wr.heap.size wr w' → w'.cell? ⟨g, m, none⟩ = some (.int .u64 a) ∧ w'.cell? ⟨g, m1, none⟩ = some (.int .u64 b)) := Lib.hid fun w' hb => ⟨(hb.cell (p := ⟨g, m, none⟩) LT.out).trans q1, (hb.cell (p := ⟨g, m1, none⟩) LT.out).trans q2⟩
          go_upto_region 4 with fail
          go_quiet ((go_at_call 216; exact Calls.quiet_of_same (CL.out _)))
          have HV := Lib.hid (below_drewN' (Below.refl wr.heap.size wr) nq)
          have H3 := Lib.hid (H2.out.below HV.out)
          have r1 := (K0.out _ HV.out).1
          have r2 := (K0.out _ HV.out).2
          have g1 := (HV.out.frozen (p := ⟨g, m, none⟩) LT.out).trans f1
          have g2 := (HV.out.frozen (p := ⟨g, m1, none⟩) LT.out).trans f2
          obtain ⟨V, hV⟩ : ∃ W, wr.drewN nq = W := ⟨_, rfl⟩
          rw [hV] at H3 r1 r2 g1 g2 HV
          try rw [hV]
          clear q1 q2 f1 f2 hV
          by_cases hc : a < b
          · have HN := Lib.hid (TN.out hc)
            have S3 := Lib.hid (SW.out _ H3.out)
            clear SW H2 T2 TD TN
            go_upto_region 6 with fail
            go_region_law (fail)
            all_goals
              obtain ⟨V3, hV3⟩ : ∃ W, (V.setCell ⟨g, m, none⟩ (.int .u64 b)).setCell ⟨g, m1, none⟩ (.int .u64 a) = W := ⟨_, rfl⟩
              rw [hV3] at S3
              try rw [hV3]
              clear hV3 r1 r2 g1 g2
              go_wp2_with fail
              exact ⟨⟨m1, swapU cur2 m, by first | rfl | go_num, by have := HM.out; omega, (by first | exact S3.out | exact S3.out.below (Below.refl _ _).drew), HN.out⟩, by have := HM.out; simp [intOf]; omega⟩
          · have HN := Lib.hid (TD.out hc)
            clear SW H2 T2 TD TN
            go_wp2_with fail
            exact ⟨⟨k + 1, cur2, by go_num, by omega, by omega, H3.out, HN.out⟩, by simp [intOf]; omega⟩
    · have HTn := Lib.hid (show SortT cur n from fun p q h1 h2 => HT.out p q h1 (by omega))
      go_wp2_with fail
      go_end0
      exact ⟨rfl, cur, HS.out, HTn.out⟩
theorem pdq_u (base g c n : Nat) (k : Int) (L : List Int) (w : World) (h : Se.OwnU base w (.slice (some ⟨g, 0, none⟩) n c) L) (hn : L.length = n) (hm : n ≤ 12) :
    Calls Tryz.prog 165 #[.slice (some ⟨g, 0, none⟩) n c, .int .i64 0, .int .i64 n, .int .i64 k] w fun e w' => e = .returned (.tuple #[]) ∧ InsEnd base g c n L w w' := by
  have C := Lib.hid (insertion_u base g c n L w h hn (by omega))
  have i0 : (n : Int) ≤ 12 := by omega
  have i1 : (0 : Int) ≤ (n : Int) := by omega
  have t0 : decide ((n : Int) ≤ 12) = true := by simpa using i0
  clear h hn
  go_enter Tryz.func165, Tryz.ntmps165
  go_wp2_with fail
  go_loopw [1, 2] (fun a b wr => a = .int .i64 0 ∧ b = .int .i64 n ∧ wr = w) (fun _ _ _ => 0)
  case atStart => exact ⟨rfl, rfl, rfl⟩
  case round =>
    obtain ⟨rfl, rfl, rfl⟩ := hrel
    go_wp2_with (go_at_call 210; (with_reducible refine C.out.mono ?_); rintro e w1 ⟨rfl, hi⟩; have HI := Lib.hid hi; clear hi)
    first
      | (go_ret; exact ⟨rfl, HI.out⟩)
      | exact bodyPost_ret (v := .tuple #[]) (by simp [results, Tryz.results165, go_sem]) rfl ⟨rfl, HI.out⟩
def SortEnd (base : Nat) (v : Value) (L : List Int) (w : World) (e : Ending) (w' : World) : Prop := e = .returned (.tuple #[]) ∧ ∃ cur, Se.OwnU base w' v cur ∧ cur.length = L.length ∧ (∀ t, t ∈ cur ↔ t ∈ L) ∧ cur.Pairwise (· ≤ ·) ∧ w.grownBy w' v.ownBlock
theorem sort_u (base : Nat) (v : Value) (L : List Int) (w : World) (h : Se.OwnU base w v L) (hm : L.length ≤ 12) (h0 : 0 < L.length) :
    Calls Tryz.prog 103 #[v] w (SortEnd base v L w) := by
  obtain ⟨A, c, rfl, hA⟩ := OwnU.form h
  obtain ⟨g, rfl, _, _⟩ := hA h0
  obtain ⟨n, hn⟩ : ∃ n, L.length = n := ⟨_, rfl⟩
  have CL := Lib.hid (fun W => Len_bits n (by omega) W)
  have CP := Lib.hid (fun k => pdq_u base g c n k L w (by rw [← hn]; exact h) hn (by omega))
  have HN := Lib.hid hn
  rw [hn]
  have i0 : (n : Int) ≤ 12 := by omega
  have i1 : (0 : Int) ≤ (n : Int) := by omega
  clear h hA hn h0 hm
  go_enter Tryz.func103, Tryz.ntmps103
  go_wp2_with (first
    | (go_at_call 166; (with_reducible refine (CL.out _).mono ?_); rintro e w1 ⟨rfl, rfl⟩)
    | (go_at_call 165; (with_reducible refine (CP.out _).mono ?_); rintro e w1 ⟨rfl, hi⟩; have HI := Lib.hid hi; clear hi)
    | fail)
  go_end0
  obtain ⟨cur, hs, ht⟩ := HI.out
  refine ⟨rfl, cur, hs.own, by rw [hs.len, HN.out], hs.mem, sortT_row (by rw [hs.len]; exact ht), hs.gr⟩
end
end Go.Proofs.YtmolpogehgeebaaGreat


namespace Go.Proofs.YtmolpogehgeebaaGreat
open Go.RowKit
def FirstP (L : List (Int × Int)) (t : Int) (w : World) (e : Ending) (w' : World) : Prop := ∃ n : Int, e = .returned (.int .i64 n) ∧ Below w.heap.size w w' ∧ ((n = -1 ∧ Se.Iset.has L t = false) ∨ (∃ i : Nat, n = i ∧ i ≤ L.length) ∧ Se.Iset.has L t = true)
section
set_option maxRecDepth 100000
set_option maxHeartbeats 4000000
theorem has1_any (a b t : Int) (q : Nat) (w : World) (hq : Bx w q #[.int .u64 t]) : Calls Tryz.prog 168 #[.agg #[.int .u64 a, .int .u64 b], .pointer (some ⟨q, 0, none⟩)] w fun e w' => e = .returned (.bool (Se.Iset.hasP (a, b) t)) ∧ Below w.heap.size w w' := by
  have HH := Lib.hid (Se.Has_any a b t)
  have HE := Lib.hid (show Se.hasB a b t = Se.Iset.hasP (a, b) t from rfl)
  have B0 := Lib.hid ((Below.refl w.heap.size w).alloc (Nat.le_refl _) (.cells #[.int .u64 a, .int .u64 b] 33))
  have x0 := (hq.below B0.out).c 0
  clear hq
  go_enter Tryz.func168, Tryz.ntmps168
  go_wp2_with fail
  refine (HH.out _).mono ?_
  rintro e w1 ⟨rfl, hb1⟩
  go_wp2
  go_ret
  exact ⟨by rw [← HE.out]; rfl, B0.out.trans (hb1.mono B0.out.size)⟩
theorem idxP_any (va : Value) (L : List (Int × Int)) (t : Int) (q : Nat) (w : World) (hq : Bx w q #[.int .u64 t]) (h : Se.IsP w va L) (hl : L.length ≤ 1000000) :
    Calls Tryz.prog 221 #[va, .func (.func 168) #[] #[.pointer (some ⟨q, 0, none⟩)]] w (FirstP L t w) := by
  obtain ⟨A, c, rfl, hA⟩ := h
  have HA := Lib.hid hA
  have HQ := Lib.hid hq
  clear hA hq
  go_enter Tryz.func221, Tryz.ntmps221
  go_wp2
  go_loopw [8] (fun i wr => ∃ k : Nat, k ≤ L.length ∧ i = .int .i64 k ∧ Se.Iset.has (L.take k) t = false ∧ Below w.heap.size w wr) (fun i _ => L.length - (intOf i).toNat)
  case atStart => exact ⟨0, Nat.zero_le _, rfl, rfl, Below.refl _ _⟩
  case round =>
    obtain ⟨k, hk, rfl, hp, hb⟩ := hrel
    have HP := Lib.hid hp
    have HB := Lib.hid hb
    clear hp hb
    by_cases hlt : k < L.length
    · obtain ⟨g, off, rfl, lg, cg⟩ := (HA.out.below HB.out) (by omega)
      obtain ⟨r0, r1⟩ := cg k hlt
      have HK : Hid (∀ b, Se.Iset.hasP (L[k].1, L[k].2) t = b → (b = true → Se.Iset.has L t = true) ∧ (b = false → Se.Iset.has (L.take (k + 1)) t = false)) := Lib.hid fun b h => ⟨fun e => (Se.Iset.has_iff L t).2 ⟨L[k], List.getElem_mem hlt, by rw [← e, ← h]⟩, fun e => by
        rw [List.take_succ_eq_append_getElem hlt, Se.Iset.has_append, HP.out, Se.Iset.has_cons, Se.Iset.has_nil]
        have : Se.Iset.hasP L[k] t = false := by rw [← e, ← h]
        rw [this]; rfl⟩
      obtain ⟨a, ha⟩ : ∃ x, L[k].1 = x := ⟨_, rfl⟩
      obtain ⟨b, hb⟩ : ∃ x, L[k].2 = x := ⟨_, rfl⟩
      rw [ha] at r0 HK
      rw [hb] at r1 HK
      have C1 := Lib.hid (has1_any a b t q wr (HQ.out.below HB.out))
      obtain ⟨z, hz⟩ : ∃ z, Se.Iset.hasP (a, b) t = z := ⟨_, rfl⟩
      have HZ := Lib.hid (HK.out z hz)
      rw [hz] at C1
      have i0 : (k : Int) < (L.length : Int) := by omega
      have i1 : (0 : Int) ≤ (k : Int) := by omega
      clear cg HP HK ha hb hz
      go_wp2_with (go_at_call 168; (with_reducible refine (C1.out).mono ?_); rintro e w1 ⟨rfl, hb⟩; have B1 := Lib.hid (HB.out.trans (hb.mono HB.out.size)); clear hb r0 r1; cases z)
      · have HN := Lib.hid (HZ.out.2 (by trivial))
        clear HZ
        exact ⟨⟨k + 1, by omega, by go_num, HN.out, B1.out⟩, by simp [intOf]; omega⟩
      · go_ret
        exact ⟨k, rfl, B1.out, .inr ⟨⟨k, rfl, hk⟩, HZ.out.1 (by trivial)⟩⟩
    · obtain rfl : k = L.length := by omega
      have HN := Lib.hid (show Se.Iset.has L t = false by have h := HP.out; rwa [List.take_length] at h)
      clear HP
      go_wp2
      go_ret
      exact ⟨-1, rfl, HB.out, .inl ⟨rfl, HN.out⟩⟩
theorem contP_any (va : Value) (L : List (Int × Int)) (t : Int) (q : Nat) (w : World) (hq : Bx w q #[.int .u64 t]) (h : Se.IsP w va L) (hl : L.length ≤ 1000000) :
    Calls Tryz.prog 167 #[va, .func (.func 168) #[] #[.pointer (some ⟨q, 0, none⟩)]] w fun e w' => e = .returned (.bool (Se.Iset.has L t)) ∧ Below w.heap.size w w' := by
  have CI := Lib.hid (idxP_any va L t q w hq h hl)
  obtain ⟨A, c, rfl, _⟩ := h
  clear hq
  obtain ⟨z, hz⟩ : ∃ z, Se.Iset.has L t = z := ⟨_, rfl⟩
  have HZ := Lib.hid hz
  rw [hz]
  clear hz
  go_enter Tryz.func167, Tryz.ntmps167
  go_wp2_with (go_at_call 221; (with_reducible refine CI.out.mono ?_); rintro e w1 ⟨n, rfl, hb, hn⟩; have HN := Lib.hid hn; have B1 := Lib.hid hb; clear hb hn)
  go_ret
  refine ⟨?_, B1.out⟩
  rcases HN.out with ⟨rfl, h⟩ | ⟨⟨i, rfl, _⟩, h⟩
  · rw [← HZ.out, h]; rfl
  · rw [← HZ.out, h]
    simp
theorem HasI_any (va : Value) (L : List (Int × Int)) (t : Int) (w : World) (h : Se.IsP w va L) (hl : L.length ≤ 1000000) :
    Calls Tryz.prog 105 #[va, .int .u64 t] w fun e w' => e = .returned (.bool (Se.Iset.has L t)) ∧ Below w.heap.size w w' := by
  have B0 := Lib.hid ((Below.refl w.heap.size w).alloc (Nat.le_refl _) (.cells #[.int .u64 t] 22))
  have CI := Lib.hid (contP_any va L t w.heap.size (w.alloc (.cells #[.int .u64 t] 22)) (Bx.new w _ _) (h.below B0.out) hl)
  obtain ⟨A, c, rfl, _⟩ := h
  go_enter Tryz.func105, Tryz.ntmps105
  go_wp2_with (go_at_call 167; (with_reducible refine CI.out.mono ?_); rintro e w1 ⟨rfl, hb⟩; have B1 := Lib.hid (B0.out.trans (hb.mono B0.out.size)); clear hb)
  go_ret
  exact ⟨rfl, B1.out⟩
end
end Go.Proofs.YtmolpogehgeebaaGreat


namespace Go.Proofs.YtmolpogehgeebaaGreat
open Go.RowKit
theorem meansAt_line {l : List Pie} (h : Pl.Line okV l) (t : Int) : meansAt l t = Pl.means VP.none l t := by unfold meansAt; rw [if_pos h]
def LineAns (l : List Pie) (w : World) (e : Ending) (w' : World) : Prop := ∃ u, e = .returned u ∧ SL w' u l ∧ Below w.heap.size w w'
def LineOwn (l : List Pie) (w : World) (e : Ending) (w' : World) : Prop := ∃ u, e = .returned u ∧ OwnL w.heap.size w' u l ∧ Below w.heap.size w w'
section
set_option maxRecDepth 100000
set_option maxHeartbeats 8000000
theorem eHas_any (v : Value) (x : Ent) (t : Int) (w : World) (h : EAt w v x) (hx : x.wide) :
    Calls Tryz.prog 29 #[v, .int .u64 t] w (Says (Se.Iset.has x.val t = true ∧ x.may) w) := by
  have HE := Lib.hid h
  obtain ⟨sv, sp, rfl, hv, hp⟩ := h
  have CH := Lib.hid (fun W (hb : Below w.heap.size w W) => HasI_any sv x.val t W (hv.below hb) (by have := hx.lenV; omega))
  have CM := Lib.hid (fun W (hb : Below w.heap.size w W) => eMay_any (.agg (x.cells sv sp)) x W (HE.out.below hb) hx)
  obtain ⟨A, c, rfl, _⟩ := hv
  obtain ⟨A', c', rfl, _, _⟩ := hp
  obtain ⟨xe, xid, xlab, xfr, xtil, val, ps⟩ := x
  simp only at CH CM
  clear hx HE
  have B0 := Lib.hid ((Below.refl w.heap.size w).alloc (Nat.le_refl _) (.cells #[.bool xe, .int .u64 xid, .string xlab, .int .u64 xfr, .int .u64 xtil, .slice A val.length c, .slice A' ps.length c'] 38))
  have X0 := Lib.hid (Bx.new w #[.bool xe, .int .u64 xid, .string xlab, .int .u64 xfr, .int .u64 xtil, .slice A val.length c, .slice A' ps.length c'] 38)
  obtain ⟨b, hb⟩ : ∃ b, Se.Iset.has val t = b := ⟨_, rfl⟩
  rw [hb] at CH
  have HB := Lib.hid hb
  clear hb
  cases b
  · have HN : Hid (¬ (Se.Iset.has val t = true ∧ Ent.may ⟨xe, xid, xlab, xfr, xtil, val, ps⟩)) := Lib.hid fun h => by rw [HB.out] at h; cases h.1
    go_enter Tryz.func29, Tryz.ntmps29
    go_wp2_with (go_at_call 105; (with_reducible refine (CH.out _ B0.out).mono ?_); rintro e w1 ⟨rfl, hb⟩; have B1 := Lib.hid (B0.out.trans (hb.mono B0.out.size)); clear hb)
    go_ret
    exact ⟨false, rfl, ⟨fun h => (by cases h), fun h => absurd h HN.out⟩, B1.out⟩
  · have HY : Hid (∀ c : Bool, (c = true ↔ Ent.may ⟨xe, xid, xlab, xfr, xtil, val, ps⟩) → (c = true ↔ Se.Iset.has val t = true ∧ Ent.may ⟨xe, xid, xlab, xfr, xtil, val, ps⟩)) := Lib.hid fun c h => by rw [h, HB.out]; simp
    go_enter Tryz.func29, Tryz.ntmps29
    go_wp2_with (first
      | (go_at_call 105; (with_reducible refine (CH.out _ B0.out).mono ?_); rintro e w1 ⟨rfl, hb⟩; have B1 := Lib.hid (B0.out.trans (hb.mono B0.out.size)); have x0 := (X0.out.below hb).c; clear hb)
      | (go_at_call 25; (with_reducible refine (CM.out _ B1.out).mono ?_); rintro e w2 ⟨c2, rfl, hc, hb⟩; have HC := Lib.hid (HY.out _ hc); have B2 := Lib.hid (B1.out.trans (hb.mono B1.out.size)); clear hb hc x0)
      | fail)
    go_ret
    exact ⟨c2, rfl, HC.out, B2.out⟩
theorem lineOf_any (v : Value) (x : Ent) (key : ByteArray) (w : World) (h : EAt w v x) (hx : x.wide) (hm : x.may) :
    Calls Tryz.prog 107 #[v, .string key] w (LineAns (lineK x.ps key) w) := by
  have HE := Lib.hid h
  have HM := Lib.hid hm
  obtain ⟨sv, sp, rfl, hv, hp⟩ := h
  have HP := Lib.hid hp
  have CF := Lib.hid (fun W (hb : Below w.heap.size w W) => find_any sp x.ps key W (hp.below hb) hm.ps.row (by have := hm.num; omega))
  have CM := Lib.hid (fun W (hb : Below w.heap.size w W) => (eMay_any (.agg (x.cells sv sp)) x W (HE.out.below hb) hx).mono fun _ _ h => h.yes hm)
  obtain ⟨A, c, rfl, _⟩ := hv
  obtain ⟨A', c', rfl, hA, _⟩ := hp
  have HA := Lib.hid hA
  obtain ⟨xe, xid, xlab, xfr, xtil, val, ps⟩ := x
  simp only at CF CM HA HP ⊢
  clear hx hm HE hA
  have B0 := Lib.hid ((Below.refl w.heap.size w).alloc (Nat.le_refl _) (.cells #[.bool xe, .int .u64 xid, .string xlab, .int .u64 xfr, .int .u64 xtil, .slice A val.length c, .slice A' ps.length c'] 38))
  have X0 := Lib.hid (Bx.new w #[.bool xe, .int .u64 xid, .string xlab, .int .u64 xfr, .int .u64 xtil, .slice A val.length c, .slice A' ps.length c'] 38)
  go_enter Tryz.func107, Tryz.ntmps107
  go_upto_region 2 with (go_at_call 172; (with_reducible refine (CF.out _ B0.out).mono ?_); rintro e w1 ⟨i, r, rfl, hpl, hr, hb⟩; have HPL := Lib.hid hpl; have HR := Lib.hid hr; have B1 := Lib.hid (B0.out.trans (hb.mono B0.out.size)); have X1 := Lib.hid (X0.out.below hb); clear hpl hr hb)
  cases r
  · have HN : Hid (lineK ps key = []) := Lib.hid (lineK_none ((HPL.out.there HM.out.ps.row).2 fun g e => by have := HR.out.2 ⟨g, e⟩; cases this))
    go_wp2_with fail
    go_ret
    exact ⟨_, rfl, by rw [HN.out]; exact SL.nil _, B1.out⟩
  · obtain ⟨hi, he⟩ := HR.out.1 rfl
    have HL := Lib.hid ((HPL.out.there HM.out.ps.row).1 hi he)
    have HI := Lib.hid hi
    have i0 : (i : Int) < (ps.length : Int) := by omega
    have i1 : (0 : Int) ≤ (i : Int) := by omega
    clear he
    have x0 := X1.out.c
    go_upto_if 18 with (go_at_call 25; (with_reducible refine (CM.out _ B1.out).mono ?_); rintro e w2 ⟨rfl, hb⟩; have B2 := Lib.hid (B1.out.trans (hb.mono B1.out.size)); have X2 := Lib.hid (X1.out.below hb); clear hb x0)
    obtain ⟨g, off, rfl, lg, cg⟩ := (HA.out.below B2.out) (by have := HI.out; omega)
    obtain ⟨r0, u, r1, hu⟩ := cg i HI.out
    have HU := Lib.hid hu
    obtain ⟨Au, cu, rfl, _⟩ := hu
    have x0 := X2.out.c
    clear cg
    go_wp2_with fail
    go_ret
    exact ⟨_, rfl, by rw [HL.out]; exact HU.out, B2.out⟩
theorem eLine_any (v : Value) (x : Ent) (key : ByteArray) (w : World) (h : EAt w v x) (hx : x.wide) (hm : x.may) :
    Calls Tryz.prog 35 #[v, .string key] w (LineOwn (lineK x.ps key) w) := by
  have HE := Lib.hid h
  have CL := Lib.hid (fun W (hb : Below w.heap.size w W) => lineOf_any v x key W (h.below hb) hx hm)
  have CC := Lib.hid (fun W u (hu : SL W u (lineK x.ps key)) => copied_any u (lineK x.ps key) W hu (by
    rcases lineK_case x.ps key with ⟨p, hp, _, e⟩ | ⟨_, e⟩
    · rw [e]; have := hx.lenP p hp; omega
    · rw [e]; simp) fun y hy => by
    rcases lineK_case x.ps key with ⟨p, hp, _, e⟩ | ⟨_, e⟩
    · rw [e] at hy; exact ((may_strs hm).2 p hp).2 y hy
    · rw [e] at hy; simp at hy)
  obtain ⟨sv, sp, rfl, hv, hp⟩ := h
  obtain ⟨A, c, rfl, _⟩ := hv
  obtain ⟨A', c', rfl, _, _⟩ := hp
  obtain ⟨xe, xid, xlab, xfr, xtil, val, ps⟩ := x
  simp only at CL CC ⊢
  clear hx hm HE
  have B0 := Lib.hid ((Below.refl w.heap.size w).alloc (Nat.le_refl _) (.cells #[.bool xe, .int .u64 xid, .string xlab, .int .u64 xfr, .int .u64 xtil, .slice A val.length c, .slice A' ps.length c'] 38))
  go_enter Tryz.func35, Tryz.ntmps35
  go_wp2_with (first
    | (go_at_call 107; (with_reducible refine (CL.out _ B0.out).mono ?_); rintro e w1 ⟨u, rfl, hu, hb⟩; have B1 := Lib.hid (B0.out.trans (hb.mono B0.out.size)); have HU := Lib.hid hu; clear hu hb)
    | (go_at_call 109; (with_reducible refine (CC.out _ _ HU.out).mono ?_); rintro e w2 ⟨u2, rfl, ho, hb⟩; have HO := Lib.hid (OwnL.mono ho B1.out.size); have B2 := Lib.hid (B1.out.trans (hb.mono B1.out.size)); clear ho hb)
    | fail)
  go_ret
  exact ⟨_, rfl, HO.out, B2.out⟩
theorem eAt_any (v : Value) (x : Ent) (key : ByteArray) (t : Int) (w : World) (h : EAt w v x) (hx : x.wide) (hm : x.may) :
    Calls Tryz.prog 30 #[v, .string key, .int .u64 t] w fun e w' => e = .returned (atK x.ps key t).val ∧ Below w.heap.size w w' := by
  have CL := Lib.hid (fun W (hb : Below w.heap.size w W) => lineOf_any v x key W (h.below hb) hx hm)
  have CA := Lib.hid (fun W u (hu : SL W u (lineK x.ps key)) => (At_any u (lineK x.ps key) t W hu (line_w (hm.ps.any key).1) (by
    rcases lineK_case x.ps key with ⟨p, hp, _, e⟩ | ⟨_, e⟩
    · rw [e]; have := hx.lenP p hp; omega
    · rw [e]; simp)).mono fun e w' h => (show ∃ y : VP, y = atK x.ps key t ∧ e = .returned y.val ∧ Below W.heap.size W w' from ⟨_, meansAt_line (hm.ps.any key).1 t, h.1, h.2⟩))
  obtain ⟨sv, sp, rfl, hv, hp⟩ := h
  obtain ⟨A, c, rfl, _⟩ := hv
  obtain ⟨A', c', rfl, _, _⟩ := hp
  obtain ⟨xe, xid, xlab, xfr, xtil, val, ps⟩ := x
  simp only at CL CA ⊢
  clear hx hm
  have hsf := store_float
  have B0 := Lib.hid (((Below.refl w.heap.size w).alloc (Nat.le_refl _) (.cells #[.bool xe, .int .u64 xid, .string xlab, .int .u64 xfr, .int .u64 xtil, .slice A val.length c, .slice A' ps.length c'] 38)).alloc (by simp) (.cells #[.int .i64 0, .bool false, .int .i64 0, .float .f64 0, .string ⟨#[]⟩] 31))
  have Y0 := Lib.hid (Bx.new (w.alloc (.cells #[.bool xe, .int .u64 xid, .string xlab, .int .u64 xfr, .int .u64 xtil, .slice A val.length c, .slice A' ps.length c'] 38)) #[.int .i64 0, .bool false, .int .i64 0, .float .f64 0, .string ⟨#[]⟩] 31)
  rw [show (w.alloc (.cells #[.bool xe, .int .u64 xid, .string xlab, .int .u64 xfr, .int .u64 xtil, .slice A val.length c, .slice A' ps.length c'] 38)).heap.size = w.heap.size + 1 by simp] at Y0
  go_enter Tryz.func30, Tryz.ntmps30
  go_wp2_with (first
    | (go_at_call 107; (with_reducible refine (CL.out _ B0.out).mono ?_); rintro e w1 ⟨u, rfl, hu, hb⟩; have B1 := Lib.hid (B0.out.trans (hb.mono B0.out.size)); have HU := Lib.hid hu; have Y1 := Lib.hid (Y0.out.below hb); clear hu hb)
    | (go_at_call 106; (with_reducible refine (CA.out _ _ HU.out).mono ?_); rintro e w2 ⟨⟨yk, yb, yn, yf, ys⟩, hy, rfl, hb⟩; have HY := Lib.hid hy; have B2 := Lib.hid (B1.out.trans (hb.mono B1.out.size)); have Y2 := Lib.hid (Y1.out.below hb); clear hy hb; have y0 := Y2.out.c; have y1 := Y2.out.fr)
    | fail)
  obtain ⟨s0, s1, s2, s3, s4⟩ := set5 w2 (w.heap.size + 1) (.int .i64 yk) (.bool yb) (.int .i64 yn) (.float .f64 yf) (.string ys) _ rfl y0
  refine bodyPost_ret (v := vagg yk yb yn yf ys) (by simp [results, Tryz.results30, go_sem, s0, s1, s2, s3, s4]) rfl ?_
  exact ⟨by rw [← HY.out], set5_below _ _ _ _ _ _ (by omega) B2.out⟩
end
end Go.Proofs.YtmolpogehgeebaaGreat


