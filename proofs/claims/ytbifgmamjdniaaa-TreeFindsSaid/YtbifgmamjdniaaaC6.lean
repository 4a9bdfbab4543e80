/- Lists of entries in slices; two of them held against each other; depth as it must be. -/
import Derived.Test.YtbifgmamjdniaaaC5
import Derived.Test.YtbifgmamjdniaaaC3
import Derived.Lib.BitFns
namespace Go.Proofs.Ytbifgmamjdniaaa
open Go.RowKit
open Itree (E T dep endT bs ord sz nodes lean rotL rotR bal ins del hasT first AVL Srt eachL over)
/-- Where the entries of a slice lie. -/
def EAt (w : World) (A : Option Addr) (L : List E) : Prop := 0 < L.length → ∃ b off, A = some ⟨b, off, none⟩ ∧ b < w.heap.size ∧ ∀ i (h : i < L.length), w.cell? ⟨b, off + i * 3, none⟩ = some (.int .u64 (L[i].a)) ∧ w.cell? ⟨b, off + i * 3 + 1, none⟩ = some (.int .u64 (L[i].b)) ∧ w.cell? ⟨b, off + i * 3 + 2, none⟩ = some (.int .u64 (L[i].n))
theorem EAt.below {w w' : World} {A : Option Addr} {L : List E} (h : EAt w A L) (hb : Below w.heap.size w w') : EAt w' A L := fun h0 => by
  obtain ⟨g, off, e, hl, hc⟩ := h h0
  have hs := hb.size
  exact ⟨g, off, e, by omega, fun i hi => ⟨(hb.cell (p := ⟨g, off + i * 3, none⟩) hl).trans (hc i hi).1, (hb.cell (p := ⟨g, off + i * 3 + 1, none⟩) hl).trans (hc i hi).2.1, (hb.cell (p := ⟨g, off + i * 3 + 2, none⟩) hl).trans (hc i hi).2.2⟩⟩
/-- A slice that holds these entries. -/
def IsE (w : World) (v : Value) (L : List E) : Prop := ∃ A c, v = .slice A L.length c ∧ EAt w A L
theorem IsE.below {w w' : World} {v : Value} {L : List E} (h : IsE w v L) (hb : Below w.heap.size w w') : IsE w' v L := by
  obtain ⟨A, c, e, hA⟩ := h
  exact ⟨A, c, e, hA.below hb⟩
theorem IsE.nil (w : World) : IsE w (.slice none 0 0) [] := ⟨none, 0, rfl, fun h => absurd h (Nat.lt_irrefl 0)⟩
theorem cellsE_get (L : List E) (i : Nat) (h : i < L.length) : (cellsE L)[i * 3]? = some (.int .u64 (L[i].a)) ∧ (cellsE L)[i * 3 + 1]? = some (.int .u64 (L[i].b)) ∧ (cellsE L)[i * 3 + 2]? = some (.int .u64 (L[i].n)) := by
  induction L generalizing i with
  | nil => simp at h
  | cons x L ih =>
    cases i with
    | zero => simp [cellsE]
    | succ i =>
      have := ih i (by simpa using h)
      have e : cellsE (x :: L) = .int .u64 x.a :: .int .u64 x.b :: .int .u64 x.n :: cellsE L := by simp [cellsE]
      rw [e, show (i + 1) * 3 = i * 3 + 1 + 1 + 1 by omega]
      simpa using this
theorem OwnE.isE {base : Nat} {w : World} {v : Value} {L : List E} (h : OwnE base w v L) : IsE w v L := by
  rcases h.2 with ⟨rfl, h0⟩ | ⟨g, cap, cur, rfl, hb, hg, hn, hm, hs, ht⟩
  · have : L = [] := List.eq_nil_of_length_eq_zero h0
    subst this
    exact IsE.nil _
  · refine ⟨_, cap, rfl, fun h0 => ⟨g, 0, rfl, (Array.getElem?_eq_some_iff.1 hg).1, fun i hi => ?_⟩⟩
    obtain ⟨c0, c1, c2⟩ := cellsE_get L i hi
    rw [← ht] at c0 c1 c2
    rw [List.getElem?_take_of_lt (by omega)] at c0 c1 c2
    simp only [Array.getElem?_toList] at c0 c1 c2
    simp only [World.cell?, hg, Nat.zero_add]
    exact ⟨c0, c1, c2⟩
/-- Are two lists the same? -/
def sameE (L M : List E) : Bool := decide (L = M)
theorem sameE_at {L M : List E} (k : Nat) (h : k < L.length) (g : k < M.length) (hne : ¬ (L[k].a = M[k].a ∧ L[k].b = M[k].b ∧ L[k].n = M[k].n)) : sameE L M = false := by
  rw [sameE, decide_eq_false_iff_not]
  rintro rfl
  exact hne ⟨rfl, rfl, rfl⟩
theorem sameE_all {L M : List E} (hl : L.length = M.length) (h : ∀ k (h : k < L.length) (g : k < M.length), L[k].a = M[k].a ∧ L[k].b = M[k].b ∧ L[k].n = M[k].n) : sameE L M = true := by
  rw [sameE, decide_eq_true_eq]
  exact List.ext_getElem hl fun k h1 h2 => Itree.E.ext' (h k h1 h2).1 (h k h1 h2).2.1 (h k h1 h2).2.2
theorem bel_drewN {w w' : World} (n : Nat) (h : Below w.heap.size w w') : Below w.heap.size w (w'.drewN n) := ⟨h.os, h.tape, h.output, h.size, h.block⟩
set_option maxRecDepth 100000 in
set_option maxHeartbeats 2000000 in
theorem Same_any (va vb : Value) (L M : List E) (w : World) (ha : IsE w va L) (hb : IsE w vb M) (hl : L.length ≤ 4000000000000) (hm : M.length ≤ 4000000000000) :
    Calls Try.prog 13 #[va, vb] w fun e w' => e = .returned (.bool (sameE L M)) ∧ Below w.heap.size w w' := by
  obtain ⟨A, c, rfl, hA⟩ := ha
  obtain ⟨B, d, rfl, hB⟩ := hb
  have HA := Lib.hid hA
  have HB := Lib.hid hB
  clear hA hB
  by_cases hne : L.length = M.length
  · have HN := Lib.hid (sameE_at (L := L) (M := M))
    have HY := Lib.hid (sameE_all (L := L) (M := M) hne)
    have HE := Lib.hid hne
    have hne' : ((L.length : Int) != (M.length : Int)) = false := by simp [hne]
    clear hne
    go_enter Try.func13, Try.ntmps13
    go_wp2
    clear hne'
    go_loopw [13] (fun v wr => ∃ i : Nat, i ≤ L.length ∧ v = .int .i64 i ∧ (∀ k (h : k < L.length) (g : k < M.length), k < i → L[k].a = M[k].a ∧ L[k].b = M[k].b ∧ L[k].n = M[k].n) ∧ Below w.heap.size w wr) (fun v _ => L.length - (intOf v).toNat)
    case atStart => exact ⟨0, Nat.zero_le _, rfl, fun k _ _ h => absurd h (Nat.not_lt_zero k), Below.refl _ _⟩
    case round =>
      obtain ⟨i, hi, rfl, hp, hb⟩ := hrel
      have HP := Lib.hid hp
      have HBl := Lib.hid hb
      clear hp hb
      by_cases hlt : i < L.length
      · have hlt2 : i < M.length := by have := HE.out; omega
        obtain ⟨g, og, rfl, lg, cg⟩ := (HA.out.below HBl.out) (by omega)
        obtain ⟨f, of, rfl, lf, cf⟩ := (HB.out.below HBl.out) (by omega)
        obtain ⟨x0, x1, x2⟩ := cg i hlt
        obtain ⟨y0, y1, y2⟩ := cf i hlt2
        have HN1 := Lib.hid (HN.out i hlt hlt2)
        have HP1 := Lib.hid (fun (h : L[i].a = M[i].a ∧ L[i].b = M[i].b ∧ L[i].n = M[i].n) k (h1 : k < L.length) (h2 : k < M.length) (h3 : k < i + 1) => if e : k = i then (by subst e; exact h) else HP.out k h1 h2 (by omega))
        have i0 : (i : Int) < (L.length : Int) := by omega
        have i0' : (i : Int) < (M.length : Int) := by omega
        have i1 : (0 : Int) ≤ (i : Int) := by omega
        generalize L[i].a = p at *
        generalize L[i].b = q at *
        generalize L[i].n = s at *
        generalize M[i].a = p' at *
        generalize M[i].b = q' at *
        generalize M[i].n = s' at *
        clear cg cf HA HB HN HP
        by_cases h1 : p = p'
        · subst h1
          by_cases h2 : q = q'
          · subst h2
            by_cases h3 : s = s'
            · subst h3
              have HP2 := Lib.hid (HP1.out ⟨rfl, rfl, rfl⟩)
              clear HP1 HN1
              go_upto_region 6 with fail
              go_quiet (fail)
              go_wp2
              exact ⟨⟨i + 1, by omega, by go_num, HP2.out, bel_drewN _ HBl.out⟩, by simp [intOf]; omega⟩
            · have HN2 := Lib.hid (HN1.out fun h => h3 h.2.2)
              have h3' : (s == s') = false := by simpa using h3
              clear HP1 HN1 h3
              go_upto_region 6 with fail
              go_quiet (fail)
              go_wp2
              go_ret
              exact ⟨by rw [HN2.out]; rfl, bel_drewN _ HBl.out⟩
          · have HN2 := Lib.hid (HN1.out fun h => h2 h.2.1)
            have h2' : (q == q') = false := by simpa using h2
            clear HP1 HN1 h2
            go_upto_region 6 with fail
            go_quiet (fail)
            go_wp2
            go_ret
            exact ⟨by rw [HN2.out]; rfl, bel_drewN _ HBl.out⟩
        · have HN2 := Lib.hid (HN1.out fun h => h1 h.1)
          have h1' : (p == p') = false := by simpa using h1
          clear HP1 HN1 h1
          go_upto_region 6 with fail
          go_quiet (fail)
          go_wp2
          go_ret
          exact ⟨by rw [HN2.out]; rfl, bel_drewN _ HBl.out⟩
      · have HT := Lib.hid (HY.out fun k h1 h2 => HP.out k h1 h2 (by omega))
        clear HP
        go_wp2
        go_ret
        exact ⟨by rw [HT.out]; rfl, HBl.out⟩
  · have HN := Lib.hid (show sameE L M = false from by
      rw [sameE, decide_eq_false_iff_not]
      rintro rfl
      exact hne rfl)
    have hne' : ((L.length : Int) != (M.length : Int)) = true := by simp; omega
    clear hne
    go_enter Try.func13, Try.ntmps13
    go_wp2
    go_ret
    exact ⟨by rw [HN.out]; rfl, Below.refl _ _⟩
theorem P_any (a b : Int) (w : World) : Calls Try.prog 19 #[.int .u64 a, .int .u64 b] w fun e w' => e = .returned (.agg #[.int .u64 a, .int .u64 b]) ∧ Below w.heap.size w w' := by
  go_enter Try.func19, Try.ntmps19
  go_wp2
  refine bodyPost_ret (v := .agg #[.int .u64 a, .int .u64 b]) (by simp [results, Try.results19, go_sem]) rfl ⟨rfl, ?_⟩
  exact (Below.refl _ _).alloc (Nat.le_refl _) _
theorem tab_at (T : ByteArray) (i : Nat) (h : i < T.size) : ((((T[((i : Nat) : Int).toNat]?).getD 0).toNat : Nat) : Int) = ((T[i]'h).toNat : Int) := by
  rw [Int.toNat_natCast, getElem?_pos T i h, Option.getD_some]
theorem tab_len (i : Nat) (h : i < Lib.len8tab.size) : ((Lib.len8tab[i]'h).toNat : Int) = (Lib.bitLen i : Int) ∧ i < 256 ∧ Lib.bitLen i ≤ 8 := by
  have hs : i < 256 := Nat.lt_of_lt_of_eq h Lib.len8tab_size
  have e := Lib.len8_of (i : Int) (Int.natCast_nonneg i) (Int.le_of_lt_add_one (Int.ofNat_lt.2 hs))
  have l := Lib.bitLen_le8' (i : Int) (Int.natCast_nonneg i) (Int.le_of_lt_add_one (Int.ofNat_lt.2 hs))
  rw [Lib.len8, tab_at Lib.len8tab i h] at e
  exact ⟨e, hs, l⟩
theorem leaf_num (n : Nat) (k i : Nat) (l : Lib.bitLen i ≤ 8) (hn : n < 2 ^ 64) (hk : k = 0 ∨ 2 ^ k ≤ n) (hi : i = n / 2 ^ k) (h64 : k ≤ 64) : wrap64 ((k : Int) + wrap64 (Lib.bitLen i : Int)) = Lib.bitLen n := by
  have s : Lib.bitLen n = k + Lib.bitLen i := by
    rcases hk with rfl | hk
    · rw [Nat.pow_zero, Nat.div_one] at hi; rw [hi, Nat.zero_add]
    · rw [hi]; exact Lib.bitLen_shift k n hk hn
  rw [s]
  unfold wrap64
  omega
/-- The byte of the table, behind the shift of a number by k bits. -/
theorem len_leaf (n : Nat) (K : Int) (k i : Nat) (h : i < Lib.len8tab.size) (hK : K = (k : Int)) (hn : n < 2 ^ 64) (hk : k = 0 ∨ 2 ^ k ≤ n) (hi : i = n / 2 ^ k) (h64 : k ≤ 64) : wrap64 (K + wrap64 ((Lib.len8tab[i]'h).toNat : Int)) = Lib.bitLen n := by
  obtain ⟨e, _, l⟩ := tab_len i h
  rw [e, hK]
  exact leaf_num n k i l hn hk hi h64
theorem below_tab {i : Nat} (h : i < 256) : i < Lib.len8tab.size := Nat.lt_of_lt_of_eq h Lib.len8tab_size.symm
theorem wrap_zero (x : Int) : wrap64 (wrap64 x) = wrap64 (0 + wrap64 x) := by rw [Int.zero_add]
set_option maxHeartbeats 4000000 in
set_option maxRecDepth 100000 in
theorem Len64_int (n : Int) (w : World) (h0 : 0 ≤ n) (h1 : n ≤ 18446744073709551615) :
    Calls Try.prog 54 #[.int .u64 n] w fun e w' => e = .returned (.int .i64 (Lib.bitLen n.toNat)) ∧ w = w' := by
  have hsz := Lib.len8tab_size
  go_enter Try.func54, Try.ntmps54
  go_wp2
  all_goals (go_ret; refine ⟨ret1 ?_, rfl⟩)
  · exact len_leaf n.toNat 56 56 _ (below_tab (by omega)) rfl (by omega) (.inr (by omega)) (by omega) (by omega)
  · exact len_leaf n.toNat 48 48 _ (below_tab (by omega)) rfl (by omega) (.inr (by omega)) (by omega) (by omega)
  · exact len_leaf n.toNat 40 40 _ (below_tab (by omega)) rfl (by omega) (.inr (by omega)) (by omega) (by omega)
  · exact len_leaf n.toNat 32 32 _ (below_tab (by omega)) rfl (by omega) (.inr (by omega)) (by omega) (by omega)
  · exact len_leaf n.toNat 24 24 _ (below_tab (by omega)) rfl (by omega) (.inr (by omega)) (by omega) (by omega)
  · exact len_leaf n.toNat 16 16 _ (below_tab (by omega)) rfl (by omega) (.inr (by omega)) (by omega) (by omega)
  · exact len_leaf n.toNat 8 8 _ (below_tab (by omega)) rfl (by omega) (.inr (by omega)) (by omega) (by omega)
  · rw [wrap_zero]
    exact len_leaf n.toNat 0 0 _ (below_tab (by omega)) rfl (by omega) (.inl rfl) (by omega) (by omega)
theorem Len64_any (n : Nat) (w : World) (hn : n < 2 ^ 64) :
    Calls Try.prog 54 #[.int .u64 n] w fun e w' => e = .returned (.int .i64 (Lib.bitLen n)) ∧ w = w' := by
  have h := Len64_int n w (by omega) (by omega)
  rw [Int.toNat_natCast] at h
  exact h
theorem len_key {s j : Nat} (h : 2 ^ j ≤ s) (hs : s < 2 ^ 64) : j + 1 ≤ Lib.bitLen s := by
  rw [Lib.bitLen_shift j s h hs]
  have : s / 2 ^ j ≠ 0 := by
    have := Nat.div_pos h (Nat.two_pow_pos j)
    omega
  have := Lib.bitLen_half (s / 2 ^ j) this (Nat.lt_of_le_of_lt (Nat.div_le_self _ _) hs)
  omega
/-- A depth that may be. -/
def DeepOk (d n : Nat) : Prop := d ≤ 14 ∧ n + 1 ≤ 2 ^ d ∧ (n = 0 ∧ d = 0 ∨ 0 < n ∧ 2 * d ≤ 3 * Lib.bitLen n + 2)
theorem deep_ok (t : T) (h : AVL t) (hs : sz t ≤ 1023) : DeepOk (dep t) (sz t) := by
  obtain ⟨h1, h2, h3⟩ := Itree.deep_yes t h hs
  refine ⟨h1, h2, ?_⟩
  rcases h3 with h3 | ⟨h3, h4⟩
  · exact .inl h3
  · refine .inr ⟨h3, ?_⟩
    have : Itree.nlen (sz t) ≤ Lib.bitLen (sz t) := by
      unfold Itree.nlen
      rw [if_neg (by omega)]
      exact len_key ((Nat.le_log2 (by omega)).1 (Nat.le_refl _)) (by omega)
    omega
theorem Len_bits (n : Nat) (hn : n < 2 ^ 64) (w : World) : Calls Try.prog 43 #[.int .u64 n] w fun e w' => e = .returned (.int .i64 (Lib.bitLen n)) ∧ w = w' := by
  have C := Lib.hid (fun w => Len64_any n w hn)
  clear hn
  go_enter Try.func43, Try.ntmps43
  go_wp2_with (go_at_call 54; ((with_reducible refine (C.out _).mono ?_); rintro e w' ⟨rfl, rfl⟩))
  go_ret
  exact ⟨rfl, rfl⟩
theorem retb {b : Bool} (h : b = true) : Ending.returned (.bool b) = .returned (.bool true) := by rw [h]
set_option maxRecDepth 100000 in
set_option maxHeartbeats 2000000 in
theorem deep_zero (w : World) : Calls Try.prog 22 #[.int .i64 0, .int .i64 0] w fun e w' => e = .returned (.bool true) ∧ w = w' := by
  go_enter Try.func22, Try.ntmps22
  go_wp2
  go_ret
  exact ⟨rfl, rfl⟩
set_option maxRecDepth 100000 in
set_option maxHeartbeats 4000000 in
theorem deep_some (d n : Nat) (hn : 0 < n) (hd : d ≤ 14) (h2 : n + 1 ≤ 2 ^ d) (h3 : 2 * d ≤ 3 * Lib.bitLen n + 2) (w : World) : Calls Try.prog 22 #[.int .i64 d, .int .i64 n] w fun e w' => e = .returned (.bool true) ∧ w = w' := by
  have hs : n < 2 ^ 14 := Nat.lt_of_lt_of_le (Nat.lt_of_succ_le h2) (Nat.pow_le_pow_right (by decide) hd)
  have hl : Lib.bitLen n ≤ 14 := Lib.bitLen_le n 14 (by decide) hs
  have LB := Lib.hid (Len_bits n (by omega))
  have h0 : ((n : Int) == 0) = false := by simp; omega
  have hw : IntKind.u64.wrap (n : Int) = n := by rw [IntKind.wrap_u64]; omega
  generalize Lib.bitLen n = m at *
  have hw3 : IntKind.i64.wrap (3 * (m : Int)) = 3 * m := by rw [IntKind.wrap_i64]; omega
  have hw4 : IntKind.i64.wrap (3 * (m : Int) + 2) = 3 * m + 2 := by rw [IntKind.wrap_i64]; omega
  have hc : d = 1 ∨ d = 2 ∨ d = 3 ∨ d = 4 ∨ d = 5 ∨ d = 6 ∨ d = 7 ∨ d = 8 ∨ d = 9 ∨ d = 10 ∨ d = 11 ∨ d = 12 ∨ d = 13 ∨ d = 14 := by
    have : d ≠ 0 := by rintro rfl; omega
    omega
  clear hs hd
  rcases hc with rfl | rfl | rfl | rfl | rfl | rfl | rfl | rfl | rfl | rfl | rfl | rfl | rfl | rfl
  all_goals (
    as_aux_lemma =>
      simp only [Nat.reducePow, Nat.reduceMul] at h2 h3
      replace h2 := Int.ofNat_le.2 h2
      replace h3 := Int.ofNat_le.2 h3
      push_cast at h2 h3
      go_enter Try.func22, Try.ntmps22
      go_wp2_with (go_at_call 43; ((with_reducible refine (LB.out _).mono ?_); rintro e w' ⟨rfl, rfl⟩))
      all_goals (first
        | (exfalso; omega)
        | (go_ret
           exact ⟨retb (decide_eq_true (by omega)), rfl⟩)))
theorem deep_any (d n : Nat) (h : DeepOk d n) (w : World) : Calls Try.prog 22 #[.int .i64 d, .int .i64 n] w fun e w' => e = .returned (.bool true) ∧ w = w' := by
  obtain ⟨h1, h2, ⟨rfl, rfl⟩ | ⟨h3, h4⟩⟩ := h
  · exact deep_zero w
  · exact deep_some d n h3 h1 h2 h4 w
end Go.Proofs.Ytbifgmamjdniaaa
