/- The digits of a number as package wire puts them: length, room, digits, put. -/
import Derived.Test.YtokgpifelinonaaA3
import Derived.Test.YtokgpifelinonaaM1
import Derived.Lib.Small
import Derived.OwnWalk
import Derived.Laws.MakeOwn
import Derived.LoopTactic
import Derived.Deep.AppendLies
namespace Go.Proofs.Ytokgpifelinonaa
open Go.RowKit

/-- A byte in a cell; a row of bytes in cells. -/
def bv (b : UInt8) : Value := .int .u8 (b.toNat : Int)
def cellsB (l : List UInt8) : List Value := l.map bv
theorem cellsB_length (l : List UInt8) : (cellsB l).length = l.length := by simp [cellsB]
theorem cellsB_append (a b : List UInt8) : cellsB (a ++ b) = cellsB a ++ cellsB b := by simp [cellsB]
theorem cellsB_one (l : List UInt8) : ∀ u ∈ cellsB l, u.oneCell' = true := by
  intro u hu
  simp only [cellsB, List.mem_map] at hu
  obtain ⟨b, _, rfl⟩ := hu
  rfl
/-- Where the bytes of a slice lie. -/
def At (w : World) (A : Option Addr) (l : List UInt8) : Prop := 0 < l.length → ∃ b off, A = some ⟨b, off, none⟩ ∧ b < w.heap.size ∧ ∀ i, i < l.length → w.cell? ⟨b, off + i, none⟩ = some (bv (l.getD i 0))
theorem At.below {w w' : World} {A : Option Addr} {l : List UInt8} (h : At w A l) (hb : Below w.heap.size w w') : At w' A l := fun h0 => by
  obtain ⟨b, off, e, hl, hc⟩ := h h0
  have hs := hb.size
  exact ⟨b, off, e, by omega, fun i hi => (hb.cell (p := ⟨b, off + i, none⟩) hl).trans (hc i hi)⟩
theorem At.grown {w w' : World} {A : Option Addr} {l : List UInt8} {ad : Addr} (h : At w A l) (hg : w.grownBy w' none) (e : A = some ad) : At w' (some ad) l := by
  subst e
  exact h.below ((Below.refl _ _).grown hg (Nat.le_refl _) (by simp))
theorem add_plain (b off j : Nat) : (⟨b, off, none⟩ : Addr).add j = ⟨b, off + j, none⟩ := by unfold Addr.add; split <;> simp_all
theorem At.cells {w : World} {ad : Addr} {l : List UInt8} (h : At w (some ad) l) : ∀ j u, (cellsB l)[j]? = some u → w.cell? (ad.add j) = some u := by
  intro j u hu
  have hj : j < l.length := by
    rcases Nat.lt_or_ge j l.length with h1 | h1
    · exact h1
    · rw [List.getElem?_eq_none (by simpa [cellsB] using h1)] at hu; cases hu
  obtain ⟨b, off, e, _, hc⟩ := h (by omega)
  injection e with e
  subst e
  rw [add_plain, hc j hj, ← hu]
  simp [cellsB, List.getD, hj]
theorem tab_at (T : ByteArray) (i : Nat) (h : i < T.size) : ((((T[((i : Nat) : Int).toNat]?).getD 0).toNat : Nat) : Int) = ((T[i]'h).toNat : Int) := by
  rw [Int.toNat_natCast, getElem?_pos T i h, Option.getD_some]
theorem tab_len (i : Nat) (h : i < Lib.len8tab.size) : ((Lib.len8tab[i]'h).toNat : Int) = (Lib.bitLen i : Int) ∧ i < 256 ∧ Lib.bitLen i ≤ 8 := by
  have hs : i < 256 := Nat.lt_of_lt_of_eq h Lib.len8tab_size
  have e := Lib.len8_of (i : Int) (Int.natCast_nonneg i) (Int.le_of_lt_add_one (Int.ofNat_lt.2 hs))
  have l := Lib.bitLen_le8' (i : Int) (Int.natCast_nonneg i) (Int.le_of_lt_add_one (Int.ofNat_lt.2 hs))
  rw [Lib.len8, tab_at Lib.len8tab i h] at e
  exact ⟨e, hs, l⟩
theorem leaf_num (n : Nat) (k i : Nat) (l : Lib.bitLen i ≤ 8) (hn : n < 2 ^ 64) (hk : k = 0 ∨ 2 ^ k ≤ n) (hi : i = n / 2 ^ k) (h64 : k ≤ 64) : wrap64 ((k : Int) + wrap64 (Lib.bitLen i : Int)) = Lib.bitLen n := by
  have s : Lib.bitLen n = k + Lib.bitLen i := by
    rcases hk with rfl | hk
    · rw [Nat.pow_zero, Nat.div_one] at hi; rw [hi, Nat.zero_add]
    · rw [hi]; exact Lib.bitLen_shift k n hk hn
  rw [s]
  unfold wrap64
  omega
/-- The byte of the table, behind the shift of a number by k bits. -/
theorem len_leaf (n : Nat) (K : Int) (k i : Nat) (h : i < Lib.len8tab.size) (hK : K = (k : Int)) (hn : n < 2 ^ 64) (hk : k = 0 ∨ 2 ^ k ≤ n) (hi : i = n / 2 ^ k) (h64 : k ≤ 64) : wrap64 (K + wrap64 ((Lib.len8tab[i]'h).toNat : Int)) = Lib.bitLen n := by
  obtain ⟨e, _, l⟩ := tab_len i h
  rw [e, hK]
  exact leaf_num n k i l hn hk hi h64
theorem below_tab {i : Nat} (h : i < 256) : i < Lib.len8tab.size := Nat.lt_of_lt_of_eq h Lib.len8tab_size.symm
theorem wrap_zero (x : Int) : wrap64 (wrap64 x) = wrap64 (0 + wrap64 x) := by rw [Int.zero_add]
set_option maxHeartbeats 4000000 in
set_option maxRecDepth 100000 in
theorem Len64_int (n : Int) (w : World) (h0 : 0 ≤ n) (h1 : n ≤ 18446744073709551615) :
    Calls Try.prog 60 #[.int .u64 n] w fun e w' => e = .returned (.int .i64 (Lib.bitLen n.toNat)) ∧ w = w' := by
  have hsz := Lib.len8tab_size
  go_enter Try.func60, Try.ntmps60
  go_wp2
  all_goals (go_ret; refine ⟨ret1 ?_, rfl⟩)
  · exact len_leaf n.toNat 56 56 _ (below_tab (by omega)) rfl (by omega) (.inr (by omega)) (by omega) (by omega)
  · exact len_leaf n.toNat 48 48 _ (below_tab (by omega)) rfl (by omega) (.inr (by omega)) (by omega) (by omega)
  · exact len_leaf n.toNat 40 40 _ (below_tab (by omega)) rfl (by omega) (.inr (by omega)) (by omega) (by omega)
  · exact len_leaf n.toNat 32 32 _ (below_tab (by omega)) rfl (by omega) (.inr (by omega)) (by omega) (by omega)
  · exact len_leaf n.toNat 24 24 _ (below_tab (by omega)) rfl (by omega) (.inr (by omega)) (by omega) (by omega)
  · exact len_leaf n.toNat 16 16 _ (below_tab (by omega)) rfl (by omega) (.inr (by omega)) (by omega) (by omega)
  · exact len_leaf n.toNat 8 8 _ (below_tab (by omega)) rfl (by omega) (.inr (by omega)) (by omega) (by omega)
  · rw [wrap_zero]
    exact len_leaf n.toNat 0 0 _ (below_tab (by omega)) rfl (by omega) (.inl rfl) (by omega) (by omega)
theorem Len64_any (n : Nat) (w : World) (hn : n < 2 ^ 64) :
    Calls Try.prog 60 #[.int .u64 n] w fun e w' => e = .returned (.int .i64 (Lib.bitLen n)) ∧ w = w' := by
  have h := Len64_int n w (by omega) (by omega)
  rw [Int.toNat_natCast] at h
  exact h
set_option maxHeartbeats 400000 in
theorem length_any (n : Nat) (w : World) (hn : n < 2 ^ 64) :
    Calls Try.prog 45 #[.int .u64 n] w fun e w' => e = .returned (.int .i64 (nlen n)) ∧ w = w' := by
  have hb : (Lib.bitLen n : Int) ≤ 64 := by have := (bitLen_lt 64 n hn).2 hn; omega
  have C := Lib.hid (fun w => Len64_any n w hn)
  clear hn
  go_enter Try.func45, Try.ntmps45
  go_wp2_with (go_at_call 60; ((with_reducible refine (C.out _).mono ?_); rintro e w' ⟨rfl, rfl⟩))
  go_ret
  exact ⟨ret1 (by unfold nlen; omega), rfl⟩
theorem info8 : (Try.prog.info? 5).map (fun i => (i.zero, i.size, i.bytes)) = some (some (.int .u8 0), 1, 1) := by kernel_rfl
set_option maxRecDepth 100000 in
set_option maxHeartbeats 1000000 in
theorem room_any (A : Option Addr) (l : List UInt8) (cap more : Nat) (w : World) (hA : At w A l) (hz : A = none → cap = 0) (hm : l.length + more ≤ 140737488355328) :
    Calls Try.prog 43 #[.slice A l.length cap, .int .i64 more] w fun e w' => e = .returned (.slice (some ⟨w.heap.size, 0, none⟩) l.length (l.length + more)) ∧
      w'.ownsRow w.heap.size 5 1 (.slice (some ⟨w.heap.size, 0, none⟩) l.length (l.length + more)) l.length (cellsB l) ∧ Below w.heap.size w w' := by
  obtain ⟨i0, hi, hz0, hz1, hz2⟩ := info_parts info8
  have HA := Lib.hid hA
  have HZ := Lib.hid hz
  clear hA hz
  have HB : Hid (i0.bytes * (l.length + more) ≤ 281474976710656) := by rw [hz2]; show _ ≤ _; omega
  have HM : Hid (l.length + more ≤ maxLen) := by show _ ≤ _; unfold maxLen; omega
  have h0 : A = none → l.length = 0 ∧ cap = 0 := by
    intro h
    refine ⟨?_, HZ.out h⟩
    rcases Nat.eq_zero_or_pos l.length with e | e
    · exact e
    · obtain ⟨b, off, e, _⟩ := HA.out e
      rw [h] at e
      cases e
  have H0 := Lib.hid h0
  clear h0
  clear HZ
  go_enter Try.func43, Try.ntmps43
  go_wp2_with (first
    | (at_make; refine wpList_make_own _ rfl _ _ _ rfl w.heap.size 5 i0 _ 1 Try.underlying22 hi hz0 hz1 .i64 .i64 _ (l.length + more) rfl rfl (by omega) HB.out HM.out (Nat.le_refl _) ?_; intro w1 hown1 hg1; have HG1 := Lib.hid hg1; clear hg1)
    | (at_builtin; refine wpList_append_fits_any _ rfl _ _ _ rfl w.heap.size 5 i0 1 Try.underlying22 hi hz1 w.heap.size 0 (l.length + more) [] rfl hown1 A l.length cap (cellsB l) rfl (by rw [cellsB_length]; omega) H0.out (fun ad h => At.cells (w := w1) (HA.out.grown HG1.out h)) (cellsB_one l) (by omega) ?_; intro w2 hown2 hg2))
  go_ret
  simp only [Nat.zero_add, List.nil_append] at hown2
  refine ⟨by simp, hown2, ((Below.refl _ _).grown HG1.out (Nat.le_refl _) (by simp)).grown hg2 HG1.out.size (by simp)⟩
end Go.Proofs.Ytokgpifelinonaa
