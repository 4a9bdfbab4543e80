/- Digits in base 256, and the forms of numbers, whole numbers, floats and strings, as lists of bytes: plain arithmetic. -/
import Derived.Lib.BitFns
import Derived.Lib.Bytealg
import Derived.Test.YtchklaepilcbbaaGreatH1
import Derived.Lib.Small
import Derived.OwnWalk
import Derived.Laws.MakeOwn
import Derived.LoopTactic
import Derived.Deep.AppendLies
import Derived.Maps.AppendAt
import Derived.Lib.MinMax
import Derived.Defers
import Derived.Shelf.Bytes.SlEqualAll
namespace Go.Proofs.YtchklaepilcbbaaGreat

/-- The last k digits of n, the most significant first. -/
def digs (n : Nat) : Nat → List UInt8
  | 0 => []
  | k + 1 => UInt8.ofNat (n / 256 ^ k) :: digs n k
/-- What digits say. -/
def val : List UInt8 → Nat
  | [] => 0
  | a :: l => a.toNat * 256 ^ l.length + val l
theorem digs_length (n k : Nat) : (digs n k).length = k := by
  induction k with
  | zero => rfl
  | succ k ih => simp [digs, ih]
theorem val_lt (l : List UInt8) : val l < 256 ^ l.length := by
  induction l with
  | nil => simp [val]
  | cons a l ih =>
    have ha := a.toNat_lt
    have h : a.toNat * 256 ^ l.length ≤ 255 * 256 ^ l.length := Nat.mul_le_mul_right _ (by omega)
    simp only [val, List.length_cons, Nat.pow_succ]
    omega
theorem byte_ofNat (n : Nat) : (UInt8.ofNat n).toNat = n % 256 := by simp
theorem val_digs (n k : Nat) : val (digs n k) = n % 256 ^ k := by
  induction k with
  | zero => simp [digs, val, Nat.mod_one]
  | succ k ih =>
    simp only [digs, val, ih, digs_length, byte_ofNat]
    rw [Nat.pow_succ, Nat.mod_mul, Nat.mul_comm, Nat.add_comm]
theorem digs_add (n m k : Nat) : digs (n * 256 ^ k + m) k = digs m k := by
  suffices h : ∀ j, j ≤ k → digs (n * 256 ^ k + m) j = digs m j from h k (Nat.le_refl _)
  intro j
  induction j with
  | zero => intro _; rfl
  | succ j ih =>
    intro hj
    simp only [digs]
    rw [ih (by omega)]
    congr 1
    apply UInt8.toNat_inj.1
    rw [byte_ofNat, byte_ofNat]
    obtain ⟨d, rfl⟩ : ∃ d, k = j + 1 + d := ⟨k - (j + 1), by omega⟩
    rw [show n * 256 ^ (j + 1 + d) + m = 256 ^ j * (n * 256 ^ d * 256) + m by rw [Nat.pow_add, Nat.pow_succ]; ac_rfl]
    rw [Nat.mul_add_div (Nat.pow_pos (by omega))]
    omega
theorem digs_val (l : List UInt8) : digs (val l) l.length = l := by
  induction l with
  | nil => rfl
  | cons a l ih =>
    simp only [val, List.length_cons, digs]
    rw [digs_add, ih]
    congr 1
    apply UInt8.toNat_inj.1
    rw [byte_ofNat, Nat.mul_comm, Nat.mul_add_div (Nat.pow_pos (by omega)), Nat.div_eq_of_lt (val_lt l)]
    have := a.toNat_lt
    omega
/-- How many digits a number has. -/
def nlen (n : Nat) : Nat := (Lib.bitLen n + 7) / 8
theorem bitLen_lt : ∀ (k x : Nat), x < 2 ^ 64 → (Lib.bitLen x ≤ k ↔ x < 2 ^ k) := by
  intro k
  induction k with
  | zero =>
    intro x hx
    by_cases h : x = 0
    · subst h; simp [Lib.bitLen, Lib.bitLenAux]
    · rw [Lib.bitLen_half x h hx]; simp; omega
  | succ k ih =>
    intro x hx
    by_cases h : x = 0
    · subst h; simp [Lib.bitLen, Lib.bitLenAux, Nat.pow_pos]
    · rw [Lib.bitLen_half x h hx]
      have := ih (x / 2) (by omega)
      rw [Nat.pow_succ]
      omega
theorem nlen_le (k n : Nat) (hn : n < 2 ^ 64) : nlen n ≤ k ↔ n < 256 ^ k := by
  have h := bitLen_lt (8 * k) n hn
  rw [show (256 : Nat) ^ k = 2 ^ (8 * k) by rw [Nat.pow_mul]]
  unfold nlen
  omega
theorem nlen_8 (n : Nat) (hn : n < 2 ^ 64) : nlen n ≤ 8 := (nlen_le 8 n hn).2 hn
theorem nlen_lt (n : Nat) (hn : n < 2 ^ 64) : n < 256 ^ nlen n := (nlen_le _ n hn).1 (Nat.le_refl _)
theorem nlen_ge (n : Nat) (hn : n < 2 ^ 64) (h : n ≠ 0) : 0 < nlen n ∧ 256 ^ (nlen n - 1) ≤ n := by
  have h0 : 0 < nlen n := by
    rcases Nat.eq_zero_or_pos (nlen n) with e | e
    · have := nlen_lt n hn; rw [e] at this; omega
    · exact e
  refine ⟨h0, ?_⟩
  rcases Nat.lt_or_ge n (256 ^ (nlen n - 1)) with h1 | h1
  · have := (nlen_le _ n hn).2 h1; omega
  · exact h1
theorem nlen_zero : nlen 0 = 0 := by decide
theorem nlen_eq (n k : Nat) (hn : n < 2 ^ 64) (h1 : n < 256 ^ k) (h2 : 0 < k → 256 ^ (k - 1) ≤ n) : nlen n = k := by
  have a := (nlen_le k n hn).2 h1
  rcases Nat.lt_or_ge (nlen n) k with h | h
  · have b := (nlen_le (k - 1) n hn).1 (by omega)
    have := h2 (by omega)
    omega
  · omega
/-- The form of a number. -/
def encNum (n : Nat) : List UInt8 := UInt8.ofNat (nlen n) :: digs n (nlen n)
/-- Each digit taken from 255. -/
def flip8 (l : List UInt8) : List UInt8 := l.map fun c => 255 - c
theorem flip8_length (l : List UInt8) : (flip8 l).length = l.length := by simp [flip8]
theorem byte_flip (c : UInt8) : (255 - c).toNat = 255 - c.toNat := by
  rw [UInt8.toNat_sub_of_le _ _ (by have := c.toNat_lt; exact UInt8.le_iff_toNat_le.2 (by simp; omega))]; rfl
theorem flip8_flip8 (l : List UInt8) : flip8 (flip8 l) = l := by
  unfold flip8
  rw [List.map_map]
  conv => rhs; rw [← List.map_id l]
  apply List.map_congr_left
  intro c _
  apply UInt8.toNat_inj.1
  simp only [Function.comp, id, byte_flip]
  have := c.toNat_lt
  omega
theorem val_flip8 (l : List UInt8) : val (flip8 l) = 256 ^ l.length - 1 - val l := by
  induction l with
  | nil => simp [flip8, val]
  | cons a l ih =>
    have e : flip8 (a :: l) = (255 - a) :: flip8 l := rfl
    have h1 := val_lt l
    have h2 := a.toNat_lt
    rw [e]
    simp only [val, flip8_length, List.length_cons, Nat.pow_succ, byte_flip, ih]
    rw [Nat.sub_mul]
    have h3 : a.toNat * 256 ^ l.length ≤ 255 * 256 ^ l.length := Nat.mul_le_mul_right _ (by omega)
    omega
/-- The digits of the complement are the digits, each taken from 255. -/
theorem digs_flip (n k : Nat) (h : n < 256 ^ k) : digs (256 ^ k - 1 - n) k = flip8 (digs n k) := by
  have e := digs_val (flip8 (digs n k))
  rw [val_flip8, flip8_length, digs_length, val_digs, Nat.mod_eq_of_lt h] at e
  exact e
/-- The form of a whole number. -/
def encInt (z : Int) : List UInt8 :=
  if 0 ≤ z then UInt8.ofNat (16 + nlen z.toNat) :: digs z.toNat (nlen z.toNat)
  else UInt8.ofNat (15 - nlen (-(z + 1)).toNat) :: flip8 (digs (-(z + 1)).toNat (nlen (-(z + 1)).toNat))
/-- Where a float stands. -/
def placeF (f : Nat) : Nat := if f < 9223372036854775808 then f + 9223372036854775808 else 18446744073709551615 - f
def encFloat (f : Nat) : List UInt8 := digs (placeF f) 8
/-- The form of a string, without its end. -/
def escT : List UInt8 → List UInt8
  | [] => []
  | c :: l => if c = 0 then 0 :: 255 :: escT l else c :: escT l
def encText (l : List UInt8) : List UInt8 := escT l ++ [0, 0]
theorem escT_append (a b : List UInt8) : escT (a ++ b) = escT a ++ escT b := by
  induction a with
  | nil => rfl
  | cons c a ih =>
    simp only [List.cons_append, escT, ih]
    split <;> simp
theorem escT_length (l : List UInt8) : l.length ≤ (escT l).length ∧ (escT l).length ≤ 2 * l.length := by
  induction l with
  | nil => simp [escT]
  | cons c l ih =>
    simp only [escT, List.length_cons]
    split <;> simp <;> omega
theorem encNum_length (n : Nat) (h : n < 2 ^ 64) : (encNum n).length ≤ 9 := by
  have := nlen_8 n h
  simp [encNum, digs_length]; omega
end Go.Proofs.YtchklaepilcbbaaGreat

namespace Go.Proofs.YtchklaepilcbbaaGreat
open Go.RowKit

/-- A byte in a cell; a row of bytes in cells. -/
def bv (b : UInt8) : Value := .int .u8 (b.toNat : Int)
def cellsB (l : List UInt8) : List Value := l.map bv
theorem cellsB_length (l : List UInt8) : (cellsB l).length = l.length := by simp [cellsB]
theorem cellsB_append (a b : List UInt8) : cellsB (a ++ b) = cellsB a ++ cellsB b := by simp [cellsB]
theorem cellsB_one (l : List UInt8) : ∀ u ∈ cellsB l, u.oneCell' = true := by
  intro u hu
  simp only [cellsB, List.mem_map] at hu
  obtain ⟨b, _, rfl⟩ := hu
  rfl
/-- Where the bytes of a slice lie. -/
def At (w : World) (A : Option Addr) (l : List UInt8) : Prop := 0 < l.length → ∃ b off, A = some ⟨b, off, none⟩ ∧ b < w.heap.size ∧ ∀ i, i < l.length → w.cell? ⟨b, off + i, none⟩ = some (bv (l.getD i 0))
theorem At.below {w w' : World} {A : Option Addr} {l : List UInt8} (h : At w A l) (hb : Below w.heap.size w w') : At w' A l := fun h0 => by
  obtain ⟨b, off, e, hl, hc⟩ := h h0
  have hs := hb.size
  exact ⟨b, off, e, by omega, fun i hi => (hb.cell (p := ⟨b, off + i, none⟩) hl).trans (hc i hi)⟩
theorem At.grown {w w' : World} {A : Option Addr} {l : List UInt8} {ad : Addr} (h : At w A l) (hg : w.grownBy w' none) (e : A = some ad) : At w' (some ad) l := by
  subst e
  exact h.below ((Below.refl _ _).grown hg (Nat.le_refl _) (by simp))
theorem add_plain (b off j : Nat) : (⟨b, off, none⟩ : Addr).add j = ⟨b, off + j, none⟩ := by unfold Addr.add; split <;> simp_all
theorem At.cells {w : World} {ad : Addr} {l : List UInt8} (h : At w (some ad) l) : ∀ j u, (cellsB l)[j]? = some u → w.cell? (ad.add j) = some u := by
  intro j u hu
  have hj : j < l.length := by
    rcases Nat.lt_or_ge j l.length with h1 | h1
    · exact h1
    · rw [List.getElem?_eq_none (by simpa [cellsB] using h1)] at hu; cases hu
  obtain ⟨b, off, e, _, hc⟩ := h (by omega)
  injection e with e
  subst e
  rw [add_plain, hc j hj, ← hu]
  simp [cellsB, List.getD, hj]
theorem tab_at (T : ByteArray) (i : Nat) (h : i < T.size) : ((((T[((i : Nat) : Int).toNat]?).getD 0).toNat : Nat) : Int) = ((T[i]'h).toNat : Int) := by
  rw [Int.toNat_natCast, getElem?_pos T i h, Option.getD_some]
theorem tab_len (i : Nat) (h : i < Lib.len8tab.size) : ((Lib.len8tab[i]'h).toNat : Int) = (Lib.bitLen i : Int) ∧ i < 256 ∧ Lib.bitLen i ≤ 8 := by
  have hs : i < 256 := Nat.lt_of_lt_of_eq h Lib.len8tab_size
  have e := Lib.len8_of (i : Int) (Int.natCast_nonneg i) (Int.le_of_lt_add_one (Int.ofNat_lt.2 hs))
  have l := Lib.bitLen_le8' (i : Int) (Int.natCast_nonneg i) (Int.le_of_lt_add_one (Int.ofNat_lt.2 hs))
  rw [Lib.len8, tab_at Lib.len8tab i h] at e
  exact ⟨e, hs, l⟩
theorem leaf_num (n : Nat) (k i : Nat) (l : Lib.bitLen i ≤ 8) (hn : n < 2 ^ 64) (hk : k = 0 ∨ 2 ^ k ≤ n) (hi : i = n / 2 ^ k) (h64 : k ≤ 64) : wrap64 ((k : Int) + wrap64 (Lib.bitLen i : Int)) = Lib.bitLen n := by
  have s : Lib.bitLen n = k + Lib.bitLen i := by
    rcases hk with rfl | hk
    · rw [Nat.pow_zero, Nat.div_one] at hi; rw [hi, Nat.zero_add]
    · rw [hi]; exact Lib.bitLen_shift k n hk hn
  rw [s]
  unfold wrap64
  omega
/-- The byte of the table, behind the shift of a number by k bits. -/
theorem len_leaf (n : Nat) (K : Int) (k i : Nat) (h : i < Lib.len8tab.size) (hK : K = (k : Int)) (hn : n < 2 ^ 64) (hk : k = 0 ∨ 2 ^ k ≤ n) (hi : i = n / 2 ^ k) (h64 : k ≤ 64) : wrap64 (K + wrap64 ((Lib.len8tab[i]'h).toNat : Int)) = Lib.bitLen n := by
  obtain ⟨e, _, l⟩ := tab_len i h
  rw [e, hK]
  exact leaf_num n k i l hn hk hi h64
theorem below_tab {i : Nat} (h : i < 256) : i < Lib.len8tab.size := Nat.lt_of_lt_of_eq h Lib.len8tab_size.symm
theorem wrap_zero (x : Int) : wrap64 (wrap64 x) = wrap64 (0 + wrap64 x) := by rw [Int.zero_add]
set_option maxHeartbeats 4000000 in
set_option maxRecDepth 100000 in
theorem Len64_int (n : Int) (w : World) (h0 : 0 ≤ n) (h1 : n ≤ 18446744073709551615) :
    Calls Tryz.prog 144 #[.int .u64 n] w fun e w' => e = .returned (.int .i64 (Lib.bitLen n.toNat)) ∧ w = w' := by
  have hsz := Lib.len8tab_size
  go_enter Tryz.func144, Tryz.ntmps144
  go_wp2
  all_goals (go_ret; refine ⟨ret1 ?_, rfl⟩)
  · exact len_leaf n.toNat 56 56 _ (below_tab (by omega)) rfl (by omega) (.inr (by omega)) (by omega) (by omega)
  · exact len_leaf n.toNat 48 48 _ (below_tab (by omega)) rfl (by omega) (.inr (by omega)) (by omega) (by omega)
  · exact len_leaf n.toNat 40 40 _ (below_tab (by omega)) rfl (by omega) (.inr (by omega)) (by omega) (by omega)
  · exact len_leaf n.toNat 32 32 _ (below_tab (by omega)) rfl (by omega) (.inr (by omega)) (by omega) (by omega)
  · exact len_leaf n.toNat 24 24 _ (below_tab (by omega)) rfl (by omega) (.inr (by omega)) (by omega) (by omega)
  · exact len_leaf n.toNat 16 16 _ (below_tab (by omega)) rfl (by omega) (.inr (by omega)) (by omega) (by omega)
  · exact len_leaf n.toNat 8 8 _ (below_tab (by omega)) rfl (by omega) (.inr (by omega)) (by omega) (by omega)
  · rw [wrap_zero]
    exact len_leaf n.toNat 0 0 _ (below_tab (by omega)) rfl (by omega) (.inl rfl) (by omega) (by omega)
theorem Len64_any (n : Nat) (w : World) (hn : n < 2 ^ 64) :
    Calls Tryz.prog 144 #[.int .u64 n] w fun e w' => e = .returned (.int .i64 (Lib.bitLen n)) ∧ w = w' := by
  have h := Len64_int n w (by omega) (by omega)
  rw [Int.toNat_natCast] at h
  exact h
set_option maxHeartbeats 400000 in
theorem length_any (n : Nat) (w : World) (hn : n < 2 ^ 64) :
    Calls Tryz.prog 122 #[.int .u64 n] w fun e w' => e = .returned (.int .i64 (nlen n)) ∧ w = w' := by
  have hb : (Lib.bitLen n : Int) ≤ 64 := by have := (bitLen_lt 64 n hn).2 hn; omega
  have C := Lib.hid (fun w => Len64_any n w hn)
  clear hn
  go_enter Tryz.func122, Tryz.ntmps122
  go_wp2_with (go_at_call 144; ((with_reducible refine (C.out _).mono ?_); rintro e w' ⟨rfl, rfl⟩))
  go_ret
  exact ⟨ret1 (by unfold nlen; omega), rfl⟩
theorem info8 : (Tryz.prog.info? 5).map (fun i => (i.zero, i.size, i.bytes)) = some (some (.int .u8 0), 1, 1) := by kernel_rfl
set_option maxRecDepth 100000 in
set_option maxHeartbeats 1000000 in
theorem room_any (A : Option Addr) (l : List UInt8) (cap more : Nat) (w : World) (hA : At w A l) (hz : A = none → cap = 0) (hm : l.length + more ≤ 140737488355328) :
    Calls Tryz.prog 121 #[.slice A l.length cap, .int .i64 more] w fun e w' => e = .returned (.slice (some ⟨w.heap.size, 0, none⟩) l.length (l.length + more)) ∧
      w'.ownsRow w.heap.size 5 1 (.slice (some ⟨w.heap.size, 0, none⟩) l.length (l.length + more)) l.length (cellsB l) ∧ Below w.heap.size w w' := by
  obtain ⟨i0, hi, hz0, hz1, hz2⟩ := info_parts info8
  have HA := Lib.hid hA
  have HZ := Lib.hid hz
  clear hA hz
  have HB : Hid (i0.bytes * (l.length + more) ≤ 281474976710656) := by rw [hz2]; show _ ≤ _; omega
  have HM : Hid (l.length + more ≤ maxLen) := by show _ ≤ _; unfold maxLen; omega
  have h0 : A = none → l.length = 0 ∧ cap = 0 := by
    intro h
    refine ⟨?_, HZ.out h⟩
    rcases Nat.eq_zero_or_pos l.length with e | e
    · exact e
    · obtain ⟨b, off, e, _⟩ := HA.out e
      rw [h] at e
      cases e
  have H0 := Lib.hid h0
  clear h0
  clear HZ
  go_enter Tryz.func121, Tryz.ntmps121
  go_wp2_with (first
    | (at_make; refine wpList_make_own _ rfl _ _ _ rfl w.heap.size 5 i0 _ 1 Tryz.underlying25 hi hz0 hz1 .i64 .i64 _ (l.length + more) rfl rfl (by omega) HB.out HM.out (Nat.le_refl _) ?_; intro w1 hown1 hg1; have HG1 := Lib.hid hg1; clear hg1)
    | (at_builtin; refine wpList_append_fits_any _ rfl _ _ _ rfl w.heap.size 5 i0 1 Tryz.underlying25 hi hz1 w.heap.size 0 (l.length + more) [] rfl hown1 A l.length cap (cellsB l) rfl (by rw [cellsB_length]; omega) H0.out (fun ad h => At.cells (w := w1) (HA.out.grown HG1.out h)) (cellsB_one l) (by omega) ?_; intro w2 hown2 hg2))
  go_ret
  simp only [Nat.zero_add, List.nil_append] at hown2
  refine ⟨by simp, hown2, ((Below.refl _ _).grown HG1.out (Nat.le_refl _) (by simp)).grown hg2 HG1.out.size (by simp)⟩
end Go.Proofs.YtchklaepilcbbaaGreat

namespace Go.Proofs.YtchklaepilcbbaaGreat
open Go.RowKit
theorem next_val (n c : Nat) : Value.int .u8 ((n : Int) / 2 ^ (8 * c) % 256) = bv (UInt8.ofNat (n / 256 ^ c)) := by
  unfold bv
  rw [byte_ofNat, show (256 : Nat) ^ c = 2 ^ (8 * c) by rw [Nat.pow_mul]]
  simp
/-- The digit of n that c digits follow. -/
def db (n c : Nat) : Int := ((UInt8.ofNat (n / 256 ^ c)).toNat : Int)
theorem bv_db (n c : Nat) : bv (UInt8.ofNat (n / 256 ^ c)) = .int .u8 (db n c) := rfl
/-- A cell of one byte, new, as what an append takes in. -/
theorem new_one {w : World} {s : Nat} (x : Value) (t : TypeId) (h : w.heap.size = s) : ∀ ad, some (⟨s, 0, none⟩ : Addr) = some ad → ∀ j u, [x][j]? = some u → (w.alloc (.cells #[x] t)).cell? (ad.add j) = some u := by
  intro ad e
  injection e with e
  subst e
  subst h
  exact cell_one_new w x t
theorem one_cell (k : IntKind) (x : Int) : ∀ u ∈ [Value.int k x], u.oneCell' = true := by simp [Value.oneCell']
theorem retv {a b : Value} (h : a = b) : Ending.returned a = .returned b := by rw [h]
set_option maxRecDepth 100000 in
set_option maxHeartbeats 1000000 in
theorem next_any (c n : Nat) (p q : Addr) (w : World) (hn : n < 2 ^ 64) (hc : c < 8) (hp : w.cell? p = some (.int .i64 ((c : Int) + 1))) (hq : w.cell? q = some (.int .u64 n)) (hpf : w.frozen? p = false) (hne : p.block ≠ q.block) :
    Calls Tryz.prog 170 #[.pointer (some p), .pointer (some q)] w fun e w' => e = .returned (.int .u8 (db n c)) ∧ w' = w.setCell p (.int .i64 c) := by
  have hq' : ∀ v, (w.setCell p v).cell? q = some (.int .u64 n) := fun v => (World.cell?_setCell_other w p q v (fun e => by subst e; exact hne rfl)).trans hq
  have hp' : ∀ v, (w.setCell p v).cell? p = some v := fun v => World.cell?_setCell_same w p v hp
  have HN := Lib.hid hn
  clear hn hne
  go_enter Tryz.func170, Tryz.ntmps170
  go_wp2
  go_ret
  exact ⟨retv ((next_val n c).trans (bv_db n c)), rfl⟩
set_option maxHeartbeats 400000 in
theorem digits_any (n count : Nat) (w : World) :
    Calls Tryz.prog 145 #[.int .u64 n, .int .i64 count] w fun e w' => e = .returned (.func (Fn.func 170) #[] #[.pointer (some ⟨w.heap.size + 1, 0, none⟩), .pointer (some ⟨w.heap.size, 0, none⟩)]) ∧
      w' = (w.alloc (.cells #[.int .u64 n] 39)).alloc (.cells #[.int .i64 count] 3) := by
  go_enter Tryz.func145, Tryz.ntmps145
  go_wp2
  go_ret
  exact ⟨rfl, rfl⟩
theorem grown_set (w : World) (p : Addr) (u : Value) : w.grownBy (w.setCell p u) (some p.block) :=
  ⟨rfl, rfl, rfl, by simp [World.setCell], fun k _ hne => Below.heap_setCell _ _ _ _ (fun e => hne (by rw [e]))⟩
theorem owns_set {w : World} {base g n c m : Nat} {e : TypeId} {size : Nat} {xs : List Value} (h : w.ownsRow base e size (.slice (some ⟨g, 0, none⟩) n c) m xs) {p : Addr} (hp : p.block ≠ g) (u : Value) :
    (w.setCell p u).ownsRow base e size (.slice (some ⟨g, 0, none⟩) n c) m xs :=
  h.kept (grown_set w p u) (.inr (by simpa [Value.ownBlock] using Ne.symm hp))
/-- What the loop of put keeps. -/
def PutInv (base g k cap count n : Nat) (xs : List UInt8) (w : World) (j : Nat) (wr : World) : Prop :=
  wr.ownsRow base 5 1 (.slice (some ⟨g, 0, none⟩) (k + j) cap) (k + j) (cellsB (xs ++ (digs n count).take j)) ∧
  wr.cell? ⟨w.heap.size + 1, 0, none⟩ = some (.int .i64 ((count : Int) - j)) ∧ wr.cell? ⟨w.heap.size, 0, none⟩ = some (.int .u64 n) ∧ wr.frozen? ⟨w.heap.size + 1, 0, none⟩ = false ∧
  Below g w wr ∧ w.heap.size + 2 ≤ wr.heap.size
theorem digs_take (n count j : Nat) (h : j < count) : (digs n count).take (j + 1) = (digs n count).take j ++ [UInt8.ofNat (n / 256 ^ (count - 1 - j))] := by
  rw [List.take_succ_eq_append_getElem (by rw [digs_length]; exact h)]
  congr 2
  induction count generalizing j with
  | zero => omega
  | succ c ih =>
    cases j with
    | zero => simp [digs]
    | succ j =>
      simp only [digs, List.getElem_cons_succ]
      rw [ih j (by omega)]
      congr 3
      omega
theorem PutInv.start {base g k cap count n : Nat} {xs : List UInt8} {w : World} (hg : g < w.heap.size) (h : w.ownsRow base 5 1 (.slice (some ⟨g, 0, none⟩) k cap) k (cellsB xs)) :
    PutInv base g k cap count n xs w 0 ((w.alloc (.cells #[.int .u64 n] 39)).alloc (.cells #[.int .i64 count] 3)) := by
  refine ⟨?_, ?_, ?_, ?_, ?_, ?_⟩
  · simpa using (h.alloc _).alloc _
  · simp
  · rw [World.cell?_alloc_lt _ _ _ (by simp)]
    simp
  · have h := heap_alloc_new (w.alloc (.cells #[.int .u64 n] 39)) (.cells #[.int .i64 count] 3)
    have e : (w.alloc (.cells #[.int .u64 n] 39)).heap.size = w.heap.size + 1 := by simp
    rw [e] at h
    unfold World.frozen?
    simp only []
    rw [h]
    simp
  · exact ((Below.refl _ _).alloc (by omega) _).alloc (by simp; omega) _
  · simp
theorem PutInv.next {base g k cap count n : Nat} {xs : List UInt8} {w wr w2 : World} {j : Nat} {o : Obj} (hg : g < w.heap.size) (hj : j < count) (h : PutInv base g k cap count n xs w j wr)
    (hown : w2.ownsRow base 5 1 (.slice (some ⟨g, 0, none⟩) (k + j + 1) cap) (k + j + 1) (cellsB (xs ++ (digs n count).take j) ++ [.int .u8 (db n (count - 1 - j))]))
    (hgr : ((wr.setCell ⟨w.heap.size + 1, 0, none⟩ (.int .i64 ((count - 1 - j : Nat) : Int))).alloc o).grownBy w2 (some g)) : PutInv base g k cap count n xs w (j + 1) w2 := by
  obtain ⟨h1, h2, h3, h4, h5, h6⟩ := h
  have hs : w.heap.size + 2 ≤ ((wr.setCell ⟨w.heap.size + 1, 0, none⟩ (.int .i64 ((count - 1 - j : Nat) : Int))).alloc o).heap.size := by simp [World.setCell]; omega
  refine ⟨?_, ?_, ?_, ?_, ?_, ?_⟩
  · rw [digs_take n count j hj, ← List.append_assoc, cellsB_append (xs ++ (digs n count).take j)]
    exact hown
  · rw [World.cell?_of_block (hgr.block (w.heap.size + 1) (by omega) (by simp; omega)), World.cell?_alloc_lt _ _ _ (by simp [World.setCell]; omega), World.cell?_setCell_same _ _ _ h2]
    congr 2
    omega
  · rw [World.cell?_of_block (hgr.block w.heap.size (by omega) (by simp; omega)), World.cell?_alloc_lt _ _ _ (by simp [World.setCell]; omega), World.cell?_setCell_other _ _ _ _ (by simp)]
    exact h3
  · rw [World.frozen?_of_block (hgr.block (w.heap.size + 1) (by omega) (by simp; omega)), World.frozen?_alloc_old _ _ _ (by simp [World.setCell]; omega), World.frozen?_setCell]
    exact h4
  · exact ((h5.setCell (by simp; omega) _).alloc (by simp [World.setCell]; omega) _).grown hgr (by omega) (by simp)
  · exact Nat.le_trans hs hgr.size
set_option maxRecDepth 100000 in
set_option maxHeartbeats 1000000 in
theorem put_any (base g k cap count n : Nat) (xs : List UInt8) (w : World) (hn : n < 2 ^ 64) (hc : count ≤ 8) (hg : g < w.heap.size) (hcap : k + count ≤ cap) (hxs : xs.length = k) (hm : k + count ≤ 140737488355328)
    (hown : w.ownsRow base 5 1 (.slice (some ⟨g, 0, none⟩) k cap) k (cellsB xs)) :
    Calls Tryz.prog 123 #[.slice (some ⟨g, 0, none⟩) k cap, .int .u64 n, .int .i64 count] w fun e w' => e = .returned (.slice (some ⟨g, 0, none⟩) (k + count) cap) ∧
      w'.ownsRow base 5 1 (.slice (some ⟨g, 0, none⟩) (k + count) cap) (k + count) (cellsB (xs ++ digs n count)) ∧ Below g w w' := by
  obtain ⟨i0, hi, hz0, hz1, hz2⟩ := info_parts info8
  have HN := Lib.hid hn
  have HST := Lib.hid (PutInv.start (count := count) (n := n) hg hown)
  have HX := Lib.hid hxs
  clear hn hown hxs
  go_enter Tryz.func123, Tryz.ntmps123
  go_wp2_with (go_at_call 145; ((with_reducible refine (digits_any _ _ _).mono ?_); rintro e w' ⟨rfl, rfl⟩))
  go_loopw [0, 12] (fun s i wr => ∃ j : Nat, j ≤ count ∧ i = .int .i64 j ∧ s = .slice (some ⟨g, 0, none⟩) (k + j) cap ∧ PutInv base g k cap count n xs w j wr) (fun _ i _ => count - (intOf i).toNat)
  case atStart => exact ⟨0, Nat.zero_le _, rfl, rfl, HST.out⟩
  case round =>
    obtain ⟨j, hj, rfl, rfl, hI⟩ := hrel
    by_cases hlt : j < count
    · have HI := Lib.hid hI
      obtain ⟨h1, h2, h3, h4, h5, h6⟩ := hI
      have H2 := Lib.hid (show wr.cell? ⟨w.heap.size + 1, 0, none⟩ = some (.int .i64 (((count - 1 - j : Nat) : Int) + 1)) by rw [h2]; congr 2; omega)
      have H1 := Lib.hid h1
      have H3 := Lib.hid h3
      have H4 := Lib.hid h4
      have H6 := Lib.hid h6
      clear h1 h2 h3 h4 h5 h6
      go_wp2_with (first
        | (go_at_call 170; ((with_reducible refine (next_any (count - 1 - j) n _ _ _ HN.out (by omega) H2.out H3.out H4.out (by simp)).mono ?_); rintro e w' ⟨rfl, rfl⟩))
        | (at_builtin; refine wpList_append_fits_any _ rfl _ _ _ rfl base 5 i0 1 Tryz.underlying25 hi hz1 g (k + j) cap _ rfl ((owns_set H1.out (by simp; omega) _).alloc _) _ 1 1 [.int .u8 (db n (count - 1 - j))] rfl rfl (fun h => by cases h) (new_one _ _ (by simp [World.setCell])) (one_cell _ _) (by omega) ?_; intro w2 hown2 hg2))
      exact ⟨⟨j + 1, by omega, by go_num, by rw [Nat.add_assoc], PutInv.next hg hlt HI.out hown2 hg2⟩, by simp [intOf]; omega⟩
    · obtain rfl : j = count := by omega
      have HI := Lib.hid hI
      clear hI
      go_wp2
      go_ret
      obtain ⟨h1, _, _, _, h5, _⟩ := HI.out
      rw [List.take_of_length_le (by rw [digs_length]; omega)] at h1
      exact ⟨rfl, h1, h5⟩
end Go.Proofs.YtchklaepilcbbaaGreat

namespace Go.Proofs.YtchklaepilcbbaaGreat
open Go.RowKit
/-- What a form's call gives back: a new slice of these bytes; all that lay there stays. -/
def Gives (w : World) (l : List UInt8) (e : Ending) (w' : World) : Prop :=
  ∃ cap, e = .returned (.slice (some ⟨w.heap.size, 0, none⟩) l.length cap) ∧ w'.ownsRow w.heap.size 5 1 (.slice (some ⟨w.heap.size, 0, none⟩) l.length cap) l.length (cellsB l) ∧ Below w.heap.size w w'
theorem Gives.mk {w w' : World} {l : List UInt8} {n cap : Nat} (hl : l.length = n) (h : w'.ownsRow w.heap.size 5 1 (.slice (some ⟨w.heap.size, 0, none⟩) n cap) n (cellsB l)) (hb : Below w.heap.size w w') :
    Gives w l (.returned (.slice (some ⟨w.heap.size, 0, none⟩) n cap)) w' := by
  subst hl
  exact ⟨cap, rfl, h, hb⟩
theorem head_cells {w : World} {base g k cap : Nat} {l : List UInt8} {v : Value} {c : Nat} (hc : c ≤ 255) (hv : v = .int .u8 c) (h : w.ownsRow base 5 1 (.slice (some ⟨g, 0, none⟩) k cap) k (cellsB l ++ [v])) :
    w.ownsRow base 5 1 (.slice (some ⟨g, 0, none⟩) k cap) k (cellsB (l ++ [UInt8.ofNat c])) := by
  rw [cellsB_append]
  have e : cellsB [UInt8.ofNat c] = [v] := by
    rw [hv]
    simp [cellsB, bv]
    omega
  rw [e]
  exact h
set_option maxRecDepth 100000 in
set_option maxHeartbeats 1000000 in
theorem Num_any (A : Option Addr) (l : List UInt8) (cap n : Nat) (w : World) (hn : n < 2 ^ 64) (hA : At w A l) (hz : A = none → cap = 0) (hm : l.length + 9 ≤ 140737488355328) :
    Calls Tryz.prog 86 #[.slice A l.length cap, .int .u64 n] w (Gives w (l ++ encNum n)) := by
  obtain ⟨i0, hi, hz0, hz1, hz2⟩ := info_parts info8
  have h8 := nlen_8 n hn
  have C1 := Lib.hid (fun w => length_any n w hn)
  have C2 := Lib.hid (room_any A l cap (1 + nlen n) w hA hz (by omega))
  have HN := Lib.hid hn
  clear hn hA hz
  go_enter Tryz.func86, Tryz.ntmps86
  go_wp2_with (first
    | (go_at_call 122; ((with_reducible refine (C1.out _).mono ?_); rintro e w' ⟨rfl, rfl⟩))
    | (go_at_call 121; (refine (C2.out).mono ?_); rintro e w1 ⟨rfl, hown1, hb1⟩; have H1 := Lib.hid hown1; have B1 := Lib.hid hb1; have S1 := Lib.hid hb1.size; clear hown1 hb1)
    | (at_builtin; refine wpList_append_fits_any _ rfl _ _ _ rfl w.heap.size 5 i0 1 Tryz.underlying25 hi hz1 w.heap.size l.length (l.length + (1 + nlen n)) _ rfl (H1.out.alloc _) _ 1 1 [.int .u8 (nlen n : Nat)] rfl rfl (fun h => by cases h) (new_one _ _ rfl) (one_cell _ _) (by omega) ?_; intro w2 hown2 hg2; have H2 := Lib.hid (head_cells (by omega) rfl hown2); have B2 := Lib.hid ((B1.out.alloc S1.out _).grown hg2 (Nat.le_trans S1.out (by simp)) (by simp)); have L2 := Lib.hid ((H2.out.lt _ rfl).2); clear hown2 hg2)
    | (go_at_call 123; (refine (put_any w.heap.size w.heap.size (l.length + 1) (l.length + (1 + nlen n)) (nlen n) n (l ++ [UInt8.ofNat (nlen n)]) _ HN.out h8 L2.out (by omega) (by simp) (by omega) H2.out).mono ?_); rintro e w3 ⟨rfl, hown3, hb3⟩))
  go_ret
  refine Gives.mk (by simp [encNum, digs_length]; omega) ?_ (B2.out.trans hb3)
  simpa [encNum] using hown3
theorem encInt_neg (m : Nat) : encInt (-(m : Int) - 1) = UInt8.ofNat (15 - nlen m) :: flip8 (digs m (nlen m)) := by
  unfold encInt
  rw [if_neg (by omega), show (-(-(m : Int) - 1 + 1)).toNat = m by omega]
theorem encInt_pos (m : Nat) : encInt (m : Int) = UInt8.ofNat (16 + nlen m) :: digs m (nlen m) := by
  unfold encInt
  rw [if_pos (by omega), Int.toNat_natCast]
/-- The last digits of the complement in 64 bits. -/
theorem digs_compl (m k : Nat) (hk : k ≤ 8) (hm : m < 256 ^ k) : digs (18446744073709551615 - m) k = flip8 (digs m k) := by
  rw [← digs_flip m k hm]
  have e : 18446744073709551615 - m = (256 ^ (8 - k) - 1) * 256 ^ k + (256 ^ k - 1 - m) := by
    have h : (256 : Nat) ^ (8 - k) * 256 ^ k = 18446744073709551616 := by rw [← Nat.pow_add, show 8 - k + k = 8 by omega]
    have h1 : 0 < (256 : Nat) ^ (8 - k) := Nat.pow_pos (by omega)
    rw [Nat.sub_mul, h, Nat.one_mul]
    have h2 : (256 : Nat) ^ k ≤ 256 ^ 8 := Nat.pow_le_pow_right (by omega) hk
    omega
  rw [e, digs_add]
set_option maxRecDepth 100000 in
set_option maxHeartbeats 1000000 in
theorem Int_pos (A : Option Addr) (l : List UInt8) (cap n : Nat) (w : World) (hn : n < 2 ^ 63) (hA : At w A l) (hz : A = none → cap = 0) (hm : l.length + 9 ≤ 140737488355328) :
    Calls Tryz.prog 83 #[.slice A l.length cap, .int .i64 n] w (Gives w (l ++ encInt n)) := by
  obtain ⟨i0, hi, hz0, hz1, hz2⟩ := info_parts info8
  have hn64 : n < 2 ^ 64 := by omega
  have h8 := nlen_8 n hn64
  have C1 := Lib.hid (fun w => length_any n w hn64)
  have C2 := Lib.hid (room_any A l cap (1 + nlen n) w hA hz (by omega))
  have HN := Lib.hid hn64
  have t0 : decide ((n : Int) < 0) = false := by simp
  have hw : IntKind.u64.wrap (n : Int) = (n : Int) := by rw [IntKind.wrap_u64]; omega
  clear hn hn64 hA hz
  go_enter Tryz.func83, Tryz.ntmps83
  go_wp2_with (first
    | (go_at_call 122; ((with_reducible refine (C1.out _).mono ?_); rintro e w' ⟨rfl, rfl⟩))
    | (go_at_call 121; (refine (C2.out).mono ?_); rintro e w1 ⟨rfl, hown1, hb1⟩; have H1 := Lib.hid hown1; have B1 := Lib.hid hb1; have S1 := Lib.hid hb1.size; clear hown1 hb1)
    | (at_builtin; refine wpList_append_fits_any _ rfl _ _ _ rfl w.heap.size 5 i0 1 Tryz.underlying25 hi hz1 w.heap.size l.length (l.length + (1 + nlen n)) _ rfl (H1.out.alloc _) _ 1 1 [.int .u8 (16 + (nlen n : Nat))] rfl rfl (fun h => by cases h) (new_one _ _ rfl) (one_cell _ _) (by omega) ?_; intro w2 hown2 hg2; have H2 := Lib.hid (head_cells (c := 16 + nlen n) (by omega) (by simp) hown2); have B2 := Lib.hid ((B1.out.alloc S1.out _).grown hg2 (Nat.le_trans S1.out (by simp)) (by simp)); have L2 := Lib.hid ((H2.out.lt _ rfl).2); clear hown2 hg2)
    | (go_at_call 123; (refine (put_any w.heap.size w.heap.size (l.length + 1) (l.length + (1 + nlen n)) (nlen n) n (l ++ [UInt8.ofNat (16 + nlen n)]) _ HN.out h8 L2.out (by omega) (by simp) (by omega) H2.out).mono ?_); rintro e w3 ⟨rfl, hown3, hb3⟩))
  go_ret
  refine Gives.mk (by simp [encInt_pos, digs_length]; omega) ?_ (B2.out.trans hb3)
  simpa [encInt_pos] using hown3
set_option maxRecDepth 100000 in
set_option maxHeartbeats 1000000 in
theorem Int_neg (A : Option Addr) (l : List UInt8) (cap m : Nat) (w : World) (hn : m < 2 ^ 63) (hA : At w A l) (hz : A = none → cap = 0) (hm : l.length + 9 ≤ 140737488355328) :
    Calls Tryz.prog 83 #[.slice A l.length cap, .int .i64 (-(m : Int) - 1)] w (Gives w (l ++ encInt (-(m : Int) - 1))) := by
  obtain ⟨i0, hi, hz0, hz1, hz2⟩ := info_parts info8
  have hn64 : m < 2 ^ 64 := by omega
  have h8 := nlen_8 m hn64
  have hlt := nlen_lt m hn64
  have HF := Lib.hid (digs_compl m (nlen m) h8 hlt)
  have HE := Lib.hid (encInt_neg m)
  have C0 := Lib.hid (fun w => length_any (18446744073709551615 - m) w (by omega))
  have C1 := Lib.hid (fun w => length_any m w hn64)
  have C2 := Lib.hid (room_any A l cap (1 + nlen m) w hA hz (by omega))
  obtain ⟨z, hz'⟩ : ∃ z : Int, z = -(m : Int) - 1 := ⟨_, rfl⟩
  obtain ⟨u, hu⟩ : ∃ u : Nat, u = 18446744073709551615 - m := ⟨_, rfl⟩
  rw [← hz'] at HE ⊢
  rw [← hu] at C0 HF
  have HU := Lib.hid (show u < 2 ^ 64 by omega)
  have h8u := nlen_8 u HU.out
  have hx : bits .xor .u64 IntKind.u64.max (u : Int) = (m : Int) := (xor_all u (by omega)).trans (by omega)
  have t0 : z < 0 := by omega
  have hw : IntKind.u64.wrap z = (u : Int) := by rw [IntKind.wrap_u64]; omega
  clear hn hn64 hA hz hlt hz' hu
  go_enter Tryz.func83, Tryz.ntmps83
  go_wp2_with (first
    | (go_at_call 122; ((with_reducible refine (C0.out _).mono ?_); rintro e w' ⟨rfl, rfl⟩))
    | (go_at_call 122; ((with_reducible refine (C1.out _).mono ?_); rintro e w' ⟨rfl, rfl⟩))
    | (go_at_call 121; (refine (C2.out).mono ?_); rintro e w1 ⟨rfl, hown1, hb1⟩; have H1 := Lib.hid hown1; have B1 := Lib.hid hb1; have S1 := Lib.hid hb1.size; clear hown1 hb1)
    | (at_builtin; refine wpList_append_fits_any _ rfl _ _ _ rfl w.heap.size 5 i0 1 Tryz.underlying25 hi hz1 w.heap.size l.length (l.length + (1 + nlen m)) _ rfl (H1.out.alloc _) _ 1 1 [.int .u8 (15 - (nlen m : Nat))] rfl rfl (fun h => by cases h) (new_one _ _ rfl) (one_cell _ _) (by omega) ?_; intro w2 hown2 hg2; have H2 := Lib.hid (head_cells (c := 15 - nlen m) (by omega) (by congr 1; omega) hown2); have B2 := Lib.hid ((B1.out.alloc S1.out _).grown hg2 (Nat.le_trans S1.out (by simp)) (by simp)); have L2 := Lib.hid ((H2.out.lt _ rfl).2); clear hown2 hg2)
    | (go_at_call 123; (refine (put_any w.heap.size w.heap.size (l.length + 1) (l.length + (1 + nlen m)) (nlen m) u (l ++ [UInt8.ofNat (15 - nlen m)]) _ HU.out h8 L2.out (by omega) (by simp) (by omega) H2.out).mono ?_); rintro e w3 ⟨rfl, hown3, hb3⟩))
  go_ret
  rw [HF.out] at hown3
  refine Gives.mk (by rw [HE.out]; simp [flip8_length, digs_length]; omega) ?_ (B2.out.trans hb3)
  rw [HE.out]
  simpa using hown3
theorem Int_any (A : Option Addr) (l : List UInt8) (cap : Nat) (n : Int) (w : World) (hn : fits n) (hA : At w A l) (hz : A = none → cap = 0) (hm : l.length + 9 ≤ 140737488355328) :
    Calls Tryz.prog 83 #[.slice A l.length cap, .int .i64 n] w (Gives w (l ++ encInt n)) := by
  unfold fits at hn
  by_cases h : 0 ≤ n
  · obtain ⟨m, rfl⟩ := Int.eq_ofNat_of_zero_le h
    exact Int_pos A l cap m w (by omega) hA hz hm
  · obtain ⟨m, rfl⟩ : ∃ m : Nat, n = -(m : Int) - 1 := ⟨(-n - 1).toNat, by omega⟩
    exact Int_neg A l cap m w (by omega) hA hz hm
set_option maxRecDepth 100000 in
set_option maxHeartbeats 1000000 in
theorem Byte_any (A : Option Addr) (l : List UInt8) (cap : Nat) (c : UInt8) (w : World) (hA : At w A l) (hz : A = none → cap = 0) (hm : l.length + 9 ≤ 140737488355328) :
    Calls Tryz.prog 81 #[.slice A l.length cap, .int .u8 (c.toNat : Int)] w (Gives w (l ++ [c])) := by
  obtain ⟨i0, hi, hz0, hz1, hz2⟩ := info_parts info8
  have C2 := Lib.hid (room_any A l cap 1 w hA hz (by omega))
  clear hA hz
  obtain ⟨x, hx⟩ : ∃ x : Int, x = (c.toNat : Int) := ⟨_, rfl⟩
  rw [← hx]
  have HX := Lib.hid hx
  clear hx
  go_enter Tryz.func81, Tryz.ntmps81
  go_wp2_with (first
    | (go_at_call 121; (refine (C2.out).mono ?_); rintro e w1 ⟨rfl, hown1, hb1⟩; have H1 := Lib.hid hown1; have B1 := Lib.hid hb1; have S1 := Lib.hid hb1.size; clear hown1 hb1)
    | (at_builtin; refine wpList_append_fits_any _ rfl _ _ _ rfl w.heap.size 5 i0 1 Tryz.underlying25 hi hz1 w.heap.size l.length (l.length + 1) _ rfl (H1.out.alloc _) _ 1 1 [.int .u8 x] rfl rfl (fun h => by cases h) (new_one _ _ rfl) (one_cell _ _) (by omega) ?_; intro w2 hown2 hg2; have B2 := Lib.hid ((B1.out.alloc S1.out _).grown hg2 (Nat.le_trans S1.out (by simp)) (by simp))))
  go_ret
  refine Gives.mk (by simp) ?_ B2.out
  rw [cellsB_append]
  have e : cellsB [c] = [.int .u8 x] := by rw [HX.out]; rfl
  rw [e]
  exact hown2
set_option maxRecDepth 100000 in
set_option maxHeartbeats 1000000 in
theorem place_any (f : Nat) (w : World) (hf : f < 18446744073709551616) :
    Calls Tryz.prog 124 #[.float .f64 f] w fun e w' => e = .returned (.int .u64 (placeF f)) ∧ w = w' := by
  have hfb := call_Float64bits
  by_cases h0 : f < 9223372036854775808
  · have ha : bits .and .u64 (f : Int) 9223372036854775808 = 0 := by
      rw [u64_and _ _ (by omega) (by omega) (by omega) (by omega)]
      simp only [Int.toNat_natCast, show (9223372036854775808 : Int).toNat = 9223372036854775808 from rfl]
      rw [and_top f (by omega), if_pos h0]; rfl
    have HF := Lib.hid h0
    clear h0 hf
    go_enter Tryz.func124, Tryz.ntmps124
    go_wp2
    go_ret
    have h0 := HF.out
    refine ⟨ret1 ?_, rfl⟩
    unfold placeF
    rw [u64_or _ _ (by omega) (by omega) (by omega) (by omega)]
    simp only [Int.toNat_natCast, show (9223372036854775808 : Int).toNat = 9223372036854775808 from rfl]
    rw [or_top f h0, if_pos h0]
  · have ha : bits .and .u64 (f : Int) 9223372036854775808 = 9223372036854775808 := by
      rw [u64_and _ _ (by omega) (by omega) (by omega) (by omega)]
      simp only [Int.toNat_natCast, show (9223372036854775808 : Int).toNat = 9223372036854775808 from rfl]
      rw [and_top f (by omega), if_neg (by omega)]; rfl
    have HF := Lib.hid h0
    have HG := Lib.hid hf
    clear h0 hf
    go_enter Tryz.func124, Tryz.ntmps124
    go_wp2
    go_ret
    have h0 := HF.out
    have hf := HG.out
    refine ⟨ret1 ?_, rfl⟩
    unfold placeF
    rw [if_neg h0, xor_all f (by omega)]
    omega
theorem placeF_lt (f : Nat) (hf : f < 18446744073709551616) : placeF f < 2 ^ 64 := by unfold placeF; split <;> omega
set_option maxRecDepth 100000 in
set_option maxHeartbeats 1000000 in
theorem Float_no (A : Option Addr) (l : List UInt8) (cap f : Nat) (w : World) (hf : f < 18446744073709551616) (h : canonF f ≠ f) :
    Calls Tryz.prog 84 #[.slice A l.length cap, .float .f64 f] w fun e w' => e = .returned (.tuple #[.slice none 0 0, .int .i64 1]) ∧ w = w' := by
  have C := Lib.hid (fun w => Canonical_any f w hf)
  rw [show decide (canonF f = f) = false by simp [h]] at C
  clear hf h
  go_enter Tryz.func84, Tryz.ntmps84
  go_wp2_with (go_at_call 61; ((with_reducible refine (C.out _).mono ?_); rintro e w' ⟨rfl, rfl⟩))
  go_ret2
  exact ⟨rfl, rfl⟩
/-- What the form of a float gives back. -/
def GivesF (w : World) (l : List UInt8) (e : Ending) (w' : World) : Prop :=
  ∃ cap, e = .returned (.tuple #[.slice (some ⟨w.heap.size, 0, none⟩) l.length cap, .int .i64 0]) ∧ w'.ownsRow w.heap.size 5 1 (.slice (some ⟨w.heap.size, 0, none⟩) l.length cap) l.length (cellsB l) ∧ Below w.heap.size w w'
theorem GivesF.mk {w w' : World} {l : List UInt8} {n cap : Nat} (hl : l.length = n) (h : w'.ownsRow w.heap.size 5 1 (.slice (some ⟨w.heap.size, 0, none⟩) n cap) n (cellsB l)) (hb : Below w.heap.size w w') :
    GivesF w l (.returned (.tuple #[.slice (some ⟨w.heap.size, 0, none⟩) n cap, .int .i64 0])) w' := by
  subst hl
  exact ⟨cap, rfl, h, hb⟩
set_option maxRecDepth 100000 in
set_option maxHeartbeats 1000000 in
theorem Float_yes (A : Option Addr) (l : List UInt8) (cap f : Nat) (w : World) (hf : f < 18446744073709551616) (h : canonF f = f) (hA : At w A l) (hz : A = none → cap = 0) (hm : l.length + 9 ≤ 140737488355328) :
    Calls Tryz.prog 84 #[.slice A l.length cap, .float .f64 f] w (GivesF w (l ++ encFloat f)) := by
  have C := Lib.hid (fun w => Canonical_any f w hf)
  rw [show decide (canonF f = f) = true by simp [h]] at C
  have C1 := Lib.hid (fun w => place_any f w hf)
  have C2 := Lib.hid (room_any A l cap 8 w hA hz (by omega))
  have HN := Lib.hid (placeF_lt f hf)
  clear hf h hA hz
  go_enter Tryz.func84, Tryz.ntmps84
  go_wp2_with (first
    | (go_at_call 61; ((with_reducible refine (C.out _).mono ?_); rintro e w' ⟨rfl, rfl⟩))
    | (go_at_call 124; ((with_reducible refine (C1.out _).mono ?_); rintro e w' ⟨rfl, rfl⟩))
    | (go_at_call 121; (refine (C2.out).mono ?_); rintro e w1 ⟨rfl, hown1, hb1⟩; have H1 := Lib.hid hown1; have B1 := Lib.hid hb1; have L1 := Lib.hid ((H1.out.lt _ rfl).2); clear hown1 hb1)
    | (go_at_call 123; (refine (put_any w.heap.size w.heap.size l.length (l.length + 8) 8 (placeF f) l _ HN.out (by omega) L1.out (by omega) rfl (by omega) H1.out).mono ?_); rintro e w3 ⟨rfl, hown3, hb3⟩))
  go_ret2
  exact GivesF.mk (by simp [encFloat, digs_length]) (by simpa [encFloat] using hown3) (B1.out.trans hb3)
end Go.Proofs.YtchklaepilcbbaaGreat

namespace Go.Proofs.YtchklaepilcbbaaGreat
open Go.RowKit
theorem call_CountString (s : ByteArray) (c : Int) (w : World) : (callFunc 147 #[.string s, .int .u8 c]).run Tryz.prog w = .ok (.value (.int .i64 (Lib.countByte s.data.toList c.toNat.toUInt8))) w := by
  rw [run_callFunc_extern Tryz.func147 (by kernel_rfl) (by kernel_rfl) (by kernel_rfl) (e := Extern.BytealgCount.count) (by kernel_rfl), Lib.run_countString]
  rfl
set_option maxRecDepth 100000 in
set_option maxHeartbeats 1000000 in
theorem Count_any (s : ByteArray) (w : World) :
    Calls Tryz.prog 125 #[.string s, .string ⟨#[0]⟩] w fun e w' => e = .returned (.int .i64 (Lib.countByte s.data.toList 0)) ∧ w = w' := by
  have hcs := call_CountString s 0
  have h0 : ((⟨#[0]⟩ : ByteArray)[0]'(by decide)) = 0 := by kernel_rfl
  go_enter Tryz.func125, Tryz.ntmps125
  go_wp2
  go_ret
  exact ⟨ret1 rfl, rfl⟩
theorem escT_count (l : List UInt8) : (escT l).length = l.length + Lib.countByte l 0 := by
  induction l with
  | nil => rfl
  | cons c l ih =>
    unfold Lib.countByte at ih ⊢
    simp only [escT, List.count_cons, List.length_cons]
    by_cases h : c = 0
    · subst h; simp [ih]; omega
    · simp [h, ih]; omega
/-- The first k bytes of a string. -/
def pre (s : ByteArray) (k : Nat) : List UInt8 := s.data.toList.take k
theorem pre_succ (s : ByteArray) (k : Nat) (h : k < s.size) : pre s (k + 1) = pre s k ++ [s[k]] := by
  unfold pre
  rw [List.take_succ_eq_append_getElem (by simpa using h)]; rfl
theorem esc_one (c : UInt8) : escT [c] = if c = 0 then [0, 255] else [c] := by simp [escT]
theorem esc_room (s : ByteArray) (k : Nat) (h : k < s.size) : (escT (pre s k)).length + (if s[k] = 0 then 2 else 1) ≤ (escT s.data.toList).length := by
  have e : s.data.toList = pre s k ++ ([s[k]] ++ s.data.toList.drop (k + 1)) := by
    rw [← List.append_assoc, ← pre_succ s k h]
    exact (List.take_append_drop (k + 1) s.data.toList).symm
  have e2 := congrArg (fun l => (escT l).length) e
  simp only [escT_append, List.length_append, esc_one] at e2
  rw [e2]
  split <;> simp <;> omega
theorem pre_all (s : ByteArray) : pre s s.size = s.data.toList := by unfold pre; rw [List.take_of_length_le (by simp)]
/-- What the loop of Text keeps. -/
def TextInv (w : World) (l : List UInt8) (s : ByteArray) (M k : Nat) (wr : World) : Prop :=
  wr.ownsRow w.heap.size 5 1 (.slice (some ⟨w.heap.size, 0, none⟩) (l.length + (escT (pre s k)).length) M) (l.length + (escT (pre s k)).length) (cellsB (l ++ escT (pre s k))) ∧ Below w.heap.size w wr
section
variable {w wr w3 : World} {l : List UInt8} {s : ByteArray} {M k E : Nat}
theorem TextInv.owns (h : TextInv w l s M k wr) (hE : E = l.length + (escT (pre s k)).length) : wr.ownsRow w.heap.size 5 1 (.slice (some ⟨w.heap.size, 0, none⟩) E M) E (cellsB (l ++ escT (pre s k))) := by
  rw [hE]; exact h.1
theorem TextInv.one {hlt : k < s.size} (HP : pre s (k + 1) = pre s k ++ [s[k]]) (hc : ¬ s[k] = 0) (hE : E = l.length + (escT (pre s k)).length)
    (h : w3.ownsRow w.heap.size 5 1 (.slice (some ⟨w.heap.size, 0, none⟩) (E + 1) M) (E + 1) (cellsB (l ++ escT (pre s k)) ++ [.int .u8 (s[k].toNat : Int)])) (hb : Below w.heap.size w w3) : TextInv w l s M (k + 1) w3 := by
  refine ⟨?_, hb⟩
  rw [HP, escT_append, esc_one, if_neg hc, ← List.append_assoc, cellsB_append (l ++ escT (pre s k))]
  have e : l.length + (escT (pre s k) ++ [s[k]]).length = E + 1 := by rw [hE]; simp; omega
  rw [e]
  exact h
theorem TextInv.two {hlt : k < s.size} (HP : pre s (k + 1) = pre s k ++ [s[k]]) (hc : s[k] = 0) (hE : E = l.length + (escT (pre s k)).length)
    (h : w3.ownsRow w.heap.size 5 1 (.slice (some ⟨w.heap.size, 0, none⟩) (E + 1 + 1) M) (E + 1 + 1) (cellsB (l ++ escT (pre s k)) ++ [.int .u8 (s[k].toNat : Int)] ++ [.int .u8 255])) (hb : Below w.heap.size w w3) : TextInv w l s M (k + 1) w3 := by
  refine ⟨?_, hb⟩
  rw [HP, escT_append, esc_one, if_pos hc, ← List.append_assoc, cellsB_append (l ++ escT (pre s k))]
  have e : l.length + (escT (pre s k) ++ [0, 255]).length = E + 1 + 1 := by rw [hE]; simp; omega
  rw [e]
  rw [hc, List.append_assoc] at h
  exact h
end
theorem new_two {w : World} {s : Nat} (x y : Value) (t : TypeId) (h : w.heap.size = s) : ∀ ad, some (⟨s, 0, none⟩ : Addr) = some ad → ∀ j u, [x, y][j]? = some u → (w.alloc (.cells #[x, y] t)).cell? (ad.add j) = some u := by
  intro ad e
  injection e with e
  subst e
  subst h
  exact World.news_of_block (heap_alloc_new w _)
theorem maxLen_le {a N : Nat} (h : a + N + 2 ≤ 140737488355328) : a ≤ 140737488355328 := by omega
set_option maxRecDepth 100000 in
set_option maxHeartbeats 1000000 in
theorem Text_any (A : Option Addr) (l : List UInt8) (cap : Nat) (s : ByteArray) (w : World) (hA : At w A l) (hz : A = none → cap = 0) (hm : l.length + (encText s.data.toList).length ≤ 140737488355328) :
    Calls Tryz.prog 85 #[.slice A l.length cap, .string s] w (Gives w (l ++ encText s.data.toList)) := by
  obtain ⟨i0, hi, hz0, hz1, hz2⟩ := info_parts info8
  have hlen : (encText s.data.toList).length = s.size + Lib.countByte s.data.toList 0 + 2 := by
    unfold encText
    rw [List.length_append, escT_count]
    simp
  rw [hlen] at hm
  obtain ⟨T, hT⟩ : ∃ T : Nat, T = s.size + Lib.countByte s.data.toList 0 + 2 := ⟨_, rfl⟩
  obtain ⟨N, hN⟩ : ∃ N : Nat, N = Lib.countByte s.data.toList 0 := ⟨_, rfl⟩
  have C1 := Lib.hid (fun w => Count_any s w)
  rw [← hN] at C1
  have C2 := Lib.hid (room_any A l cap T w hA hz (by omega))
  have hT2 : T = s.size + N + 2 := by omega
  have hle : s.size + N + 2 ≤ 140737488355328 := by omega
  have HE := Lib.hid (show (escT s.data.toList).length + 2 = T by rw [escT_count]; simpa using hT.symm)
  subst hT2
  clear hA hz hm hlen hT hN
  go_enter Tryz.func85, Tryz.ntmps85
  go_wp2_with (first
    | (go_at_call 125; ((with_reducible refine (C1.out _).mono ?_); rintro e w' ⟨rfl, rfl⟩))
    | (go_at_call 121; (refine (C2.out).mono ?_); rintro e w1 ⟨rfl, hown1, hb1⟩; have H1 := Lib.hid hown1; have B1 := Lib.hid hb1; have S1 := Lib.hid hb1.size; clear hown1 hb1))
  obtain ⟨M, hM⟩ : ∃ M : Nat, M = l.length + (s.size + N + 2) := ⟨_, rfl⟩
  have HM := Lib.hid hM
  rw [← hM] at H1
  rw [← hM]
  clear hM
  go_loopw [5, 17] (fun v i wr => ∃ k : Nat, k ≤ s.size ∧ i = .int .i64 k ∧ v = .slice (some ⟨w.heap.size, 0, none⟩) (l.length + (escT (pre s k)).length) M ∧ TextInv w l s M k wr) (fun _ i _ => s.size - (intOf i).toNat)
  case atStart => exact ⟨0, Nat.zero_le _, rfl, rfl, by simpa [pre, escT] using H1.out, B1.out⟩
  case round =>
    obtain ⟨k, hk, rfl, rfl, hI⟩ := hrel
    have HI := Lib.hid hI
    have S2 := Lib.hid hI.2.size
    clear hI
    by_cases hlt : k < s.size
    · have hroom := esc_room s k hlt
      have hME : (escT s.data.toList).length + 2 + l.length = M := by have := HE.out; have := HM.out; omega
      have HP := Lib.hid (pre_succ s k hlt)
      have hsz := maxLen_le hle
      obtain ⟨E, hE⟩ : ∃ E : Nat, E = l.length + (escT (pre s k)).length := ⟨_, rfl⟩
      have HEE := Lib.hid hE
      by_cases hc : s[k] = 0
      · rw [if_pos hc] at hroom
        have hb1 : E + 1 ≤ M := by omega
        have hb2 : E + 1 + 1 ≤ M := by omega
        rw [← hE]
        clear hroom hME hE
        have t1 : ((s[k].toNat : Int) == 0) = true := by rw [hc]; rfl
        have HC := Lib.hid hc
        clear hc
        go_wp2_with (first
          | (at_builtin; refine wpList_append_fits_any _ rfl (.tmp 20) (.tmp 24) _ rfl w.heap.size 5 i0 1 Tryz.underlying25 hi hz1 w.heap.size E M _ rfl ((HI.out.owns HEE.out).alloc _) _ 1 1 [.int .u8 (s[k].toNat : Int)] rfl rfl (fun h => by cases h) (new_one _ _ rfl) (one_cell _ _) hb1 ?_; intro w2 hown2 hg2; have H2 := Lib.hid hown2; have B2 := Lib.hid ((HI.out.2.alloc S2.out _).grown hg2 (Nat.le_trans S2.out (by simp)) (by simp)); have S3 := Lib.hid B2.out.size; clear hown2 hg2)
          | (at_builtin; refine wpList_append_fits_any _ rfl (.tmp 30) (.tmp 31) _ rfl w.heap.size 5 i0 1 Tryz.underlying25 hi hz1 w.heap.size (E + 1) M _ rfl (H2.out.alloc _) _ 1 1 [.int .u8 255] rfl rfl (fun h => by cases h) (new_one _ _ rfl) (one_cell _ _) hb2 ?_; intro w3 hown3 hg3; have H3 := Lib.hid hown3; have B3 := Lib.hid ((B2.out.alloc S3.out _).grown hg3 (Nat.le_trans S3.out (by simp)) (by simp)); clear hown3 hg3))
        exact ⟨⟨k + 1, by omega, by go_num, by rw [HP.out, escT_append, esc_one, if_pos HC.out, HEE.out]; simp [Nat.add_assoc], TextInv.two HP.out HC.out HEE.out H3.out B3.out⟩, by simp [intOf]; omega⟩
      · rw [if_neg hc] at hroom
        have hb1 : E + 1 ≤ M := by omega
        rw [← hE]
        clear hroom hME hE
        have t1 : ((s[k].toNat : Int) == 0) = false := by
          simp
          intro h
          exact hc (UInt8.toNat_inj.1 (by simpa using h))
        have HC := Lib.hid hc
        clear hc
        go_wp2_with (first
          | (at_builtin; refine wpList_append_fits_any _ rfl (.tmp 20) (.tmp 24) _ rfl w.heap.size 5 i0 1 Tryz.underlying25 hi hz1 w.heap.size E M _ rfl ((HI.out.owns HEE.out).alloc _) _ 1 1 [.int .u8 (s[k].toNat : Int)] rfl rfl (fun h => by cases h) (new_one _ _ rfl) (one_cell _ _) hb1 ?_; intro w2 hown2 hg2; have H2 := Lib.hid hown2; have B2 := Lib.hid ((HI.out.2.alloc S2.out _).grown hg2 (Nat.le_trans S2.out (by simp)) (by simp)); clear hown2 hg2))
        exact ⟨⟨k + 1, by omega, by go_num, by rw [HP.out, escT_append, esc_one, if_neg HC.out, HEE.out]; simp [Nat.add_assoc], TextInv.one HP.out HC.out HEE.out H2.out B2.out⟩, by simp [intOf]; omega⟩
    · obtain rfl : k = s.size := by omega
      have HPA := Lib.hid (pre_all s)
      rw [HPA.out]
      have HI2 := HI.out.1
      rw [HPA.out] at HI2
      have H0 := Lib.hid HI2
      clear HI2
      have hb1 : l.length + (escT s.data.toList).length + 2 ≤ M := by have := HE.out; have := HM.out; omega
      go_wp2_with (at_builtin; refine wpList_append_fits_any _ rfl _ _ _ rfl w.heap.size 5 i0 1 Tryz.underlying25 hi hz1 w.heap.size _ M _ rfl (H0.out.alloc _) _ 2 2 [.int .u8 0, .int .u8 0] rfl rfl (fun h => by cases h) (new_two _ _ _ rfl) (by simp [Value.oneCell']) hb1 ?_; intro w2 hown2 hg2; have H2 := Lib.hid hown2; have B2 := Lib.hid ((HI.out.2.alloc S2.out _).grown hg2 (Nat.le_trans S2.out (by simp)) (by simp)); clear hown2 hg2)
      go_ret
      refine Gives.mk (by simp [encText]; omega) ?_ B2.out
      have h := H2.out
      have e : cellsB (l ++ encText s.data.toList) = cellsB (l ++ escT s.data.toList) ++ [.int .u8 0, .int .u8 0] := by
        rw [encText, ← List.append_assoc, cellsB_append (l ++ escT s.data.toList)]
        rfl
      rw [e]
      exact h
end Go.Proofs.YtchklaepilcbbaaGreat

namespace Go.Proofs.YtchklaepilcbbaaGreat
open Go.RowKit
theorem below_drewN' {B : Nat} {a w : World} (h : Below B a w) (n : Nat) : Below B a (w.drewN n) := ⟨h.os, h.tape, h.output, h.size, h.block⟩
/-- The reader in block g: its bytes l, of which those from k on remain. -/
def Rd (w : World) (g k : Nat) (A : Option Addr) (c : Nat) (l : List UInt8) : Prop :=
  w.heap[g]? = some (.cells #[.slice A l.length c, .int .i64 k, .bool true] 146 (0, 0)) ∧ (k ≤ l.length ∧ l.length ≤ 140737488355328 ∧ l.length ≤ c ∧ c ≤ maxLen) ∧
  (0 < l.length → ∃ b off, A = some ⟨b, off, none⟩ ∧ b < w.heap.size ∧ b ≠ g ∧ ∀ i, i < l.length → w.cell? ⟨b, off + i, none⟩ = some (bv (l.getD i 0)))
/-- A step has moved the reader in block g to k; all else that lay there is as it was. -/
def Moved (w : World) (g k : Nat) (w' : World) : Prop := Below w.heap.size (w.setCell ⟨g, 1, none⟩ (.int .i64 k)) w'
theorem lt_heap {w : World} {g : Nat} {o : Obj} (h : w.heap[g]? = some o) : g < w.heap.size := (Array.getElem?_eq_some_iff.1 h).1
section
variable {w w' w'' : World} {g k j : Nat} {A : Option Addr} {c : Nat} {l : List UInt8}
theorem Rd.lt (h : Rd w g k A c l) : g < w.heap.size := lt_heap h.1
theorem Rd.c0 (h : Rd w g k A c l) : w.cell? ⟨g, 0, none⟩ = some (.slice A l.length c) := by simpa using cell_of_row w g 0 _ _ _ h.1
theorem Rd.c1 (h : Rd w g k A c l) : w.cell? ⟨g, 1, none⟩ = some (.int .i64 k) := by simpa using cell_of_row w g 1 _ _ _ h.1
theorem Rd.c2 (h : Rd w g k A c l) : w.cell? ⟨g, 2, none⟩ = some (.bool true) := by simpa using cell_of_row w g 2 _ _ _ h.1
theorem Rd.f1 (h : Rd w g k A c l) : w.frozen? ⟨g, 1, none⟩ = false := by
  have e := h.1
  unfold World.frozen?
  simp only []
  rw [e]
  simp
theorem Rd.at_ (h : Rd w g k A c l) {i : Nat} (hi : i < l.length) : ∃ b off, A = some ⟨b, off, none⟩ ∧ b < w.heap.size ∧ b ≠ g ∧ w.cell? ⟨b, off + i, none⟩ = some (bv (l.getD i 0)) := by
  obtain ⟨b, off, e, h1, h2, h3⟩ := h.2.2 (by omega)
  exact ⟨b, off, e, h1, h2, h3 i hi⟩
theorem Rd.below (h : Rd w g k A c l) (hb : Below w.heap.size w w') : Rd w' g k A c l := by
  obtain ⟨h1, h2, h3⟩ := h
  refine ⟨(hb.block g (lt_heap h1)).trans h1, h2, fun h0 => ?_⟩
  obtain ⟨b, off, e, hl, hn, hc⟩ := h3 h0
  have := hb.size
  exact ⟨b, off, e, by omega, hn, fun i hi => (hb.cell (p := ⟨b, off + i, none⟩) hl).trans (hc i hi)⟩
theorem Rd.set (h : Rd w g k A c l) (hj : j ≤ l.length) : Rd (w.setCell ⟨g, 1, none⟩ (.int .i64 j)) g j A c l := by
  obtain ⟨h1, h2, h3⟩ := h
  refine ⟨?_, ⟨hj, h2.2⟩, fun h0 => ?_⟩
  · simp [World.setCell, Array.getElem?_modify, h1]
  · obtain ⟨b, off, e, hl, hn, hc⟩ := h3 h0
    refine ⟨b, off, e, by simpa [World.setCell] using hl, hn, fun i hi => ?_⟩
    rw [World.cell?_setCell_other _ _ _ _ (fun e => hn (congrArg Addr.block e).symm)]
    exact hc i hi
theorem Rd.moved (h : Rd w g k A c l) (hm : Moved w g j w') (hj : j ≤ l.length) : Rd w' g j A c l :=
  (h.set hj).below (by rw [show (w.setCell ⟨g, 1, none⟩ (.int .i64 j)).heap.size = w.heap.size by simp [World.setCell]]; exact hm)
theorem Moved.size (h : Moved w g j w') : w.heap.size ≤ w'.heap.size := by have := Below.size h; simpa [World.setCell] using this
theorem Moved.far (h : Moved w g j w') {b : Nat} (hb : b < w.heap.size) (hn : b ≠ g) : w'.heap[b]? = w.heap[b]? :=
  (Below.block h b hb).trans (Below.heap_setCell _ _ _ _ (by simpa using hn))
theorem Moved.os (h : Moved w g j w') : w'.os = w.os ∧ w'.tape = w.tape ∧ w'.output = w.output := by
  have h' : Below w.heap.size (w.setCell ⟨g, 1, none⟩ (.int .i64 j)) w' := h
  exact ⟨h'.os, h'.tape, h'.output⟩
/-- Two steps, one behind the other. -/
theorem Moved.trans {j' : Nat} (h : Moved w g j w') (h' : Moved w' g j' w'') : Moved w g j' w'' := by
  have hs := Moved.size h
  have hs' := Moved.size h'
  refine ⟨(Moved.os h').1.trans (Moved.os h).1, (Moved.os h').2.1.trans (Moved.os h).2.1, (Moved.os h').2.2.trans (Moved.os h).2.2, by simpa [World.setCell] using Nat.le_trans hs hs', fun b hb => ?_⟩
  by_cases e : b = g
  · subst e
    rw [Below.block h' b (by omega)]
    have e1 := Below.block h b hb
    simp only [World.setCell, Array.getElem?_modify, if_true] at e1 ⊢
    rw [e1]
    cases w.heap[b]? with
    | none => rfl
    | some o =>
      cases o <;> simp
  · rw [Moved.far h' (by omega) e, Moved.far h hb e, Below.heap_setCell _ _ _ _ (by simpa using e)]
/-- A step behind which the reader stands where it stood. -/
theorem Moved.stay (h : Rd w g k A c l) (hb : Below w.heap.size w w') : Moved w g k w' := by
  refine ⟨hb.os, hb.tape, hb.output, by simpa [World.setCell] using hb.size, fun b hb' => ?_⟩
  rw [hb.block b hb']
  by_cases e : b = g
  · subst e
    simp [World.setCell, Array.getElem?_modify, h.1]
  · rw [Below.heap_setCell _ _ _ _ (by simpa using e)]
theorem Moved.then (h : Moved w g j w') (hb : Below w'.heap.size w' w'') : Moved w g j w'' := Below.trans h (hb.mono (Moved.size h))
theorem Moved.after (hb : Below w.heap.size w w') (hg : g < w.heap.size) (h : Moved w' g j w'') : Moved w g j w'' := by
  have hs := hb.size
  have hs' := Moved.size h
  refine ⟨(Moved.os h).1.trans hb.os, (Moved.os h).2.1.trans hb.tape, (Moved.os h).2.2.trans hb.output, by simpa [World.setCell] using Nat.le_trans hs hs', fun b hb' => ?_⟩
  rw [Below.block h b (by omega)]
  by_cases e : b = g
  · subst e
    simp [World.setCell, Array.getElem?_modify, hb.block b hb']
  · rw [Below.heap_setCell _ _ _ _ (by simpa using e), Below.heap_setCell _ _ _ _ (by simpa using e), hb.block b hb']
end
set_option maxRecDepth 100000 in
set_option maxHeartbeats 1000000 in
theorem Left_nil (w : World) : Calls Tryz.prog 127 #[.pointer none] w fun e w' => e = .returned (.int .i64 0) ∧ w = w' := by
  go_enter Tryz.func127, Tryz.ntmps127
  go_wp2
  go_ret
  exact ⟨rfl, rfl⟩
set_option maxRecDepth 100000 in
set_option maxHeartbeats 1000000 in
theorem Left_any (g k c : Nat) (A : Option Addr) (l : List UInt8) (w : World) (h : Rd w g k A c l) :
    Calls Tryz.prog 127 #[.pointer (some ⟨g, 0, none⟩)] w fun e w' => e = .returned (.int .i64 ((l.length - k : Nat) : Int)) ∧ ∃ n, w' = w.drewN n := by
  have h0 := h.c0
  have h1 := h.c1
  obtain ⟨hk, hl, _, _⟩ := h.2.1
  have hs : IntKind.i64.wrap ((l.length : Int) - k) = ((l.length - k : Nat) : Int) := by rw [IntWalk.i64_in _ (by omega)]; omega
  have HK := Lib.hid hk
  clear h hk hl
  go_enter Tryz.func127, Tryz.ntmps127
  go_wp2
  go_quiet (fail)
  go_wp2
  go_ret
  exact ⟨rfl, _, rfl⟩
theorem quiet_r {P : Program} {f : FuncId} {args : Array Value} {w : World} {v : Value} (h : Calls P f args w fun e w' => e = .returned v ∧ ∃ n, w' = w.drewN n) : Calls P f args w fun e w' => e = .returned v ∧ Below w.heap.size w w' :=
  h.mono fun _ _ ⟨he, _, hn⟩ => ⟨he, by rw [hn]; exact below_drewN' (Below.refl _ _) _⟩
set_option maxRecDepth 100000 in
set_option maxHeartbeats 1000000 in
theorem takeByte_end (g k c : Nat) (A : Option Addr) (l : List UInt8) (w : World) (h : Rd w g k A c l) (hk : k = l.length) :
    Calls Tryz.prog 173 #[.pointer (some ⟨g, 0, none⟩)] w fun e w' => e = .returned (.tuple #[.int .u8 0, .int .i64 4]) ∧ Moved w g k w' := by
  have C := Lib.hid (quiet_r (Left_any g k c A l w h))
  rw [show l.length - k = 0 by omega] at C
  have H := Lib.hid h
  clear h hk
  go_enter Tryz.func173, Tryz.ntmps173
  go_wp2_with (go_at_call 127; ((with_reducible refine (C.out).mono ?_); rintro e w1 ⟨rfl, hb⟩; have B1 := Lib.hid hb; clear hb))
  go_ret2
  exact ⟨rfl, Moved.stay H.out B1.out⟩
set_option maxRecDepth 100000 in
set_option maxHeartbeats 1000000 in
theorem takeByte_more (g k c : Nat) (A : Option Addr) (l : List UInt8) (w : World) (h : Rd w g k A c l) (hk : k < l.length) :
    Calls Tryz.prog 173 #[.pointer (some ⟨g, 0, none⟩)] w fun e w' => e = .returned (.tuple #[.int .u8 ((l.getD k 0).toNat : Int), .int .i64 0]) ∧ Moved w g (k + 1) w' := by
  have C := Lib.hid (quiet_r (Left_any g k c A l w h))
  obtain ⟨x, hx⟩ : ∃ x : Int, x = ((l.getD k 0).toNat : Int) := ⟨_, rfl⟩
  rw [← hx]
  have hne : (((l.length - k : Nat) : Int) == 0) = false := by simp; omega
  have H := Lib.hid h
  have KL := Lib.hid hk
  have HX := Lib.hid hx
  clear h hk hx
  go_enter Tryz.func173, Tryz.ntmps173
  go_wp2_with (go_at_call 127; ((with_reducible refine (C.out).mono ?_); rintro e w1 ⟨rfl, hb⟩; have B1 := Lib.hid hb; clear hb))
  have hr1 := H.out.below B1.out
  have H1 := Lib.hid hr1
  have h0 := hr1.c0
  have h1 := hr1.c1
  have hf := hr1.f1
  obtain ⟨b, off, rfl, hbl, hbn, hcell⟩ := hr1.at_ KL.out
  rw [show bv (l.getD k 0) = .int .u8 x by rw [HX.out]; rfl] at hcell
  have i0 : (0 : Int) ≤ (k : Int) := by omega
  have i1 : (k : Int) < (l.length : Int) := by have := KL.out; omega
  have hm := hr1.2.1.2.1
  clear hr1 hbl hbn hne
  go_quiet (fail)
  go_wp2
  go_ret2
  exact ⟨rfl, Moved.after (below_drewN' B1.out nq) H.out.lt (Below.refl _ _)⟩
end Go.Proofs.YtchklaepilcbbaaGreat

namespace Go.Proofs.YtchklaepilcbbaaGreat
open Go.RowKit
/-- Whether two spans meet. -/
def meetsB (a b : Nat × Nat) : Bool := decide (a.1 ≤ b.2) && decide (b.1 ≤ a.2)
set_option maxRecDepth 100000 in
set_option maxHeartbeats 1000000 in
theorem meets_any (a b c d : Nat) (w : World) :
    Calls Tryz.prog 195 #[.agg #[.int .u64 a, .int .u64 b], .agg #[.int .u64 c, .int .u64 d]] w fun e w' => e = .returned (.bool (meetsB (a, b) (c, d))) ∧ Below w.heap.size w w' := by
  by_cases h1 : a ≤ d
  · have t1 : decide (a ≤ d) = true := by simp [h1]
    by_cases h2 : c ≤ b
    · have t2 : decide (c ≤ b) = true := by simp [h2]
      have HE := Lib.hid (show meetsB (a, b) (c, d) = true by simp [meetsB, h1, h2])
      clear h1 h2
      go_enter Tryz.func195, Tryz.ntmps195
      go_wp2
      go_ret
      refine ⟨by rw [HE.out]; rfl, ?_⟩
      exact ((Below.refl _ _).alloc (Nat.le_refl _) _).alloc (by simp) _
    · have t2 : decide (c ≤ b) = false := by simp [h2]
      have HE := Lib.hid (show meetsB (a, b) (c, d) = false by simp [meetsB, h1, h2])
      clear h1 h2
      go_enter Tryz.func195, Tryz.ntmps195
      go_wp2
      go_ret
      refine ⟨by rw [HE.out]; rfl, ?_⟩
      exact ((Below.refl _ _).alloc (Nat.le_refl _) _).alloc (by simp) _
  · have t1 : decide (a ≤ d) = false := by simp [h1]
    have HE := Lib.hid (show meetsB (a, b) (c, d) = false by simp [meetsB, h1])
    clear h1
    go_enter Tryz.func195, Tryz.ntmps195
    go_wp2
    go_ret
    refine ⟨by rw [HE.out]; rfl, ?_⟩
    exact ((Below.refl _ _).alloc (Nat.le_refl _) _).alloc (by simp) _
/-- The value of begins.meets. -/
abbrev meetsV (low high : Nat) : Value := .func (Fn.func 195) #[.agg #[.int .u64 low, .int .u64 high]] #[]
set_option maxRecDepth 100000 in
set_option maxHeartbeats 1000000 in
theorem IndexFunc_one_false (h a b low high : Nat) (w : World) (h0 : w.cell? ⟨h, 0, none⟩ = some (.int .u64 a)) (h1 : w.cell? ⟨h, 1, none⟩ = some (.int .u64 b)) (hm : meetsB (low, high) (a, b) = false) :
    Calls Tryz.prog 205 #[.slice (some ⟨h, 0, none⟩) 1 1, meetsV low high] w fun e w' => e = .returned (.int .i64 (-1)) ∧ Below w.heap.size w w' := by
  have C := Lib.hid (fun w => meets_any low high a b w)
  rw [hm] at C
  clear hm
  go_enter Tryz.func205, Tryz.ntmps205
  go_wp2
  refine wp_loop_rounds 2 ?_
  rw [rounds_succ]
  go_wp2_with (go_at_call 195; ((with_reducible refine (C.out _).mono ?_); rintro e w1 ⟨rfl, hb1⟩; have B1 := Lib.hid hb1; clear hb1))
  rw [rounds_succ]
  go_wp2
  go_ret
  exact ⟨rfl, B1.out⟩
set_option maxRecDepth 100000 in
set_option maxHeartbeats 1000000 in
theorem IndexFunc_one_true (h a b low high : Nat) (w : World) (h0 : w.cell? ⟨h, 0, none⟩ = some (.int .u64 a)) (h1 : w.cell? ⟨h, 1, none⟩ = some (.int .u64 b)) (hm : meetsB (low, high) (a, b) = true) :
    Calls Tryz.prog 205 #[.slice (some ⟨h, 0, none⟩) 1 1, meetsV low high] w fun e w' => e = .returned (.int .i64 (0)) ∧ Below w.heap.size w w' := by
  have C := Lib.hid (fun w => meets_any low high a b w)
  rw [hm] at C
  clear hm
  go_enter Tryz.func205, Tryz.ntmps205
  go_wp2
  refine wp_loop_rounds 2 ?_
  rw [rounds_succ]
  go_wp2_with (go_at_call 195; ((with_reducible refine (C.out _).mono ?_); rintro e w1 ⟨rfl, hb1⟩; have B1 := Lib.hid hb1; clear hb1))
  go_ret
  exact ⟨rfl, B1.out⟩
set_option maxRecDepth 100000 in
set_option maxHeartbeats 1000000 in
theorem IndexFunc_two_true (h a b low high : Nat) (w : World) (h0 : w.cell? ⟨h, 0, none⟩ = some (.int .u64 a)) (h1 : w.cell? ⟨h, 1, none⟩ = some (.int .u64 b))
    (hm : meetsB (low, high) (a, b) = true) :
    Calls Tryz.prog 205 #[.slice (some ⟨h, 0, none⟩) 2 2, meetsV low high] w fun e w' => e = .returned (.int .i64 (0)) ∧ Below w.heap.size w w' := by
  have C := Lib.hid (fun w => meets_any low high a b w)
  rw [hm] at C
  clear hm
  go_enter Tryz.func205, Tryz.ntmps205
  go_wp2
  refine wp_loop_rounds 3 ?_
  rw [rounds_succ]
  go_wp2_with (go_at_call 195; ((with_reducible refine (C.out _).mono ?_); rintro e w1 ⟨rfl, hb1⟩; have B1 := Lib.hid hb1; clear hb1))
  go_ret
  exact ⟨rfl, B1.out⟩
set_option maxRecDepth 100000 in
set_option maxHeartbeats 1000000 in
theorem IndexFunc_two_false_true (h a b c d low high : Nat) (w : World) (hh : h < w.heap.size) (h0 : w.cell? ⟨h, 0, none⟩ = some (.int .u64 a)) (h1 : w.cell? ⟨h, 1, none⟩ = some (.int .u64 b)) (h2 : w.cell? ⟨h, 2, none⟩ = some (.int .u64 c)) (h3 : w.cell? ⟨h, 3, none⟩ = some (.int .u64 d))
    (hm : meetsB (low, high) (a, b) = false) (hn : meetsB (low, high) (c, d) = true) :
    Calls Tryz.prog 205 #[.slice (some ⟨h, 0, none⟩) 2 2, meetsV low high] w fun e w' => e = .returned (.int .i64 (1)) ∧ Below w.heap.size w w' := by
  have C := Lib.hid (fun w => meets_any low high a b w)
  rw [hm] at C
  clear hm
  have D := Lib.hid (fun w => meets_any low high c d w)
  rw [hn] at D
  clear hn
  have H2 := Lib.hid h2
  have H3 := Lib.hid h3
  go_enter Tryz.func205, Tryz.ntmps205
  go_wp2
  refine wp_loop_rounds 3 ?_
  rw [rounds_succ]
  go_wp2_with (go_at_call 195; ((with_reducible refine (C.out _).mono ?_); rintro e w1 ⟨rfl, hb1⟩; have B1 := Lib.hid hb1; clear hb1))
  have g2 : w1.cell? ⟨h, 2, none⟩ = some (.int .u64 c) := (B1.out.cell (p := ⟨h, 2, none⟩) hh).trans H2.out
  have g3 : w1.cell? ⟨h, 3, none⟩ = some (.int .u64 d) := (B1.out.cell (p := ⟨h, 3, none⟩) hh).trans H3.out
  rw [rounds_succ]
  go_wp2_with (go_at_call 195; ((with_reducible refine (D.out _).mono ?_); rintro e w2 ⟨rfl, hb2⟩; have B2 := Lib.hid hb2; clear hb2))
  go_ret
  exact ⟨rfl, B1.out.trans (B2.out.mono B1.out.size)⟩
set_option maxRecDepth 100000 in
set_option maxHeartbeats 1000000 in
theorem IndexFunc_two_false_false (h a b c d low high : Nat) (w : World) (hh : h < w.heap.size) (h0 : w.cell? ⟨h, 0, none⟩ = some (.int .u64 a)) (h1 : w.cell? ⟨h, 1, none⟩ = some (.int .u64 b)) (h2 : w.cell? ⟨h, 2, none⟩ = some (.int .u64 c)) (h3 : w.cell? ⟨h, 3, none⟩ = some (.int .u64 d))
    (hm : meetsB (low, high) (a, b) = false) (hn : meetsB (low, high) (c, d) = false) :
    Calls Tryz.prog 205 #[.slice (some ⟨h, 0, none⟩) 2 2, meetsV low high] w fun e w' => e = .returned (.int .i64 (-1)) ∧ Below w.heap.size w w' := by
  have C := Lib.hid (fun w => meets_any low high a b w)
  rw [hm] at C
  clear hm
  have D := Lib.hid (fun w => meets_any low high c d w)
  rw [hn] at D
  clear hn
  have H2 := Lib.hid h2
  have H3 := Lib.hid h3
  go_enter Tryz.func205, Tryz.ntmps205
  go_wp2
  refine wp_loop_rounds 3 ?_
  rw [rounds_succ]
  go_wp2_with (go_at_call 195; ((with_reducible refine (C.out _).mono ?_); rintro e w1 ⟨rfl, hb1⟩; have B1 := Lib.hid hb1; clear hb1))
  have g2 : w1.cell? ⟨h, 2, none⟩ = some (.int .u64 c) := (B1.out.cell (p := ⟨h, 2, none⟩) hh).trans H2.out
  have g3 : w1.cell? ⟨h, 3, none⟩ = some (.int .u64 d) := (B1.out.cell (p := ⟨h, 3, none⟩) hh).trans H3.out
  rw [rounds_succ]
  go_wp2_with (go_at_call 195; ((with_reducible refine (D.out _).mono ?_); rintro e w2 ⟨rfl, hb2⟩; have B2 := Lib.hid hb2; clear hb2))
  rw [rounds_succ]
  go_wp2
  go_ret
  exact ⟨rfl, B1.out.trans (B2.out.mono B1.out.size)⟩
set_option maxRecDepth 100000 in
set_option maxHeartbeats 1000000 in
theorem Contains_of (sp : Value) (i : Int) (low high : Nat) (w : World) (hi : decide (0 ≤ i) = true)
    (C : Calls Tryz.prog 205 #[sp, meetsV low high] w fun e w' => e = .returned (.int .i64 i) ∧ Below w.heap.size w w') :
    Calls Tryz.prog 194 #[sp, meetsV low high] w fun e w' => e = .returned (.bool true) ∧ Below w.heap.size w w' := by
  have H := Lib.hid C
  clear C
  go_enter Tryz.func194, Tryz.ntmps194
  go_wp2_with (go_at_call 205; ((with_reducible refine (H.out).mono ?_); rintro e w1 ⟨rfl, hb1⟩))
  go_ret
  exact ⟨rfl, hb1⟩
set_option maxRecDepth 100000 in
set_option maxHeartbeats 1000000 in
theorem Contains_no (sp : Value) (i : Int) (low high : Nat) (w : World) (hi : decide (0 ≤ i) = false)
    (C : Calls Tryz.prog 205 #[sp, meetsV low high] w fun e w' => e = .returned (.int .i64 i) ∧ Below w.heap.size w w') :
    Calls Tryz.prog 194 #[sp, meetsV low high] w fun e w' => e = .returned (.bool false) ∧ Below w.heap.size w w' := by
  have H := Lib.hid C
  clear C
  go_enter Tryz.func194, Tryz.ntmps194
  go_wp2_with (go_at_call 205; ((with_reducible refine (H.out).mono ?_); rintro e w1 ⟨rfl, hb1⟩))
  go_ret
  exact ⟨rfl, hb1⟩
theorem Contains_one (h a b low high : Nat) (w : World) (h0 : w.cell? ⟨h, 0, none⟩ = some (.int .u64 a)) (h1 : w.cell? ⟨h, 1, none⟩ = some (.int .u64 b)) :
    Calls Tryz.prog 194 #[.slice (some ⟨h, 0, none⟩) 1 1, meetsV low high] w fun e w' => e = .returned (.bool (meetsB (low, high) (a, b))) ∧ Below w.heap.size w w' := by
  cases hm : meetsB (low, high) (a, b)
  · exact Contains_no _ _ _ _ _ (by decide) (IndexFunc_one_false h a b low high w h0 h1 hm)
  · exact Contains_of _ _ _ _ _ (by decide) (IndexFunc_one_true h a b low high w h0 h1 hm)
theorem Contains_two (h a b c d low high : Nat) (w : World) (hh : h < w.heap.size) (h0 : w.cell? ⟨h, 0, none⟩ = some (.int .u64 a)) (h1 : w.cell? ⟨h, 1, none⟩ = some (.int .u64 b)) (h2 : w.cell? ⟨h, 2, none⟩ = some (.int .u64 c)) (h3 : w.cell? ⟨h, 3, none⟩ = some (.int .u64 d)) :
    Calls Tryz.prog 194 #[.slice (some ⟨h, 0, none⟩) 2 2, meetsV low high] w fun e w' => e = .returned (.bool (meetsB (low, high) (a, b) || meetsB (low, high) (c, d))) ∧ Below w.heap.size w w' := by
  cases hm : meetsB (low, high) (a, b)
  · cases hn : meetsB (low, high) (c, d)
    · exact Contains_no _ _ _ _ _ (by decide) (IndexFunc_two_false_false h a b c d low high w hh h0 h1 h2 h3 hm hn)
    · exact Contains_of _ _ _ _ _ (by decide) (IndexFunc_two_false_true h a b c d low high w hh h0 h1 h2 h3 hm hn)
  · exact Contains_of _ _ _ _ _ (by decide) (IndexFunc_two_true h a b low high w h0 h1 hm)
end Go.Proofs.YtchklaepilcbbaaGreat

namespace Go.Proofs.YtchklaepilcbbaaGreat
theorem val_snoc (l : List UInt8) (c : UInt8) : val (l ++ [c]) = val l * 256 + c.toNat := by
  induction l with
  | nil => simp [val]
  | cons a l ih =>
    simp only [List.cons_append, val, ih, List.length_append, List.length_cons, List.length_nil, Nat.pow_succ, Nat.add_mul]
    simp only [Nat.mul_assoc, Nat.add_assoc]
theorem val_append (a b : List UInt8) : val (a ++ b) = val a * 256 ^ b.length + val b := by
  induction a with
  | nil => simp [val]
  | cons x a ih =>
    simp only [List.cons_append, val, ih, List.length_append, Nat.pow_add, Nat.add_mul, Nat.mul_assoc, Nat.add_assoc]
/-- How many of count digits are there. -/
def thereN (count : Nat) (L : List UInt8) : Nat := min count L.length
/-- What the digits that are there say. -/
def nOf (count : Nat) (fl : UInt8 → UInt8) (L : List UInt8) : Nat := val ((L.take (thereN count L)).map fl)
def lowOf (count : Nat) (fl : UInt8 → UInt8) (L : List UInt8) : Nat := nOf count fl L * 256 ^ (count - thereN count L)
def highOf (count : Nat) (fl : UInt8 → UInt8) (L : List UInt8) : Nat := lowOf count fl L + (256 ^ (count - thereN count L) - 1)
/-- What is answered of digits: a number, and an error's number. -/
def digF (count : Nat) (fl : UInt8 → UInt8) (ok : Nat → Nat → Bool) (L : List UInt8) : Nat × Nat :=
  if ok (lowOf count fl L) (highOf count fl L) = false then (0, 5) else if L.length < count then (0, 4) else (nOf count fl L, 0)
theorem nOf_lt (count : Nat) (fl : UInt8 → UInt8) (L : List UInt8) : nOf count fl L < 256 ^ thereN count L := by
  have h := val_lt ((L.take (thereN count L)).map fl)
  simp only [List.length_map, List.length_take] at h
  rw [show min (thereN count L) L.length = thereN count L by unfold thereN; omega] at h
  exact h
theorem lowOf_le (count : Nat) (fl : UInt8 → UInt8) (L : List UInt8) : highOf count fl L < 256 ^ count := by
  have h := nOf_lt count fl L
  unfold highOf lowOf
  obtain ⟨d, hd⟩ : ∃ d, count = thereN count L + d := ⟨count - thereN count L, by unfold thereN; omega⟩
  have e : (256 : Nat) ^ count = 256 ^ thereN count L * 256 ^ d := by rw [← Nat.pow_add, ← hd]
  rw [show count - thereN count L = d by omega, e]
  have h1 : (nOf count fl L + 1) * 256 ^ d ≤ 256 ^ thereN count L * 256 ^ d := Nat.mul_le_mul_right _ h
  rw [Nat.add_mul, Nat.one_mul] at h1
  have := Nat.pow_pos (n := d) (show 0 < 256 by omega)
  omega
end Go.Proofs.YtchklaepilcbbaaGreat

namespace Go.Proofs.YtchklaepilcbbaaGreat
open Go.RowKit
/-- A world in which nothing that lay there has turned but the reader in block g. -/
def Apart (w W : World) (g : Nat) : Prop := w.heap.size ≤ W.heap.size ∧ ∀ b, b < w.heap.size → b ≠ g → W.heap[b]? = w.heap[b]?
/-- What the spans answer, wherever the walk has come to. -/
def SpansOk (w : World) (g : Nat) (sp : Value) (ok : Nat → Nat → Bool) : Prop :=
  ∀ W, Apart w W g → ∀ low high, Calls Tryz.prog 194 #[sp, meetsV low high] W fun e w' => e = .returned (.bool (ok low high)) ∧ Below W.heap.size W w'
theorem drop_getD (l : List UInt8) (k i : Nat) : (l.drop k).getD i 0 = l.getD (k + i) 0 := by simp [List.getD]
/-- What j digits from k on say. -/
def vOf (fl : UInt8 → UInt8) (l : List UInt8) (k j : Nat) : Nat := val (((l.drop k).take j).map fl)
theorem vOf_succ (fl : UInt8 → UInt8) (l : List UInt8) (k j : Nat) (h : k + j < l.length) : vOf fl l k (j + 1) = vOf fl l k j * 256 + (fl (l.getD (k + j) 0)).toNat := by
  unfold vOf
  have h' : j < (l.drop k).length := by simp; omega
  rw [List.take_succ_eq_append_getElem h', List.map_append, List.map_singleton, val_snoc]
  simp [List.getD, h]
theorem vOf_lt (fl : UInt8 → UInt8) (l : List UInt8) (k j : Nat) (h : k + j ≤ l.length) : vOf fl l k j < 256 ^ j := by
  have e := val_lt (((l.drop k).take j).map fl)
  simp only [List.length_map, List.length_take, List.length_drop] at e
  rw [show min j (l.length - k) = j by omega] at e
  exact e
theorem or_step (V d : Nat) (hV : V < 256 ^ 7) (hd : d < 2 ^ 8) : bits .or .u64 (IntKind.u64.wrap ((V : Int) * 256)) (d : Int) = ((V * 256 + d : Nat) : Int) := by
  rw [IntKind.wrap_u64, show (V : Int) * 256 % 18446744073709551616 = ((V * 256 : Nat) : Int) by omega, u64_or _ _ (by omega) (by omega) (by omega) (by omega)]
  simp only [Int.toNat_natCast]
  congr 1
  rw [show V * 256 = 2 ^ 8 * V by omega, Nat.two_pow_add_eq_or_of_lt hd]
theorem pow_8D (D : Nat) : (2 : Int) ^ (8 * (D : Int)).toNat = ((256 ^ D : Nat) : Int) := by
  rw [show (8 * (D : Int)).toNat = 8 * D by omega, show (256 : Nat) ^ D = 2 ^ (8 * D) by rw [Nat.pow_mul]]
  simp
theorem low_lt {V D : Nat} (hD : D ≤ 8) (hV : V < 256 ^ (8 - D)) : V * 256 ^ D + 256 ^ D ≤ 18446744073709551616 := by
  have h := Nat.mul_le_mul_right (256 ^ D) (show V + 1 ≤ 256 ^ (8 - D) from hV)
  rw [← Nat.pow_add, show 8 - D + D = 8 by omega, Nat.add_mul, Nat.one_mul] at h
  exact h
theorem shl_low (V D : Nat) (hD : D ≤ 8) (hV : V < 256 ^ (8 - D)) : IntKind.u64.wrap ((V : Int) * 2 ^ (8 * (D : Int)).toNat) = ((V * 256 ^ D : Nat) : Int) := by
  have h := low_lt hD hV
  have hp := Nat.pow_pos (n := D) (show 0 < 256 by omega)
  rw [pow_8D, IntKind.wrap_u64, ← Int.natCast_mul]
  omega
theorem or_high (V D : Nat) (hD : D ≤ 8) (hV : V < 256 ^ (8 - D)) :
    bits .or .u64 ((V * 256 ^ D : Nat) : Int) (IntKind.u64.wrap (IntKind.u64.wrap (2 ^ (8 * (D : Int)).toNat) - 1)) = ((V * 256 ^ D + (256 ^ D - 1) : Nat) : Int) := by
  have h := low_lt hD hV
  have hp := Nat.pow_pos (n := D) (show 0 < 256 by omega)
  have e : IntKind.u64.wrap (IntKind.u64.wrap (2 ^ (8 * (D : Int)).toNat) - 1) = ((256 ^ D - 1 : Nat) : Int) := by
    rw [pow_8D, IntKind.wrap_u64, IntKind.wrap_u64]
    generalize 256 ^ D = q at *
    generalize V * q = r at *
    omega
  rw [e, u64_or _ _ (by omega) (by omega) (by omega) (by omega)]
  simp only [Int.toNat_natCast]
  congr 1
  rw [show (256 : Nat) ^ D = 2 ^ (8 * D) by rw [Nat.pow_mul], Nat.mul_comm V, Nat.two_pow_add_eq_or_of_lt]
  exact Nat.sub_lt (Nat.pow_pos (by omega)) (by omega)
theorem Apart.begins {g : Nat} {v : Value} (w : World) (n : Nat) (o : Obj) : Apart w ((((w.drewN n).setCell ⟨g, 1, none⟩ v).alloc o).drew) g := by
  refine ⟨by simp [World.setCell], fun b hb hne => ?_⟩
  show ((((w.drewN n).setCell ⟨g, 1, none⟩ v).alloc o)).heap[b]? = _
  rw [Below.heap_alloc _ _ _ (by simpa [World.setCell] using hb), Below.heap_setCell _ _ _ _ (by simpa using hne)]
  rfl
set_option maxRecDepth 100000 in
set_option maxHeartbeats 2000000 in
theorem takeDigits_more (g k c count : Nat) (flip : Int) (fl : UInt8 → UInt8) (A : Option Addr) (l : List UInt8) (sp : Value) (ok : Nat → Nat → Bool) (w : World) (h : Rd w g k A c l) (hk : k < l.length) (hc : count ≤ 8)
    (hfl : ∀ x : UInt8, bits .xor .u8 (x.toNat : Int) flip = ((fl x).toNat : Int)) (hok : SpansOk w g sp ok) :
    Calls Tryz.prog 179 #[.pointer (some ⟨g, 0, none⟩), .int .i64 count, .int .u8 flip, sp] w fun e w' => e = .returned (.tuple #[.int .u64 ((digF count fl ok (l.drop k)).1 : Nat), .int .i64 ((digF count fl ok (l.drop k)).2 : Nat)]) ∧ Moved w g (k + thereN count (l.drop k)) w' := by
  have C := Lib.hid (Left_any g k c A l w h)
  have hL : (l.drop k).length = l.length - k := by simp
  obtain ⟨T, hT⟩ : ∃ T : Nat, T = thereN count (l.drop k) := ⟨_, rfl⟩
  have hT1 : T ≤ count := by rw [hT]; unfold thereN; omega
  have hT2 : k + T ≤ l.length := by rw [hT]; unfold thereN; omega
  have hmin : min (count : Int) ((l.length - k : Nat) : Int) = (T : Int) := by rw [hT]; unfold thereN; omega
  rw [← hT]
  have h0 := h.c0
  have h1 := h.c1
  have hf := h.f1
  have hb := h.2.1
  obtain ⟨b, off, rfl, hbl, hbn, hcell⟩ := h.2.2 (by omega)
  have HC := Lib.hid hcell
  have H := Lib.hid h
  have HF := Lib.hid hfl
  have HOK := Lib.hid hok
  have HT := Lib.hid hT
  have hcl : ((c : Int) == (k : Int)) = false := by simp; omega
  clear hcell h hfl hok hT hL
  go_enter Tryz.func179, Tryz.ntmps179
  go_wp2_with (go_at_call 127; ((with_reducible refine (C.out).mono ?_); rintro e w1 ⟨rfl, nd, rfl⟩))
  have hs : IntKind.i64.wrap ((k : Int) + (T : Int)) = (k : Int) + (T : Int) := IntWalk.i64_in _ (by omega)
  have i0 : (0 : Int) ≤ (k : Int) := by omega
  have i1 : (k : Int) ≤ (k : Int) + (T : Int) := by omega
  have i2 : (k : Int) + (T : Int) ≤ (c : Int) := by omega
  have i3 : ((k : Int) + (T : Int)).toNat = k + T := by omega
  have i4 : (0 : Int) ≤ (k : Int) + (T : Int) := by omega
  go_quiet (fail)
  clear hs i0 i1 i2 i3 i4 hmin hcl
  go_wp2
  go_loop [11, 36] (fun n i => ∃ j : Nat, j ≤ T ∧ i = .int .i64 j ∧ n = .int .u64 (vOf fl l k j)) (fun _ i => T - (intOf i).toNat)
  case atStart => exact ⟨0, Nat.zero_le _, rfl, rfl⟩
  case round =>
    obtain ⟨j, hj, rfl, rfl⟩ := hrel
    by_cases hlt : j < T
    · have hx := HC.out (k + j) (by omega)
      obtain ⟨y, hy⟩ : ∃ y : UInt8, y = l.getD (k + j) 0 := ⟨_, rfl⟩
      rw [← hy] at hx
      obtain ⟨x, hxx⟩ : ∃ x : Int, x = (y.toNat : Int) := ⟨_, rfl⟩
      have hfx := HF.out y
      rw [show bv y = .int .u8 x by rw [hxx]; rfl, show off + (k + j) = off + k + j by omega] at hx
      rw [← hxx] at hfx
      have h256 := (fl y).toNat_lt
      have HV := Lib.hid (vOf_succ fl l k j (by omega))
      rw [← hy] at HV
      have hv := vOf_lt fl l k j (by omega)
      generalize vOf fl l k j = V at *
      clear hy hxx
      go_wp2
      exact ⟨⟨_, _, _, ⟨j + 1, by omega, rfl, rfl⟩, by rw [HV.out, or_step V _ (Nat.lt_of_lt_of_le hv (Nat.pow_le_pow_right (by omega) (by omega))) h256], rfl, by go_num⟩, by simp [intOf]; omega⟩
    · obtain rfl : j = T := by omega
      have hv := vOf_lt fl l k j (by omega)
      have HVN := Lib.hid (show vOf fl l k j = nOf count fl (l.drop k) by unfold vOf nOf; rw [← HT.out])
      generalize vOf fl l k j = V at *
      have hsub : IntKind.i64.wrap ((count : Int) - (j : Int)) = ((count - j : Nat) : Int) := by rw [IntWalk.i64_in _ (by omega)]; omega
      go_wp2
      generalize hD : count - j = D at *
      have hD8 : D ≤ 8 := by omega
      obtain ⟨W, hW⟩ : ∃ W : World, W = (w.drewN (nd + nq)).setCell ⟨g, 1, none⟩ (.int .i64 ((k : Int) + (j : Int))) := ⟨_, rfl⟩
      rw [← hW]
      have HW := Lib.hid hW
      have HD := Lib.hid hD
      clear hW hD hsub
      have HE1 := Lib.hid (shl_low V D (by omega) (Nat.lt_of_lt_of_le hv (by rw [show 8 - D = j + (8 - count) by have := HD.out; omega]; exact Nat.pow_le_pow_right (by omega) (by omega))))
      have HE2 := Lib.hid (or_high V D (by omega) (Nat.lt_of_lt_of_le hv (by rw [show 8 - D = j + (8 - count) by have := HD.out; omega]; exact Nat.pow_le_pow_right (by omega) (by omega))))
      have HLO := Lib.hid (show V * 256 ^ D = lowOf count fl (l.drop k) by unfold lowOf; rw [← HVN.out, ← HT.out, HD.out])
      have HHI := Lib.hid (show V * 256 ^ D + (256 ^ D - 1) = highOf count fl (l.drop k) by unfold highOf; rw [← HLO.out, ← HT.out, HD.out])
      go_region_held3 (fun _ => True) (trivial) (fail)
      rw [HE1.out, HE2.out, HHI.out, HLO.out]
      have HAP := Lib.hid (Apart.begins (g := g) (v := .int .i64 ((k : Int) + (j : Int))) w (nd + nq) (.cells #[.int .u64 (lowOf count fl (l.drop k) : Nat), .int .u64 (highOf count fl (l.drop k) : Nat)] 187))
      rw [← HW.out] at HAP
      have HMV : Hid (Moved w g (k + j) ((W.alloc (.cells #[.int .u64 (lowOf count fl (l.drop k) : Nat), .int .u64 (highOf count fl (l.drop k) : Nat)] 187)).drew)) := by
        rw [HW.out]
        exact (((below_drewN' (Below.refl _ _) (nd + nq)).alloc (by simp [World.setCell]) _).drew)
      have HDG : Hid (digF count fl ok (l.drop k) = if ok (lowOf count fl (l.drop k)) (highOf count fl (l.drop k)) = false then (0, 5) else if j < count then (0, 4) else (V, 0)) := by
        unfold digF
        rw [← HVN.out]
        have : (l.drop k).length < count ↔ j < count := by have := HT.out; unfold thereN at this; omega
        by_cases q : j < count
        · rw [if_pos q, if_pos (this.2 q)]; exact rfl
        · rw [if_neg q, if_neg (fun x => q (this.1 x))]; exact rfl
      have CS := Lib.hid (HOK.out _ HAP.out (lowOf count fl (l.drop k)) (highOf count fl (l.drop k)))
      generalize lowOf count fl (l.drop k) = low at *
      generalize highOf count fl (l.drop k) = high at *
      clear HE1 HE2 HLO HHI hv
      cases hok : ok low high
      · rw [hok] at CS HDG
        clear hok
        go_wp2_with (go_at_call 194; ((refine (CS.out).mono ?_); rintro e w2 ⟨rfl, hb2⟩; have B2 := Lib.hid hb2; clear hb2))
        go_ret2
        exact ⟨by rw [HDG.out]; rfl, HMV.out.then B2.out⟩
      · rw [hok] at CS HDG
        clear hok
        by_cases hlt2 : j < count
        · have HDJ := Lib.hid (show (if j < count then ((0, 4) : Nat × Nat) else (V, 0)) = (0, 4) from if_pos hlt2)
          go_wp2_with (go_at_call 194; ((refine (CS.out).mono ?_); rintro e w2 ⟨rfl, hb2⟩; have B2 := Lib.hid hb2; clear hb2))
          go_ret2
          exact ⟨by rw [HDG.out, HDJ.out]; rfl, HMV.out.then B2.out⟩
        · have HDJ := Lib.hid (show (if j < count then ((0, 4) : Nat × Nat) else (V, 0)) = (V, 0) from if_neg hlt2)
          have t2 : decide (j < count) = false := by simp; omega
          go_wp2_with (go_at_call 194; ((refine (CS.out).mono ?_); rintro e w2 ⟨rfl, hb2⟩; have B2 := Lib.hid hb2; clear hb2))
          go_ret2
          exact ⟨by rw [HDG.out, HDJ.out]; rfl, HMV.out.then B2.out⟩
end Go.Proofs.YtchklaepilcbbaaGreat

namespace Go.Proofs.YtchklaepilcbbaaGreat
open Go.RowKit
set_option maxRecDepth 100000 in
set_option maxHeartbeats 2000000 in
theorem takeDigits_end (g k c count : Nat) (flip : Int) (fl : UInt8 → UInt8) (A : Option Addr) (l : List UInt8) (sp : Value) (ok : Nat → Nat → Bool) (w : World) (h : Rd w g k A c l) (hk : l.length = k) (hc : count ≤ 8)
    (hok : SpansOk w g sp ok) :
    Calls Tryz.prog 179 #[.pointer (some ⟨g, 0, none⟩), .int .i64 count, .int .u8 flip, sp] w fun e w' => e = .returned (.tuple #[.int .u64 ((digF count fl ok (l.drop k)).1 : Nat), .int .i64 ((digF count fl ok (l.drop k)).2 : Nat)]) ∧ Moved w g (k + thereN count (l.drop k)) w' := by
  have C := Lib.hid (Left_any g k c A l w h)
  have HT := Lib.hid (show 0 = thereN count (l.drop k) by unfold thereN; simp; omega)
  rw [← HT.out]
  have h0 := h.c0
  rw [hk] at h0
  have h1 := h.c1
  have hf := h.f1
  have hb := h.2.1
  rw [hk] at hb
  have hmin : min (count : Int) 0 = 0 := by omega
  have H := Lib.hid h
  have HOK := Lib.hid hok
  have HK := Lib.hid hk
  rw [hk, Nat.sub_self] at C
  clear h hok hk
  go_enter Tryz.func179, Tryz.ntmps179
  go_wp2_with (go_at_call 127; ((with_reducible refine (C.out).mono ?_); rintro e w1 ⟨rfl, nd, rfl⟩))
  have i0 : (0 : Int) ≤ (k : Int) := by omega
  have i2 : (k : Int) ≤ (c : Int) := by omega
  have hs : IntKind.i64.wrap ((k : Int)) = (k : Int) := IntWalk.i64_in _ (by omega)
  go_quiet (fail)
  clear hs i0 i2 hmin
  generalize (if c = k then A else Option.map (fun x => x.add k) A) = A2 at *
  go_wp2
  refine wp_loop_rounds 1 ?_
  rw [rounds_succ]
  go_wp2
  obtain ⟨W, hW⟩ : ∃ W : World, W = (w.drewN (nd + nq)).setCell ⟨g, 1, none⟩ (.int .i64 (k : Int)) := ⟨_, rfl⟩
  rw [← hW]
  have HW := Lib.hid hW
  clear hW
  have hw0 : IntKind.u64.wrap 0 = ((0 * 256 ^ count : Nat) : Int) := by rw [IntKind.wrap_u64, Nat.zero_mul]; rfl
  have HW0 := Lib.hid hw0
  clear hw0
  have HE2 := Lib.hid (or_high 0 count hc (Nat.pow_pos (by omega)))
  have HN0 : Hid (nOf count fl (l.drop k) = 0) := by
    unfold nOf
    rw [← HT.out]
    exact rfl
  have HLO := Lib.hid (show 0 * 256 ^ count = lowOf count fl (l.drop k) by unfold lowOf; rw [HN0.out, ← HT.out, Nat.sub_zero])
  have HHI := Lib.hid (show 0 * 256 ^ count + (256 ^ count - 1) = highOf count fl (l.drop k) by unfold highOf; rw [← HLO.out, ← HT.out, Nat.sub_zero])
  go_region_held3 (fun _ => True) (trivial) (fail)
  rw [HW0.out, HE2.out, HHI.out, HLO.out]
  have HAP := Lib.hid (Apart.begins (g := g) (v := .int .i64 (k : Int)) w (nd + nq) (.cells #[.int .u64 (lowOf count fl (l.drop k) : Nat), .int .u64 (highOf count fl (l.drop k) : Nat)] 187))
  rw [← HW.out] at HAP
  have HMV : Hid (Moved w g (k + 0) ((W.alloc (.cells #[.int .u64 (lowOf count fl (l.drop k) : Nat), .int .u64 (highOf count fl (l.drop k) : Nat)] 187)).drew)) := by
    rw [HW.out]
    exact (((below_drewN' (Below.refl _ _) (nd + nq)).alloc (by simp [World.setCell]) _).drew)
  have HDG : Hid (digF count fl ok (l.drop k) = if ok (lowOf count fl (l.drop k)) (highOf count fl (l.drop k)) = false then (0, 5) else if 0 < count then (0, 4) else (0, 0)) := by
    unfold digF
    rw [HN0.out]
    have : (l.drop k).length < count ↔ 0 < count := by have := HK.out; simp; omega
    by_cases q : 0 < count
    · rw [if_pos q, if_pos (this.2 q)]; exact rfl
    · rw [if_neg q, if_neg (fun x => q (this.1 x))]; exact rfl
  have CS := Lib.hid (HOK.out _ HAP.out (lowOf count fl (l.drop k)) (highOf count fl (l.drop k)))
  generalize lowOf count fl (l.drop k) = low at *
  generalize highOf count fl (l.drop k) = high at *
  clear HE2 HLO HHI
  cases hok : ok low high
  · rw [hok] at CS HDG
    clear hok
    go_wp2_with (go_at_call 194; ((refine (CS.out).mono ?_); rintro e w2 ⟨rfl, hb2⟩; have B2 := Lib.hid hb2; clear hb2))
    go_ret2
    exact ⟨by rw [HDG.out]; rfl, HMV.out.then B2.out⟩
  · rw [hok] at CS HDG
    clear hok
    by_cases hlt2 : 0 < count
    · have HDJ := Lib.hid (show (if 0 < count then ((0, 4) : Nat × Nat) else (0, 0)) = (0, 4) from if_pos hlt2)
      go_wp2_with (go_at_call 194; ((refine (CS.out).mono ?_); rintro e w2 ⟨rfl, hb2⟩; have B2 := Lib.hid hb2; clear hb2))
      go_ret2
      exact ⟨by rw [HDG.out, HDJ.out]; rfl, HMV.out.then B2.out⟩
    · have HDJ := Lib.hid (show (if 0 < count then ((0, 4) : Nat × Nat) else (0, 0)) = (0, 0) from if_neg hlt2)
      obtain rfl : count = 0 := by omega
      go_wp2_with (go_at_call 194; ((refine (CS.out).mono ?_); rintro e w2 ⟨rfl, hb2⟩; have B2 := Lib.hid hb2; clear hb2))
      go_ret2
      exact ⟨by rw [HDG.out, HDJ.out]; rfl, HMV.out.then B2.out⟩
theorem takeDigits_any (g k c count : Nat) (flip : Int) (fl : UInt8 → UInt8) (A : Option Addr) (l : List UInt8) (sp : Value) (ok : Nat → Nat → Bool) (w : World) (h : Rd w g k A c l) (hc : count ≤ 8)
    (hfl : ∀ x : UInt8, bits .xor .u8 (x.toNat : Int) flip = ((fl x).toNat : Int)) (hok : SpansOk w g sp ok) :
    Calls Tryz.prog 179 #[.pointer (some ⟨g, 0, none⟩), .int .i64 count, .int .u8 flip, sp] w fun e w' => e = .returned (.tuple #[.int .u64 ((digF count fl ok (l.drop k)).1 : Nat), .int .i64 ((digF count fl ok (l.drop k)).2 : Nat)]) ∧ Moved w g (k + thereN count (l.drop k)) w' := by
  have hb := h.2.1.1
  rcases Nat.lt_or_ge k l.length with hk | hk
  · exact takeDigits_more g k c count flip fl A l sp ok w h hk hc hfl hok
  · exact takeDigits_end g k c count flip fl A l sp ok w h (by omega) hc hok
end Go.Proofs.YtchklaepilcbbaaGreat

namespace Go.Proofs.YtchklaepilcbbaaGreat
open Go.RowKit
/-- The least number of that many digits. -/
def leastOf (count : Nat) : Nat := if 0 < count then 256 ^ (count - 1) else 0
def okOne (count most : Nat) (low high : Nat) : Bool := meetsB (low, high) (leastOf count, most)
/-- What is answered of a number of that many digits. -/
def sizedF (count most : Nat) (fl : UInt8 → UInt8) (L : List UInt8) : Nat × Nat := if 8 < count then (0, 5) else digF count fl (okOne count most) L
def sizedC (count : Nat) (L : List UInt8) : Nat := if 8 < count then 0 else thereN count L
theorem spans_one (g h a b : Nat) (w : World) (hh : w.heap[h]? = some (.cells #[.int .u64 a, .int .u64 b] 187 (0, 0))) (hne : h ≠ g) :
    SpansOk w g (.slice (some ⟨h, 0, none⟩) 1 1) (fun low high => meetsB (low, high) (a, b)) := by
  intro W hW low high
  have e := (hW.2 h (lt_heap hh) hne).trans hh
  exact Contains_one h a b low high W (by simpa using cell_of_row W h 0 _ _ _ e) (by simpa using cell_of_row W h 1 _ _ _ e)
theorem shl_least (count : Nat) (h : 0 < count) (h8 : count ≤ 8) : IntKind.u64.wrap (2 ^ (8 * ((count : Int) - 1)).toNat) = ((256 ^ (count - 1) : Nat) : Int) := by
  have e := shl_low 1 (count - 1) (by omega) (by rw [show 8 - (count - 1) = (8 - count) + 1 by omega, Nat.pow_succ]; have := Nat.pow_pos (n := 8 - count) (show 0 < 256 by omega); omega)
  rw [show ((count - 1 : Nat) : Int) = (count : Int) - 1 by omega, Nat.one_mul] at e
  simpa using e
set_option maxRecDepth 100000 in
set_option maxHeartbeats 2000000 in
theorem takeSized_long (g k c count most : Nat) (flip : Int) (fl : UInt8 → UInt8) (A : Option Addr) (l : List UInt8) (w : World) (h : Rd w g k A c l) (hc : 8 < count) (h255 : count ≤ 255) :
    Calls Tryz.prog 175 #[.pointer (some ⟨g, 0, none⟩), .int .i64 count, .int .u8 flip, .int .u64 most] w fun e w' => e = .returned (.tuple #[.int .u64 ((sizedF count most fl (l.drop k)).1 : Nat), .int .i64 ((sizedF count most fl (l.drop k)).2 : Nat)]) ∧ Moved w g (k + sizedC count (l.drop k)) w' := by
  have HE := Lib.hid (show sizedF count most fl (l.drop k) = (0, 5) from if_pos hc)
  have HC := Lib.hid (show sizedC count (l.drop k) = 0 from if_pos hc)
  have H := Lib.hid h
  clear h
  go_enter Tryz.func175, Tryz.ntmps175
  go_wp2
  go_ret2
  exact ⟨by rw [HE.out]; rfl, by rw [HC.out]; exact Moved.stay H.out (Below.refl _ _)⟩
set_option maxRecDepth 100000 in
set_option maxHeartbeats 2000000 in
theorem takeSized_short (g k c count most : Nat) (flip : Int) (fl : UInt8 → UInt8) (A : Option Addr) (l : List UInt8) (w : World) (h : Rd w g k A c l) (hc : count ≤ 8)
    (hfl : ∀ x : UInt8, bits .xor .u8 (x.toNat : Int) flip = ((fl x).toNat : Int)) :
    Calls Tryz.prog 175 #[.pointer (some ⟨g, 0, none⟩), .int .i64 count, .int .u8 flip, .int .u64 most] w fun e w' => e = .returned (.tuple #[.int .u64 ((sizedF count most fl (l.drop k)).1 : Nat), .int .i64 ((sizedF count most fl (l.drop k)).2 : Nat)]) ∧ Moved w g (k + sizedC count (l.drop k)) w' := by
  have HE := Lib.hid (show sizedF count most fl (l.drop k) = digF count fl (okOne count most) (l.drop k) from if_neg (by omega))
  have HC := Lib.hid (show sizedC count (l.drop k) = thereN count (l.drop k) from if_neg (by omega))
  have C : Hid (∀ o, o = leastOf count → Calls Tryz.prog 179 #[.pointer (some ⟨g, 0, none⟩), .int .i64 count, .int .u8 flip, .slice (some ⟨w.heap.size, 0, none⟩) 1 1] (w.alloc (.cells #[.int .u64 (o : Nat), .int .u64 most] 187)) fun e w' => e = .returned (.tuple #[.int .u64 ((digF count fl (okOne count most) (l.drop k)).1 : Nat), .int .i64 ((digF count fl (okOne count most) (l.drop k)).2 : Nat)]) ∧ Moved w g (k + thereN count (l.drop k)) w') := by
    rintro o rfl
    have hb : Below w.heap.size w (w.alloc (.cells #[.int .u64 (leastOf count : Nat), .int .u64 most] 187)) := (Below.refl _ _).alloc (Nat.le_refl _) _
    refine (takeDigits_any g k c count flip fl A l _ (okOne count most) _ (h.below hb) hc hfl (spans_one g w.heap.size (leastOf count) most _ (heap_alloc_new w _) (Nat.ne_of_gt h.lt))).mono ?_
    rintro e w' ⟨he, hm⟩
    exact ⟨he, Moved.after hb h.lt hm⟩
  clear h hfl
  by_cases h0 : 0 < count
  · have hsh := shl_least count h0 hc
    have HL := Lib.hid (show 256 ^ (count - 1) = leastOf count from (if_pos h0).symm)
    go_enter Tryz.func175, Tryz.ntmps175
    go_wp2_with (go_at_call 179; ((refine (C.out _ HL.out).mono ?_); rintro e w2 ⟨rfl, hm⟩; have HM := Lib.hid hm; clear hm))
    go_ret2
    exact ⟨by rw [HE.out]; rfl, by rw [HC.out]; exact HM.out⟩
  · have HL := Lib.hid (show 0 = leastOf count from (if_neg h0).symm)
    obtain rfl : count = 0 := by omega
    go_enter Tryz.func175, Tryz.ntmps175
    go_wp2_with (go_at_call 179; ((refine (C.out _ HL.out).mono ?_); rintro e w2 ⟨rfl, hm⟩; have HM := Lib.hid hm; clear hm))
    go_ret2
    exact ⟨by rw [HE.out]; rfl, by rw [HC.out]; exact HM.out⟩
theorem takeSized_any (g k c count most : Nat) (flip : Int) (fl : UInt8 → UInt8) (A : Option Addr) (l : List UInt8) (w : World) (h : Rd w g k A c l) (h255 : count ≤ 255)
    (hfl : ∀ x : UInt8, bits .xor .u8 (x.toNat : Int) flip = ((fl x).toNat : Int)) :
    Calls Tryz.prog 175 #[.pointer (some ⟨g, 0, none⟩), .int .i64 count, .int .u8 flip, .int .u64 most] w fun e w' => e = .returned (.tuple #[.int .u64 ((sizedF count most fl (l.drop k)).1 : Nat), .int .i64 ((sizedF count most fl (l.drop k)).2 : Nat)]) ∧ Moved w g (k + sizedC count (l.drop k)) w' := by
  rcases Nat.lt_or_ge 8 count with hc | hc
  · exact takeSized_long g k c count most flip fl A l w h hc h255
  · exact takeSized_short g k c count most flip fl A l w h hc hfl
end Go.Proofs.YtchklaepilcbbaaGreat

namespace Go.Proofs.YtchklaepilcbbaaGreat
open Go.RowKit
theorem xor_none (x : UInt8) : bits .xor .u8 (x.toNat : Int) 0 = ((id x).toNat : Int) := by
  have h : ∀ n : Fin 256, bits .xor .u8 (n.val : Int) 0 = (n.val : Int) := by decide +kernel
  exact h ⟨x.toNat, x.toNat_lt⟩
theorem xor_full (x : UInt8) : bits .xor .u8 (x.toNat : Int) 255 = ((255 - x).toNat : Int) := by
  have h : ∀ n : Fin 256, bits .xor .u8 (n.val : Int) 255 = ((255 - n.val : Nat) : Int) := by decide +kernel
  rw [byte_flip]
  exact h ⟨x.toNat, x.toNat_lt⟩
/-- What is answered of a number that is read. -/
def numF (most : Nat) : List UInt8 → Nat × Nat
  | [] => (0, 4)
  | h :: t => if (sizedF h.toNat 18446744073709551615 id t).2 = 0 ∧ most < (sizedF h.toNat 18446744073709551615 id t).1 then ((sizedF h.toNat 18446744073709551615 id t).1, 3) else sizedF h.toNat 18446744073709551615 id t
def numC : List UInt8 → Nat
  | [] => 0
  | h :: t => 1 + sizedC h.toNat t
theorem drop_more (l : List UInt8) (k : Nat) (h : k < l.length) : l.drop k = l.getD k 0 :: l.drop (k + 1) := by
  rw [List.drop_eq_getElem_cons h]
  simp [List.getD, h]
theorem drop_none (l : List UInt8) (k : Nat) (h : k = l.length) : l.drop k = [] := by subst h; simp
set_option maxRecDepth 100000 in
set_option maxHeartbeats 2000000 in
theorem takeNum_end (g k c most : Nat) (A : Option Addr) (l : List UInt8) (w : World) (h : Rd w g k A c l) (hk : k = l.length) :
    Calls Tryz.prog 152 #[.pointer (some ⟨g, 0, none⟩), .int .u64 most] w fun e w' => e = .returned (.tuple #[.int .u64 ((numF most (l.drop k)).1 : Nat), .int .i64 ((numF most (l.drop k)).2 : Nat)]) ∧ Moved w g (k + numC (l.drop k)) w' := by
  have C := Lib.hid (takeByte_end g k c A l w h hk)
  have HL := Lib.hid (drop_none l k hk)
  clear h hk
  go_enter Tryz.func152, Tryz.ntmps152
  go_wp2_with (go_at_call 173; ((refine (C.out).mono ?_); rintro e w2 ⟨rfl, hm⟩; have HM := Lib.hid hm; clear hm))
  go_ret2
  rw [HL.out]
  exact ⟨rfl, HM.out⟩
set_option maxRecDepth 100000 in
set_option maxHeartbeats 2000000 in
theorem takeNum_more (g k c most : Nat) (A : Option Addr) (l : List UInt8) (w : World) (h : Rd w g k A c l) (hk : k < l.length) :
    Calls Tryz.prog 152 #[.pointer (some ⟨g, 0, none⟩), .int .u64 most] w fun e w' => e = .returned (.tuple #[.int .u64 ((numF most (l.drop k)).1 : Nat), .int .i64 ((numF most (l.drop k)).2 : Nat)]) ∧ Moved w g (k + numC (l.drop k)) w' := by
  have C := Lib.hid (takeByte_more g k c A l w h hk)
  have HL := Lib.hid (drop_more l k hk)
  obtain ⟨y, hy⟩ : ∃ y : UInt8, y = l.getD k 0 := ⟨_, rfl⟩
  have C2 : Hid (∀ w2, Moved w g (k + 1) w2 → Calls Tryz.prog 175 #[.pointer (some ⟨g, 0, none⟩), .int .i64 (y.toNat : Nat), .int .u8 0, .int .u64 18446744073709551615] w2 fun e w' => e = .returned (.tuple #[.int .u64 ((sizedF y.toNat 18446744073709551615 id (l.drop (k + 1))).1 : Nat), .int .i64 ((sizedF y.toNat 18446744073709551615 id (l.drop (k + 1))).2 : Nat)]) ∧ Moved w g (k + (1 + sizedC y.toNat (l.drop (k + 1)))) w') := by
    intro w2 hm
    refine (takeSized_any g (k + 1) c y.toNat 18446744073709551615 0 id A l w2 (h.moved hm (by omega)) (by have := y.toNat_lt; omega) xor_none).mono ?_
    rintro e w' ⟨he, hm2⟩
    refine ⟨he, ?_⟩
    rw [← Nat.add_assoc]
    exact hm.trans hm2
  rw [← hy] at C HL
  have hy8 := y.toNat_lt
  have HF : Hid (numF most (l.drop k) = if (sizedF y.toNat 18446744073709551615 id (l.drop (k + 1))).2 = 0 ∧ most < (sizedF y.toNat 18446744073709551615 id (l.drop (k + 1))).1 then ((sizedF y.toNat 18446744073709551615 id (l.drop (k + 1))).1, 3) else sizedF y.toNat 18446744073709551615 id (l.drop (k + 1))) := by
    rw [HL.out]; exact rfl
  have HCC : Hid (numC (l.drop k) = 1 + sizedC y.toNat (l.drop (k + 1))) := by rw [HL.out]; exact rfl
  clear h hk hy
  generalize sizedF y.toNat 18446744073709551615 id (l.drop (k + 1)) = r at *
  generalize sizedC y.toNat (l.drop (k + 1)) = sc at *
  obtain ⟨n, er⟩ := r
  by_cases h0 : er = 0
  · subst h0
    by_cases h1 : most < n
    · have HE := Lib.hid (show numF most (l.drop k) = (n, 3) from HF.out.trans (if_pos ⟨rfl, h1⟩))
      go_enter Tryz.func152, Tryz.ntmps152
      go_wp2_with (first
        | (go_at_call 173; ((refine (C.out).mono ?_); rintro e w2 ⟨rfl, hm⟩; have HM := Lib.hid hm; clear hm))
        | (go_at_call 175; ((refine (C2.out _ HM.out).mono ?_); rintro e w3 ⟨rfl, hm⟩; have HM2 := Lib.hid hm; clear hm)))
      go_ret2
      rw [HE.out, HCC.out]
      exact ⟨rfl, HM2.out⟩
    · have HE := Lib.hid (show numF most (l.drop k) = (n, 0) from HF.out.trans (if_neg (fun x => h1 x.2)))
      have t1 : decide (most < n) = false := by simp; omega
      clear h1
      go_enter Tryz.func152, Tryz.ntmps152
      go_wp2_with (first
        | (go_at_call 173; ((refine (C.out).mono ?_); rintro e w2 ⟨rfl, hm⟩; have HM := Lib.hid hm; clear hm))
        | (go_at_call 175; ((refine (C2.out _ HM.out).mono ?_); rintro e w3 ⟨rfl, hm⟩; have HM2 := Lib.hid hm; clear hm)))
      go_ret2
      rw [HE.out, HCC.out]
      exact ⟨rfl, HM2.out⟩
  · have HE := Lib.hid (show numF most (l.drop k) = (n, er) from HF.out.trans (if_neg (fun x => h0 x.1)))
    have t1 : ((er : Int) == 0) = false := by simp; omega
    clear h0
    go_enter Tryz.func152, Tryz.ntmps152
    go_wp2_with (first
      | (go_at_call 173; ((refine (C.out).mono ?_); rintro e w2 ⟨rfl, hm⟩; have HM := Lib.hid hm; clear hm))
      | (go_at_call 175; ((refine (C2.out _ HM.out).mono ?_); rintro e w3 ⟨rfl, hm⟩; have HM2 := Lib.hid hm; clear hm)))
    go_ret2
    rw [HE.out, HCC.out]
    exact ⟨rfl, HM2.out⟩
theorem takeNum_any (g k c most : Nat) (A : Option Addr) (l : List UInt8) (w : World) (h : Rd w g k A c l) :
    Calls Tryz.prog 152 #[.pointer (some ⟨g, 0, none⟩), .int .u64 most] w fun e w' => e = .returned (.tuple #[.int .u64 ((numF most (l.drop k)).1 : Nat), .int .i64 ((numF most (l.drop k)).2 : Nat)]) ∧ Moved w g (k + numC (l.drop k)) w' := by
  have hb := h.2.1.1
  rcases Nat.lt_or_ge k l.length with hk | hk
  · exact takeNum_more g k c most A l w h hk
  · exact takeNum_end g k c most A l w h (by omega)
end Go.Proofs.YtchklaepilcbbaaGreat

namespace Go.Proofs.YtchklaepilcbbaaGreat
open Go.RowKit
theorem cell_a3 (w : World) (g : Nat) (h : g < w.heap.size) (o1 o2 o3 : Obj) (i : Nat) : (((w.alloc o1).alloc o2).alloc o3).cell? ⟨g, i, none⟩ = w.cell? ⟨g, i, none⟩ := by
  rw [World.cell?_alloc_lt _ _ _ (by simp <;> omega), World.cell?_alloc_lt _ _ _ (by simp <;> omega), World.cell?_alloc_lt _ _ _ (by simp <;> omega)]
theorem cell_a4 (w : World) (g : Nat) (h : g < w.heap.size) (o1 o2 o3 o4 : Obj) (i : Nat) : ((((w.alloc o1).alloc o2).alloc o3).alloc o4).cell? ⟨g, i, none⟩ = w.cell? ⟨g, i, none⟩ := by
  rw [World.cell?_alloc_lt _ _ _ (by simp <;> omega), cell_a3 w g h]
/-- What lies behind the four variables of a step. -/
structure Vars (w : World) (g k j : Nat) (z : Value) (w5 : World) : Prop where
  c0 : w5.cell? ⟨w.heap.size, 0, none⟩ = some (.pointer (some ⟨g, 0, none⟩))
  c1 : w5.cell? ⟨w.heap.size + 1, 0, none⟩ = some z
  f1 : w5.frozen? ⟨w.heap.size + 1, 0, none⟩ = false
  c2 : w5.cell? ⟨w.heap.size + 1 + 1, 0, none⟩ = some (.int .i64 0)
  f2 : w5.frozen? ⟨w.heap.size + 1 + 1, 0, none⟩ = false
  c3 : w5.cell? ⟨w.heap.size + 1 + 1 + 1, 0, none⟩ = some (.int .i64 k)
  size : w.heap.size + 4 ≤ w5.heap.size
  moved : Moved w g j w5
theorem row_cell {w : World} {b : Nat} {v : Value} {t : TypeId} (h : w.heap[b]? = some (.cells #[v] t (0, 0))) : w.cell? ⟨b, 0, none⟩ = some v ∧ w.frozen? ⟨b, 0, none⟩ = false := by
  refine ⟨by simpa using cell_of_row w b 0 _ _ _ h, ?_⟩
  unfold World.frozen?
  simp only []
  rw [h]
  simp
theorem heap_old (w : World) (o : Obj) {b : Nat} (h : b < w.heap.size) : (w.alloc o).heap[b]? = w.heap[b]? := Below.heap_alloc w o b h
theorem Vars.mk' {w w5 : World} {g k j : Nat} {z : Value} {t0 t1 t2 t3 : TypeId} (hg : g < w.heap.size)
    (hm : Moved ((((w.alloc (.cells #[.pointer (some ⟨g, 0, none⟩)] t0)).alloc (.cells #[z] t1)).alloc (.cells #[.int .i64 0] t2)).alloc (.cells #[.int .i64 k] t3)) g j w5) : Vars w g k j z w5 := by
  have hs := Moved.size hm
  have hs' : w.heap.size + 4 ≤ w5.heap.size := by simpa using hs
  have e0 : w5.heap[w.heap.size]? = some (.cells #[.pointer (some ⟨g, 0, none⟩)] t0 (0, 0)) := by
    rw [Moved.far hm (by simp <;> omega) (by omega), heap_old _ _ (by simp <;> omega), heap_old _ _ (by simp <;> omega), heap_old _ _ (by simp)]
    exact heap_alloc_new w _
  have e1 : w5.heap[w.heap.size + 1]? = some (.cells #[z] t1 (0, 0)) := by
    rw [Moved.far hm (by simp <;> omega) (by omega), heap_old _ _ (by simp <;> omega), heap_old _ _ (by simp)]
    simpa using heap_alloc_new (w.alloc (.cells #[.pointer (some ⟨g, 0, none⟩)] t0)) (.cells #[z] t1)
  have e2 : w5.heap[w.heap.size + 1 + 1]? = some (.cells #[.int .i64 0] t2 (0, 0)) := by
    rw [Moved.far hm (by simp) (by omega), heap_old _ _ (by simp)]
    simpa using heap_alloc_new ((w.alloc (.cells #[.pointer (some ⟨g, 0, none⟩)] t0)).alloc (.cells #[z] t1)) (.cells #[.int .i64 0] t2)
  have e3 : w5.heap[w.heap.size + 1 + 1 + 1]? = some (.cells #[.int .i64 k] t3 (0, 0)) := by
    rw [Moved.far hm (by simp) (by omega)]
    simpa using heap_alloc_new (((w.alloc (.cells #[.pointer (some ⟨g, 0, none⟩)] t0)).alloc (.cells #[z] t1)).alloc (.cells #[.int .i64 0] t2)) (.cells #[.int .i64 k] t3)
  exact ⟨(row_cell e0).1, (row_cell e1).1, (row_cell e1).2, (row_cell e2).1, (row_cell e2).2, (row_cell e3).1, hs',
    Moved.after (((((Below.refl _ _).alloc (Nat.le_refl _) _).alloc (by simp) _).alloc (by simp <;> omega) _).alloc (by simp <;> omega) _) hg hm⟩
set_option maxRecDepth 100000 in
theorem undoU_ok (pe ps pr pt : Addr) (u : FrameMode) (w : World) (h : w.cell? pe = some (.int .i64 0)) :
    CallsD Tryz.prog 174 #[.pointer (some pe), .pointer (some ps), .pointer (some pr), .pointer (some pt)] u w fun e u' w' => u' = u ∧ (e = .returned (.tuple #[]) ∧ w' = w) := by
  go_enter_d Tryz.func174, Tryz.ntmps174
  go_wp2
  go_end0
  exact ⟨rfl, rfl⟩
set_option maxRecDepth 100000 in
theorem undoU_err (pe ps pr pt : Addr) (g : Nat) (k er : Int) (z z' : Value) (u : FrameMode) (w : World) (h : w.cell? pe = some (.int .i64 er)) (her : (er == 0) = false) (hs : w.cell? ps = some (.int .i64 k)) (hr : w.cell? pr = some (.pointer (some ⟨g, 0, none⟩)))
    (hc : w.cell? ⟨g, 1, none⟩ = some z) (hf : w.frozen? ⟨g, 1, none⟩ = false) (ht : w.cell? pt = some z') (htf : w.frozen? pt = false) (hne : pt.block ≠ g) :
    CallsD Tryz.prog 174 #[.pointer (some pe), .pointer (some ps), .pointer (some pr), .pointer (some pt)] u w fun e u' w' => u' = u ∧ (e = .returned (.tuple #[]) ∧ w' = (w.setCell ⟨g, 1, none⟩ (.int .i64 k)).setCell pt (.int .u64 0)) := by
  have her' : (er != 0) = true := by simp [bne, her]
  have ht' : (w.setCell ⟨g, 1, none⟩ (.int .i64 k)).cell? pt = some z' := by
    rw [World.cell?_setCell_other _ _ _ _ (fun e => hne (congrArg Addr.block e).symm)]
    exact ht
  clear hne her ht
  go_enter_d Tryz.func174, Tryz.ntmps174
  go_wp2
  go_end0
  exact ⟨rfl, rfl⟩
set_option maxRecDepth 100000 in
set_option maxHeartbeats 2000000 in
theorem stepU_ok (g k j c : Nat) (A : Option Addr) (l : List UInt8) (w : World) (F : FuncId) (first caps : Array Value) (v : Int) (h : Rd w g k A c l)
    (hF : ∀ args w, (callFunc F args).run Tryz.prog w = .ok (.enter F args) w)
    (HF : ∀ W, Below w.heap.size w W → Calls Tryz.prog F (first ++ caps) W fun e W' => e = .returned (.tuple #[.int .u64 v, .int .i64 0]) ∧ Moved W g j W') :
    Calls Tryz.prog 150 #[.pointer (some ⟨g, 0, none⟩), .func (Fn.func F) first caps] w fun e w' => e = .returned (.tuple #[.int .u64 v, .int .i64 0]) ∧ Moved w g j w' := by
  have h1 := h.c1
  have h2 := h.c2
  have hlt := h.lt
  have HH := Lib.hid HF
  have ha3 := cell_a3 w g hlt
  have ha4 := cell_a4 w g hlt
  clear h HF
  have hmf : ∀ (fn : Fn) (first cap : Array Value) (w : World), (Instr.makeFunc fn first cap).run Tryz.prog w = .ok (.func fn first cap) w := fun _ _ _ _ => rfl
  go_enter_defers Tryz.func150, Tryz.ntmps150
  go_wp2_with (fail)
  refine (HH.out _ (((((Below.refl _ _).alloc (Nat.le_refl _) _).alloc (by simp) _).alloc (by simp <;> omega) _).alloc (by simp <;> omega) _)).mono ?_
  rintro e w5 ⟨rfl, hm⟩
  have V := Vars.mk' hlt hm
  have HV := Lib.hid V
  have v1 := V.c1
  have v2 := V.c2
  have v3 := V.f1
  have v4 := V.f2
  clear hm V ha3 ha4 h1 h2
  go_wp2
  refine leaves_cons (f := 174) (args := #[.pointer (some ⟨w.heap.size + 1 + 1, 0, none⟩), .pointer (some ⟨w.heap.size + 1 + 1 + 1, 0, none⟩), .pointer (some ⟨w.heap.size, 0, none⟩), .pointer (some ⟨w.heap.size + 1, 0, none⟩)]) (by simp) (by simp [go_sem]) ?_
  refine (undoU_ok _ _ _ _ _ _ ?_).mono ?_
  · exact World.cell?_setCell_same _ _ _ (by rw [World.cell?_setCell_other _ _ _ _ (by simp)]; exact v2)
  rintro e u' w'' ⟨rfl, rfl, rfl⟩
  have q1 : ((w5.setCell ⟨w.heap.size + 1, 0, none⟩ (.int .u64 v)).setCell ⟨w.heap.size + 1 + 1, 0, none⟩ (.int .i64 0)).cell? ⟨w.heap.size + 1, 0, none⟩ = some (.int .u64 v) := by
    rw [World.cell?_setCell_other _ _ _ _ (by simp)]
    exact World.cell?_setCell_same _ _ _ v1
  have q2 : ((w5.setCell ⟨w.heap.size + 1, 0, none⟩ (.int .u64 v)).setCell ⟨w.heap.size + 1 + 1, 0, none⟩ (.int .i64 0)).cell? ⟨w.heap.size + 1 + 1, 0, none⟩ = some (.int .i64 0) :=
    World.cell?_setCell_same _ _ _ (by rw [World.cell?_setCell_other _ _ _ _ (by simp)]; exact v2)
  have hmv : Moved w g j ((w5.setCell ⟨w.heap.size + 1, 0, none⟩ (.int .u64 v)).setCell ⟨w.heap.size + 1 + 1, 0, none⟩ (.int .i64 0)) := Below.setCell (Below.setCell HV.out.moved (by simp) _) (by simp <;> omega) _
  have HMV := Lib.hid hmv
  clear hmv
  generalize (w5.setCell ⟨w.heap.size + 1, 0, none⟩ (.int .u64 v)).setCell ⟨w.heap.size + 1 + 1, 0, none⟩ (.int .i64 0) = w6 at *
  simp [Leaves, settle, results, Tryz.results150, go_sem, q1, q2]
  exact HMV.out
set_option maxRecDepth 100000 in
set_option maxHeartbeats 2000000 in
theorem stepU_err (g k j c : Nat) (A : Option Addr) (l : List UInt8) (w : World) (F : FuncId) (first caps : Array Value) (v er : Int) (h : Rd w g k A c l) (hj : j ≤ l.length) (her : (er == 0) = false)
    (hF : ∀ args w, (callFunc F args).run Tryz.prog w = .ok (.enter F args) w)
    (HF : ∀ W, Below w.heap.size w W → Calls Tryz.prog F (first ++ caps) W fun e W' => e = .returned (.tuple #[.int .u64 v, .int .i64 er]) ∧ Moved W g j W') :
    Calls Tryz.prog 150 #[.pointer (some ⟨g, 0, none⟩), .func (Fn.func F) first caps] w fun e w' => e = .returned (.tuple #[.int .u64 0, .int .i64 er]) ∧ Moved w g k w' := by
  have h1 := h.c1
  have h2 := h.c2
  have hlt := h.lt
  have HH := Lib.hid HF
  have H := Lib.hid h
  have HER := Lib.hid her
  have ha3 := cell_a3 w g hlt
  have ha4 := cell_a4 w g hlt
  clear h HF her
  have hmf : ∀ (fn : Fn) (first cap : Array Value) (w : World), (Instr.makeFunc fn first cap).run Tryz.prog w = .ok (.func fn first cap) w := fun _ _ _ _ => rfl
  go_enter_defers Tryz.func150, Tryz.ntmps150
  go_wp2_with (fail)
  refine (HH.out _ (((((Below.refl _ _).alloc (Nat.le_refl _) _).alloc (by simp) _).alloc (by simp <;> omega) _).alloc (by simp <;> omega) _)).mono ?_
  rintro e w5 ⟨rfl, hm⟩
  have V := Vars.mk' hlt hm
  have HV := Lib.hid V
  have v1 := V.c1
  have v2 := V.c2
  have v3 := V.f1
  have v4 := V.f2
  clear hm V ha3 ha4 h1 h2
  go_wp2
  refine leaves_cons (f := 174) (args := #[.pointer (some ⟨w.heap.size + 1 + 1, 0, none⟩), .pointer (some ⟨w.heap.size + 1 + 1 + 1, 0, none⟩), .pointer (some ⟨w.heap.size, 0, none⟩), .pointer (some ⟨w.heap.size + 1, 0, none⟩)]) (by simp) (by simp [go_sem]) ?_
  have hrd := (H.out.moved HV.out.moved hj)
  have q0 : ∀ b : Addr, b.block ≠ w.heap.size + 1 → b.block ≠ w.heap.size + 1 + 1 → ((w5.setCell ⟨w.heap.size + 1, 0, none⟩ (.int .u64 v)).setCell ⟨w.heap.size + 1 + 1, 0, none⟩ (.int .i64 er)).cell? b = w5.cell? b := by
    intro b b1 b2
    rw [World.cell?_setCell_other _ _ _ _ (fun e => b2 (congrArg Addr.block e).symm), World.cell?_setCell_other _ _ _ _ (fun e => b1 (congrArg Addr.block e).symm)]
  have q1 : ((w5.setCell ⟨w.heap.size + 1, 0, none⟩ (.int .u64 v)).setCell ⟨w.heap.size + 1 + 1, 0, none⟩ (.int .i64 er)).cell? ⟨w.heap.size + 1, 0, none⟩ = some (.int .u64 v) := by
    rw [World.cell?_setCell_other _ _ _ _ (by simp <;> omega)]
    exact World.cell?_setCell_same _ _ _ v1
  have q2 : ((w5.setCell ⟨w.heap.size + 1, 0, none⟩ (.int .u64 v)).setCell ⟨w.heap.size + 1 + 1, 0, none⟩ (.int .i64 er)).cell? ⟨w.heap.size + 1 + 1, 0, none⟩ = some (.int .i64 er) :=
    World.cell?_setCell_same _ _ _ (by rw [World.cell?_setCell_other _ _ _ _ (by simp <;> omega)]; exact v2)
  refine (undoU_err _ _ _ _ g k er _ _ _ _ q2 HER.out ((q0 _ (by simp <;> omega) (by simp <;> omega)).trans HV.out.c3) ((q0 _ (by simp <;> omega) (by simp <;> omega)).trans HV.out.c0) ((q0 _ (by simp <;> omega) (by simp <;> omega)).trans hrd.c1) (by simpa using hrd.f1) q1 (by simpa using v3) (by simp <;> omega)).mono ?_
  rintro e u' w'' ⟨rfl, rfl, rfl⟩
  have r1 : ((((w5.setCell ⟨w.heap.size + 1, 0, none⟩ (.int .u64 v)).setCell ⟨w.heap.size + 1 + 1, 0, none⟩ (.int .i64 er)).setCell ⟨g, 1, none⟩ (.int .i64 k)).setCell ⟨w.heap.size + 1, 0, none⟩ (.int .u64 0)).cell? ⟨w.heap.size + 1, 0, none⟩ = some (.int .u64 0) :=
    World.cell?_setCell_same _ _ _ (by rw [World.cell?_setCell_other _ _ _ _ (by simp <;> omega)]; exact q1)
  have r2 : ((((w5.setCell ⟨w.heap.size + 1, 0, none⟩ (.int .u64 v)).setCell ⟨w.heap.size + 1 + 1, 0, none⟩ (.int .i64 er)).setCell ⟨g, 1, none⟩ (.int .i64 k)).setCell ⟨w.heap.size + 1, 0, none⟩ (.int .u64 0)).cell? ⟨w.heap.size + 1 + 1, 0, none⟩ = some (.int .i64 er) := by
    rw [World.cell?_setCell_other _ _ _ _ (by simp <;> omega), World.cell?_setCell_other _ _ _ _ (by simp <;> omega)]
    exact q2
  have hmv : Moved w g j ((w5.setCell ⟨w.heap.size + 1, 0, none⟩ (.int .u64 v)).setCell ⟨w.heap.size + 1 + 1, 0, none⟩ (.int .i64 er)) := Below.setCell (Below.setCell HV.out.moved (by simp <;> omega) _) (by simp <;> omega) _
  have hmv2 : Moved w g k ((((w5.setCell ⟨w.heap.size + 1, 0, none⟩ (.int .u64 v)).setCell ⟨w.heap.size + 1 + 1, 0, none⟩ (.int .i64 er)).setCell ⟨g, 1, none⟩ (.int .i64 k)).setCell ⟨w.heap.size + 1, 0, none⟩ (.int .u64 0)) :=
    Below.setCell (hmv.trans (Below.refl _ _)) (by simp <;> omega) _
  have HMV := Lib.hid hmv2
  clear hmv hmv2 q0 q1 q2 hrd v1 v2 v3 v4
  generalize ((((w5.setCell ⟨w.heap.size + 1, 0, none⟩ (.int .u64 v)).setCell ⟨w.heap.size + 1 + 1, 0, none⟩ (.int .i64 er)).setCell ⟨g, 1, none⟩ (.int .i64 k)).setCell ⟨w.heap.size + 1, 0, none⟩ (.int .u64 0)) = w6 at *
  simp [Leaves, settle, results, Tryz.results150, go_sem, r1, r2]
  exact HMV.out
theorem stepU_any (g k j c : Nat) (A : Option Addr) (l : List UInt8) (w : World) (F : FuncId) (first caps : Array Value) (v : Int) (er : Nat) (h : Rd w g k A c l) (hj : j ≤ l.length)
    (hF : ∀ args w, (callFunc F args).run Tryz.prog w = .ok (.enter F args) w)
    (HF : ∀ W, Below w.heap.size w W → Calls Tryz.prog F (first ++ caps) W fun e W' => e = .returned (.tuple #[.int .u64 v, .int .i64 er]) ∧ Moved W g j W') :
    Calls Tryz.prog 150 #[.pointer (some ⟨g, 0, none⟩), .func (Fn.func F) first caps] w fun e w' => e = .returned (.tuple #[if er = 0 then .int .u64 v else .int .u64 0, .int .i64 er]) ∧ Moved w g (if er = 0 then j else k) w' := by
  by_cases h0 : er = 0
  · subst h0
    simp only [if_true]
    exact stepU_ok g k j c A l w F first caps v h hF HF
  · simp only [h0, if_false]
    exact stepU_err g k j c A l w F first caps v er h hj (by simpa using h0) hF HF
end Go.Proofs.YtchklaepilcbbaaGreat

namespace Go.Proofs.YtchklaepilcbbaaGreat
open Go.RowKit
/-- A float is stored as any other cell. -/
theorem store_float (w : World) (a : Addr) (m : Mode) (f : Nat) : (store a (.float .f64 f) m).run Tryz.prog w = stored Tryz.prog w a (.float .f64 f) m := run_store Tryz.prog w a _ m rfl
set_option maxRecDepth 100000 in
theorem undoI_ok (pe ps pr pt : Addr) (u : FrameMode) (w : World) (h : w.cell? pe = some (.int .i64 0)) :
    CallsD Tryz.prog 176 #[.pointer (some pe), .pointer (some ps), .pointer (some pr), .pointer (some pt)] u w fun e u' w' => u' = u ∧ (e = .returned (.tuple #[]) ∧ w' = w) := by
  go_enter_d Tryz.func176, Tryz.ntmps176
  go_wp2
  go_end0
  exact ⟨rfl, rfl⟩
set_option maxRecDepth 100000 in
theorem undoI_err (pe ps pr pt : Addr) (g : Nat) (k er : Int) (z z' : Value) (u : FrameMode) (w : World) (h : w.cell? pe = some (.int .i64 er)) (her : (er == 0) = false) (hs : w.cell? ps = some (.int .i64 k)) (hr : w.cell? pr = some (.pointer (some ⟨g, 0, none⟩)))
    (hc : w.cell? ⟨g, 1, none⟩ = some z) (hf : w.frozen? ⟨g, 1, none⟩ = false) (ht : w.cell? pt = some z') (htf : w.frozen? pt = false) (hne : pt.block ≠ g) :
    CallsD Tryz.prog 176 #[.pointer (some pe), .pointer (some ps), .pointer (some pr), .pointer (some pt)] u w fun e u' w' => u' = u ∧ (e = .returned (.tuple #[]) ∧ w' = (w.setCell ⟨g, 1, none⟩ (.int .i64 k)).setCell pt (.int .i64 0)) := by
  have her' : (er != 0) = true := by simp [bne, her]
  have ht' : (w.setCell ⟨g, 1, none⟩ (.int .i64 k)).cell? pt = some z' := by
    rw [World.cell?_setCell_other _ _ _ _ (fun e => hne (congrArg Addr.block e).symm)]
    exact ht
  clear hne her ht
  go_enter_d Tryz.func176, Tryz.ntmps176
  go_wp2
  go_end0
  exact ⟨rfl, rfl⟩
set_option maxRecDepth 100000 in
set_option maxHeartbeats 2000000 in
theorem stepI_ok (g k j c : Nat) (A : Option Addr) (l : List UInt8) (w : World) (F : FuncId) (first caps : Array Value) (v : Int) (h : Rd w g k A c l)
    (hF : ∀ args w, (callFunc F args).run Tryz.prog w = .ok (.enter F args) w)
    (HF : ∀ W, Below w.heap.size w W → Calls Tryz.prog F (first ++ caps) W fun e W' => e = .returned (.tuple #[.int .i64 v, .int .i64 0]) ∧ Moved W g j W') :
    Calls Tryz.prog 153 #[.pointer (some ⟨g, 0, none⟩), .func (Fn.func F) first caps] w fun e w' => e = .returned (.tuple #[.int .i64 v, .int .i64 0]) ∧ Moved w g j w' := by
  have h1 := h.c1
  have h2 := h.c2
  have hlt := h.lt
  have HH := Lib.hid HF
  have ha3 := cell_a3 w g hlt
  have ha4 := cell_a4 w g hlt
  clear h HF
  have hmf : ∀ (fn : Fn) (first cap : Array Value) (w : World), (Instr.makeFunc fn first cap).run Tryz.prog w = .ok (.func fn first cap) w := fun _ _ _ _ => rfl
  go_enter_defers Tryz.func153, Tryz.ntmps153
  go_wp2_with (fail)
  refine (HH.out _ (((((Below.refl _ _).alloc (Nat.le_refl _) _).alloc (by simp) _).alloc (by simp <;> omega) _).alloc (by simp <;> omega) _)).mono ?_
  rintro e w5 ⟨rfl, hm⟩
  have V := Vars.mk' hlt hm
  have HV := Lib.hid V
  have v1 := V.c1
  have v2 := V.c2
  have v3 := V.f1
  have v4 := V.f2
  clear hm V ha3 ha4 h1 h2
  go_wp2
  refine leaves_cons (f := 176) (args := #[.pointer (some ⟨w.heap.size + 1 + 1, 0, none⟩), .pointer (some ⟨w.heap.size + 1 + 1 + 1, 0, none⟩), .pointer (some ⟨w.heap.size, 0, none⟩), .pointer (some ⟨w.heap.size + 1, 0, none⟩)]) (by simp) (by simp [go_sem]) ?_
  refine (undoI_ok _ _ _ _ _ _ ?_).mono ?_
  · exact World.cell?_setCell_same _ _ _ (by rw [World.cell?_setCell_other _ _ _ _ (by simp)]; exact v2)
  rintro e u' w'' ⟨rfl, rfl, rfl⟩
  have q1 : ((w5.setCell ⟨w.heap.size + 1, 0, none⟩ (.int .i64 v)).setCell ⟨w.heap.size + 1 + 1, 0, none⟩ (.int .i64 0)).cell? ⟨w.heap.size + 1, 0, none⟩ = some (.int .i64 v) := by
    rw [World.cell?_setCell_other _ _ _ _ (by simp)]
    exact World.cell?_setCell_same _ _ _ v1
  have q2 : ((w5.setCell ⟨w.heap.size + 1, 0, none⟩ (.int .i64 v)).setCell ⟨w.heap.size + 1 + 1, 0, none⟩ (.int .i64 0)).cell? ⟨w.heap.size + 1 + 1, 0, none⟩ = some (.int .i64 0) :=
    World.cell?_setCell_same _ _ _ (by rw [World.cell?_setCell_other _ _ _ _ (by simp)]; exact v2)
  have hmv : Moved w g j ((w5.setCell ⟨w.heap.size + 1, 0, none⟩ (.int .i64 v)).setCell ⟨w.heap.size + 1 + 1, 0, none⟩ (.int .i64 0)) := Below.setCell (Below.setCell HV.out.moved (by simp) _) (by simp <;> omega) _
  have HMV := Lib.hid hmv
  clear hmv
  generalize (w5.setCell ⟨w.heap.size + 1, 0, none⟩ (.int .i64 v)).setCell ⟨w.heap.size + 1 + 1, 0, none⟩ (.int .i64 0) = w6 at *
  simp [Leaves, settle, results, Tryz.results153, go_sem, q1, q2]
  exact HMV.out
set_option maxRecDepth 100000 in
set_option maxHeartbeats 2000000 in
theorem stepI_err (g k j c : Nat) (A : Option Addr) (l : List UInt8) (w : World) (F : FuncId) (first caps : Array Value) (v : Int) (er : Int) (h : Rd w g k A c l) (hj : j ≤ l.length) (her : (er == 0) = false)
    (hF : ∀ args w, (callFunc F args).run Tryz.prog w = .ok (.enter F args) w)
    (HF : ∀ W, Below w.heap.size w W → Calls Tryz.prog F (first ++ caps) W fun e W' => e = .returned (.tuple #[.int .i64 v, .int .i64 er]) ∧ Moved W g j W') :
    Calls Tryz.prog 153 #[.pointer (some ⟨g, 0, none⟩), .func (Fn.func F) first caps] w fun e w' => e = .returned (.tuple #[.int .i64 0, .int .i64 er]) ∧ Moved w g k w' := by
  have h1 := h.c1
  have h2 := h.c2
  have hlt := h.lt
  have HH := Lib.hid HF
  have H := Lib.hid h
  have HER := Lib.hid her
  have ha3 := cell_a3 w g hlt
  have ha4 := cell_a4 w g hlt
  clear h HF her
  have hmf : ∀ (fn : Fn) (first cap : Array Value) (w : World), (Instr.makeFunc fn first cap).run Tryz.prog w = .ok (.func fn first cap) w := fun _ _ _ _ => rfl
  go_enter_defers Tryz.func153, Tryz.ntmps153
  go_wp2_with (fail)
  refine (HH.out _ (((((Below.refl _ _).alloc (Nat.le_refl _) _).alloc (by simp) _).alloc (by simp <;> omega) _).alloc (by simp <;> omega) _)).mono ?_
  rintro e w5 ⟨rfl, hm⟩
  have V := Vars.mk' hlt hm
  have HV := Lib.hid V
  have v1 := V.c1
  have v2 := V.c2
  have v3 := V.f1
  have v4 := V.f2
  clear hm V ha3 ha4 h1 h2
  go_wp2
  refine leaves_cons (f := 176) (args := #[.pointer (some ⟨w.heap.size + 1 + 1, 0, none⟩), .pointer (some ⟨w.heap.size + 1 + 1 + 1, 0, none⟩), .pointer (some ⟨w.heap.size, 0, none⟩), .pointer (some ⟨w.heap.size + 1, 0, none⟩)]) (by simp) (by simp [go_sem]) ?_
  have hrd := (H.out.moved HV.out.moved hj)
  have q0 : ∀ b : Addr, b.block ≠ w.heap.size + 1 → b.block ≠ w.heap.size + 1 + 1 → ((w5.setCell ⟨w.heap.size + 1, 0, none⟩ (.int .i64 v)).setCell ⟨w.heap.size + 1 + 1, 0, none⟩ (.int .i64 er)).cell? b = w5.cell? b := by
    intro b b1 b2
    rw [World.cell?_setCell_other _ _ _ _ (fun e => b2 (congrArg Addr.block e).symm), World.cell?_setCell_other _ _ _ _ (fun e => b1 (congrArg Addr.block e).symm)]
  have q1 : ((w5.setCell ⟨w.heap.size + 1, 0, none⟩ (.int .i64 v)).setCell ⟨w.heap.size + 1 + 1, 0, none⟩ (.int .i64 er)).cell? ⟨w.heap.size + 1, 0, none⟩ = some (.int .i64 v) := by
    rw [World.cell?_setCell_other _ _ _ _ (by simp <;> omega)]
    exact World.cell?_setCell_same _ _ _ v1
  have q2 : ((w5.setCell ⟨w.heap.size + 1, 0, none⟩ (.int .i64 v)).setCell ⟨w.heap.size + 1 + 1, 0, none⟩ (.int .i64 er)).cell? ⟨w.heap.size + 1 + 1, 0, none⟩ = some (.int .i64 er) :=
    World.cell?_setCell_same _ _ _ (by rw [World.cell?_setCell_other _ _ _ _ (by simp <;> omega)]; exact v2)
  refine (undoI_err _ _ _ _ g k er _ _ _ _ q2 HER.out ((q0 _ (by simp <;> omega) (by simp <;> omega)).trans HV.out.c3) ((q0 _ (by simp <;> omega) (by simp <;> omega)).trans HV.out.c0) ((q0 _ (by simp <;> omega) (by simp <;> omega)).trans hrd.c1) (by simpa using hrd.f1) q1 (by simpa using v3) (by simp <;> omega)).mono ?_
  rintro e u' w'' ⟨rfl, rfl, rfl⟩
  have r1 : ((((w5.setCell ⟨w.heap.size + 1, 0, none⟩ (.int .i64 v)).setCell ⟨w.heap.size + 1 + 1, 0, none⟩ (.int .i64 er)).setCell ⟨g, 1, none⟩ (.int .i64 k)).setCell ⟨w.heap.size + 1, 0, none⟩ (.int .i64 0)).cell? ⟨w.heap.size + 1, 0, none⟩ = some (.int .i64 0) :=
    World.cell?_setCell_same _ _ _ (by rw [World.cell?_setCell_other _ _ _ _ (by simp <;> omega)]; exact q1)
  have r2 : ((((w5.setCell ⟨w.heap.size + 1, 0, none⟩ (.int .i64 v)).setCell ⟨w.heap.size + 1 + 1, 0, none⟩ (.int .i64 er)).setCell ⟨g, 1, none⟩ (.int .i64 k)).setCell ⟨w.heap.size + 1, 0, none⟩ (.int .i64 0)).cell? ⟨w.heap.size + 1 + 1, 0, none⟩ = some (.int .i64 er) := by
    rw [World.cell?_setCell_other _ _ _ _ (by simp <;> omega), World.cell?_setCell_other _ _ _ _ (by simp <;> omega)]
    exact q2
  have hmv : Moved w g j ((w5.setCell ⟨w.heap.size + 1, 0, none⟩ (.int .i64 v)).setCell ⟨w.heap.size + 1 + 1, 0, none⟩ (.int .i64 er)) := Below.setCell (Below.setCell HV.out.moved (by simp <;> omega) _) (by simp <;> omega) _
  have hmv2 : Moved w g k ((((w5.setCell ⟨w.heap.size + 1, 0, none⟩ (.int .i64 v)).setCell ⟨w.heap.size + 1 + 1, 0, none⟩ (.int .i64 er)).setCell ⟨g, 1, none⟩ (.int .i64 k)).setCell ⟨w.heap.size + 1, 0, none⟩ (.int .i64 0)) :=
    Below.setCell (hmv.trans (Below.refl _ _)) (by simp <;> omega) _
  have HMV := Lib.hid hmv2
  clear hmv hmv2 q0 q1 q2 hrd v1 v2 v3 v4
  generalize ((((w5.setCell ⟨w.heap.size + 1, 0, none⟩ (.int .i64 v)).setCell ⟨w.heap.size + 1 + 1, 0, none⟩ (.int .i64 er)).setCell ⟨g, 1, none⟩ (.int .i64 k)).setCell ⟨w.heap.size + 1, 0, none⟩ (.int .i64 0)) = w6 at *
  simp [Leaves, settle, results, Tryz.results153, go_sem, r1, r2]
  exact HMV.out
theorem stepI_any (g k j c : Nat) (A : Option Addr) (l : List UInt8) (w : World) (F : FuncId) (first caps : Array Value) (v : Int) (er : Nat) (h : Rd w g k A c l) (hj : j ≤ l.length)
    (hF : ∀ args w, (callFunc F args).run Tryz.prog w = .ok (.enter F args) w)
    (HF : ∀ W, Below w.heap.size w W → Calls Tryz.prog F (first ++ caps) W fun e W' => e = .returned (.tuple #[.int .i64 v, .int .i64 er]) ∧ Moved W g j W') :
    Calls Tryz.prog 153 #[.pointer (some ⟨g, 0, none⟩), .func (Fn.func F) first caps] w fun e w' => e = .returned (.tuple #[if er = 0 then .int .i64 v else .int .i64 0, .int .i64 er]) ∧ Moved w g (if er = 0 then j else k) w' := by
  by_cases h0 : er = 0
  · subst h0
    simp only [if_true]
    exact stepI_ok g k j c A l w F first caps v h hF HF
  · simp only [h0, if_false]
    exact stepI_err g k j c A l w F first caps v er h hj (by simpa using h0) hF HF
set_option maxRecDepth 100000 in
theorem undoF_ok (pe ps pr pt : Addr) (u : FrameMode) (w : World) (h : w.cell? pe = some (.int .i64 0)) :
    CallsD Tryz.prog 177 #[.pointer (some pe), .pointer (some ps), .pointer (some pr), .pointer (some pt)] u w fun e u' w' => u' = u ∧ (e = .returned (.tuple #[]) ∧ w' = w) := by
  have hsf := store_float
  go_enter_d Tryz.func177, Tryz.ntmps177
  go_wp2
  go_end0
  exact ⟨rfl, rfl⟩
set_option maxRecDepth 100000 in
theorem undoF_err (pe ps pr pt : Addr) (g : Nat) (k er : Int) (z z' : Value) (u : FrameMode) (w : World) (h : w.cell? pe = some (.int .i64 er)) (her : (er == 0) = false) (hs : w.cell? ps = some (.int .i64 k)) (hr : w.cell? pr = some (.pointer (some ⟨g, 0, none⟩)))
    (hc : w.cell? ⟨g, 1, none⟩ = some z) (hf : w.frozen? ⟨g, 1, none⟩ = false) (ht : w.cell? pt = some z') (htf : w.frozen? pt = false) (hne : pt.block ≠ g) :
    CallsD Tryz.prog 177 #[.pointer (some pe), .pointer (some ps), .pointer (some pr), .pointer (some pt)] u w fun e u' w' => u' = u ∧ (e = .returned (.tuple #[]) ∧ w' = (w.setCell ⟨g, 1, none⟩ (.int .i64 k)).setCell pt (.float .f64 0)) := by
  have her' : (er != 0) = true := by simp [bne, her]
  have ht' : (w.setCell ⟨g, 1, none⟩ (.int .i64 k)).cell? pt = some z' := by
    rw [World.cell?_setCell_other _ _ _ _ (fun e => hne (congrArg Addr.block e).symm)]
    exact ht
  clear hne her ht
  have hsf := store_float
  go_enter_d Tryz.func177, Tryz.ntmps177
  go_wp2
  go_end0
  exact ⟨rfl, rfl⟩
set_option maxRecDepth 100000 in
set_option maxHeartbeats 2000000 in
theorem stepF_ok (g k j c : Nat) (A : Option Addr) (l : List UInt8) (w : World) (F : FuncId) (first caps : Array Value) (v : Nat) (h : Rd w g k A c l)
    (hF : ∀ args w, (callFunc F args).run Tryz.prog w = .ok (.enter F args) w)
    (HF : ∀ W, Below w.heap.size w W → Calls Tryz.prog F (first ++ caps) W fun e W' => e = .returned (.tuple #[.float .f64 v, .int .i64 0]) ∧ Moved W g j W') :
    Calls Tryz.prog 155 #[.pointer (some ⟨g, 0, none⟩), .func (Fn.func F) first caps] w fun e w' => e = .returned (.tuple #[.float .f64 v, .int .i64 0]) ∧ Moved w g j w' := by
  have h1 := h.c1
  have h2 := h.c2
  have hlt := h.lt
  have HH := Lib.hid HF
  have ha3 := cell_a3 w g hlt
  have ha4 := cell_a4 w g hlt
  clear h HF
  have hmf : ∀ (fn : Fn) (first cap : Array Value) (w : World), (Instr.makeFunc fn first cap).run Tryz.prog w = .ok (.func fn first cap) w := fun _ _ _ _ => rfl
  have hsf := store_float
  go_enter_defers Tryz.func155, Tryz.ntmps155
  go_wp2_with (fail)
  refine (HH.out _ (((((Below.refl _ _).alloc (Nat.le_refl _) _).alloc (by simp) _).alloc (by simp <;> omega) _).alloc (by simp <;> omega) _)).mono ?_
  rintro e w5 ⟨rfl, hm⟩
  have V := Vars.mk' hlt hm
  have HV := Lib.hid V
  have v1 := V.c1
  have v2 := V.c2
  have v3 := V.f1
  have v4 := V.f2
  clear hm V ha3 ha4 h1 h2
  go_wp2
  refine leaves_cons (f := 177) (args := #[.pointer (some ⟨w.heap.size + 1 + 1, 0, none⟩), .pointer (some ⟨w.heap.size + 1 + 1 + 1, 0, none⟩), .pointer (some ⟨w.heap.size, 0, none⟩), .pointer (some ⟨w.heap.size + 1, 0, none⟩)]) (by simp) (by simp [go_sem]) ?_
  refine (undoF_ok _ _ _ _ _ _ ?_).mono ?_
  · exact World.cell?_setCell_same _ _ _ (by rw [World.cell?_setCell_other _ _ _ _ (by simp)]; exact v2)
  rintro e u' w'' ⟨rfl, rfl, rfl⟩
  have q1 : ((w5.setCell ⟨w.heap.size + 1, 0, none⟩ (.float .f64 v)).setCell ⟨w.heap.size + 1 + 1, 0, none⟩ (.int .i64 0)).cell? ⟨w.heap.size + 1, 0, none⟩ = some (.float .f64 v) := by
    rw [World.cell?_setCell_other _ _ _ _ (by simp)]
    exact World.cell?_setCell_same _ _ _ v1
  have q2 : ((w5.setCell ⟨w.heap.size + 1, 0, none⟩ (.float .f64 v)).setCell ⟨w.heap.size + 1 + 1, 0, none⟩ (.int .i64 0)).cell? ⟨w.heap.size + 1 + 1, 0, none⟩ = some (.int .i64 0) :=
    World.cell?_setCell_same _ _ _ (by rw [World.cell?_setCell_other _ _ _ _ (by simp)]; exact v2)
  have hmv : Moved w g j ((w5.setCell ⟨w.heap.size + 1, 0, none⟩ (.float .f64 v)).setCell ⟨w.heap.size + 1 + 1, 0, none⟩ (.int .i64 0)) := Below.setCell (Below.setCell HV.out.moved (by simp) _) (by simp <;> omega) _
  have HMV := Lib.hid hmv
  clear hmv
  generalize (w5.setCell ⟨w.heap.size + 1, 0, none⟩ (.float .f64 v)).setCell ⟨w.heap.size + 1 + 1, 0, none⟩ (.int .i64 0) = w6 at *
  simp [Leaves, settle, results, Tryz.results155, go_sem, q1, q2]
  exact HMV.out
set_option maxRecDepth 100000 in
set_option maxHeartbeats 2000000 in
theorem stepF_err (g k j c : Nat) (A : Option Addr) (l : List UInt8) (w : World) (F : FuncId) (first caps : Array Value) (v : Nat) (er : Int) (h : Rd w g k A c l) (hj : j ≤ l.length) (her : (er == 0) = false)
    (hF : ∀ args w, (callFunc F args).run Tryz.prog w = .ok (.enter F args) w)
    (HF : ∀ W, Below w.heap.size w W → Calls Tryz.prog F (first ++ caps) W fun e W' => e = .returned (.tuple #[.float .f64 v, .int .i64 er]) ∧ Moved W g j W') :
    Calls Tryz.prog 155 #[.pointer (some ⟨g, 0, none⟩), .func (Fn.func F) first caps] w fun e w' => e = .returned (.tuple #[.float .f64 0, .int .i64 er]) ∧ Moved w g k w' := by
  have h1 := h.c1
  have h2 := h.c2
  have hlt := h.lt
  have HH := Lib.hid HF
  have H := Lib.hid h
  have HER := Lib.hid her
  have ha3 := cell_a3 w g hlt
  have ha4 := cell_a4 w g hlt
  clear h HF her
  have hmf : ∀ (fn : Fn) (first cap : Array Value) (w : World), (Instr.makeFunc fn first cap).run Tryz.prog w = .ok (.func fn first cap) w := fun _ _ _ _ => rfl
  have hsf := store_float
  go_enter_defers Tryz.func155, Tryz.ntmps155
  go_wp2_with (fail)
  refine (HH.out _ (((((Below.refl _ _).alloc (Nat.le_refl _) _).alloc (by simp) _).alloc (by simp <;> omega) _).alloc (by simp <;> omega) _)).mono ?_
  rintro e w5 ⟨rfl, hm⟩
  have V := Vars.mk' hlt hm
  have HV := Lib.hid V
  have v1 := V.c1
  have v2 := V.c2
  have v3 := V.f1
  have v4 := V.f2
  clear hm V ha3 ha4 h1 h2
  go_wp2
  refine leaves_cons (f := 177) (args := #[.pointer (some ⟨w.heap.size + 1 + 1, 0, none⟩), .pointer (some ⟨w.heap.size + 1 + 1 + 1, 0, none⟩), .pointer (some ⟨w.heap.size, 0, none⟩), .pointer (some ⟨w.heap.size + 1, 0, none⟩)]) (by simp) (by simp [go_sem]) ?_
  have hrd := (H.out.moved HV.out.moved hj)
  have q0 : ∀ b : Addr, b.block ≠ w.heap.size + 1 → b.block ≠ w.heap.size + 1 + 1 → ((w5.setCell ⟨w.heap.size + 1, 0, none⟩ (.float .f64 v)).setCell ⟨w.heap.size + 1 + 1, 0, none⟩ (.int .i64 er)).cell? b = w5.cell? b := by
    intro b b1 b2
    rw [World.cell?_setCell_other _ _ _ _ (fun e => b2 (congrArg Addr.block e).symm), World.cell?_setCell_other _ _ _ _ (fun e => b1 (congrArg Addr.block e).symm)]
  have q1 : ((w5.setCell ⟨w.heap.size + 1, 0, none⟩ (.float .f64 v)).setCell ⟨w.heap.size + 1 + 1, 0, none⟩ (.int .i64 er)).cell? ⟨w.heap.size + 1, 0, none⟩ = some (.float .f64 v) := by
    rw [World.cell?_setCell_other _ _ _ _ (by simp <;> omega)]
    exact World.cell?_setCell_same _ _ _ v1
  have q2 : ((w5.setCell ⟨w.heap.size + 1, 0, none⟩ (.float .f64 v)).setCell ⟨w.heap.size + 1 + 1, 0, none⟩ (.int .i64 er)).cell? ⟨w.heap.size + 1 + 1, 0, none⟩ = some (.int .i64 er) :=
    World.cell?_setCell_same _ _ _ (by rw [World.cell?_setCell_other _ _ _ _ (by simp <;> omega)]; exact v2)
  refine (undoF_err _ _ _ _ g k er _ _ _ _ q2 HER.out ((q0 _ (by simp <;> omega) (by simp <;> omega)).trans HV.out.c3) ((q0 _ (by simp <;> omega) (by simp <;> omega)).trans HV.out.c0) ((q0 _ (by simp <;> omega) (by simp <;> omega)).trans hrd.c1) (by simpa using hrd.f1) q1 (by simpa using v3) (by simp <;> omega)).mono ?_
  rintro e u' w'' ⟨rfl, rfl, rfl⟩
  have r1 : ((((w5.setCell ⟨w.heap.size + 1, 0, none⟩ (.float .f64 v)).setCell ⟨w.heap.size + 1 + 1, 0, none⟩ (.int .i64 er)).setCell ⟨g, 1, none⟩ (.int .i64 k)).setCell ⟨w.heap.size + 1, 0, none⟩ (.float .f64 0)).cell? ⟨w.heap.size + 1, 0, none⟩ = some (.float .f64 0) :=
    World.cell?_setCell_same _ _ _ (by rw [World.cell?_setCell_other _ _ _ _ (by simp <;> omega)]; exact q1)
  have r2 : ((((w5.setCell ⟨w.heap.size + 1, 0, none⟩ (.float .f64 v)).setCell ⟨w.heap.size + 1 + 1, 0, none⟩ (.int .i64 er)).setCell ⟨g, 1, none⟩ (.int .i64 k)).setCell ⟨w.heap.size + 1, 0, none⟩ (.float .f64 0)).cell? ⟨w.heap.size + 1 + 1, 0, none⟩ = some (.int .i64 er) := by
    rw [World.cell?_setCell_other _ _ _ _ (by simp <;> omega), World.cell?_setCell_other _ _ _ _ (by simp <;> omega)]
    exact q2
  have hmv : Moved w g j ((w5.setCell ⟨w.heap.size + 1, 0, none⟩ (.float .f64 v)).setCell ⟨w.heap.size + 1 + 1, 0, none⟩ (.int .i64 er)) := Below.setCell (Below.setCell HV.out.moved (by simp <;> omega) _) (by simp <;> omega) _
  have hmv2 : Moved w g k ((((w5.setCell ⟨w.heap.size + 1, 0, none⟩ (.float .f64 v)).setCell ⟨w.heap.size + 1 + 1, 0, none⟩ (.int .i64 er)).setCell ⟨g, 1, none⟩ (.int .i64 k)).setCell ⟨w.heap.size + 1, 0, none⟩ (.float .f64 0)) :=
    Below.setCell (hmv.trans (Below.refl _ _)) (by simp <;> omega) _
  have HMV := Lib.hid hmv2
  clear hmv hmv2 q0 q1 q2 hrd v1 v2 v3 v4
  generalize ((((w5.setCell ⟨w.heap.size + 1, 0, none⟩ (.float .f64 v)).setCell ⟨w.heap.size + 1 + 1, 0, none⟩ (.int .i64 er)).setCell ⟨g, 1, none⟩ (.int .i64 k)).setCell ⟨w.heap.size + 1, 0, none⟩ (.float .f64 0)) = w6 at *
  simp [Leaves, settle, results, Tryz.results155, go_sem, r1, r2]
  exact HMV.out
theorem stepF_any (g k j c : Nat) (A : Option Addr) (l : List UInt8) (w : World) (F : FuncId) (first caps : Array Value) (v : Nat) (er : Nat) (h : Rd w g k A c l) (hj : j ≤ l.length)
    (hF : ∀ args w, (callFunc F args).run Tryz.prog w = .ok (.enter F args) w)
    (HF : ∀ W, Below w.heap.size w W → Calls Tryz.prog F (first ++ caps) W fun e W' => e = .returned (.tuple #[.float .f64 v, .int .i64 er]) ∧ Moved W g j W') :
    Calls Tryz.prog 155 #[.pointer (some ⟨g, 0, none⟩), .func (Fn.func F) first caps] w fun e w' => e = .returned (.tuple #[if er = 0 then .float .f64 v else .float .f64 0, .int .i64 er]) ∧ Moved w g (if er = 0 then j else k) w' := by
  by_cases h0 : er = 0
  · subst h0
    simp only [if_true]
    exact stepF_ok g k j c A l w F first caps v h hF HF
  · simp only [h0, if_false]
    exact stepF_err g k j c A l w F first caps v er h hj (by simpa using h0) hF HF
set_option maxRecDepth 100000 in
theorem undoS_ok (pe ps pr pt : Addr) (u : FrameMode) (w : World) (h : w.cell? pe = some (.int .i64 0)) :
    CallsD Tryz.prog 182 #[.pointer (some pe), .pointer (some ps), .pointer (some pr), .pointer (some pt)] u w fun e u' w' => u' = u ∧ (e = .returned (.tuple #[]) ∧ w' = w) := by
  go_enter_d Tryz.func182, Tryz.ntmps182
  go_wp2
  go_end0
  exact ⟨rfl, rfl⟩
set_option maxRecDepth 100000 in
theorem undoS_err (pe ps pr pt : Addr) (g : Nat) (k er : Int) (z z' : Value) (u : FrameMode) (w : World) (h : w.cell? pe = some (.int .i64 er)) (her : (er == 0) = false) (hs : w.cell? ps = some (.int .i64 k)) (hr : w.cell? pr = some (.pointer (some ⟨g, 0, none⟩)))
    (hc : w.cell? ⟨g, 1, none⟩ = some z) (hf : w.frozen? ⟨g, 1, none⟩ = false) (ht : w.cell? pt = some z') (htf : w.frozen? pt = false) (hne : pt.block ≠ g) :
    CallsD Tryz.prog 182 #[.pointer (some pe), .pointer (some ps), .pointer (some pr), .pointer (some pt)] u w fun e u' w' => u' = u ∧ (e = .returned (.tuple #[]) ∧ w' = (w.setCell ⟨g, 1, none⟩ (.int .i64 k)).setCell pt (.string ⟨#[]⟩)) := by
  have her' : (er != 0) = true := by simp [bne, her]
  have ht' : (w.setCell ⟨g, 1, none⟩ (.int .i64 k)).cell? pt = some z' := by
    rw [World.cell?_setCell_other _ _ _ _ (fun e => hne (congrArg Addr.block e).symm)]
    exact ht
  clear hne her ht
  go_enter_d Tryz.func182, Tryz.ntmps182
  go_wp2
  go_end0
  exact ⟨rfl, rfl⟩
set_option maxRecDepth 100000 in
set_option maxHeartbeats 2000000 in
theorem stepS_ok (g k j c : Nat) (A : Option Addr) (l : List UInt8) (w : World) (F : FuncId) (first caps : Array Value) (v : ByteArray) (h : Rd w g k A c l)
    (hF : ∀ args w, (callFunc F args).run Tryz.prog w = .ok (.enter F args) w)
    (HF : ∀ W, Below w.heap.size w W → Calls Tryz.prog F (first ++ caps) W fun e W' => e = .returned (.tuple #[.string v, .int .i64 0]) ∧ Moved W g j W') :
    Calls Tryz.prog 157 #[.pointer (some ⟨g, 0, none⟩), .func (Fn.func F) first caps] w fun e w' => e = .returned (.tuple #[.string v, .int .i64 0]) ∧ Moved w g j w' := by
  have h1 := h.c1
  have h2 := h.c2
  have hlt := h.lt
  have HH := Lib.hid HF
  have ha3 := cell_a3 w g hlt
  have ha4 := cell_a4 w g hlt
  clear h HF
  have hmf : ∀ (fn : Fn) (first cap : Array Value) (w : World), (Instr.makeFunc fn first cap).run Tryz.prog w = .ok (.func fn first cap) w := fun _ _ _ _ => rfl
  go_enter_defers Tryz.func157, Tryz.ntmps157
  go_wp2_with (fail)
  refine (HH.out _ (((((Below.refl _ _).alloc (Nat.le_refl _) _).alloc (by simp) _).alloc (by simp <;> omega) _).alloc (by simp <;> omega) _)).mono ?_
  rintro e w5 ⟨rfl, hm⟩
  have V := Vars.mk' hlt hm
  have HV := Lib.hid V
  have v1 := V.c1
  have v2 := V.c2
  have v3 := V.f1
  have v4 := V.f2
  clear hm V ha3 ha4 h1 h2
  go_wp2
  refine leaves_cons (f := 182) (args := #[.pointer (some ⟨w.heap.size + 1 + 1, 0, none⟩), .pointer (some ⟨w.heap.size + 1 + 1 + 1, 0, none⟩), .pointer (some ⟨w.heap.size, 0, none⟩), .pointer (some ⟨w.heap.size + 1, 0, none⟩)]) (by simp) (by simp [go_sem]) ?_
  refine (undoS_ok _ _ _ _ _ _ ?_).mono ?_
  · exact World.cell?_setCell_same _ _ _ (by rw [World.cell?_setCell_other _ _ _ _ (by simp)]; exact v2)
  rintro e u' w'' ⟨rfl, rfl, rfl⟩
  have q1 : ((w5.setCell ⟨w.heap.size + 1, 0, none⟩ (.string v)).setCell ⟨w.heap.size + 1 + 1, 0, none⟩ (.int .i64 0)).cell? ⟨w.heap.size + 1, 0, none⟩ = some (.string v) := by
    rw [World.cell?_setCell_other _ _ _ _ (by simp)]
    exact World.cell?_setCell_same _ _ _ v1
  have q2 : ((w5.setCell ⟨w.heap.size + 1, 0, none⟩ (.string v)).setCell ⟨w.heap.size + 1 + 1, 0, none⟩ (.int .i64 0)).cell? ⟨w.heap.size + 1 + 1, 0, none⟩ = some (.int .i64 0) :=
    World.cell?_setCell_same _ _ _ (by rw [World.cell?_setCell_other _ _ _ _ (by simp)]; exact v2)
  have hmv : Moved w g j ((w5.setCell ⟨w.heap.size + 1, 0, none⟩ (.string v)).setCell ⟨w.heap.size + 1 + 1, 0, none⟩ (.int .i64 0)) := Below.setCell (Below.setCell HV.out.moved (by simp) _) (by simp <;> omega) _
  have HMV := Lib.hid hmv
  clear hmv
  generalize (w5.setCell ⟨w.heap.size + 1, 0, none⟩ (.string v)).setCell ⟨w.heap.size + 1 + 1, 0, none⟩ (.int .i64 0) = w6 at *
  simp [Leaves, settle, results, Tryz.results157, go_sem, q1, q2]
  exact HMV.out
set_option maxRecDepth 100000 in
set_option maxHeartbeats 2000000 in
theorem stepS_err (g k j c : Nat) (A : Option Addr) (l : List UInt8) (w : World) (F : FuncId) (first caps : Array Value) (v : ByteArray) (er : Int) (h : Rd w g k A c l) (hj : j ≤ l.length) (her : (er == 0) = false)
    (hF : ∀ args w, (callFunc F args).run Tryz.prog w = .ok (.enter F args) w)
    (HF : ∀ W, Below w.heap.size w W → Calls Tryz.prog F (first ++ caps) W fun e W' => e = .returned (.tuple #[.string v, .int .i64 er]) ∧ Moved W g j W') :
    Calls Tryz.prog 157 #[.pointer (some ⟨g, 0, none⟩), .func (Fn.func F) first caps] w fun e w' => e = .returned (.tuple #[.string ⟨#[]⟩, .int .i64 er]) ∧ Moved w g k w' := by
  have h1 := h.c1
  have h2 := h.c2
  have hlt := h.lt
  have HH := Lib.hid HF
  have H := Lib.hid h
  have HER := Lib.hid her
  have ha3 := cell_a3 w g hlt
  have ha4 := cell_a4 w g hlt
  clear h HF her
  have hmf : ∀ (fn : Fn) (first cap : Array Value) (w : World), (Instr.makeFunc fn first cap).run Tryz.prog w = .ok (.func fn first cap) w := fun _ _ _ _ => rfl
  go_enter_defers Tryz.func157, Tryz.ntmps157
  go_wp2_with (fail)
  refine (HH.out _ (((((Below.refl _ _).alloc (Nat.le_refl _) _).alloc (by simp) _).alloc (by simp <;> omega) _).alloc (by simp <;> omega) _)).mono ?_
  rintro e w5 ⟨rfl, hm⟩
  have V := Vars.mk' hlt hm
  have HV := Lib.hid V
  have v1 := V.c1
  have v2 := V.c2
  have v3 := V.f1
  have v4 := V.f2
  clear hm V ha3 ha4 h1 h2
  go_wp2
  refine leaves_cons (f := 182) (args := #[.pointer (some ⟨w.heap.size + 1 + 1, 0, none⟩), .pointer (some ⟨w.heap.size + 1 + 1 + 1, 0, none⟩), .pointer (some ⟨w.heap.size, 0, none⟩), .pointer (some ⟨w.heap.size + 1, 0, none⟩)]) (by simp) (by simp [go_sem]) ?_
  have hrd := (H.out.moved HV.out.moved hj)
  have q0 : ∀ b : Addr, b.block ≠ w.heap.size + 1 → b.block ≠ w.heap.size + 1 + 1 → ((w5.setCell ⟨w.heap.size + 1, 0, none⟩ (.string v)).setCell ⟨w.heap.size + 1 + 1, 0, none⟩ (.int .i64 er)).cell? b = w5.cell? b := by
    intro b b1 b2
    rw [World.cell?_setCell_other _ _ _ _ (fun e => b2 (congrArg Addr.block e).symm), World.cell?_setCell_other _ _ _ _ (fun e => b1 (congrArg Addr.block e).symm)]
  have q1 : ((w5.setCell ⟨w.heap.size + 1, 0, none⟩ (.string v)).setCell ⟨w.heap.size + 1 + 1, 0, none⟩ (.int .i64 er)).cell? ⟨w.heap.size + 1, 0, none⟩ = some (.string v) := by
    rw [World.cell?_setCell_other _ _ _ _ (by simp <;> omega)]
    exact World.cell?_setCell_same _ _ _ v1
  have q2 : ((w5.setCell ⟨w.heap.size + 1, 0, none⟩ (.string v)).setCell ⟨w.heap.size + 1 + 1, 0, none⟩ (.int .i64 er)).cell? ⟨w.heap.size + 1 + 1, 0, none⟩ = some (.int .i64 er) :=
    World.cell?_setCell_same _ _ _ (by rw [World.cell?_setCell_other _ _ _ _ (by simp <;> omega)]; exact v2)
  refine (undoS_err _ _ _ _ g k er _ _ _ _ q2 HER.out ((q0 _ (by simp <;> omega) (by simp <;> omega)).trans HV.out.c3) ((q0 _ (by simp <;> omega) (by simp <;> omega)).trans HV.out.c0) ((q0 _ (by simp <;> omega) (by simp <;> omega)).trans hrd.c1) (by simpa using hrd.f1) q1 (by simpa using v3) (by simp <;> omega)).mono ?_
  rintro e u' w'' ⟨rfl, rfl, rfl⟩
  have r1 : ((((w5.setCell ⟨w.heap.size + 1, 0, none⟩ (.string v)).setCell ⟨w.heap.size + 1 + 1, 0, none⟩ (.int .i64 er)).setCell ⟨g, 1, none⟩ (.int .i64 k)).setCell ⟨w.heap.size + 1, 0, none⟩ (.string ⟨#[]⟩)).cell? ⟨w.heap.size + 1, 0, none⟩ = some (.string ⟨#[]⟩) :=
    World.cell?_setCell_same _ _ _ (by rw [World.cell?_setCell_other _ _ _ _ (by simp <;> omega)]; exact q1)
  have r2 : ((((w5.setCell ⟨w.heap.size + 1, 0, none⟩ (.string v)).setCell ⟨w.heap.size + 1 + 1, 0, none⟩ (.int .i64 er)).setCell ⟨g, 1, none⟩ (.int .i64 k)).setCell ⟨w.heap.size + 1, 0, none⟩ (.string ⟨#[]⟩)).cell? ⟨w.heap.size + 1 + 1, 0, none⟩ = some (.int .i64 er) := by
    rw [World.cell?_setCell_other _ _ _ _ (by simp <;> omega), World.cell?_setCell_other _ _ _ _ (by simp <;> omega)]
    exact q2
  have hmv : Moved w g j ((w5.setCell ⟨w.heap.size + 1, 0, none⟩ (.string v)).setCell ⟨w.heap.size + 1 + 1, 0, none⟩ (.int .i64 er)) := Below.setCell (Below.setCell HV.out.moved (by simp <;> omega) _) (by simp <;> omega) _
  have hmv2 : Moved w g k ((((w5.setCell ⟨w.heap.size + 1, 0, none⟩ (.string v)).setCell ⟨w.heap.size + 1 + 1, 0, none⟩ (.int .i64 er)).setCell ⟨g, 1, none⟩ (.int .i64 k)).setCell ⟨w.heap.size + 1, 0, none⟩ (.string ⟨#[]⟩)) :=
    Below.setCell (hmv.trans (Below.refl _ _)) (by simp <;> omega) _
  have HMV := Lib.hid hmv2
  clear hmv hmv2 q0 q1 q2 hrd v1 v2 v3 v4
  generalize ((((w5.setCell ⟨w.heap.size + 1, 0, none⟩ (.string v)).setCell ⟨w.heap.size + 1 + 1, 0, none⟩ (.int .i64 er)).setCell ⟨g, 1, none⟩ (.int .i64 k)).setCell ⟨w.heap.size + 1, 0, none⟩ (.string ⟨#[]⟩)) = w6 at *
  simp [Leaves, settle, results, Tryz.results157, go_sem, r1, r2]
  exact HMV.out
theorem stepS_any (g k j c : Nat) (A : Option Addr) (l : List UInt8) (w : World) (F : FuncId) (first caps : Array Value) (v : ByteArray) (er : Nat) (h : Rd w g k A c l) (hj : j ≤ l.length)
    (hF : ∀ args w, (callFunc F args).run Tryz.prog w = .ok (.enter F args) w)
    (HF : ∀ W, Below w.heap.size w W → Calls Tryz.prog F (first ++ caps) W fun e W' => e = .returned (.tuple #[.string v, .int .i64 er]) ∧ Moved W g j W') :
    Calls Tryz.prog 157 #[.pointer (some ⟨g, 0, none⟩), .func (Fn.func F) first caps] w fun e w' => e = .returned (.tuple #[if er = 0 then .string v else .string ⟨#[]⟩, .int .i64 er]) ∧ Moved w g (if er = 0 then j else k) w' := by
  by_cases h0 : er = 0
  · subst h0
    simp only [if_true]
    exact stepS_ok g k j c A l w F first caps v h hF HF
  · simp only [h0, if_false]
    exact stepS_err g k j c A l w F first caps v er h hj (by simpa using h0) hF HF
set_option maxRecDepth 100000 in
theorem undoB_ok (pe ps pr pt : Addr) (u : FrameMode) (w : World) (h : w.cell? pe = some (.int .i64 0)) :
    CallsD Tryz.prog 193 #[.pointer (some pe), .pointer (some ps), .pointer (some pr), .pointer (some pt)] u w fun e u' w' => u' = u ∧ (e = .returned (.tuple #[]) ∧ w' = w) := by
  go_enter_d Tryz.func193, Tryz.ntmps193
  go_wp2
  go_end0
  exact ⟨rfl, rfl⟩
set_option maxRecDepth 100000 in
theorem undoB_err (pe ps pr pt : Addr) (g : Nat) (k er : Int) (z z' : Value) (u : FrameMode) (w : World) (h : w.cell? pe = some (.int .i64 er)) (her : (er == 0) = false) (hs : w.cell? ps = some (.int .i64 k)) (hr : w.cell? pr = some (.pointer (some ⟨g, 0, none⟩)))
    (hc : w.cell? ⟨g, 1, none⟩ = some z) (hf : w.frozen? ⟨g, 1, none⟩ = false) (ht : w.cell? pt = some z') (htf : w.frozen? pt = false) (hne : pt.block ≠ g) :
    CallsD Tryz.prog 193 #[.pointer (some pe), .pointer (some ps), .pointer (some pr), .pointer (some pt)] u w fun e u' w' => u' = u ∧ (e = .returned (.tuple #[]) ∧ w' = (w.setCell ⟨g, 1, none⟩ (.int .i64 k)).setCell pt (.int .u8 0)) := by
  have her' : (er != 0) = true := by simp [bne, her]
  have ht' : (w.setCell ⟨g, 1, none⟩ (.int .i64 k)).cell? pt = some z' := by
    rw [World.cell?_setCell_other _ _ _ _ (fun e => hne (congrArg Addr.block e).symm)]
    exact ht
  clear hne her ht
  go_enter_d Tryz.func193, Tryz.ntmps193
  go_wp2
  go_end0
  exact ⟨rfl, rfl⟩
set_option maxRecDepth 100000 in
set_option maxHeartbeats 2000000 in
theorem stepB_ok (g k j c : Nat) (A : Option Addr) (l : List UInt8) (w : World) (F : FuncId) (first caps : Array Value) (v : Int) (h : Rd w g k A c l)
    (hF : ∀ args w, (callFunc F args).run Tryz.prog w = .ok (.enter F args) w)
    (HF : ∀ W, Below w.heap.size w W → Calls Tryz.prog F (first ++ caps) W fun e W' => e = .returned (.tuple #[.int .u8 v, .int .i64 0]) ∧ Moved W g j W') :
    Calls Tryz.prog 172 #[.pointer (some ⟨g, 0, none⟩), .func (Fn.func F) first caps] w fun e w' => e = .returned (.tuple #[.int .u8 v, .int .i64 0]) ∧ Moved w g j w' := by
  have h1 := h.c1
  have h2 := h.c2
  have hlt := h.lt
  have HH := Lib.hid HF
  have ha3 := cell_a3 w g hlt
  have ha4 := cell_a4 w g hlt
  clear h HF
  have hmf : ∀ (fn : Fn) (first cap : Array Value) (w : World), (Instr.makeFunc fn first cap).run Tryz.prog w = .ok (.func fn first cap) w := fun _ _ _ _ => rfl
  go_enter_defers Tryz.func172, Tryz.ntmps172
  go_wp2_with (fail)
  refine (HH.out _ (((((Below.refl _ _).alloc (Nat.le_refl _) _).alloc (by simp) _).alloc (by simp <;> omega) _).alloc (by simp <;> omega) _)).mono ?_
  rintro e w5 ⟨rfl, hm⟩
  have V := Vars.mk' hlt hm
  have HV := Lib.hid V
  have v1 := V.c1
  have v2 := V.c2
  have v3 := V.f1
  have v4 := V.f2
  clear hm V ha3 ha4 h1 h2
  go_wp2
  refine leaves_cons (f := 193) (args := #[.pointer (some ⟨w.heap.size + 1 + 1, 0, none⟩), .pointer (some ⟨w.heap.size + 1 + 1 + 1, 0, none⟩), .pointer (some ⟨w.heap.size, 0, none⟩), .pointer (some ⟨w.heap.size + 1, 0, none⟩)]) (by simp) (by simp [go_sem]) ?_
  refine (undoB_ok _ _ _ _ _ _ ?_).mono ?_
  · exact World.cell?_setCell_same _ _ _ (by rw [World.cell?_setCell_other _ _ _ _ (by simp)]; exact v2)
  rintro e u' w'' ⟨rfl, rfl, rfl⟩
  have q1 : ((w5.setCell ⟨w.heap.size + 1, 0, none⟩ (.int .u8 v)).setCell ⟨w.heap.size + 1 + 1, 0, none⟩ (.int .i64 0)).cell? ⟨w.heap.size + 1, 0, none⟩ = some (.int .u8 v) := by
    rw [World.cell?_setCell_other _ _ _ _ (by simp)]
    exact World.cell?_setCell_same _ _ _ v1
  have q2 : ((w5.setCell ⟨w.heap.size + 1, 0, none⟩ (.int .u8 v)).setCell ⟨w.heap.size + 1 + 1, 0, none⟩ (.int .i64 0)).cell? ⟨w.heap.size + 1 + 1, 0, none⟩ = some (.int .i64 0) :=
    World.cell?_setCell_same _ _ _ (by rw [World.cell?_setCell_other _ _ _ _ (by simp)]; exact v2)
  have hmv : Moved w g j ((w5.setCell ⟨w.heap.size + 1, 0, none⟩ (.int .u8 v)).setCell ⟨w.heap.size + 1 + 1, 0, none⟩ (.int .i64 0)) := Below.setCell (Below.setCell HV.out.moved (by simp) _) (by simp <;> omega) _
  have HMV := Lib.hid hmv
  clear hmv
  generalize (w5.setCell ⟨w.heap.size + 1, 0, none⟩ (.int .u8 v)).setCell ⟨w.heap.size + 1 + 1, 0, none⟩ (.int .i64 0) = w6 at *
  simp [Leaves, settle, results, Tryz.results172, go_sem, q1, q2]
  exact HMV.out
set_option maxRecDepth 100000 in
set_option maxHeartbeats 2000000 in
theorem stepB_err (g k j c : Nat) (A : Option Addr) (l : List UInt8) (w : World) (F : FuncId) (first caps : Array Value) (v : Int) (er : Int) (h : Rd w g k A c l) (hj : j ≤ l.length) (her : (er == 0) = false)
    (hF : ∀ args w, (callFunc F args).run Tryz.prog w = .ok (.enter F args) w)
    (HF : ∀ W, Below w.heap.size w W → Calls Tryz.prog F (first ++ caps) W fun e W' => e = .returned (.tuple #[.int .u8 v, .int .i64 er]) ∧ Moved W g j W') :
    Calls Tryz.prog 172 #[.pointer (some ⟨g, 0, none⟩), .func (Fn.func F) first caps] w fun e w' => e = .returned (.tuple #[.int .u8 0, .int .i64 er]) ∧ Moved w g k w' := by
  have h1 := h.c1
  have h2 := h.c2
  have hlt := h.lt
  have HH := Lib.hid HF
  have H := Lib.hid h
  have HER := Lib.hid her
  have ha3 := cell_a3 w g hlt
  have ha4 := cell_a4 w g hlt
  clear h HF her
  have hmf : ∀ (fn : Fn) (first cap : Array Value) (w : World), (Instr.makeFunc fn first cap).run Tryz.prog w = .ok (.func fn first cap) w := fun _ _ _ _ => rfl
  go_enter_defers Tryz.func172, Tryz.ntmps172
  go_wp2_with (fail)
  refine (HH.out _ (((((Below.refl _ _).alloc (Nat.le_refl _) _).alloc (by simp) _).alloc (by simp <;> omega) _).alloc (by simp <;> omega) _)).mono ?_
  rintro e w5 ⟨rfl, hm⟩
  have V := Vars.mk' hlt hm
  have HV := Lib.hid V
  have v1 := V.c1
  have v2 := V.c2
  have v3 := V.f1
  have v4 := V.f2
  clear hm V ha3 ha4 h1 h2
  go_wp2
  refine leaves_cons (f := 193) (args := #[.pointer (some ⟨w.heap.size + 1 + 1, 0, none⟩), .pointer (some ⟨w.heap.size + 1 + 1 + 1, 0, none⟩), .pointer (some ⟨w.heap.size, 0, none⟩), .pointer (some ⟨w.heap.size + 1, 0, none⟩)]) (by simp) (by simp [go_sem]) ?_
  have hrd := (H.out.moved HV.out.moved hj)
  have q0 : ∀ b : Addr, b.block ≠ w.heap.size + 1 → b.block ≠ w.heap.size + 1 + 1 → ((w5.setCell ⟨w.heap.size + 1, 0, none⟩ (.int .u8 v)).setCell ⟨w.heap.size + 1 + 1, 0, none⟩ (.int .i64 er)).cell? b = w5.cell? b := by
    intro b b1 b2
    rw [World.cell?_setCell_other _ _ _ _ (fun e => b2 (congrArg Addr.block e).symm), World.cell?_setCell_other _ _ _ _ (fun e => b1 (congrArg Addr.block e).symm)]
  have q1 : ((w5.setCell ⟨w.heap.size + 1, 0, none⟩ (.int .u8 v)).setCell ⟨w.heap.size + 1 + 1, 0, none⟩ (.int .i64 er)).cell? ⟨w.heap.size + 1, 0, none⟩ = some (.int .u8 v) := by
    rw [World.cell?_setCell_other _ _ _ _ (by simp <;> omega)]
    exact World.cell?_setCell_same _ _ _ v1
  have q2 : ((w5.setCell ⟨w.heap.size + 1, 0, none⟩ (.int .u8 v)).setCell ⟨w.heap.size + 1 + 1, 0, none⟩ (.int .i64 er)).cell? ⟨w.heap.size + 1 + 1, 0, none⟩ = some (.int .i64 er) :=
    World.cell?_setCell_same _ _ _ (by rw [World.cell?_setCell_other _ _ _ _ (by simp <;> omega)]; exact v2)
  refine (undoB_err _ _ _ _ g k er _ _ _ _ q2 HER.out ((q0 _ (by simp <;> omega) (by simp <;> omega)).trans HV.out.c3) ((q0 _ (by simp <;> omega) (by simp <;> omega)).trans HV.out.c0) ((q0 _ (by simp <;> omega) (by simp <;> omega)).trans hrd.c1) (by simpa using hrd.f1) q1 (by simpa using v3) (by simp <;> omega)).mono ?_
  rintro e u' w'' ⟨rfl, rfl, rfl⟩
  have r1 : ((((w5.setCell ⟨w.heap.size + 1, 0, none⟩ (.int .u8 v)).setCell ⟨w.heap.size + 1 + 1, 0, none⟩ (.int .i64 er)).setCell ⟨g, 1, none⟩ (.int .i64 k)).setCell ⟨w.heap.size + 1, 0, none⟩ (.int .u8 0)).cell? ⟨w.heap.size + 1, 0, none⟩ = some (.int .u8 0) :=
    World.cell?_setCell_same _ _ _ (by rw [World.cell?_setCell_other _ _ _ _ (by simp <;> omega)]; exact q1)
  have r2 : ((((w5.setCell ⟨w.heap.size + 1, 0, none⟩ (.int .u8 v)).setCell ⟨w.heap.size + 1 + 1, 0, none⟩ (.int .i64 er)).setCell ⟨g, 1, none⟩ (.int .i64 k)).setCell ⟨w.heap.size + 1, 0, none⟩ (.int .u8 0)).cell? ⟨w.heap.size + 1 + 1, 0, none⟩ = some (.int .i64 er) := by
    rw [World.cell?_setCell_other _ _ _ _ (by simp <;> omega), World.cell?_setCell_other _ _ _ _ (by simp <;> omega)]
    exact q2
  have hmv : Moved w g j ((w5.setCell ⟨w.heap.size + 1, 0, none⟩ (.int .u8 v)).setCell ⟨w.heap.size + 1 + 1, 0, none⟩ (.int .i64 er)) := Below.setCell (Below.setCell HV.out.moved (by simp <;> omega) _) (by simp <;> omega) _
  have hmv2 : Moved w g k ((((w5.setCell ⟨w.heap.size + 1, 0, none⟩ (.int .u8 v)).setCell ⟨w.heap.size + 1 + 1, 0, none⟩ (.int .i64 er)).setCell ⟨g, 1, none⟩ (.int .i64 k)).setCell ⟨w.heap.size + 1, 0, none⟩ (.int .u8 0)) :=
    Below.setCell (hmv.trans (Below.refl _ _)) (by simp <;> omega) _
  have HMV := Lib.hid hmv2
  clear hmv hmv2 q0 q1 q2 hrd v1 v2 v3 v4
  generalize ((((w5.setCell ⟨w.heap.size + 1, 0, none⟩ (.int .u8 v)).setCell ⟨w.heap.size + 1 + 1, 0, none⟩ (.int .i64 er)).setCell ⟨g, 1, none⟩ (.int .i64 k)).setCell ⟨w.heap.size + 1, 0, none⟩ (.int .u8 0)) = w6 at *
  simp [Leaves, settle, results, Tryz.results172, go_sem, r1, r2]
  exact HMV.out
theorem stepB_any (g k j c : Nat) (A : Option Addr) (l : List UInt8) (w : World) (F : FuncId) (first caps : Array Value) (v : Int) (er : Nat) (h : Rd w g k A c l) (hj : j ≤ l.length)
    (hF : ∀ args w, (callFunc F args).run Tryz.prog w = .ok (.enter F args) w)
    (HF : ∀ W, Below w.heap.size w W → Calls Tryz.prog F (first ++ caps) W fun e W' => e = .returned (.tuple #[.int .u8 v, .int .i64 er]) ∧ Moved W g j W') :
    Calls Tryz.prog 172 #[.pointer (some ⟨g, 0, none⟩), .func (Fn.func F) first caps] w fun e w' => e = .returned (.tuple #[if er = 0 then .int .u8 v else .int .u8 0, .int .i64 er]) ∧ Moved w g (if er = 0 then j else k) w' := by
  by_cases h0 : er = 0
  · subst h0
    simp only [if_true]
    exact stepB_ok g k j c A l w F first caps v h hF HF
  · simp only [h0, if_false]
    exact stepB_err g k j c A l w F first caps v er h hj (by simpa using h0) hF HF
end Go.Proofs.YtchklaepilcbbaaGreat

namespace Go.Proofs.YtchklaepilcbbaaGreat
open Go.RowKit
/-- A number that was read is no more than the most. -/
theorem sizedF_le (count most : Nat) (fl : UInt8 → UInt8) (L : List UInt8) : (sizedF count most fl L).1 ≤ most := by
  unfold sizedF
  split
  · exact Nat.zero_le _
  · unfold digF
    by_cases h : okOne count most (lowOf count fl L) (highOf count fl L) = false
    · rw [if_pos h]; exact Nat.zero_le _
    · rw [if_neg h]
      by_cases h2 : L.length < count
      · rw [if_pos h2]; exact Nat.zero_le _
      · rw [if_neg h2]
        simp only [okOne, meetsB, Bool.and_eq_false_iff, not_or, Bool.not_eq_false, decide_eq_true_eq] at h
        have h1 := h.1
        unfold lowOf at h1
        rw [show count - thereN count L = 0 by unfold thereN; omega, Nat.pow_zero, Nat.mul_one] at h1
        exact h1
def neg255 (c : UInt8) : UInt8 := 255 - c
theorem xor_neg (x : UInt8) : bits .xor .u8 (x.toNat : Int) 255 = ((neg255 x).toNat : Int) := xor_full x
/-- What is answered of a whole number that is read. -/
def intF : List UInt8 → Int × Nat
  | [] => (0, 4)
  | h :: t => if 16 ≤ h.toNat then (((sizedF (h.toNat - 16) 9223372036854775807 id t).1 : Int), (sizedF (h.toNat - 16) 9223372036854775807 id t).2)
    else (-((sizedF (15 - h.toNat) 9223372036854775807 neg255 t).1 : Int) - 1, (sizedF (15 - h.toNat) 9223372036854775807 neg255 t).2)
def intC : List UInt8 → Nat
  | [] => 0
  | h :: t => if 16 ≤ h.toNat then 1 + sizedC (h.toNat - 16) t else 1 + sizedC (15 - h.toNat) t
set_option maxRecDepth 100000 in
set_option maxHeartbeats 2000000 in
theorem takeInt_end (g k c : Nat) (A : Option Addr) (l : List UInt8) (w : World) (h : Rd w g k A c l) (hk : k = l.length) :
    Calls Tryz.prog 154 #[.pointer (some ⟨g, 0, none⟩)] w fun e w' => e = .returned (.tuple #[.int .i64 (intF (l.drop k)).1, .int .i64 ((intF (l.drop k)).2 : Nat)]) ∧ Moved w g (k + intC (l.drop k)) w' := by
  have C := Lib.hid (takeByte_end g k c A l w h hk)
  have HL := Lib.hid (drop_none l k hk)
  clear h hk
  go_enter Tryz.func154, Tryz.ntmps154
  go_wp2_with (go_at_call 173; ((refine (C.out).mono ?_); rintro e w2 ⟨rfl, hm⟩; have HM := Lib.hid hm; clear hm))
  go_ret2
  rw [HL.out]
  exact ⟨rfl, HM.out⟩
set_option maxRecDepth 100000 in
set_option maxHeartbeats 2000000 in
theorem takeInt_more (g k c : Nat) (A : Option Addr) (l : List UInt8) (w : World) (h : Rd w g k A c l) (hk : k < l.length) :
    Calls Tryz.prog 154 #[.pointer (some ⟨g, 0, none⟩)] w fun e w' => e = .returned (.tuple #[.int .i64 (intF (l.drop k)).1, .int .i64 ((intF (l.drop k)).2 : Nat)]) ∧ Moved w g (k + intC (l.drop k)) w' := by
  have C := Lib.hid (takeByte_more g k c A l w h hk)
  have HL := Lib.hid (drop_more l k hk)
  obtain ⟨y, hy⟩ : ∃ y : UInt8, y = l.getD k 0 := ⟨_, rfl⟩
  have hy8 := y.toNat_lt
  rw [← hy] at C HL
  obtain ⟨x, hx⟩ : ∃ x : Int, x = (y.toNat : Int) := ⟨_, rfl⟩
  rw [← hx] at C
  have x0 : 0 ≤ x := by omega
  by_cases h16 : 16 ≤ y.toNat
  · have C2 : Hid (∀ w2, Moved w g (k + 1) w2 → Calls Tryz.prog 175 #[.pointer (some ⟨g, 0, none⟩), .int .i64 (x - 16), .int .u8 0, .int .u64 9223372036854775807] w2 fun e w' => e = .returned (.tuple #[.int .u64 ((sizedF (y.toNat - 16) 9223372036854775807 id (l.drop (k + 1))).1 : Nat), .int .i64 ((sizedF (y.toNat - 16) 9223372036854775807 id (l.drop (k + 1))).2 : Nat)]) ∧ Moved w g (k + (1 + sizedC (y.toNat - 16) (l.drop (k + 1)))) w') := by
      intro w2 hm
      rw [show (x - 16 : Int) = (((y.toNat - 16) : Nat) : Int) by omega]
      refine (takeSized_any g (k + 1) c (y.toNat - 16) 9223372036854775807 0 id A l w2 (h.moved hm (by omega)) (by omega) xor_none).mono ?_
      rintro e w' ⟨he, hm2⟩
      refine ⟨he, ?_⟩
      rw [← Nat.add_assoc]
      exact hm.trans hm2
    have HF : Hid (intF (l.drop k) = (((sizedF (y.toNat - 16) 9223372036854775807 id (l.drop (k + 1))).1 : Int), (sizedF (y.toNat - 16) 9223372036854775807 id (l.drop (k + 1))).2)) := by
      rw [HL.out]; exact if_pos h16
    have HCC : Hid (intC (l.drop k) = 1 + sizedC (y.toNat - 16) (l.drop (k + 1))) := by rw [HL.out]; exact if_pos h16
    have hle := sizedF_le (y.toNat - 16) 9223372036854775807 id (l.drop (k + 1))
    have t1 : 16 ≤ x := by omega
    have t2 : x ≤ 255 := by omega
    clear h hk hy h16
    generalize sizedF (y.toNat - 16) 9223372036854775807 id (l.drop (k + 1)) = r at *
    generalize sizedC (y.toNat - 16) (l.drop (k + 1)) = sc at *
    obtain ⟨n, er⟩ := r
    obtain ⟨z, hz⟩ : ∃ z : Int, z = (n : Int) := ⟨_, rfl⟩
    have z0 : 0 ≤ z := by omega
    have z1 : z ≤ 9223372036854775807 := by
      have hle' : n ≤ 9223372036854775807 := hle
      omega
    have HZ := Lib.hid hz
    have C3 : Hid (∀ w2, Moved w g (k + 1) w2 → Calls Tryz.prog 175 #[.pointer (some ⟨g, 0, none⟩), .int .i64 (x - 16), .int .u8 0, .int .u64 9223372036854775807] w2 fun e w' => e = .returned (.tuple #[.int .u64 z, .int .i64 (er : Nat)]) ∧ Moved w g (k + (1 + sc)) w') := by
      intro w2 hm
      rw [hz]
      exact C2.out w2 hm
    clear hle hz C2 hx
    go_enter Tryz.func154, Tryz.ntmps154
    go_wp2_with (first
      | (go_at_call 173; ((with_reducible refine (C.out).mono ?_); rintro e w2 ⟨rfl, hm⟩; have HM := Lib.hid hm; clear hm))
      | (go_at_call 175; ((with_reducible refine (C3.out _ HM.out).mono ?_); rintro e w3 ⟨rfl, hm⟩; have HM2 := Lib.hid hm; clear hm)))
    go_ret2
    rw [HF.out, HCC.out]
    exact ⟨by rw [HZ.out]; rfl, HM2.out⟩
  · have C2 : Hid (∀ w2, Moved w g (k + 1) w2 → Calls Tryz.prog 175 #[.pointer (some ⟨g, 0, none⟩), .int .i64 (15 - x), .int .u8 255, .int .u64 9223372036854775807] w2 fun e w' => e = .returned (.tuple #[.int .u64 ((sizedF (15 - y.toNat) 9223372036854775807 neg255 (l.drop (k + 1))).1 : Nat), .int .i64 ((sizedF (15 - y.toNat) 9223372036854775807 neg255 (l.drop (k + 1))).2 : Nat)]) ∧ Moved w g (k + (1 + sizedC (15 - y.toNat) (l.drop (k + 1)))) w') := by
      intro w2 hm
      rw [show (15 - x : Int) = (((15 - y.toNat) : Nat) : Int) by omega]
      refine (takeSized_any g (k + 1) c (15 - y.toNat) 9223372036854775807 255 neg255 A l w2 (h.moved hm (by omega)) (by omega) xor_neg).mono ?_
      rintro e w' ⟨he, hm2⟩
      refine ⟨he, ?_⟩
      rw [← Nat.add_assoc]
      exact hm.trans hm2
    have HF : Hid (intF (l.drop k) = (-((sizedF (15 - y.toNat) 9223372036854775807 neg255 (l.drop (k + 1))).1 : Int) - 1, (sizedF (15 - y.toNat) 9223372036854775807 neg255 (l.drop (k + 1))).2)) := by
      rw [HL.out]; exact if_neg h16
    have HCC : Hid (intC (l.drop k) = 1 + sizedC (15 - y.toNat) (l.drop (k + 1))) := by rw [HL.out]; exact if_neg h16
    have hle := sizedF_le (15 - y.toNat) 9223372036854775807 neg255 (l.drop (k + 1))
    have t1 : x < 16 := by omega
    have t2 : x ≤ 255 := by omega
    clear h hk hy h16
    generalize sizedF (15 - y.toNat) 9223372036854775807 neg255 (l.drop (k + 1)) = r at *
    generalize sizedC (15 - y.toNat) (l.drop (k + 1)) = sc at *
    obtain ⟨n, er⟩ := r
    obtain ⟨z, hz⟩ : ∃ z : Int, z = (n : Int) := ⟨_, rfl⟩
    have z0 : 0 ≤ z := by omega
    have z1 : z ≤ 9223372036854775807 := by
      have hle' : n ≤ 9223372036854775807 := hle
      omega
    have HZ := Lib.hid hz
    have C3 : Hid (∀ w2, Moved w g (k + 1) w2 → Calls Tryz.prog 175 #[.pointer (some ⟨g, 0, none⟩), .int .i64 (15 - x), .int .u8 255, .int .u64 9223372036854775807] w2 fun e w' => e = .returned (.tuple #[.int .u64 z, .int .i64 (er : Nat)]) ∧ Moved w g (k + (1 + sc)) w') := by
      intro w2 hm
      rw [hz]
      exact C2.out w2 hm
    clear hle hz C2 hx
    go_enter Tryz.func154, Tryz.ntmps154
    go_wp2_with (first
      | (go_at_call 173; ((with_reducible refine (C.out).mono ?_); rintro e w2 ⟨rfl, hm⟩; have HM := Lib.hid hm; clear hm))
      | (go_at_call 175; ((with_reducible refine (C3.out _ HM.out).mono ?_); rintro e w3 ⟨rfl, hm⟩; have HM2 := Lib.hid hm; clear hm)))
    go_ret2
    rw [HF.out, HCC.out]
    exact ⟨by rw [HZ.out]; rfl, HM2.out⟩
theorem takeInt_any (g k c : Nat) (A : Option Addr) (l : List UInt8) (w : World) (h : Rd w g k A c l) :
    Calls Tryz.prog 154 #[.pointer (some ⟨g, 0, none⟩)] w fun e w' => e = .returned (.tuple #[.int .i64 (intF (l.drop k)).1, .int .i64 ((intF (l.drop k)).2 : Nat)]) ∧ Moved w g (k + intC (l.drop k)) w' := by
  have hb := h.2.1.1
  rcases Nat.lt_or_ge k l.length with hk | hk
  · exact takeInt_more g k c A l w h hk
  · exact takeInt_end g k c A l w h (by omega)
theorem andNot_top (n : Nat) (h : 9223372036854775808 ≤ n) (hn : n < 18446744073709551616) : bits .andNot .u64 (n : Int) 9223372036854775808 = (n : Int) - 9223372036854775808 := by
  show IntKind.u64.wrap ((BitVec.ofInt 64 (n : Int) &&& ~~~ BitVec.ofInt 64 9223372036854775808).toNat : Int) = _
  have e1 : (~~~ BitVec.ofInt 64 9223372036854775808 : BitVec 64).toNat = 2 ^ 63 - 1 := by decide
  have e2 : (BitVec.ofInt 64 (n : Int)).toNat = n := by rw [BitVec.toNat_ofInt]; omega
  rw [BitVec.toNat_and, e1, e2, Nat.and_two_pow_sub_one_eq_mod, IntKind.wrap_u64]
  omega
/-- The float that stands at a place. -/
def atF (n : Nat) : Nat := if n < 9223372036854775808 then 18446744073709551615 - n else n - 9223372036854775808
set_option maxRecDepth 100000 in
set_option maxHeartbeats 1000000 in
theorem floatAt_any (n : Nat) (w : World) (hn : n < 18446744073709551616) :
    Calls Tryz.prog 181 #[.int .u64 n] w fun e w' => e = .returned (.float .f64 (atF n)) ∧ w = w' := by
  have hff := call_Float64frombits
  by_cases h0 : n < 9223372036854775808
  · have ha : bits .and .u64 (n : Int) 9223372036854775808 = 0 := by
      rw [u64_and _ _ (by omega) (by omega) (by omega) (by omega)]
      simp only [Int.toNat_natCast, show (9223372036854775808 : Int).toNat = 9223372036854775808 from rfl]
      rw [and_top n (by omega), if_pos h0]; rfl
    obtain ⟨m, hm⟩ : ∃ m : Nat, m = 18446744073709551615 - n := ⟨_, rfl⟩
    have hx : bits .xor .u64 IntKind.u64.max (n : Int) = (m : Int) := (xor_all n (by omega)).trans (by omega)
    have HE := Lib.hid (show atF n = m from (if_pos h0).trans hm.symm)
    clear h0 hn hm
    go_enter Tryz.func181, Tryz.ntmps181
    go_wp2
    go_ret
    exact ⟨by rw [HE.out]; rfl, rfl⟩
  · have ha : bits .and .u64 (n : Int) 9223372036854775808 = 9223372036854775808 := by
      rw [u64_and _ _ (by omega) (by omega) (by omega) (by omega)]
      simp only [Int.toNat_natCast, show (9223372036854775808 : Int).toNat = 9223372036854775808 from rfl]
      rw [and_top n (by omega), if_neg (by omega)]; rfl
    obtain ⟨m, hm⟩ : ∃ m : Nat, m = n - 9223372036854775808 := ⟨_, rfl⟩
    have hx : bits .andNot .u64 (n : Int) 9223372036854775808 = (m : Int) := (andNot_top n (by omega) hn).trans (by omega)
    have HE := Lib.hid (show atF n = m from (if_neg h0).trans hm.symm)
    clear h0 hn hm
    go_enter Tryz.func181, Tryz.ntmps181
    go_wp2
    go_ret
    exact ⟨by rw [HE.out]; rfl, rfl⟩
theorem spans_two (g h a b c d : Nat) (w : World) (hh : w.heap[h]? = some (.cells #[.int .u64 a, .int .u64 b, .int .u64 c, .int .u64 d] 187 (0, 0))) (hne : h ≠ g) :
    SpansOk w g (.slice (some ⟨h, 0, none⟩) 2 2) (fun low high => meetsB (low, high) (a, b) || meetsB (low, high) (c, d)) := by
  intro W hW low high
  have e := (hW.2 h (lt_heap hh) hne).trans hh
  exact Contains_two h a b c d low high W (lt_heap e) (by simpa using cell_of_row W h 0 _ _ _ e) (by simpa using cell_of_row W h 1 _ _ _ e) (by simpa using cell_of_row W h 2 _ _ _ e) (by simpa using cell_of_row W h 3 _ _ _ e)
/-- The canonical NaN, the infinities. -/
def bitsN : Nat := 9221120237041090561
def bitsM : Nat := 18442240474082181120
def bitsP : Nat := 9218868437227405312
theorem bits_lt : bitsN < 18446744073709551616 ∧ bitsM < 18446744073709551616 ∧ bitsP < 18446744073709551616 := by decide
/-- Where the canonical floats stand. -/
def okF (low high : Nat) : Bool := meetsB (low, high) (placeF bitsM, placeF bitsP) || meetsB (low, high) (placeF bitsN, placeF bitsN)
def floatF (L : List UInt8) : Nat × Nat := (atF (digF 8 id okF L).1, (digF 8 id okF L).2)
theorem digF_lt (count : Nat) (fl : UInt8 → UInt8) (ok : Nat → Nat → Bool) (L : List UInt8) : (digF count fl ok L).1 < 256 ^ count := by
  have hp := Nat.pow_pos (n := count) (show 0 < 256 by omega)
  unfold digF
  split
  · exact hp
  · split
    · exact hp
    · exact Nat.lt_of_lt_of_le (nOf_lt count fl L) (Nat.pow_le_pow_right (by omega) (by unfold thereN; omega))
set_option maxRecDepth 100000 in
set_option maxHeartbeats 1000000 in
theorem NaN_any (w : World) : Calls Tryz.prog 178 #[] w fun e w' => e = .returned (.float .f64 bitsN) ∧ w = w' := by
  have hff := call_Float64frombits
  go_enter Tryz.func178, Tryz.ntmps178
  go_wp2
  go_ret
  exact ⟨rfl, rfl⟩
set_option maxRecDepth 100000 in
set_option maxHeartbeats 1000000 in
theorem Inf_neg (w : World) : Calls Tryz.prog 180 #[.int .i64 (-1)] w fun e w' => e = .returned (.float .f64 bitsM) ∧ w = w' := by
  have hff := call_Float64frombits
  go_enter Tryz.func180, Tryz.ntmps180
  go_wp2
  go_ret
  exact ⟨rfl, rfl⟩
set_option maxRecDepth 100000 in
set_option maxHeartbeats 1000000 in
theorem Inf_pos (w : World) : Calls Tryz.prog 180 #[.int .i64 1] w fun e w' => e = .returned (.float .f64 bitsP) ∧ w = w' := by
  have hff := call_Float64frombits
  go_enter Tryz.func180, Tryz.ntmps180
  go_wp2
  go_ret
  exact ⟨rfl, rfl⟩
set_option maxRecDepth 100000 in
set_option maxHeartbeats 2000000 in
theorem takeFloat_any (g k c : Nat) (A : Option Addr) (l : List UInt8) (w : World) (h : Rd w g k A c l) :
    Calls Tryz.prog 156 #[.pointer (some ⟨g, 0, none⟩)] w fun e w' => e = .returned (.tuple #[.float .f64 (floatF (l.drop k)).1, .int .i64 ((floatF (l.drop k)).2 : Nat)]) ∧ Moved w g (k + thereN 8 (l.drop k)) w' := by
  have K1 := Lib.hid NaN_any
  have K7 := Lib.hid Inf_neg
  have K8 := Lib.hid Inf_pos
  have K2 := Lib.hid (fun w => Canon_any bitsN w bits_lt.1)
  rw [show canonF bitsN = bitsN by decide] at K2
  have K3 := Lib.hid (fun w => place_any bitsN w bits_lt.1)
  have K4 := Lib.hid (fun w => place_any bitsM w bits_lt.2.1)
  have K5 := Lib.hid (fun w => place_any bitsP w bits_lt.2.2)
  have HF0 : okF = fun low high => meetsB (low, high) (placeF bitsM, placeF bitsP) || meetsB (low, high) (placeF bitsN, placeF bitsN) := rfl
  have HF : Hid (floatF (l.drop k) = (atF (digF 8 id okF (l.drop k)).1, (digF 8 id okF (l.drop k)).2)) := by exact rfl
  rw [HF0] at HF
  clear HF0
  generalize placeF bitsN = pN at *
  generalize placeF bitsM = pM at *
  generalize placeF bitsP = pP at *
  generalize bitsN = fN at *
  generalize bitsM = fM at *
  generalize bitsP = fP at *
  obtain ⟨ok, hok⟩ : ∃ ok : Nat → Nat → Bool, ok = fun low high => meetsB (low, high) (pM, pP) || meetsB (low, high) (pN, pN) := ⟨_, rfl⟩
  rw [← hok] at HF
  have C : Hid (Calls Tryz.prog 179 #[.pointer (some ⟨g, 0, none⟩), .int .i64 8, .int .u8 0, .slice (some ⟨w.heap.size, 0, none⟩) 2 2] (w.alloc (.cells #[.int .u64 pM, .int .u64 pP, .int .u64 pN, .int .u64 pN] 187)) fun e w' => e = .returned (.tuple #[.int .u64 ((digF 8 id ok (l.drop k)).1 : Nat), .int .i64 ((digF 8 id ok (l.drop k)).2 : Nat)]) ∧ Moved w g (k + thereN 8 (l.drop k)) w') := by
    have hb : Below w.heap.size w (w.alloc (.cells #[.int .u64 pM, .int .u64 pP, .int .u64 pN, .int .u64 pN] 187)) := (Below.refl _ _).alloc (Nat.le_refl _) _
    refine (takeDigits_any g k c 8 0 id A l _ ok _ (h.below hb) (by omega) xor_none (by rw [hok]; exact spans_two g w.heap.size pM pP pN pN _ (heap_alloc_new w _) (Nat.ne_of_gt h.lt))).mono ?_
    rintro e w' ⟨he, hm⟩
    exact ⟨he, Moved.after hb h.lt hm⟩
  have HN := Lib.hid (digF_lt 8 id ok (l.drop k))
  generalize digF 8 id ok (l.drop k) = r at *
  obtain ⟨n, er⟩ := r
  have K6 := Lib.hid (fun w => floatAt_any n w HN.out)
  clear h hok
  go_enter Tryz.func156, Tryz.ntmps156
  go_wp2_with (first
    | (go_at_call 178; ((with_reducible refine (K1.out _).mono ?_); rintro e w' ⟨rfl, rfl⟩))
    | (go_at_call 80; ((with_reducible refine (K2.out _).mono ?_); rintro e w' ⟨rfl, rfl⟩))
    | (go_at_call 124; ((with_reducible refine (K3.out _).mono ?_); rintro e w' ⟨rfl, rfl⟩))
    | (go_at_call 124; ((with_reducible refine (K4.out _).mono ?_); rintro e w' ⟨rfl, rfl⟩))
    | (go_at_call 124; ((with_reducible refine (K5.out _).mono ?_); rintro e w' ⟨rfl, rfl⟩))
    | (go_at_call 180; ((with_reducible refine (K7.out _).mono ?_); rintro e w' ⟨rfl, rfl⟩))
    | (go_at_call 180; ((with_reducible refine (K8.out _).mono ?_); rintro e w' ⟨rfl, rfl⟩))
    | (go_at_call 179; ((with_reducible refine (C.out).mono ?_); rintro e w3 ⟨rfl, hm⟩; have HM2 := Lib.hid hm; clear hm))
    | (go_at_call 181; ((with_reducible refine (K6.out _).mono ?_); rintro e w' ⟨rfl, rfl⟩)))
  go_ret2
  rw [HF.out]
  exact ⟨rfl, HM2.out⟩
end Go.Proofs.YtchklaepilcbbaaGreat

namespace Go.Proofs.YtchklaepilcbbaaGreat
open Go.RowKit
/-- What is answered of a string that is read: its bytes, an error's number, how many bytes went. -/
def scanT (most : Nat) : List UInt8 → List UInt8 → List UInt8 × Nat × Nat
  | _, [] => ([], 4, 0)
  | _, [c] => if c = 0 then ([], 4, 1) else ([], 4, 1)
  | acc, c :: m :: t =>
    if c = 0 then
      if m = 0 then (if most < acc.length then ([], 3, 2) else (acc, 0, 2))
      else if m = 255 then ((scanT most (acc ++ [0]) t).1, (scanT most (acc ++ [0]) t).2.1, (scanT most (acc ++ [0]) t).2.2 + 2)
      else ([], 5, 2)
    else ((scanT most (acc ++ [c]) (m :: t)).1, (scanT most (acc ++ [c]) (m :: t)).2.1, (scanT most (acc ++ [c]) (m :: t)).2.2 + 1)
/-- A piece of it, some bytes on. -/
def scanOn (most i : Nat) (acc L : List UInt8) : List UInt8 × Nat × Nat := ((scanT most acc L).1, (scanT most acc L).2.1, (scanT most acc L).2.2 + i)
theorem scanOn_zero (most : Nat) (acc L : List UInt8) : scanOn most 0 acc L = scanT most acc L := rfl
theorem scanOn_none (most i : Nat) (acc : List UInt8) : scanOn most i acc [] = ([], 4, i) := by simp [scanOn, scanT]
theorem scanOn_byte (most i : Nat) (acc : List UInt8) (c : UInt8) (t : List UInt8) (h : c ≠ 0) : scanOn most i acc (c :: t) = scanOn most (i + 1) (acc ++ [c]) t := by
  cases t with
  | nil => simp [scanOn, scanT, Nat.add_comm]
  | cons m t => simp [scanOn, scanT, h]; omega
theorem scanOn_cut (most i : Nat) (acc : List UInt8) : scanOn most i acc [0] = ([], 4, i + 1) := by simp [scanOn, scanT, Nat.add_comm]
theorem scanOn_long (most i : Nat) (acc t : List UInt8) (h : most < acc.length) : scanOn most i acc (0 :: 0 :: t) = ([], 3, i + 1 + 1) := by simp [scanOn, scanT, h]; omega
theorem scanOn_end (most i : Nat) (acc t : List UInt8) (h : ¬ most < acc.length) : scanOn most i acc (0 :: 0 :: t) = (acc, 0, i + 1 + 1) := by simp [scanOn, scanT, h]; omega
theorem scanOn_form (most i : Nat) (acc : List UInt8) (m : UInt8) (t : List UInt8) (h : m ≠ 0) (h2 : m ≠ 255) : scanOn most i acc (0 :: m :: t) = ([], 5, i + 1 + 1) := by simp [scanOn, scanT, h, h2]; omega
theorem scanOn_inner (most i : Nat) (acc t : List UInt8) : scanOn most i acc (0 :: 255 :: t) = scanOn most (i + 1 + 1) (acc ++ [0]) t := by
  simp [scanOn, scanT]; omega
theorem own_at {w : World} {base n cap : Nat} {P : Option Addr} {acc : List UInt8} (h : w.ownsRow base 5 1 (.slice P n cap) n (cellsB acc)) : At w P acc := by
  intro h0
  have hl : acc.length = n := by have := h.1; rw [cellsB_length] at this; omega
  obtain ⟨g, cap', hv, hb, hlt⟩ := h.form (by omega)
  injection hv with hP
  subst hP
  refine ⟨g, 0, rfl, hlt, fun i hi => ?_⟩
  have hc := h.cells (g := g) rfl i (bv (acc.getD i 0)) (by simp [cellsB, List.getD, hi])
  rw [add_plain] at hc
  exact hc
theorem conv_text (w : World) (A : Option Addr) (l : List UInt8) (c : Nat) (hA : At w A l) : (convert 25 9 (.slice A l.length c)).run Tryz.prog w = .ok (.string ⟨l.toArray⟩) w := by
  cases A with
  | none =>
    have hl : l = [] := by
      rcases Nat.eq_zero_or_pos l.length with e | e
      · exact List.eq_nil_of_length_eq_zero e
      · obtain ⟨b, off, h, _⟩ := hA e; cases h
    subst hl
    exact run_convert_bytes_nil w _ _ Tryz.underlying25 Tryz.underlying5 _ _ _ Tryz.underlying9
  | some a =>
    refine run_convert_bytes_back w _ _ _ a c l Tryz.underlying25 Tryz.underlying5 Tryz.underlying9 (fun j hj => ?_)
    exact hA.cells j _ (by simp [cellsB, bv, hj])
/-- What the loop of takeText keeps. -/
def ScanInv (w : World) (g k : Nat) (l : List UInt8) (m : Nat) (P : Option Addr) (cap i : Nat) (acc : List UInt8) (wr : World) : Prop :=
  wr.ownsRow w.heap.size 5 1 (.slice P acc.length cap) acc.length (cellsB acc) ∧ Moved w g (k + i) wr ∧ k + i ≤ l.length ∧ acc.length ≤ i ∧ scanT m [] (l.drop k) = scanOn m i acc (l.drop (k + i))
/-- Where the reader in block g stands. -/
def posOf (g : Nat) (w : World) : Nat := (intOf ((w.cell? ⟨g, 1, none⟩).getD undef)).toNat
theorem posOf_eq {w : World} {g k c : Nat} {A : Option Addr} {l : List UInt8} (h : Rd w g k A c l) : posOf g w = k := by
  unfold posOf
  rw [h.c1]
  simp [intOf]
theorem owns_moved {w wr w2 : World} {g j n cap : Nat} {P : Option Addr} {xs : List Value} (h : wr.ownsRow w.heap.size 5 1 (.slice P n cap) n xs) (hg : g < w.heap.size) (hm : Moved wr g j w2) : w2.ownsRow w.heap.size 5 1 (.slice P n cap) n xs := by
  have hgr : wr.grownBy w2 (some g) := ⟨hm.os.1, hm.os.2.1, hm.os.2.2, Moved.size hm, fun b hb hne => Moved.far hm hb (fun e => hne (by rw [e]))⟩
  refine h.kept hgr ?_
  cases hP : Value.ownBlock (.slice P n cap) with
  | none => exact .inl rfl
  | some b =>
    right
    intro e
    injection e with e
    have := (h.lt b hP).1
    omega
theorem ScanInv.step {w wr w2 w3 : World} {g k c m i j cap g' cap' : Nat} {l acc : List UInt8} {A P : Option Addr} {y : UInt8} {x : Int} {o : Obj} (hx : x = (y.toNat : Int))
    (hm : Moved w g (k + i) wr) (hm2 : Moved wr g (k + j) w2) (ho : w2.ownsRow w.heap.size 5 1 (.slice P acc.length cap) acc.length (cellsB acc)) (hs : w.heap.size ≤ w2.heap.size)
    (hown : w3.ownsRow w.heap.size 5 1 (.slice (some ⟨g', 0, none⟩) (acc.length + 1) cap') (acc.length + 1) (cellsB acc ++ [.int .u8 x]))
    (hgr : (w2.alloc o).grownBy w3 (Value.ownBlock (.slice P acc.length cap))) (hj : k + j ≤ l.length) (hij : acc.length + 1 ≤ j) (h : Rd w g k A c l)
    (hsc : scanT m [] (l.drop k) = scanOn m j (acc ++ [y]) (l.drop (k + j))) : ScanInv w g k l m (some ⟨g', 0, none⟩) cap' j (acc ++ [y]) w3 ∧ posOf g w3 = k + j := by
  have hmv : Moved w g (k + j) w3 := (Below.alloc (hm.trans hm2) hs o).grown hgr (Nat.le_trans hs (by simp)) (fun b hb => (ho.lt b hb).1)
  refine ⟨⟨?_, hmv, hj, by simpa using hij, hsc⟩, posOf_eq (h.moved hmv hj)⟩
  rw [cellsB_append, List.length_append, List.length_singleton]
  have e : cellsB [y] = [.int .u8 x] := by rw [hx]; rfl
  rw [e]
  exact hown
set_option maxRecDepth 100000 in
set_option maxHeartbeats 4000000 in
theorem takeText_any (g k c m : Nat) (A : Option Addr) (l : List UInt8) (w : World) (h : Rd w g k A c l) (hm : m ≤ 9223372036854775807) :
    Calls Tryz.prog 159 #[.pointer (some ⟨g, 0, none⟩), .int .i64 m] w fun e w' => e = .returned (.tuple #[.string ⟨(scanT m [] (l.drop k)).1.toArray⟩, .int .i64 ((scanT m [] (l.drop k)).2.1 : Nat)]) ∧ Moved w g (k + (scanT m [] (l.drop k)).2.2) w' := by
  obtain ⟨i0, hi, hz0, hz1, hz2⟩ := info_parts info8
  have H := Lib.hid h
  have hb := h.2.1
  have HST : Hid (ScanInv w g k l m none 0 0 [] w) := ⟨⟨by simp [cellsB], .inl ⟨rfl, rfl⟩⟩, Moved.stay h (Below.refl _ _), hb.1, Nat.le_refl _, (scanOn_zero _ _ _).symm⟩
  have t0 : (0 : Int) ≤ (m : Int) := by omega
  clear h hm
  go_enter Tryz.func159, Tryz.ntmps159
  go_wp2
  go_loopw [6] (fun v wr => ∃ (P : Option Addr) (cap i : Nat) (acc : List UInt8), v = .slice P acc.length cap ∧ ScanInv w g k l m P cap i acc wr) (fun _ wr => l.length - posOf g wr)
  case atStart => exact ⟨none, 0, 0, [], rfl, HST.out⟩
  case round =>
    obtain ⟨P, cap, i, acc, rfl, hI⟩ := hrel
    obtain ⟨ho, hmv, hi1, hi2, hs⟩ := hI
    have hrd := H.out.moved hmv hi1
    have hpos := posOf_eq hrd
    have HO := Lib.hid ho
    have HM := Lib.hid hmv
    have HS := Lib.hid hs
    have HR := Lib.hid hrd
    have HP := Lib.hid hpos
    clear ho hmv hs hrd hpos
    by_cases hlt : k + i < l.length
    · have hA1 : acc.length + 1 ≤ maxLen := by unfold maxLen; omega
      have hA2 : (acc.length + 1) * 1 ≤ 140737488355328 := by omega
      have HG := Lib.hid H.out.lt
      have hC := takeByte_more g (k + i) c A l wr HR.out hlt
      obtain ⟨y, hy⟩ : ∃ y : UInt8, y = l.getD (k + i) 0 := ⟨_, rfl⟩
      rw [drop_more l (k + i) hlt, ← hy] at HS
      rw [← hy] at hC
      clear hy
      by_cases hy0 : y = 0
      · subst hy0
        have C1 : Hid (Calls Tryz.prog 173 #[.pointer (some ⟨g, 0, none⟩)] wr fun e w' => e = .returned (.tuple #[.int .u8 0, .int .i64 0]) ∧ Moved wr g (k + i + 1) w') := hC
        clear hC
        by_cases hlt2 : k + i + 1 < l.length
        · obtain ⟨z, hz⟩ : ∃ z : UInt8, z = l.getD (k + i + 1) 0 := ⟨_, rfl⟩
          have hC2 : ∀ w2, Moved wr g (k + i + 1) w2 → Calls Tryz.prog 173 #[.pointer (some ⟨g, 0, none⟩)] w2 fun e w' => e = .returned (.tuple #[.int .u8 (z.toNat : Int), .int .i64 0]) ∧ Moved w2 g (k + i + 1 + 1) w' := by
            intro w2 hm
            rw [hz]
            exact takeByte_more g (k + i + 1) c A l w2 (HR.out.moved hm (by omega)) hlt2
          rw [drop_more l (k + i + 1) hlt2, ← hz] at HS
          clear hz
          by_cases hz0 : z = 0
          · subst hz0
            have C2 : Hid (∀ w2, Moved wr g (k + i + 1) w2 → Calls Tryz.prog 173 #[.pointer (some ⟨g, 0, none⟩)] w2 fun e w' => e = .returned (.tuple #[.int .u8 0, .int .i64 0]) ∧ Moved w2 g (k + i + 1 + 1) w') := hC2
            clear hC2
            by_cases hlong : m < acc.length
            · rw [scanOn_long m i acc _ hlong] at HS
              go_wp2_with (first | (go_at_call 173; ((with_reducible refine (C1.out).mono ?_); rintro e w2 ⟨rfl, hm⟩; have HM2 := Lib.hid hm; clear hm)) | (go_at_call 173; ((with_reducible refine (C2.out _ HM2.out).mono ?_); rintro e w3 ⟨rfl, hm⟩; have HM3 := Lib.hid (HM2.out.trans hm); clear hm)))
              go_ret2
              rw [HS.out]
              exact ⟨rfl, HM.out.trans HM3.out⟩
            · rw [scanOn_end m i acc _ hlong] at HS
              have tl : decide (m < acc.length) = false := by simp; omega
              have hct := fun w2 hm => conv_text w2 P acc cap (own_at (owns_moved (w2 := w2) (j := k + i + 1 + 1) HO.out HG.out hm))
              have HCT := Lib.hid hct
              clear hct hlong
              go_wp2_with (first | (go_at_call 173; ((with_reducible refine (C1.out).mono ?_); rintro e w2 ⟨rfl, hm⟩; have HM2 := Lib.hid hm; clear hm)) | (go_at_call 173; ((with_reducible refine (C2.out _ HM2.out).mono ?_); rintro e w3 ⟨rfl, hm⟩; have HM3 := Lib.hid (HM2.out.trans hm); have hct := HCT.out _ HM3.out; clear hm)))
              go_ret2
              rw [HS.out]
              exact ⟨rfl, HM.out.trans HM3.out⟩
          · by_cases hz1' : z = 255
            · subst hz1'
              have C2 : Hid (∀ w2, Moved wr g (k + i + 1) w2 → Calls Tryz.prog 173 #[.pointer (some ⟨g, 0, none⟩)] w2 fun e w' => e = .returned (.tuple #[.int .u8 255, .int .i64 0]) ∧ Moved w2 g (k + i + 1 + 1) w') := hC2
              rw [scanOn_inner m i acc _] at HS
              clear hC2 hz0
              go_wp2_with (first | (go_at_call 173; ((with_reducible refine (C1.out).mono ?_); rintro e w2 ⟨rfl, hm⟩; have HM2 := Lib.hid hm; clear hm)) | (go_at_call 173; ((with_reducible refine (C2.out _ HM2.out).mono ?_); rintro e w3 ⟨rfl, hm⟩; have HM3 := Lib.hid (HM2.out.trans hm); clear hm)) | (at_builtin; refine wpList_append_lies _ rfl _ _ _ rfl w.heap.size 5 i0 _ 1 1 Tryz.underlying25 hi hz0 hz1 hz2 rfl (by omega) (.slice P acc.length cap) acc.length (cellsB acc) rfl ((owns_moved HO.out HG.out HM3.out).alloc _) _ 1 1 [.int .u8 0] rfl rfl (cell_one_new _ _ _) (one_cell _ _) (by omega) hA1 hA2 (Nat.le_trans (Nat.le_trans HM.out.size HM3.out.size) (by simp)) _ rfl ?_; intro g' cap' w4 hown hgr _ _; have H4 := Lib.hid hown; have G4 := Lib.hid hgr; clear hown hgr))
              have hst := ScanInv.step (y := 0) (x := 0) (j := i + 1 + 1) (m := m) (l := l) rfl HM.out HM3.out (owns_moved HO.out HG.out HM3.out) (Nat.le_trans HM.out.size HM3.out.size) H4.out G4.out (by omega) (by omega) H.out HS.out
              exact ⟨⟨_, cap', i + 1 + 1, acc ++ [0], by simp, hst.1⟩, by rw [hst.2, HP.out]; omega⟩
            · obtain ⟨x, hx⟩ : ∃ x : Int, x = (z.toNat : Int) := ⟨_, rfl⟩
              have C2 := Lib.hid hC2
              rw [← hx] at C2
              rw [scanOn_form m i acc z _ hz0 hz1'] at HS
              have t1 : (x == 0) = false := by
                simp
                intro e
                exact hz0 (UInt8.toNat_inj.1 (by show z.toNat = 0; omega))
              have t2 : (x != 255) = true := by
                simp
                intro e
                exact hz1' (UInt8.toNat_inj.1 (by show z.toNat = 255; omega))
              clear hC2 hz0 hz1' hx
              go_wp2_with (first | (go_at_call 173; ((with_reducible refine (C1.out).mono ?_); rintro e w2 ⟨rfl, hm⟩; have HM2 := Lib.hid hm; clear hm)) | (go_at_call 173; ((with_reducible refine (C2.out _ HM2.out).mono ?_); rintro e w3 ⟨rfl, hm⟩; have HM3 := Lib.hid (HM2.out.trans hm); clear hm)))
              go_ret2
              rw [HS.out]
              exact ⟨rfl, HM.out.trans HM3.out⟩
        · have C2 : Hid (∀ w2, Moved wr g (k + i + 1) w2 → Calls Tryz.prog 173 #[.pointer (some ⟨g, 0, none⟩)] w2 fun e w' => e = .returned (.tuple #[.int .u8 0, .int .i64 4]) ∧ Moved w2 g (k + i + 1) w') :=
            fun w2 hm => takeByte_end g (k + i + 1) c A l w2 (HR.out.moved hm (by omega)) (by omega)
          rw [drop_none l (k + i + 1) (by omega), scanOn_cut] at HS
          go_wp2_with (first | (go_at_call 173; ((with_reducible refine (C1.out).mono ?_); rintro e w2 ⟨rfl, hm⟩; have HM2 := Lib.hid hm; clear hm)) | (go_at_call 173; ((with_reducible refine (C2.out _ HM2.out).mono ?_); rintro e w3 ⟨rfl, hm⟩; have HM3 := Lib.hid (HM2.out.trans hm); clear hm)))
          go_ret2
          rw [HS.out]
          exact ⟨rfl, HM.out.trans HM3.out⟩
      · obtain ⟨x, hx⟩ : ∃ x : Int, x = (y.toNat : Int) := ⟨_, rfl⟩
        have C1 := Lib.hid hC
        rw [← hx] at C1
        rw [scanOn_byte m i acc y _ hy0] at HS
        have t1 : (x == 0) = false := by
          simp
          intro e
          exact hy0 (UInt8.toNat_inj.1 (by show y.toNat = 0; omega))
        have HX := Lib.hid hx
        clear hC hy0 hx
        go_wp2_with (first | (go_at_call 173; ((with_reducible refine (C1.out).mono ?_); rintro e w2 ⟨rfl, hm⟩; have HM2 := Lib.hid hm; clear hm)) | (at_builtin; refine wpList_append_lies _ rfl _ _ _ rfl w.heap.size 5 i0 _ 1 1 Tryz.underlying25 hi hz0 hz1 hz2 rfl (by omega) (.slice P acc.length cap) acc.length (cellsB acc) rfl ((owns_moved HO.out HG.out HM2.out).alloc _) _ 1 1 [.int .u8 x] rfl rfl (cell_one_new _ _ _) (one_cell _ _) (by omega) hA1 hA2 (Nat.le_trans (Nat.le_trans HM.out.size HM2.out.size) (by simp)) _ rfl ?_; intro g' cap' w4 hown hgr _ _; have H4 := Lib.hid hown; have G4 := Lib.hid hgr; clear hown hgr))
        have hst := ScanInv.step (j := i + 1) (m := m) (l := l) HX.out HM.out HM2.out (owns_moved HO.out HG.out HM2.out) (Nat.le_trans HM.out.size HM2.out.size) H4.out G4.out (by omega) (by omega) H.out HS.out
        exact ⟨⟨_, cap', i + 1, acc ++ [y], by simp, hst.1⟩, by rw [hst.2, HP.out]; omega⟩
    · have C := Lib.hid (takeByte_end g (k + i) c A l wr HR.out (by omega))
      rw [drop_none l (k + i) (by omega), scanOn_none] at HS
      go_wp2_with (go_at_call 173; ((with_reducible refine (C.out).mono ?_); rintro e w2 ⟨rfl, hm⟩; have HM2 := Lib.hid hm; clear hm))
      go_ret2
      rw [HS.out]
      exact ⟨rfl, HM.out.trans HM2.out⟩
end Go.Proofs.YtchklaepilcbbaaGreat

namespace Go.Proofs.YtchklaepilcbbaaGreat
open Go.RowKit
theorem enter_Num1 : ∀ args w, (callFunc 151 args).run Tryz.prog w = .ok (.enter 151 args) w := fun _ _ => by kernel_rfl
theorem enter_Text1 : ∀ args w, (callFunc 158 args).run Tryz.prog w = .ok (.enter 158 args) w := fun _ _ => by kernel_rfl
theorem enter_takeInt : ∀ args w, (callFunc 154 args).run Tryz.prog w = .ok (.enter 154 args) w := fun _ _ => by kernel_rfl
theorem enter_takeFloat : ∀ args w, (callFunc 156 args).run Tryz.prog w = .ok (.enter 156 args) w := fun _ _ => by kernel_rfl
theorem enter_takeByte : ∀ args w, (callFunc 173 args).run Tryz.prog w = .ok (.enter 173 args) w := fun _ _ => by kernel_rfl
theorem sizedC_le (count : Nat) (L : List UInt8) : sizedC count L ≤ L.length := by unfold sizedC thereN; split <;> omega
theorem numC_le (L : List UInt8) : numC L ≤ L.length := by
  cases L with
  | nil => exact Nat.le_refl _
  | cons h t => have := sizedC_le h.toNat t; simp [numC]; omega
theorem intC_le (L : List UInt8) : intC L ≤ L.length := by
  cases L with
  | nil => exact Nat.le_refl _
  | cons h t =>
    have h1 := sizedC_le (h.toNat - 16) t
    have h2 := sizedC_le (15 - h.toNat) t
    simp only [intC, List.length_cons]
    split <;> omega
theorem floatC_le (L : List UInt8) : thereN 8 L ≤ L.length := by unfold thereN; omega
theorem scanT_le (m : Nat) : ∀ (n : Nat) (acc L : List UInt8), L.length ≤ n → (scanT m acc L).2.2 ≤ L.length
  | _, _, [], _ => by simp [scanT]
  | _, _, [_], _ => by simp [scanT]
  | 0, _, _ :: _ :: _, h => by simp at h
  | n + 1, acc, c :: d :: t, h => by
    have i1 := scanT_le m n (acc ++ [0]) t (by simp at h; omega)
    have i2 := scanT_le m n (acc ++ [c]) (d :: t) (by simp at h ⊢; omega)
    simp only [List.length_cons] at i1 i2 ⊢
    unfold scanT
    split
    · split
      · split <;> simp
      · split
        · simp; omega
        · simp
    · simp; omega
/-- What a call of the reader answers of the bytes that remain, its error's number, and how far it moves. -/
def numE (most : Nat) (L : List UInt8) : Nat := (numF most L).2
def numV (most : Nat) (L : List UInt8) : Nat := if numE most L = 0 then (numF most L).1 else 0
def numM (most : Nat) (L : List UInt8) : Nat := if numE most L = 0 then numC L else 0
def intE (L : List UInt8) : Nat := (intF L).2
def intV (L : List UInt8) : Int := if intE L = 0 then (intF L).1 else 0
def intM (L : List UInt8) : Nat := if intE L = 0 then intC L else 0
def floatE (L : List UInt8) : Nat := (floatF L).2
def floatV (L : List UInt8) : Nat := if floatE L = 0 then (floatF L).1 else 0
def floatM (L : List UInt8) : Nat := if floatE L = 0 then thereN 8 L else 0
def textE (m : Nat) (L : List UInt8) : Nat := (scanT m [] L).2.1
def textV (m : Nat) (L : List UInt8) : List UInt8 := if textE m L = 0 then (scanT m [] L).1 else []
def textM (m : Nat) (L : List UInt8) : Nat := if textE m L = 0 then (scanT m [] L).2.2 else 0
def byteE : List UInt8 → Nat
  | [] => 4
  | _ :: _ => 0
def byteV : List UInt8 → UInt8
  | [] => 0
  | c :: _ => c
def byteM : List UInt8 → Nat
  | [] => 0
  | _ :: _ => 1
theorem byteM_le (L : List UInt8) : byteM L ≤ L.length := by cases L <;> simp [byteM]
theorem takeByte_any (g k c : Nat) (A : Option Addr) (l : List UInt8) (w : World) (h : Rd w g k A c l) :
    Calls Tryz.prog 173 #[.pointer (some ⟨g, 0, none⟩)] w fun e w' => e = .returned (.tuple #[.int .u8 ((byteV (l.drop k)).toNat : Int), .int .i64 (byteE (l.drop k) : Nat)]) ∧ Moved w g (k + byteM (l.drop k)) w' := by
  have hb := h.2.1.1
  rcases Nat.lt_or_ge k l.length with hk | hk
  · rw [drop_more l k hk]
    exact takeByte_more g k c A l w h hk
  · rw [drop_none l k (by omega)]
    exact takeByte_end g k c A l w h (by omega)
set_option maxRecDepth 100000 in
set_option maxHeartbeats 1000000 in
theorem Num1_any (g k c : Nat) (most : Nat) (A : Option Addr) (l : List UInt8) (p q : Addr) (w : World) (h : Rd w g k A c l) (hp : w.cell? p = some (.pointer (some ⟨g, 0, none⟩))) (hq : w.cell? q = some (.int .u64 most)) :
    Calls Tryz.prog 151 #[.pointer (some p), .pointer (some q)] w fun e w' => e = .returned (.tuple #[.int .u64 ((numF most (l.drop k)).1 : Nat), .int .i64 ((numF most (l.drop k)).2 : Nat)]) ∧ Moved w g (k + numC (l.drop k)) w' := by
  have C := Lib.hid (takeNum_any g k c most A l w h)
  clear h
  go_enter Tryz.func151, Tryz.ntmps151
  go_wp2_with (go_at_call 152; ((with_reducible refine (C.out).mono ?_); rintro e w2 ⟨rfl, hm⟩))
  go_ret2
  exact ⟨rfl, hm⟩
set_option maxRecDepth 100000 in
set_option maxHeartbeats 1000000 in
theorem Text1_any (g k c : Nat) (m : Nat) (A : Option Addr) (l : List UInt8) (p q : Addr) (w : World) (h : Rd w g k A c l) (hm : m ≤ 9223372036854775807) (hp : w.cell? p = some (.pointer (some ⟨g, 0, none⟩))) (hq : w.cell? q = some (.int .i64 m)) :
    Calls Tryz.prog 158 #[.pointer (some p), .pointer (some q)] w fun e w' => e = .returned (.tuple #[.string ⟨(scanT m [] (l.drop k)).1.toArray⟩, .int .i64 ((scanT m [] (l.drop k)).2.1 : Nat)]) ∧ Moved w g (k + (scanT m [] (l.drop k)).2.2) w' := by
  have C := Lib.hid (takeText_any g k c m A l w h hm)
  clear h hm
  go_enter Tryz.func158, Tryz.ntmps158
  go_wp2_with (go_at_call 159; ((with_reducible refine (C.out).mono ?_); rintro e w2 ⟨rfl, hm⟩))
  go_ret2
  exact ⟨rfl, hm⟩
set_option maxRecDepth 100000 in
set_option maxHeartbeats 1000000 in
theorem RNum_any (g k c : Nat) (most : Nat) (A : Option Addr) (l : List UInt8) (w : World) (h : Rd w g k A c l) :
    Calls Tryz.prog 129 #[.pointer (some ⟨g, 0, none⟩), .int .u64 most] w fun e w' => e = .returned (.tuple #[.int .u64 (numV most (l.drop k) : Nat), .int .i64 (numE most (l.drop k) : Nat)]) ∧ Moved w g (k + numM most (l.drop k)) w' := by
  have hlt := h.lt
  have hbw : Below w.heap.size w ((w.alloc (.cells #[.pointer (some ⟨g, 0, none⟩)] 117)).alloc (.cells #[.int .u64 most] 39)) := ((Below.refl _ _).alloc (Nat.le_refl _) _).alloc (by simp) _
  have hk : k + numC (l.drop k) ≤ l.length := by have := numC_le (l.drop k); have := h.2.1.1; simp only [List.length_drop] at *; omega
  have C := stepU_any g k (k + numC (l.drop k)) c A l _ 151 #[] #[.pointer (some ⟨w.heap.size, 0, none⟩), .pointer (some ⟨w.heap.size + 1, 0, none⟩)] (((numF most (l.drop k)).1 : Nat)) (numE most (l.drop k)) (h.below hbw) hk enter_Num1 (fun W hW => by
    have hp : W.cell? ⟨w.heap.size, 0, none⟩ = some (.pointer (some ⟨g, 0, none⟩)) := by
      rw [hW.cell (p := ⟨w.heap.size, 0, none⟩) (by simp <;> omega), World.cell?_alloc_lt _ _ _ (by simp)]; simp
    have hq : W.cell? ⟨w.heap.size + 1, 0, none⟩ = some (.int .u64 most) := by
      rw [hW.cell (p := ⟨w.heap.size + 1, 0, none⟩) (by simp)]; simp
    exact Num1_any g k c most A l _ _ W ((h.below hbw).below hW) hp hq)
  have hV : (if numE most (l.drop k) = 0 then (.int .u64 ((numF most (l.drop k)).1 : Nat) : Value) else .int .u64 0) = .int .u64 (numV most (l.drop k) : Nat) := by
    unfold numV
    by_cases hc : numE most (l.drop k) = 0 <;> simp [hc]
  have hJ : (if numE most (l.drop k) = 0 then k + numC (l.drop k) else k) = k + numM most (l.drop k) := by
    unfold numM
    by_cases hc : numE most (l.drop k) = 0 <;> simp [hc]
  have hC := C.mono fun e w' ⟨he, hm⟩ => (⟨he, Moved.after hbw hlt hm⟩ : _ ∧ Moved w g _ w')
  rw [hV, hJ] at hC
  have HC := Lib.hid hC
  clear C hC h hk hbw hV hJ
  go_enter Tryz.func129, Tryz.ntmps129
  go_wp2_with (go_at_call 150; ((refine (HC.out).mono ?_); rintro e w2 ⟨rfl, hm⟩))
  go_ret2
  exact ⟨rfl, hm⟩
set_option maxRecDepth 100000 in
set_option maxHeartbeats 1000000 in
theorem RText_any (g k c : Nat) (m : Nat) (A : Option Addr) (l : List UInt8) (w : World) (h : Rd w g k A c l) (hm : m ≤ 9223372036854775807) :
    Calls Tryz.prog 132 #[.pointer (some ⟨g, 0, none⟩), .int .i64 m] w fun e w' => e = .returned (.tuple #[.string ⟨(textV m (l.drop k)).toArray⟩, .int .i64 (textE m (l.drop k) : Nat)]) ∧ Moved w g (k + textM m (l.drop k)) w' := by
  have hlt := h.lt
  have hbw : Below w.heap.size w ((w.alloc (.cells #[.pointer (some ⟨g, 0, none⟩)] 117)).alloc (.cells #[.int .i64 m] 3)) := ((Below.refl _ _).alloc (Nat.le_refl _) _).alloc (by simp) _
  have hk : k + (scanT m [] (l.drop k)).2.2 ≤ l.length := by have := scanT_le m _ [] (l.drop k) (Nat.le_refl _); have := h.2.1.1; simp only [List.length_drop] at *; omega
  have C := stepS_any g k (k + (scanT m [] (l.drop k)).2.2) c A l _ 158 #[] #[.pointer (some ⟨w.heap.size, 0, none⟩), .pointer (some ⟨w.heap.size + 1, 0, none⟩)] (⟨(scanT m [] (l.drop k)).1.toArray⟩) (textE m (l.drop k)) (h.below hbw) hk enter_Text1 (fun W hW => by
    have hp : W.cell? ⟨w.heap.size, 0, none⟩ = some (.pointer (some ⟨g, 0, none⟩)) := by
      rw [hW.cell (p := ⟨w.heap.size, 0, none⟩) (by simp <;> omega), World.cell?_alloc_lt _ _ _ (by simp)]; simp
    have hq : W.cell? ⟨w.heap.size + 1, 0, none⟩ = some (.int .i64 m) := by
      rw [hW.cell (p := ⟨w.heap.size + 1, 0, none⟩) (by simp)]; simp
    exact Text1_any g k c m A l _ _ W ((h.below hbw).below hW) hm hp hq)
  have hV : (if textE m (l.drop k) = 0 then (.string ⟨(scanT m [] (l.drop k)).1.toArray⟩ : Value) else .string ⟨#[]⟩) = .string ⟨(textV m (l.drop k)).toArray⟩ := by
    unfold textV
    by_cases hc : textE m (l.drop k) = 0 <;> simp [hc]
  have hJ : (if textE m (l.drop k) = 0 then k + (scanT m [] (l.drop k)).2.2 else k) = k + textM m (l.drop k) := by
    unfold textM
    by_cases hc : textE m (l.drop k) = 0 <;> simp [hc]
  have hC := C.mono fun e w' ⟨he, hm⟩ => (⟨he, Moved.after hbw hlt hm⟩ : _ ∧ Moved w g _ w')
  rw [hV, hJ] at hC
  have HC := Lib.hid hC
  clear C hC h hk hbw hV hJ
  go_enter Tryz.func132, Tryz.ntmps132
  go_wp2_with (go_at_call 157; ((refine (HC.out).mono ?_); rintro e w2 ⟨rfl, hm⟩))
  go_ret2
  exact ⟨rfl, hm⟩
set_option maxRecDepth 100000 in
set_option maxHeartbeats 1000000 in
theorem RInt_any (g k c : Nat) (A : Option Addr) (l : List UInt8) (w : World) (h : Rd w g k A c l) :
    Calls Tryz.prog 130 #[.pointer (some ⟨g, 0, none⟩)] w fun e w' => e = .returned (.tuple #[.int .i64 (intV (l.drop k)), .int .i64 (intE (l.drop k) : Nat)]) ∧ Moved w g (k + intM (l.drop k)) w' := by
  have hmf : ∀ (fn : Fn) (first cap : Array Value) (w : World), (Instr.makeFunc fn first cap).run Tryz.prog w = .ok (.func fn first cap) w := fun _ _ _ _ => rfl
  have hk : k + intC (l.drop k) ≤ l.length := by have := intC_le (l.drop k); have := h.2.1.1; simp only [List.length_drop] at *; omega
  have C := stepI_any g k (k + intC (l.drop k)) c A l w 154 #[.pointer (some ⟨g, 0, none⟩)] #[] ((intF (l.drop k)).1) (intE (l.drop k)) h hk enter_takeInt (fun W hW => takeInt_any g k c A l W (h.below hW))
  have hV : (if intE (l.drop k) = 0 then (.int .i64 (intF (l.drop k)).1 : Value) else .int .i64 0) = .int .i64 (intV (l.drop k)) := by
    unfold intV; by_cases hc : intE (l.drop k) = 0 <;> simp [hc]
  have hJ : (if intE (l.drop k) = 0 then k + intC (l.drop k) else k) = k + intM (l.drop k) := by
    unfold intM; by_cases hc : intE (l.drop k) = 0 <;> simp [hc]
  rw [hV, hJ] at C
  have HC := Lib.hid C
  clear C h hk hV hJ
  go_enter Tryz.func130, Tryz.ntmps130
  go_wp2_with (go_at_call 153; ((refine (HC.out).mono ?_); rintro e w2 ⟨rfl, hm⟩))
  go_ret2
  exact ⟨rfl, hm⟩
set_option maxRecDepth 100000 in
set_option maxHeartbeats 1000000 in
theorem RFloat_any (g k c : Nat) (A : Option Addr) (l : List UInt8) (w : World) (h : Rd w g k A c l) :
    Calls Tryz.prog 131 #[.pointer (some ⟨g, 0, none⟩)] w fun e w' => e = .returned (.tuple #[.float .f64 (floatV (l.drop k)), .int .i64 (floatE (l.drop k) : Nat)]) ∧ Moved w g (k + floatM (l.drop k)) w' := by
  have hmf : ∀ (fn : Fn) (first cap : Array Value) (w : World), (Instr.makeFunc fn first cap).run Tryz.prog w = .ok (.func fn first cap) w := fun _ _ _ _ => rfl
  have hk : k + thereN 8 (l.drop k) ≤ l.length := by have := floatC_le (l.drop k); have := h.2.1.1; simp only [List.length_drop] at *; omega
  have C := stepF_any g k (k + thereN 8 (l.drop k)) c A l w 156 #[.pointer (some ⟨g, 0, none⟩)] #[] ((floatF (l.drop k)).1) (floatE (l.drop k)) h hk enter_takeFloat (fun W hW => takeFloat_any g k c A l W (h.below hW))
  have hV : (if floatE (l.drop k) = 0 then (.float .f64 (floatF (l.drop k)).1 : Value) else .float .f64 0) = .float .f64 (floatV (l.drop k)) := by
    unfold floatV; by_cases hc : floatE (l.drop k) = 0 <;> simp [hc]
  have hJ : (if floatE (l.drop k) = 0 then k + thereN 8 (l.drop k) else k) = k + floatM (l.drop k) := by
    unfold floatM; by_cases hc : floatE (l.drop k) = 0 <;> simp [hc]
  rw [hV, hJ] at C
  have HC := Lib.hid C
  clear C h hk hV hJ
  go_enter Tryz.func131, Tryz.ntmps131
  go_wp2_with (go_at_call 155; ((refine (HC.out).mono ?_); rintro e w2 ⟨rfl, hm⟩))
  go_ret2
  exact ⟨rfl, hm⟩
set_option maxRecDepth 100000 in
set_option maxHeartbeats 1000000 in
theorem RByte_any (g k c : Nat) (A : Option Addr) (l : List UInt8) (w : World) (h : Rd w g k A c l) :
    Calls Tryz.prog 149 #[.pointer (some ⟨g, 0, none⟩)] w fun e w' => e = .returned (.tuple #[.int .u8 ((byteV (l.drop k)).toNat : Int), .int .i64 (byteE (l.drop k) : Nat)]) ∧ Moved w g (k + byteM (l.drop k)) w' := by
  have hmf : ∀ (fn : Fn) (first cap : Array Value) (w : World), (Instr.makeFunc fn first cap).run Tryz.prog w = .ok (.func fn first cap) w := fun _ _ _ _ => rfl
  have hk : k + byteM (l.drop k) ≤ l.length := by have := byteM_le (l.drop k); have := h.2.1.1; simp only [List.length_drop] at *; omega
  have C := stepB_any g k (k + byteM (l.drop k)) c A l w 173 #[.pointer (some ⟨g, 0, none⟩)] #[] (((byteV (l.drop k)).toNat : Int)) (byteE (l.drop k)) h hk enter_takeByte (fun W hW => takeByte_any g k c A l W (h.below hW))
  have hV : (if byteE (l.drop k) = 0 then (.int .u8 ((byteV (l.drop k)).toNat : Int) : Value) else .int .u8 0) = .int .u8 ((byteV (l.drop k)).toNat : Int) := by
    cases l.drop k <;> simp [byteE, byteV]
  have hJ : (if byteE (l.drop k) = 0 then k + byteM (l.drop k) else k) = k + byteM (l.drop k) := by
    cases l.drop k <;> simp [byteE, byteM]
  rw [hV, hJ] at C
  have HC := Lib.hid C
  clear C h hk hV hJ
  go_enter Tryz.func149, Tryz.ntmps149
  go_wp2_with (go_at_call 172; ((refine (HC.out).mono ?_); rintro e w2 ⟨rfl, hm⟩))
  go_ret2
  exact ⟨rfl, hm⟩
end Go.Proofs.YtchklaepilcbbaaGreat

namespace Go.Proofs.YtchklaepilcbbaaGreat
open Go.RowKit
theorem eql_nil8 (w : World) (a : Option Addr) (n c n' c' : Nat) : (binOp .eql 25 (.slice a n c) (.slice none n' c')).run Tryz.prog w = .ok (.bool a.isNone) w := Lib.run_eql_slice_nil w _ _ a n c n' c' Tryz.underlying25
/-- A slice that the call made, and its bytes. -/
def Made (w : World) (l : List UInt8) (e : Ending) (w' : World) : Prop :=
  ∃ P cap, e = .returned (.slice P l.length cap) ∧ w'.ownsRow w.heap.size 5 1 (.slice P l.length cap) l.length (cellsB l) ∧ Below w.heap.size w w'
theorem Made.mk' {w w' : World} {l : List UInt8} {v : Value} (h : w'.ownsRow w.heap.size 5 1 v l.length (cellsB l)) (hb : Below w.heap.size w w') : Made w l (.returned v) w' := by
  rcases h.2 with ⟨rfl, h0⟩ | ⟨g, cap, cur, rfl, _⟩
  · exact ⟨none, 0, by rw [h0], by rw [h0] at h ⊢; exact h, hb⟩
  · exact ⟨_, cap, rfl, h, hb⟩
set_option maxRecDepth 100000 in
set_option maxHeartbeats 1000000 in
theorem Clone_any (A : Option Addr) (l : List UInt8) (cap : Nat) (w : World) (hA : At w A l) (hz : A = none → cap = 0) (hm : l.length ≤ 140737488355328) :
    Calls Tryz.prog 126 #[.slice A l.length cap] w (Made w l) := by
  obtain ⟨i0, hi, hz0, hz1, hz2⟩ := info_parts info8
  have q := eql_nil8
  cases A with
  | none =>
    have hl : l = [] := by
      rcases Nat.eq_zero_or_pos l.length with e | e
      · exact List.eq_nil_of_length_eq_zero e
      · obtain ⟨b, off, h, _⟩ := hA e; cases h
    subst hl
    go_enter Tryz.func126, Tryz.ntmps126
    go_wp2
    go_ret
    exact ⟨none, 0, rfl, World.ownsRow_nil _ _ _ _, Below.refl _ _⟩
  | some ad =>
    have h1 : 0 + l.length ≤ maxLen := by unfold maxLen; omega
    have h2 : (0 + l.length) * 1 ≤ 140737488355328 := by omega
    have HA := Lib.hid hA
    clear hA hz
    go_enter Tryz.func126, Tryz.ntmps126
    go_wp2_with (at_builtin; refine wpList_append_own _ rfl _ _ _ rfl w.heap.size 5 i0 _ 1 1 Tryz.underlying25 hi hz0 hz1 hz2 rfl (by omega) _ 0 [] rfl (World.ownsRow_made w #[] 0 (Nat.le_refl _) (Nat.zero_le _) rfl) ad l.length cap (cellsB l) rfl (by rw [cellsB_length]; omega) (At.cells (w := w.alloc _) (HA.out.below ((Below.refl _ _).alloc (Nat.le_refl _) _))) (cellsB_one l) h1 h2 (by simp) ?_; intro v1 w1 hown hg _; have H1 := Lib.hid hown; have G1 := Lib.hid (show World.grownBy _ w1 (some w.heap.size) from hg); clear hown hg)
    go_ret
    have ho := H1.out
    rw [Nat.zero_add, List.nil_append] at ho
    exact Made.mk' ho (((Below.refl _ _).alloc (Nat.le_refl _) _).grown G1.out (by simp) (by simp))
set_option maxRecDepth 100000 in
set_option maxHeartbeats 1000000 in
theorem New_any (A : Option Addr) (l : List UInt8) (cap : Nat) (w : World) (hA : At w A l) (hz : A = none → cap = 0) (hm : l.length ≤ 140737488355328) :
    Calls Tryz.prog 89 #[.slice A l.length cap] w fun e w' => ∃ g P c, e = .returned (.pointer (some ⟨g, 0, none⟩)) ∧ w.heap.size ≤ g ∧ Rd w' g 0 P c l ∧ Below w.heap.size w w' := by
  have C := Lib.hid (Clone_any A l cap w hA hz hm)
  have HM := Lib.hid hm
  clear hA hz hm
  go_enter Tryz.func89, Tryz.ntmps89
  go_wp2_with (go_at_call 126; ((refine (C.out).mono ?_); rintro e w1 ⟨P, c1, rfl, ho, hb⟩; have HO := Lib.hid ho; have HB := Lib.hid hb; clear ho hb))
  go_ret
  refine ⟨w1.heap.size, P, c1, rfl, HB.out.size, ⟨by simpa using heap_alloc_new w1 _, ⟨Nat.zero_le _, HM.out, ?_⟩, fun h0 => ?_⟩, HB.out.alloc HB.out.size _⟩
  · rcases HO.out.2 with ⟨h, h0⟩ | ⟨g, cap', cur, h, _, _, h1, h2, _⟩
    · injection h with _ _ h'; omega
    · injection h with _ _ h'; omega
  · obtain ⟨b, off, e, hl, hc⟩ := own_at HO.out h0
    refine ⟨b, off, e, by simp; omega, by omega, fun i hi => ?_⟩
    rw [World.cell?_alloc_lt _ _ _ hl]
    exact hc i hi
end Go.Proofs.YtchklaepilcbbaaGreat

namespace Go.Proofs.YtchklaepilcbbaaGreat
open Go.RowKit
theorem moved_below {B g j : Nat} {w w2 w3 : World} (hb : Below B w w2) (hm : Moved w2 g j w3) (hg : B ≤ g) (hB : B ≤ w2.heap.size) : Below B w w3 := (hb.setCell (p := ⟨g, 1, none⟩) hg _).trans (Below.mono hm hB)
theorem at_nil (w : World) (A : Option Addr) : At w A [] := fun h => absurd h (Nat.lt_irrefl 0)
theorem at_new (w : World) (cs : Array Value) (l : List UInt8) (h : cs.toList = cellsB l) : At (w.alloc (.cells cs 5)) (some ⟨w.heap.size, 0, none⟩) l := by
  intro _
  refine ⟨w.heap.size, 0, rfl, by simp, fun i hi => ?_⟩
  rw [cell_of_row _ _ _ _ _ _ (heap_alloc_new w _)]
  rw [← Array.getElem?_toList, h]
  simp [cellsB, List.getD, hi]
theorem Gives.at_ {w w' : World} {l : List UInt8} {cap : Nat} (h : w'.ownsRow w.heap.size 5 1 (.slice (some ⟨w.heap.size, 0, none⟩) l.length cap) l.length (cellsB l)) : At w' (some ⟨w.heap.size, 0, none⟩) l := own_at h
/-- The forms laid onto nil. -/
theorem NumN (n : Nat) (w : World) (hn : n < 2 ^ 64) : Calls Tryz.prog 86 #[.slice none 0 0, .int .u64 n] w (Gives w (encNum n)) := Num_any none [] 0 n w hn (at_nil _ _) (fun _ => rfl) (by simp)
theorem IntN (n : Int) (w : World) (hn : fits n) : Calls Tryz.prog 83 #[.slice none 0 0, .int .i64 n] w (Gives w (encInt n)) := Int_any none [] 0 n w hn (at_nil _ _) (fun _ => rfl) (by simp)
theorem FloatN (f : Nat) (w : World) (hf : f < 18446744073709551616) (h : canonF f = f) : Calls Tryz.prog 84 #[.slice none 0 0, .float .f64 f] w (GivesF w (encFloat f)) := Float_yes none [] 0 f w hf h (at_nil _ _) (fun _ => rfl) (by simp)
theorem TextN (s : ByteArray) (w : World) (h : (encText s.data.toList).length ≤ 140737488355328) : Calls Tryz.prog 85 #[.slice none 0 0, .string s] w (Gives w (encText s.data.toList)) := Text_any none [] 0 s w (at_nil _ _) (fun _ => rfl) (by simpa using h)
theorem NewL (A : Option Addr) (l : List UInt8) (n cap : Nat) (w : World) (hA : At w A l) (hz : A = none → cap = 0) (hm : l.length ≤ 140737488355328) (hn : l.length = n) :
    Calls Tryz.prog 89 #[.slice A n cap] w fun e w' => ∃ g P c, e = .returned (.pointer (some ⟨g, 0, none⟩)) ∧ w.heap.size ≤ g ∧ Rd w' g 0 P c l ∧ Below w.heap.size w w' := by
  subst hn
  exact New_any A l cap w hA hz hm
theorem encNum_258 : encNum 258 = [2, 1, 2] := by decide
theorem encInt_257 : encInt (-257) = [13, 254, 255] := by decide
theorem encText_ab : encText (⟨#[97, 0, 98]⟩ : ByteArray).data.toList = [97, 0, 255, 98, 0, 0] := by decide
theorem encFloat_1 : encFloat 4607182418800017408 = [191, 240, 0, 0, 0, 0, 0, 0] := by decide
theorem num_21 : numE 9 [2, 1] = 4 ∧ numM 9 [2, 1] = 0 ∧ numV 9 [2, 1] = 0 := by decide
theorem canon_1 : canonF 4607182418800017408 = 4607182418800017408 := by decide
theorem cells_rr : (#[.int .u8 2, .int .u8 1] : Array Value).toList = cellsB [2, 1] := by kernel_rfl
theorem cells_nn : (#[.int .u8 2, .int .u8 1, .int .u8 2] : Array Value).toList = cellsB [2, 1, 2] := by kernel_rfl
theorem cells_ii : (#[.int .u8 13, .int .u8 254, .int .u8 255] : Array Value).toList = cellsB [13, 254, 255] := by kernel_rfl
theorem cells_ff : (#[.int .u8 191, .int .u8 240, .int .u8 0, .int .u8 0, .int .u8 0, .int .u8 0, .int .u8 0, .int .u8 0] : Array Value).toList = cellsB [191, 240, 0, 0, 0, 0, 0, 0] := by kernel_rfl
theorem cells_tt : (#[.int .u8 97, .int .u8 0, .int .u8 255, .int .u8 98, .int .u8 0, .int .u8 0] : Array Value).toList = cellsB [97, 0, 255, 98, 0, 0] := by kernel_rfl
theorem at_size {w : World} {s t : Nat} {l : List UInt8} (h : s = t) (hA : At w (some ⟨s, 0, none⟩) l) : At w (some ⟨t, 0, none⟩) l := by subst h; exact hA
/-- What stays on the way through awake. -/
def Carry (w1 : World) (A : Option Addr) (l : List UInt8) (g : Nat) (P : Option Addr) (c : Nat) (wk : World) : Prop := Below w1.heap.size w1 wk ∧ At wk A l ∧ Rd wk g 0 P c [2, 1]
section
variable {w1 wk wk' : World} {A P : Option Addr} {l : List UInt8} {g c : Nat}
theorem Carry.step (h : Carry w1 A l g P c wk) (hb : Below wk.heap.size wk wk') : Carry w1 A l g P c wk' := ⟨h.1.trans (hb.mono h.1.size), h.2.1.below hb, h.2.2.below hb⟩
theorem Carry.alloc (h : Carry w1 A l g P c wk) (o : Obj) : Carry w1 A l g P c (wk.alloc o) := h.step ((Below.refl _ _).alloc (Nat.le_refl _) _)
theorem Carry.start {w2 w3 : World} (hA : At w1 A l) (hb : Below w1.heap.size w1 w2) (hg : w1.heap.size ≤ g) (hr : Rd w2 g 0 P c [2, 1]) (hm : Moved w2 g 0 w3) : Carry w1 A l g P c w3 := by
  have hb3 : Below w1.heap.size w1 w3 := moved_below hb hm hg hb.size
  exact ⟨hb3, hA.below hb3, hr.moved hm (Nat.zero_le _)⟩
end
theorem num_21_any (g c : Nat) (P : Option Addr) (w : World) (h : Rd w g 0 P c [2, 1]) : Calls Tryz.prog 129 #[.pointer (some ⟨g, 0, none⟩), .int .u64 9] w fun e w' => e = .returned (.tuple #[.int .u64 0, .int .i64 4]) ∧ Moved w g 0 w' := by
  have hC := RNum_any g 0 c 9 P [2, 1] w h
  rw [List.drop_zero, num_21.1, num_21.2.1, num_21.2.2] at hC
  exact hC
theorem left_21_any (g c : Nat) (P : Option Addr) (w : World) (h : Rd w g 0 P c [2, 1]) : Calls Tryz.prog 127 #[.pointer (some ⟨g, 0, none⟩)] w fun e w' => e = .returned (.int .i64 2) ∧ Below w.heap.size w w' :=
  (quiet_r (Left_any g 0 c P [2, 1] w h))
end Go.Proofs.YtchklaepilcbbaaGreat
