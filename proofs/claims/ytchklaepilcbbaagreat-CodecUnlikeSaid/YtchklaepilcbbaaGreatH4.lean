/- What a reader reads, laid again, is the bytes that went: plain arithmetic. -/
import Derived.Test.YtchklaepilcbbaaGreatH3
import Derived.Lib.BytesEntry
import Derived.Test.YtchklaepilcbbaaGreatH1
import Derived.Deep.RegionHeld3
namespace Go.Proofs.YtchklaepilcbbaaGreat
theorem numF_err (count most : Nat) (fl : UInt8 → UInt8) (L : List UInt8) (h : (sizedF count most fl L).2 = 0) :
    count ≤ 8 ∧ count ≤ L.length ∧ (sizedF count most fl L).1 = val ((L.take count).map fl) ∧ leastOf count ≤ (sizedF count most fl L).1 ∧ (sizedF count most fl L).1 ≤ most := by
  have hle := sizedF_le count most fl L
  unfold sizedF at h hle ⊢
  by_cases h8 : 8 < count
  · rw [if_pos h8] at h; cases h
  rw [if_neg h8] at h hle ⊢
  unfold digF at h hle ⊢
  by_cases ho : okOne count most (lowOf count fl L) (highOf count fl L) = false
  · rw [if_pos ho] at h; cases h
  rw [if_neg ho] at h hle ⊢
  by_cases hl : L.length < count
  · rw [if_pos hl] at h; cases h
  rw [if_neg hl] at hle ⊢
  have ht : thereN count L = count := by unfold thereN; omega
  refine ⟨by omega, by omega, by show nOf count fl L = _; unfold nOf; rw [ht], ?_, hle⟩
  simp only [okOne, meetsB, Bool.and_eq_false_iff, not_or, Bool.not_eq_false, decide_eq_true_eq] at ho
  have h2 := ho.2
  unfold highOf lowOf at h2
  rw [ht, Nat.sub_self] at h2
  simpa using h2
/-- A number that was read of that many digits has just that many. -/
theorem nlen_of (n count : Nat) (h8 : count ≤ 8) (h1 : leastOf count ≤ n) (h2 : n < 256 ^ count) : nlen n = count := by
  have hp : (256 : Nat) ^ count ≤ 256 ^ 8 := Nat.pow_le_pow_right (by omega) h8
  refine nlen_eq n count (by omega) h2 (fun h0 => ?_)
  unfold leastOf at h1
  rw [if_pos h0] at h1
  exact h1
theorem map_id8 (l : List UInt8) : l.map id = l := List.map_id l
theorem map_neg (l : List UInt8) : l.map neg255 = flip8 l := rfl
theorem byte_back (x : UInt8) (n : Nat) (h : n = x.toNat) : UInt8.ofNat n = x := by
  apply UInt8.toNat_inj.1
  rw [byte_ofNat, h]
  have := x.toNat_lt
  omega
theorem num_again (most : Nat) (L : List UInt8) (h : numE most L = 0) : 0 < numM most L ∧ numM most L ≤ L.length ∧ L.take (numM most L) = encNum (numV most L) ∧ numV most L < 2 ^ 64 := by
  unfold numV numM
  rw [if_pos h, if_pos h]
  unfold numE at h
  cases L with
  | nil => simp [numF] at h
  | cons x t =>
    have hF : numF most (x :: t) = if (sizedF x.toNat 18446744073709551615 id t).2 = 0 ∧ most < (sizedF x.toNat 18446744073709551615 id t).1 then ((sizedF x.toNat 18446744073709551615 id t).1, 3) else sizedF x.toNat 18446744073709551615 id t := rfl
    rw [hF] at h ⊢
    by_cases hc : (sizedF x.toNat 18446744073709551615 id t).2 = 0 ∧ most < (sizedF x.toNat 18446744073709551615 id t).1
    · rw [if_pos hc] at h; cases h
    rw [if_neg hc] at h ⊢
    obtain ⟨h8, hl, hv, h1, h2⟩ := numF_err _ _ _ _ h
    have hC : numC (x :: t) = 1 + x.toNat := by
      show 1 + sizedC x.toNat t = _
      unfold sizedC thereN
      rw [if_neg (by omega)]
      omega
    have hlt : (sizedF x.toNat 18446744073709551615 id t).1 < 256 ^ x.toNat := by
      rw [hv]
      have := val_lt ((t.take x.toNat).map id)
      rw [List.length_map, List.length_take, Nat.min_eq_left hl] at this
      exact this
    have hn := nlen_of _ _ h8 h1 hlt
    refine ⟨by omega, by rw [hC]; simp; omega, ?_, by omega⟩
    rw [hC, Nat.add_comm, List.take_succ_cons]
    unfold encNum
    rw [hn]
    congr 1
    · exact (byte_back x _ rfl).symm
    · rw [hv, map_id8]
      have := digs_val (t.take x.toNat)
      rw [List.length_take, Nat.min_eq_left hl] at this
      exact this.symm
theorem int_again (L : List UInt8) (h : intE L = 0) : 0 < intM L ∧ intM L ≤ L.length ∧ L.take (intM L) = encInt (intV L) ∧ fits (intV L) := by
  unfold intV intM
  rw [if_pos h, if_pos h]
  unfold intE at h
  cases L with
  | nil => simp [intF] at h
  | cons x t =>
    have hx := x.toNat_lt
    by_cases h16 : 16 ≤ x.toNat
    · have hF : intF (x :: t) = (((sizedF (x.toNat - 16) 9223372036854775807 id t).1 : Int), (sizedF (x.toNat - 16) 9223372036854775807 id t).2) := if_pos h16
      have hC : intC (x :: t) = 1 + sizedC (x.toNat - 16) t := if_pos h16
      rw [hF] at h ⊢
      obtain ⟨h8, hl, hv, h1, h2⟩ := numF_err _ _ _ _ h
      have hC2 : intC (x :: t) = 1 + (x.toNat - 16) := by
        rw [hC]
        unfold sizedC thereN
        rw [if_neg (by omega)]
        omega
      have hlt : (sizedF (x.toNat - 16) 9223372036854775807 id t).1 < 256 ^ (x.toNat - 16) := by
        rw [hv]
        have := val_lt ((t.take (x.toNat - 16)).map id)
        rw [List.length_map, List.length_take, Nat.min_eq_left hl] at this
        exact this
      have hn := nlen_of _ _ h8 h1 hlt
      refine ⟨by omega, by rw [hC2]; simp; omega, ?_, by unfold fits; simp only; omega⟩
      rw [hC2, Nat.add_comm, List.take_succ_cons, encInt_pos, hn]
      congr 1
      · exact (byte_back x _ (by omega)).symm
      · rw [hv, map_id8]
        have := digs_val (t.take (x.toNat - 16))
        rw [List.length_take, Nat.min_eq_left hl] at this
        exact this.symm
    · have hF : intF (x :: t) = (-((sizedF (15 - x.toNat) 9223372036854775807 neg255 t).1 : Int) - 1, (sizedF (15 - x.toNat) 9223372036854775807 neg255 t).2) := if_neg h16
      have hC : intC (x :: t) = 1 + sizedC (15 - x.toNat) t := if_neg h16
      rw [hF] at h ⊢
      obtain ⟨h8, hl, hv, h1, h2⟩ := numF_err _ _ _ _ h
      have hC2 : intC (x :: t) = 1 + (15 - x.toNat) := by
        rw [hC]
        unfold sizedC thereN
        rw [if_neg (by omega)]
        omega
      have hlt : (sizedF (15 - x.toNat) 9223372036854775807 neg255 t).1 < 256 ^ (15 - x.toNat) := by
        rw [hv]
        have := val_lt ((t.take (15 - x.toNat)).map neg255)
        rw [List.length_map, List.length_take, Nat.min_eq_left hl] at this
        exact this
      have hn := nlen_of _ _ h8 h1 hlt
      refine ⟨by omega, by rw [hC2]; simp; omega, ?_, by unfold fits; simp only; omega⟩
      rw [hC2, Nat.add_comm, List.take_succ_cons, encInt_neg, hn]
      congr 1
      · exact (byte_back x _ (by omega)).symm
      · rw [hv, map_neg]
        have := digs_val (flip8 (t.take (15 - x.toNat)))
        rw [flip8_length, List.length_take, Nat.min_eq_left hl] at this
        rw [this, flip8_flip8]
theorem digF_err (count : Nat) (fl : UInt8 → UInt8) (ok : Nat → Nat → Bool) (L : List UInt8) (h : (digF count fl ok L).2 = 0) :
    count ≤ L.length ∧ (digF count fl ok L).1 = val ((L.take count).map fl) ∧ ok (val ((L.take count).map fl)) (val ((L.take count).map fl)) = true := by
  unfold digF at h ⊢
  by_cases ho : ok (lowOf count fl L) (highOf count fl L) = false
  · rw [if_pos ho] at h; cases h
  rw [if_neg ho] at h ⊢
  by_cases hl : L.length < count
  · rw [if_pos hl] at h; cases h
  rw [if_neg hl]
  have ht : thereN count L = count := by unfold thereN; omega
  have hn : nOf count fl L = val ((L.take count).map fl) := by unfold nOf; rw [ht]
  have e1 : lowOf count fl L = val ((L.take count).map fl) := by unfold lowOf; rw [ht, hn]; simp
  have e2 : highOf count fl L = val ((L.take count).map fl) := by unfold highOf; rw [ht, e1]; simp
  rw [e1, e2] at ho
  exact ⟨by omega, hn, by simpa using ho⟩
theorem float_ok (n : Nat) (hn : n < 18446744073709551616) (h : okF n n = true) : placeF (atF n) = n ∧ canonF (atF n) = atF n ∧ atF n < 18446744073709551616 := by
  have e1 : placeF bitsM = 4503599627370495 := by decide
  have e2 : placeF bitsP = 18442240474082181120 := by decide
  have e3 : placeF bitsN = 18444492273895866369 := by decide
  unfold okF meetsB at h
  rw [e1, e2, e3] at h
  simp only [Bool.or_eq_true, Bool.and_eq_true, decide_eq_true_eq] at h
  unfold placeF atF canonF isNaNF
  by_cases h0 : n < 9223372036854775808
  · rw [if_pos h0]
    refine ⟨by rw [if_neg (by omega)]; omega, ?_, by omega⟩
    rw [if_neg (by simp; omega)]
  · rw [if_neg h0]
    refine ⟨by rw [if_pos (by omega)]; omega, ?_, by omega⟩
    by_cases hN : 9218868437227405312 < (n - 9223372036854775808) % 9223372036854775808
    · rw [if_pos (by simpa using hN)]
      omega
    · rw [if_neg (by simpa using hN)]
theorem float_again (L : List UInt8) (h : floatE L = 0) : 0 < floatM L ∧ floatM L ≤ L.length ∧ L.take (floatM L) = encFloat (floatV L) ∧ canonF (floatV L) = floatV L ∧ floatV L < 18446744073709551616 := by
  unfold floatV floatM
  rw [if_pos h, if_pos h]
  unfold floatE floatF at h
  obtain ⟨hl, hv, hok⟩ := digF_err 8 id okF L h
  have ht : thereN 8 L = 8 := by unfold thereN; omega
  have hlt : val ((L.take 8).map id) < 18446744073709551616 := by
    have := val_lt ((L.take 8).map id)
    rw [List.length_map, List.length_take, Nat.min_eq_left hl] at this
    exact this
  obtain ⟨h1, h2, h3⟩ := float_ok _ hlt hok
  have hF : (floatF L).1 = atF (val ((L.take 8).map id)) := by unfold floatF; rw [hv]
  rw [hF, ht]
  refine ⟨by omega, hl, ?_, h2, h3⟩
  unfold encFloat
  rw [h1, map_id8]
  have := digs_val (L.take 8)
  rw [List.length_take, Nat.min_eq_left hl] at this
  exact this.symm
theorem scan_again (m : Nat) : ∀ (n : Nat) (acc L : List UInt8), L.length ≤ n → (scanT m acc L).2.1 = 0 →
    0 < (scanT m acc L).2.2 ∧ (scanT m acc L).2.2 ≤ L.length ∧ ∃ s, (scanT m acc L).1 = acc ++ s ∧ L.take (scanT m acc L).2.2 = encText s ∧ (acc ++ s).length ≤ m := by
  intro n
  induction n with
  | zero =>
    intro acc L hL h
    obtain rfl : L = [] := List.eq_nil_of_length_eq_zero (by omega)
    simp [scanT] at h
  | succ n ih =>
    intro acc L hL h
    match L, hL, h with
    | [], _, h => simp [scanT] at h
    | [c], _, h => simp [scanT] at h
    | c :: d :: t, hL, h =>
      by_cases hc : c = 0
      · subst hc
        by_cases hd : d = 0
        · subst hd
          by_cases hm : m < acc.length
          · simp [scanT, hm] at h
          · have e : scanT m acc (0 :: 0 :: t) = (acc, 0, 2) := by simp [scanT, hm]
            rw [e]
            exact ⟨by simp, by simp, [], by simp, by simp [encText, escT], by simp; omega⟩
        · by_cases hd2 : d = 255
          · subst hd2
            have e : scanT m acc (0 :: 255 :: t) = ((scanT m (acc ++ [0]) t).1, (scanT m (acc ++ [0]) t).2.1, (scanT m (acc ++ [0]) t).2.2 + 2) := by simp [scanT]
            rw [e] at h ⊢
            obtain ⟨h1, h2, s, h3, h4, h5⟩ := ih (acc ++ [0]) t (by simp at hL; omega) h
            refine ⟨by simp, by simp; omega, 0 :: s, by simp [h3], ?_, by simpa using h5⟩
            simp only [List.take_succ_cons, h4]
            simp [encText, escT]
          · simp [scanT, hd, hd2] at h
      · have e : scanT m acc (c :: d :: t) = ((scanT m (acc ++ [c]) (d :: t)).1, (scanT m (acc ++ [c]) (d :: t)).2.1, (scanT m (acc ++ [c]) (d :: t)).2.2 + 1) := by simp [scanT, hc]
        rw [e] at h ⊢
        obtain ⟨h1, h2, s, h3, h4, h5⟩ := ih (acc ++ [c]) (d :: t) (by simp at hL ⊢; omega) h
        refine ⟨by simp, by simp at h2 ⊢; omega, c :: s, by simp [h3], ?_, by simpa using h5⟩
        simp only [List.take_succ_cons, h4]
        simp [encText, escT, hc]
theorem text_again (m : Nat) (L : List UInt8) (h : textE m L = 0) : 0 < textM m L ∧ textM m L ≤ L.length ∧ L.take (textM m L) = encText (textV m L) ∧ (textV m L).length ≤ m := by
  unfold textV textM
  rw [if_pos h, if_pos h]
  unfold textE at h
  obtain ⟨h1, h2, s, h3, h4, h5⟩ := scan_again m _ [] L (Nat.le_refl _) h
  rw [h3]
  exact ⟨h1, h2, by simpa using h4, h5⟩
end Go.Proofs.YtchklaepilcbbaaGreat

namespace Go.Proofs.YtchklaepilcbbaaGreat
open Go.RowKit
theorem bytesOf_nums (l : List UInt8) : Lib.bytesOf (l.map fun b => (b.toNat : Int)) = l := by
  unfold Lib.bytesOf
  rw [List.map_map]
  conv => rhs; rw [← List.map_id l]
  apply List.map_congr_left
  intro b _
  simp [Function.comp]
theorem run_bytes_at (w : World) (A : Option Addr) (l : List UInt8) (c : Nat) (hA : At w A l) : (Extern.Bytes.bytesOf (.slice A l.length c)).run Tryz.prog w = .ok ⟨l.toArray⟩ w := by
  cases A with
  | none =>
    have hl : l = [] := by
      rcases Nat.eq_zero_or_pos l.length with e | e
      · exact List.eq_nil_of_length_eq_zero e
      · obtain ⟨b, off, h, _⟩ := hA e; cases h
    subst hl
    rfl
  | some a =>
    have h := Lib.run_loadBytesX (P := Tryz.prog) w (l.map fun b => (b.toNat : Int)) a .empty (fun j x hj => by
      have hj' : j < l.length := by simpa using (List.getElem?_eq_some_iff.1 hj).1
      have := hA.cells j (bv l[j]) (by simp [cellsB, hj'])
      rw [this]
      simp [hj'] at hj
      rw [← hj]
      rfl)
    rw [List.length_map, bytesOf_nums] at h
    show (Extern.Bytes.loadBytes a l.length .empty).run Tryz.prog w = _
    rw [h]
    congr 1
    apply ByteArray.ext
    show (#[] : Array UInt8) ++ l.toArray = l.toArray
    simp
set_option maxRecDepth 100000 in
set_option maxHeartbeats 1000000 in
theorem cmpU_any (a b : Nat) (w : World) :
    Calls Tryz.prog 197 #[.int .u64 a, .int .u64 b] w fun e w' => e = .returned (.int .i64 (cmpI a b)) ∧ w = w' := by
  have hnn : ∀ z : Int, (z != z) = false := fun z => by simp
  rcases Int.lt_trichotomy (a : Int) (b : Int) with h | h | h
  · have t1 : decide (a < b) = true := by simp; omega
    have HE := Lib.hid (show cmpI a b = -1 from if_pos h)
    clear h
    go_enter Tryz.func197, Tryz.ntmps197
    go_wp2
    go_ret
    exact ⟨by rw [HE.out]; rfl, rfl⟩
  · have t1 : decide (a < b) = false := by simp; omega
    have t2 : decide (b < a) = false := by simp; omega
    have HE := Lib.hid (show cmpI a b = 0 from (if_neg (by omega)).trans (if_neg (by omega)))
    clear h
    go_enter Tryz.func197, Tryz.ntmps197
    go_wp2
    go_ret
    exact ⟨by rw [HE.out]; rfl, rfl⟩
  · have t1 : decide (a < b) = false := by simp; omega
    have t2 : decide (b < a) = true := by simp; omega
    have HE := Lib.hid (show cmpI a b = 1 from (if_neg (by omega)).trans (if_pos h))
    clear h
    go_enter Tryz.func197, Tryz.ntmps197
    go_wp2
    go_ret
    exact ⟨by rw [HE.out]; rfl, rfl⟩
set_option maxRecDepth 100000 in
set_option maxHeartbeats 1000000 in
theorem cmpI_any (a b : Int) (w : World) :
    Calls Tryz.prog 186 #[.int .i64 a, .int .i64 b] w fun e w' => e = .returned (.int .i64 (cmpI a b)) ∧ w = w' := by
  have hnn : ∀ z : Int, (z != z) = false := fun z => by simp
  rcases Int.lt_trichotomy (a : Int) (b : Int) with h | h | h
  · have t1 : decide (a < b) = true := by simp; omega
    have HE := Lib.hid (show cmpI a b = -1 from if_pos h)
    clear h
    go_enter Tryz.func186, Tryz.ntmps186
    go_wp2
    go_ret
    exact ⟨by rw [HE.out]; rfl, rfl⟩
  · have t1 : decide (a < b) = false := by simp; omega
    have t2 : decide (b < a) = false := by simp; omega
    have HE := Lib.hid (show cmpI a b = 0 from (if_neg (by omega)).trans (if_neg (by omega)))
    clear h
    go_enter Tryz.func186, Tryz.ntmps186
    go_wp2
    go_ret
    exact ⟨by rw [HE.out]; rfl, rfl⟩
  · have t1 : decide (a < b) = false := by simp; omega
    have t2 : decide (b < a) = true := by simp; omega
    have HE := Lib.hid (show cmpI a b = 1 from (if_neg (by omega)).trans (if_pos h))
    clear h
    go_enter Tryz.func186, Tryz.ntmps186
    go_wp2
    go_ret
    exact ⟨by rw [HE.out]; rfl, rfl⟩
theorem call_cmpstring (a b : ByteArray) (w : World) : (callFunc 199 #[.string a, .string b]).run Tryz.prog w = .ok (.value (.int .i64 (Lib.compareBytes a.data.toList b.data.toList))) w := by
  rw [run_callFunc_extern Tryz.func199 (by kernel_rfl) (by kernel_rfl) (by kernel_rfl) (e := Extern.BytealgCompare.compare) (by kernel_rfl), Lib.run_compareString]
  rfl
set_option maxRecDepth 100000 in
set_option maxHeartbeats 1000000 in
theorem sCompare_any (a b : ByteArray) (w : World) :
    Calls Tryz.prog 166 #[.string a, .string b] w fun e w' => e = .returned (.int .i64 (Lib.compareBytes a.data.toList b.data.toList)) ∧ w = w' := by
  have hc := call_cmpstring a b
  go_enter Tryz.func166, Tryz.ntmps166
  go_wp2
  go_ret
  exact ⟨rfl, rfl⟩
end Go.Proofs.YtchklaepilcbbaaGreat

namespace Go.Proofs.YtchklaepilcbbaaGreat
open Lib (compareBytes)
theorem cb_self (a : List UInt8) : compareBytes a a = 0 := by
  induction a with
  | nil => rfl
  | cons x a ih => simp [compareBytes, UInt8.lt_irrefl, ih]
/-- The same beginning does not matter. -/
theorem cb_same (p a b : List UInt8) : compareBytes (p ++ a) (p ++ b) = compareBytes a b := by
  induction p with
  | nil => rfl
  | cons x p ih => simp [compareBytes, UInt8.lt_irrefl, ih]
theorem u8_lt {a b : UInt8} : a < b ↔ a.toNat < b.toNat := UInt8.lt_iff_toNat_lt
/-- Of two rows of digits that are as long, the first that differs decides; and what stands behind does not matter then. -/
theorem cb_val : ∀ (a b p q : List UInt8), a.length = b.length → val a < val b → compareBytes (a ++ p) (b ++ q) = -1
  | [], [], _, _, _, h => absurd h (Nat.lt_irrefl _)
  | [], _ :: _, _, _, h, _ => by simp at h
  | _ :: _, [], _, _, h, _ => by simp at h
  | x :: a, y :: b, p, q, hl, h => by
    simp only [List.length_cons, Nat.add_right_cancel_iff] at hl
    have ha := val_lt a
    have hb := val_lt b
    simp only [val, hl] at h ha
    by_cases h1 : x.toNat < y.toNat
    · simp [compareBytes, u8_lt.2 h1]
    · by_cases h2 : y.toNat < x.toNat
      · exfalso
        have := Nat.mul_le_mul_right (256 ^ b.length) (show y.toNat + 1 ≤ x.toNat from h2)
        rw [Nat.add_mul, Nat.one_mul] at this
        omega
      · have e : x.toNat = y.toNat := by omega
        have exy : x = y := UInt8.toNat_inj.1 e
        subst exy
        have hv : val a < val b := by omega
        have ih := cb_val a b p q hl hv
        simp [compareBytes, UInt8.lt_irrefl, ih]
theorem cb_head (x y : UInt8) (a b : List UInt8) (h : x.toNat < y.toNat) : compareBytes (x :: a) (y :: b) = -1 := by simp [compareBytes, u8_lt.2 h]
theorem cb_anti : ∀ (a b : List UInt8), compareBytes b a = - compareBytes a b
  | [], [] => rfl
  | [], _ :: _ => rfl
  | _ :: _, [] => rfl
  | x :: a, y :: b => by
    have ih := cb_anti a b
    unfold compareBytes
    by_cases h1 : x < y
    · have h2 : ¬ y < x := by rw [u8_lt] at h1 ⊢; omega
      rw [if_pos h1, if_neg h2, if_pos h1]; rfl
    · by_cases h2 : y < x
      · rw [if_pos h2, if_neg h1, if_pos h2]
      · rw [if_neg h2, if_neg h1, if_neg h1, if_neg h2, ih]
/-- Two forms, and what they say, in their order: whatever stands behind. -/
def Stands (c : Int) (a b : List UInt8) : Prop := compareBytes a b = c ∧ (c = 0 ∨ ∀ p q, compareBytes (a ++ p) (b ++ q) = c)
theorem Stands.of_lt {a b : List UInt8} (h : ∀ p q, compareBytes (a ++ p) (b ++ q) = -1) : Stands (-1) a b := ⟨by simpa using h [] [], .inr h⟩
theorem Stands.of_gt {a b : List UInt8} (h : ∀ p q, compareBytes (b ++ q) (a ++ p) = -1) : Stands 1 a b := by
  have h' : ∀ p q, compareBytes (a ++ p) (b ++ q) = 1 := fun p q => by rw [cb_anti, h]; rfl
  exact ⟨by simpa using h' [] [], .inr h'⟩
theorem Stands.refl (a : List UInt8) : Stands 0 a a := ⟨cb_self a, .inl rfl⟩
/-- What ascends stands so. -/
theorem Stands.mk' {α : Type} (enc : α → List UInt8) (lt : α → α → Prop) (H : ∀ x y, lt x y → ∀ p q, compareBytes (enc x ++ p) (enc y ++ q) = -1) (x y : α) (c : Int)
    (hc : (c = -1 ∧ lt x y) ∨ (c = 0 ∧ x = y) ∨ (c = 1 ∧ lt y x)) : Stands c (enc x) (enc y) := by
  rcases hc with ⟨rfl, h⟩ | ⟨rfl, rfl⟩ | ⟨rfl, h⟩
  · exact .of_lt (H x y h)
  · exact .refl _
  · exact .of_gt (fun p q => H y x h q p)
theorem cmpI_cases (a b : Int) : (cmpI a b = -1 ∧ a < b) ∨ (cmpI a b = 0 ∧ a = b) ∨ (cmpI a b = 1 ∧ b < a) := by
  unfold cmpI
  rcases Int.lt_trichotomy a b with h | h | h
  · exact .inl ⟨if_pos h, h⟩
  · exact .inr (.inl ⟨(if_neg (by omega)).trans (if_neg (by omega)), h⟩)
  · exact .inr (.inr ⟨(if_neg (by omega)).trans (if_pos h), h⟩)
theorem nlen_mono (a b : Nat) (h : a ≤ b) (hb : b < 2 ^ 64) : nlen a ≤ nlen b := (nlen_le (nlen b) a (by omega)).2 (Nat.lt_of_le_of_lt h (nlen_lt b hb))
theorem val_digs_lt (n k : Nat) (h : n < 256 ^ k) : val (digs n k) = n := by rw [val_digs, Nat.mod_eq_of_lt h]
theorem encNum_lt (a b : Nat) (h : a < b) (hb : b < 2 ^ 64) (p q : List UInt8) : compareBytes (encNum a ++ p) (encNum b ++ q) = -1 := by
  have h1 := nlen_mono a b (by omega) hb
  have h8 := nlen_8 b hb
  unfold encNum
  rcases Nat.lt_or_ge (nlen a) (nlen b) with hl | hl
  · exact cb_head _ _ _ _ (by rw [byte_ofNat, byte_ofNat]; omega)
  · have e : nlen a = nlen b := by omega
    rw [e]
    show compareBytes ([UInt8.ofNat (nlen b)] ++ digs a (nlen b) ++ p) ([UInt8.ofNat (nlen b)] ++ digs b (nlen b) ++ q) = -1
    rw [List.append_assoc, List.append_assoc, cb_same]
    refine cb_val _ _ _ _ (by rw [digs_length, digs_length]) ?_
    rw [val_digs_lt a _ (by rw [← e]; exact nlen_lt a (by omega)), val_digs_lt b _ (nlen_lt b hb)]
    exact h
theorem encInt_lt (a b : Int) (h : a < b) (ha : fits a) (hb : fits b) (p q : List UInt8) : compareBytes (encInt a ++ p) (encInt b ++ q) = -1 := by
  unfold fits at ha hb
  by_cases h0 : 0 ≤ a
  · obtain ⟨m, rfl⟩ := Int.eq_ofNat_of_zero_le h0
    obtain ⟨n, rfl⟩ := Int.eq_ofNat_of_zero_le (show 0 ≤ b by omega)
    have h1 := nlen_mono m n (by omega) (by omega)
    have h8 := nlen_8 n (by omega)
    rw [encInt_pos, encInt_pos]
    rcases Nat.lt_or_ge (nlen m) (nlen n) with hl | hl
    · exact cb_head _ _ _ _ (by rw [byte_ofNat, byte_ofNat]; omega)
    · have e : nlen m = nlen n := by omega
      rw [e]
      show compareBytes ([UInt8.ofNat (16 + nlen n)] ++ digs m (nlen n) ++ p) ([UInt8.ofNat (16 + nlen n)] ++ digs n (nlen n) ++ q) = -1
      rw [List.append_assoc, List.append_assoc, cb_same]
      refine cb_val _ _ _ _ (by rw [digs_length, digs_length]) ?_
      rw [val_digs_lt m _ (by rw [← e]; exact nlen_lt m (by omega)), val_digs_lt n _ (nlen_lt n (by omega))]
      omega
  · obtain ⟨m, rfl⟩ : ∃ m : Nat, a = -(m : Int) - 1 := ⟨(-a - 1).toNat, by omega⟩
    have hm8 := nlen_8 m (by omega)
    rw [encInt_neg]
    by_cases h1 : 0 ≤ b
    · obtain ⟨n, rfl⟩ := Int.eq_ofNat_of_zero_le h1
      have hn8 := nlen_8 n (by omega)
      rw [encInt_pos]
      exact cb_head _ _ _ _ (by rw [byte_ofNat, byte_ofNat]; omega)
    · obtain ⟨n, rfl⟩ : ∃ n : Nat, b = -(n : Int) - 1 := ⟨(-b - 1).toNat, by omega⟩
      have hn8 := nlen_8 n (by omega)
      have h2 := nlen_mono n m (by omega) (by omega)
      rw [encInt_neg]
      rcases Nat.lt_or_ge (nlen n) (nlen m) with hl | hl
      · exact cb_head _ _ _ _ (by rw [byte_ofNat, byte_ofNat]; omega)
      · have e : nlen m = nlen n := by omega
        rw [e]
        show compareBytes ([UInt8.ofNat (15 - nlen n)] ++ flip8 (digs m (nlen n)) ++ p) ([UInt8.ofNat (15 - nlen n)] ++ flip8 (digs n (nlen n)) ++ q) = -1
        rw [List.append_assoc, List.append_assoc, cb_same]
        refine cb_val _ _ _ _ (by rw [flip8_length, flip8_length, digs_length, digs_length]) ?_
        have hm := nlen_lt m (by omega)
        have hn := nlen_lt n (by omega)
        rw [e] at hm
        rw [val_flip8, val_flip8, digs_length, digs_length, val_digs_lt m _ hm, val_digs_lt n _ hn]
        omega
theorem encFloat_lt (a b : Nat) (h : placeF a < placeF b) (hb : placeF b < 2 ^ 64) (p q : List UInt8) : compareBytes (encFloat a ++ p) (encFloat b ++ q) = -1 := by
  unfold encFloat
  refine cb_val _ _ _ _ (by rw [digs_length, digs_length]) ?_
  rw [val_digs_lt _ 8 (by omega), val_digs_lt _ 8 (by omega)]
  exact h
/-- Strings: a byte 00 within has an ff behind it, the end another 00. -/
theorem encText_lt : ∀ (a b : List UInt8), compareBytes a b = -1 → ∀ p q, compareBytes (encText a ++ p) (encText b ++ q) = -1
  | [], [], h, _, _ => by simp [compareBytes] at h
  | _ :: _, [], h, _, _ => by simp [compareBytes] at h
  | [], y :: b, _, p, q => by
    by_cases hy : y = 0
    · subst hy
      simp [encText, escT, compareBytes, UInt8.lt_irrefl]
    · have : (0 : UInt8) < y := by
        rw [u8_lt]
        have : y.toNat ≠ 0 := fun e => hy (UInt8.toNat_inj.1 (by simpa using e))
        simp
        omega
      simp [encText, escT, hy, compareBytes, this]
  | x :: a, y :: b, h, p, q => by
    unfold compareBytes at h
    have esc : ∀ (z : UInt8) (l r : List UInt8), encText (z :: l) ++ r = (if z = 0 then [0, 255] else [z]) ++ (encText l ++ r) := by
      intro z l r
      by_cases hz : z = 0 <;> simp [encText, escT, hz]
    by_cases h1 : x < y
    · rw [esc, esc]
      by_cases hx : x = 0
      · subst hx
        have hy : y ≠ 0 := by rintro rfl; exact UInt8.lt_irrefl _ h1
        simp [hy, compareBytes, h1]
      · have hy : y ≠ 0 := by
          rintro rfl
          rw [u8_lt] at h1
          simp at h1
        simp [hx, hy, compareBytes, h1]
    · rw [if_neg h1] at h
      by_cases h2 : y < x
      · rw [if_pos h2] at h; cases h
      · rw [if_neg h2] at h
        have exy : x = y := UInt8.toNat_inj.1 (by rw [u8_lt] at h1 h2; omega)
        subst exy
        rw [esc, esc, cb_same]
        exact encText_lt a b h p q
end Go.Proofs.YtchklaepilcbbaaGreat

namespace Go.Proofs.YtchklaepilcbbaaGreat
open Go.RowKit
theorem float_cases (x : Nat) (hx : x < 18446744073709551616) :
    (rankOf (canonF x) = 18446744073709551615 ∧ canonF x = 9221120237041090561) ∨ (rankOf (canonF x) = (placeF x : Int) ∧ canonF x = x ∧ placeF x ≤ 18442240474082181120) := by
  by_cases h : isNaNF x = true
  · left
    have e : canonF x = 9221120237041090561 := by unfold canonF; rw [if_pos h]
    rw [e]
    exact ⟨by decide +kernel, rfl⟩
  · right
    have e : canonF x = x := by unfold canonF; rw [if_neg h]
    have s := self_any x hx
    rw [e]
    refine ⟨?_, rfl, ?_⟩
    · unfold rankOf placeF
      rw [if_neg (by rw [s]; exact h)]
      split <;> omega
    · have h' : ¬ 9218868437227405312 < x % 9223372036854775808 := by unfold isNaNF at h; simpa using h
      unfold placeF
      split <;> omega
theorem place_inj (x y : Nat) (hx : x < 18446744073709551616) (hy : y < 18446744073709551616) (h : placeF x = placeF y) : x = y := by
  unfold placeF at h
  split at h <;> split at h <;> omega
theorem place_nan : placeF 9221120237041090561 = 18444492273895866369 := by decide
theorem stands_float (x y : Nat) (hx : x < 18446744073709551616) (hy : y < 18446744073709551616) : Stands (cmpI (rankOf (canonF x)) (rankOf (canonF y))) (encFloat (canonF x)) (encFloat (canonF y)) := by
  have lx := placeF_lt x hx
  have ly := placeF_lt y hy
  have pn := place_nan
  refine Stands.mk' encFloat (fun a b => placeF a < placeF b ∧ placeF b < 2 ^ 64) (fun a b h p q => encFloat_lt a b h.1 h.2 p q) (canonF x) (canonF y) _ ?_
  have hc := cmpI_cases (rankOf (canonF x)) (rankOf (canonF y))
  generalize cmpI (rankOf (canonF x)) (rankOf (canonF y)) = c at *
  rcases float_cases x hx with ⟨r1, c1⟩ | ⟨r1, c1, b1⟩ <;> rcases float_cases y hy with ⟨r2, c2⟩ | ⟨r2, c2, b2⟩ <;> rw [r1, r2] at hc <;> rw [c1, c2]
  · refine .inr (.inl ⟨by omega, rfl⟩)
  · refine .inr (.inr ⟨by omega, ?_, ?_⟩) <;> rw [pn] <;> omega
  · refine .inl ⟨by omega, ?_, ?_⟩ <;> rw [pn] <;> omega
  · rcases hc with ⟨h1, h2⟩ | ⟨h1, h2⟩ | ⟨h1, h2⟩
    · exact .inl ⟨h1, by omega, ly⟩
    · exact .inr (.inl ⟨h1, place_inj x y hx hy (by omega)⟩)
    · exact .inr (.inr ⟨h1, by omega, lx⟩)
theorem stands_num (x y : Nat) (hx : x < 2 ^ 64) (hy : y < 2 ^ 64) : Stands (cmpI x y) (encNum x) (encNum y) := by
  refine Stands.mk' encNum (fun a b => a < b ∧ b < 2 ^ 64) (fun a b h p q => encNum_lt a b h.1 h.2 p q) x y _ ?_
  rcases cmpI_cases x y with ⟨h1, h2⟩ | ⟨h1, h2⟩ | ⟨h1, h2⟩
  · exact .inl ⟨h1, by omega, hy⟩
  · exact .inr (.inl ⟨h1, by omega⟩)
  · exact .inr (.inr ⟨h1, by omega, hx⟩)
theorem stands_int (x y : Int) (hx : fits x) (hy : fits y) : Stands (cmpI x y) (encInt x) (encInt y) := by
  refine Stands.mk' encInt (fun a b => a < b ∧ fits a ∧ fits b) (fun a b h p q => encInt_lt a b h.1 h.2.1 h.2.2 p q) x y _ ?_
  rcases cmpI_cases x y with ⟨h1, h2⟩ | ⟨h1, h2⟩ | ⟨h1, h2⟩
  · exact .inl ⟨h1, h2, hx, hy⟩
  · exact .inr (.inl ⟨h1, h2⟩)
  · exact .inr (.inr ⟨h1, h2, hy, hx⟩)
theorem cb_range (a b : List UInt8) : Lib.compareBytes a b = -1 ∨ Lib.compareBytes a b = 0 ∨ Lib.compareBytes a b = 1 := by
  induction a generalizing b with
  | nil => cases b <;> simp [Lib.compareBytes]
  | cons x a ih =>
    cases b with
    | nil => simp [Lib.compareBytes]
    | cons y b =>
      unfold Lib.compareBytes
      split
      · simp
      · split
        · simp
        · exact ih b
theorem cb_zero (a b : List UInt8) (h : Lib.compareBytes a b = 0) : a = b := by
  induction a generalizing b with
  | nil => cases b with
    | nil => rfl
    | cons y b => simp [Lib.compareBytes] at h
  | cons x a ih =>
    cases b with
    | nil => simp [Lib.compareBytes] at h
    | cons y b =>
      unfold Lib.compareBytes at h
      split at h
      · cases h
      · split at h
        · cases h
        · rename_i h1 h2
          have e : x = y := by
            have a1 : ¬ x.toNat < y.toNat := fun h => h1 (u8_lt.2 h)
            have a2 : ¬ y.toNat < x.toNat := fun h => h2 (u8_lt.2 h)
            exact UInt8.toNat_inj.1 (by omega)
          rw [e, ih b h]
theorem stands_text (x y : List UInt8) : Stands (Lib.compareBytes x y) (encText x) (encText y) := by
  refine Stands.mk' encText (fun a b => Lib.compareBytes a b = -1) (fun a b h p q => encText_lt a b h p q) x y _ ?_
  rcases cb_range x y with h | h | h
  · exact .inl ⟨h, h⟩
  · exact .inr (.inl ⟨h, cb_zero x y h⟩)
  · exact .inr (.inr ⟨h, by rw [cb_anti, h]⟩)
end Go.Proofs.YtchklaepilcbbaaGreat

namespace Go.Proofs.YtchklaepilcbbaaGreat
open Go.RowKit
section
variable {P : Program} {ops : Array Oper} {Q : Exit → Act → World → Prop} {md : Region.Mode} {S : World → Prop}
/-- The state behind the operations that were left out: each of their temporaries is undefined. -/
def skipped (ops : Array Oper) (a : Act) (us : List Nat) : Act := us.foldl (fun a i => a.put ((ops[i]?).bind (·.dst)) undef) a
def skipListed (listed : Array Bool) (us : List Nat) : Array Bool := us.foldl (fun l i => l.setIfInBounds i true) listed
/-- May these be skipped, one behind the other? -/
def maySkip (md : Region.Mode) (ops : Array Oper) : Array Bool → Array Value → List Nat → Bool
  | _, _, [] => true
  | listed, tmps, i :: us =>
    match ops[i]? with
    | none => false
    | some o => Region.free md ops listed i && (Region.ready md ops listed).contains i && !(Region.wanted o (yielded ops tmps)) && maySkip md ops (listed.setIfInBounds i true) (match o.dst with | some d => tmps.setIfInBounds d undef | none => tmps) us
theorem wpAnyH_skip (hs : Region.noSelect ops = true) (hQ : ∀ c (a : Act) (d : Option Tmp) w, Q (.panic c) (a.put d undef) w → Q (.panic c) a w) :
    ∀ (us : List Nat) (fuel : Nat) (listed : Array Bool) (a : Act) (w : World), maySkip md ops listed a.tmps us = true → S w →
      wpAnyH P md ops Q S fuel (skipListed listed us) (skipped ops a us) w → wpAnyH P md ops Q S (fuel + us.length) listed a w
  | [], _, _, _, _, _, _, h => h
  | i :: us, fuel, listed, a, w, hm, hS, h => by
    unfold maySkip at hm
    cases ho : ops[i]? with
    | none => rw [ho] at hm; cases hm
    | some o =>
      rw [ho] at hm
      simp only [Bool.and_eq_true, Bool.not_eq_true'] at hm
      obtain ⟨⟨⟨h1, h2⟩, h3⟩, h4⟩ := hm
      have e : (a.put o.dst undef).tmps = (match o.dst with | some d => a.tmps.setIfInBounds d undef | none => a.tmps) := by
        unfold Act.put; cases o.dst <;> rfl
      have ih := wpAnyH_skip hs hQ us fuel (listed.setIfInBounds i true) (a.put o.dst undef) w (by rw [e]; exact h4) hS (by
        have : skipped ops a (i :: us) = skipped ops (a.put o.dst undef) us := by
          unfold skipped
          rw [List.foldl_cons, ho]
          rfl
        rw [← this]
        exact h)
      have hl : fuel + (i :: us).length = (fuel + us.length) + 1 := by simp; omega
      rw [hl]
      exact wpAnyH_take ho hs h1 h2 (fun c a w hq => hQ c a o.dst w hq) (.inr ⟨h3, rfl⟩) hS ih
end
end Go.Proofs.YtchklaepilcbbaaGreat

namespace Go.Proofs.YtchklaepilcbbaaGreat
open Go.RowKit
/-- A slice that the call owns holds these bytes. -/
def Own1 (base : Nat) (w : World) (v : Value) (l : List UInt8) : Prop := w.ownsRow base 5 1 v l.length (cellsB l)
/-- Two of them, apart. -/
def Own2 (base : Nat) (w : World) (v : Value) (l : List UInt8) (u : Value) (m : List UInt8) : Prop := Own1 base w v l ∧ Own1 base w u m ∧ ∀ k, v.ownBlock = some k → u.ownBlock ≠ some k
theorem Own1.new {base : Nat} {w : World} (h : base ≤ w.heap.size) : Own1 base (w.alloc (.cells #[] 5)) (.slice (some ⟨w.heap.size, 0, none⟩) 0 0) [] :=
  ⟨rfl, .inr ⟨w.heap.size, 0, #[], rfl, h, heap_alloc_new w _, Nat.le_refl _, by unfold maxLen; omega, rfl, rfl⟩⟩
theorem Own1.alloc {base : Nat} {w : World} {v : Value} {l : List UInt8} (h : Own1 base w v l) (o : Obj) : Own1 base (w.alloc o) v l := World.ownsRow.alloc h o
theorem Own2.swap {base : Nat} {w : World} {v u : Value} {l m : List UInt8} (h : Own2 base w v l u m) : Own2 base w u m v l := ⟨h.2.1, h.1, fun k h1 h2 => h.2.2 k h2 h1⟩
theorem Own2.new {base : Nat} {w : World} {u : Value} {m : List UInt8} (hb : base ≤ w.heap.size) (h : Own1 base w u m) : Own2 base (w.alloc (.cells #[] 5)) (.slice (some ⟨w.heap.size, 0, none⟩) 0 0) [] u m := by
  refine ⟨.new hb, h.alloc _, fun k hk hu => ?_⟩
  have h1 : w.heap.size = k := by simpa [Value.ownBlock] using hk
  have := (World.ownsRow.lt h k hu).2
  omega
theorem Own1.at {base : Nat} {w : World} {v : Value} {l : List UInt8} (h : Own1 base w v l) : ∃ A c, v = .slice A l.length c ∧ At w A l := by
  rcases h.2 with ⟨rfl, h0⟩ | ⟨g, cap, cur, rfl, _⟩
  · exact ⟨none, 0, by rw [h0], fun e => absurd e (by omega)⟩
  · exact ⟨_, _, rfl, own_at h⟩
/-- append onto what the call owns, whatever is appended. -/
theorem run_app (base : Nat) (w : World) (v : Value) (l : List UInt8) (A : Option Addr) (c : Nat) (news : List UInt8) (ty : TypeId) (h : Own1 base w v l) (hA : At w A news) (hz : A = none → c = 0)
    (hm : l.length + news.length ≤ 140737488355328) (hb : base ≤ w.heap.size) :
    ∃ v' w', (Builtin.append_ #[25, 25] ty #[v, .slice A news.length c]).run Tryz.prog w = .ok v' w' ∧ Own1 base w' v' (l ++ news) ∧ w.grownBy w' v.ownBlock ∧ (v'.ownBlock = v.ownBlock ∨ v'.ownBlock = some w.heap.size) := by
  obtain ⟨i0, hi, hz0, hz1, hz2⟩ := info_parts info8
  cases A with
  | none =>
    have hn : news = [] := by
      rcases Nat.eq_zero_or_pos news.length with e | e
      · exact List.eq_nil_of_length_eq_zero e
      · obtain ⟨b, off, e, _⟩ := hA e; cases e
    subst hn
    obtain rfl := hz rfl
    refine ⟨v, w, run_append_owned_none (P := Tryz.prog) w base 25 ty 5 i0 1 Tryz.underlying25 hi v _ _ h, by simpa using h, World.grownBy.refl _ _, .inl rfl⟩
  | some ad =>
    obtain ⟨v', w', h1, h2, h3, _, h5⟩ := run_append_own_at (P := Tryz.prog) w base 25 ty 5 i0 _ 1 1 Tryz.underlying25 hi hz0 hz1 hz2 rfl (by omega) v _ _ h ad news.length c (cellsB news) (by rw [cellsB_length]; omega) hA.cells (cellsB_one news)
      (by unfold maxLen; omega) (by omega) hb
    exact ⟨v', w', h1, by rw [Own1, cellsB_append, List.length_append]; exact h2, h3, h5⟩
theorem below_app {base : Nat} {ws w w' : World} {v : Value} {l : List UInt8} (h : Own1 base w v l) (hB : Below base ws w) (hs : base ≤ w.heap.size) (hg : w.grownBy w' v.ownBlock) : Below base ws w' :=
  hB.grown hg hs fun k hk => (World.ownsRow.lt h k hk).1
section
variable {ops : Array Oper} {o : Oper} {a : Act} {K : Act → World → Prop} {Q : Exit → Act → World → Prop} {E : Prop} {w ws : World}
theorem step_app (hw : Region.wanted o (yielded ops a.tmps) = true) (s x : Operand) (ho : o.op = .call { callee := .builtin .append, args := #[s, x], argTypes := #[25, 25] })
    (base : Nat) (v : Value) (l : List UInt8) (hs : a.eval s = v) (h : Own1 base w v l) (A : Option Addr) (c : Nat) (news : List UInt8) (hx : a.eval x = .slice A news.length c) (hA : At w A news) (hz : A = none → c = 0)
    (hm : l.length + news.length ≤ 140737488355328) (hb : base ≤ w.heap.size)
    (hK : ∀ v' w', Own1 base w' v' (l ++ news) → w.grownBy w' v.ownBlock → (v'.ownBlock = v.ownBlock ∨ v'.ownBlock = some w.heap.size) → K (a.put o.dst v') w') :
    if Region.wanted o (yielded ops a.tmps) = true then Oper.wp Tryz.prog o a w K Q else E := by
  rw [if_pos hw]
  obtain ⟨v', w', h1, h2, h3, h4⟩ := run_app base w v l A c news o.type h hA hz hm hb
  unfold Oper.wp execOp
  simp only [ho, resolve, invoke, builtin, Sem.run_bind, Sem.run_pure, Result.andThen_ok, List.map_toArray, List.map_cons, List.map_nil, hs, hx, h1]
  exact hK v' w' h2 h3 h4
theorem step_app1 (hw : Region.wanted o (yielded ops a.tmps) = true) (s x : Operand) (ho : o.op = .call { callee := .builtin .append, args := #[s, x], argTypes := #[25, 25] })
    (base : Nat) (v : Value) (l : List UInt8) (hs : a.eval s = v) (hB : Below base ws w) (hb : base ≤ w.heap.size) (h : Own1 base w v l) (A : Option Addr) (c : Nat) (news : List UInt8) (hx : a.eval x = .slice A news.length c) (hA : At w A news) (hz : A = none → c = 0)
    (hm : l.length + news.length ≤ 140737488355328)
    (hK : ∀ v' w', Own1 base w' v' (l ++ news) → Below base ws w' → K (a.put o.dst v') w') :
    if Region.wanted o (yielded ops a.tmps) = true then Oper.wp Tryz.prog o a w K Q else E :=
  step_app hw s x ho base v l hs h A c news hx hA hz hm hb fun v' w' h1 h2 _ => hK v' w' h1 (below_app h hB hb h2)
theorem step_app2 (hw : Region.wanted o (yielded ops a.tmps) = true) (s x y : Operand) (ho : o.op = .call { callee := .builtin .append, args := #[s, x], argTypes := #[25, 25] })
    (base : Nat) (v u : Value) (l m : List UInt8) (hs : a.eval s = v) (_hy : a.eval y = u) (hB : Below base ws w) (hb : base ≤ w.heap.size) (h : Own2 base w v l u m) (A : Option Addr) (c : Nat) (news : List UInt8) (hx : a.eval x = .slice A news.length c) (hA : At w A news) (hz : A = none → c = 0)
    (hm : l.length + news.length ≤ 140737488355328)
    (hK : ∀ v' w', Own2 base w' v' (l ++ news) u m → Below base ws w' → K (a.put o.dst v') w') :
    if Region.wanted o (yielded ops a.tmps) = true then Oper.wp Tryz.prog o a w K Q else E :=
  step_app hw s x ho base v l hs h.1 A c news hx hA hz hm hb fun v' w' h1 h2 h3 => hK v' w' ⟨h1, World.ownsRow.kept h.2.1 h2 (by
      cases hu : u.ownBlock with
      | none => exact .inl rfl
      | some j => exact .inr fun e => h.2.2 j e.symm hu), fun k hk hu => by
      rcases h3 with h3 | h3
      · exact h.2.2 k (h3 ▸ hk) hu
      · have e : w.heap.size = k := by simpa using h3.symm.trans hk
        have := (World.ownsRow.lt h.2.1 k hu).2
        omega⟩ (below_app h.1 hB hb h2)
end
end Go.Proofs.YtchklaepilcbbaaGreat
