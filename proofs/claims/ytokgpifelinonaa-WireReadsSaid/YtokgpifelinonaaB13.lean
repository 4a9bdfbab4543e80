/- Whole numbers and floats read back: takeInt, takeFloat. -/
import Derived.Test.YtokgpifelinonaaB12
namespace Go.Proofs.Ytokgpifelinonaa
open Go.RowKit
/-- A number that was read is no more than the most. -/
theorem sizedF_le (count most : Nat) (fl : UInt8 → UInt8) (L : List UInt8) : (sizedF count most fl L).1 ≤ most := by
  unfold sizedF
  split
  · exact Nat.zero_le _
  · unfold digF
    by_cases h : okOne count most (lowOf count fl L) (highOf count fl L) = false
    · rw [if_pos h]; exact Nat.zero_le _
    · rw [if_neg h]
      by_cases h2 : L.length < count
      · rw [if_pos h2]; exact Nat.zero_le _
      · rw [if_neg h2]
        simp only [okOne, meetsB, Bool.and_eq_false_iff, not_or, Bool.not_eq_false, decide_eq_true_eq] at h
        have h1 := h.1
        unfold lowOf at h1
        rw [show count - thereN count L = 0 by unfold thereN; omega, Nat.pow_zero, Nat.mul_one] at h1
        exact h1
def neg255 (c : UInt8) : UInt8 := 255 - c
theorem xor_neg (x : UInt8) : bits .xor .u8 (x.toNat : Int) 255 = ((neg255 x).toNat : Int) := xor_full x
/-- What is answered of a whole number that is read. -/
def intF : List UInt8 → Int × Nat
  | [] => (0, 4)
  | h :: t => if 16 ≤ h.toNat then (((sizedF (h.toNat - 16) 9223372036854775807 id t).1 : Int), (sizedF (h.toNat - 16) 9223372036854775807 id t).2)
    else (-((sizedF (15 - h.toNat) 9223372036854775807 neg255 t).1 : Int) - 1, (sizedF (15 - h.toNat) 9223372036854775807 neg255 t).2)
def intC : List UInt8 → Nat
  | [] => 0
  | h :: t => if 16 ≤ h.toNat then 1 + sizedC (h.toNat - 16) t else 1 + sizedC (15 - h.toNat) t
set_option maxRecDepth 100000 in
set_option maxHeartbeats 2000000 in
theorem takeInt_end (g k c : Nat) (A : Option Addr) (l : List UInt8) (w : World) (h : Rd w g k A c l) (hk : k = l.length) :
    Calls Try.prog 31 #[.pointer (some ⟨g, 0, none⟩)] w fun e w' => e = .returned (.tuple #[.int .i64 (intF (l.drop k)).1, .int .i64 ((intF (l.drop k)).2 : Nat)]) ∧ Moved w g (k + intC (l.drop k)) w' := by
  have C := Lib.hid (takeByte_end g k c A l w h hk)
  have HL := Lib.hid (drop_none l k hk)
  clear h hk
  go_enter Try.func31, Try.ntmps31
  go_wp2_with (go_at_call 40; ((refine (C.out).mono ?_); rintro e w2 ⟨rfl, hm⟩; have HM := Lib.hid hm; clear hm))
  go_ret2
  rw [HL.out]
  exact ⟨rfl, HM.out⟩
set_option maxRecDepth 100000 in
set_option maxHeartbeats 2000000 in
theorem takeInt_more (g k c : Nat) (A : Option Addr) (l : List UInt8) (w : World) (h : Rd w g k A c l) (hk : k < l.length) :
    Calls Try.prog 31 #[.pointer (some ⟨g, 0, none⟩)] w fun e w' => e = .returned (.tuple #[.int .i64 (intF (l.drop k)).1, .int .i64 ((intF (l.drop k)).2 : Nat)]) ∧ Moved w g (k + intC (l.drop k)) w' := by
  have C := Lib.hid (takeByte_more g k c A l w h hk)
  have HL := Lib.hid (drop_more l k hk)
  obtain ⟨y, hy⟩ : ∃ y : UInt8, y = l.getD k 0 := ⟨_, rfl⟩
  have hy8 := y.toNat_lt
  rw [← hy] at C HL
  obtain ⟨x, hx⟩ : ∃ x : Int, x = (y.toNat : Int) := ⟨_, rfl⟩
  rw [← hx] at C
  have x0 : 0 ≤ x := by omega
  by_cases h16 : 16 ≤ y.toNat
  · have C2 : Hid (∀ w2, Moved w g (k + 1) w2 → Calls Try.prog 48 #[.pointer (some ⟨g, 0, none⟩), .int .i64 (x - 16), .int .u8 0, .int .u64 9223372036854775807] w2 fun e w' => e = .returned (.tuple #[.int .u64 ((sizedF (y.toNat - 16) 9223372036854775807 id (l.drop (k + 1))).1 : Nat), .int .i64 ((sizedF (y.toNat - 16) 9223372036854775807 id (l.drop (k + 1))).2 : Nat)]) ∧ Moved w g (k + (1 + sizedC (y.toNat - 16) (l.drop (k + 1)))) w') := by
      intro w2 hm
      rw [show (x - 16 : Int) = (((y.toNat - 16) : Nat) : Int) by omega]
      refine (takeSized_any g (k + 1) c (y.toNat - 16) 9223372036854775807 0 id A l w2 (h.moved hm (by omega)) (by omega) xor_none).mono ?_
      rintro e w' ⟨he, hm2⟩
      refine ⟨he, ?_⟩
      rw [← Nat.add_assoc]
      exact hm.trans hm2
    have HF : Hid (intF (l.drop k) = (((sizedF (y.toNat - 16) 9223372036854775807 id (l.drop (k + 1))).1 : Int), (sizedF (y.toNat - 16) 9223372036854775807 id (l.drop (k + 1))).2)) := by
      rw [HL.out]; exact if_pos h16
    have HCC : Hid (intC (l.drop k) = 1 + sizedC (y.toNat - 16) (l.drop (k + 1))) := by rw [HL.out]; exact if_pos h16
    have hle := sizedF_le (y.toNat - 16) 9223372036854775807 id (l.drop (k + 1))
    have t1 : 16 ≤ x := by omega
    have t2 : x ≤ 255 := by omega
    clear h hk hy h16
    generalize sizedF (y.toNat - 16) 9223372036854775807 id (l.drop (k + 1)) = r at *
    generalize sizedC (y.toNat - 16) (l.drop (k + 1)) = sc at *
    obtain ⟨n, er⟩ := r
    obtain ⟨z, hz⟩ : ∃ z : Int, z = (n : Int) := ⟨_, rfl⟩
    have z0 : 0 ≤ z := by omega
    have z1 : z ≤ 9223372036854775807 := by
      have hle' : n ≤ 9223372036854775807 := hle
      omega
    have HZ := Lib.hid hz
    have C3 : Hid (∀ w2, Moved w g (k + 1) w2 → Calls Try.prog 48 #[.pointer (some ⟨g, 0, none⟩), .int .i64 (x - 16), .int .u8 0, .int .u64 9223372036854775807] w2 fun e w' => e = .returned (.tuple #[.int .u64 z, .int .i64 (er : Nat)]) ∧ Moved w g (k + (1 + sc)) w') := by
      intro w2 hm
      rw [hz]
      exact C2.out w2 hm
    clear hle hz C2 hx
    go_enter Try.func31, Try.ntmps31
    go_wp2_with (first
      | (go_at_call 40; ((with_reducible refine (C.out).mono ?_); rintro e w2 ⟨rfl, hm⟩; have HM := Lib.hid hm; clear hm))
      | (go_at_call 48; ((with_reducible refine (C3.out _ HM.out).mono ?_); rintro e w3 ⟨rfl, hm⟩; have HM2 := Lib.hid hm; clear hm)))
    go_ret2
    rw [HF.out, HCC.out]
    exact ⟨by rw [HZ.out]; rfl, HM2.out⟩
  · have C2 : Hid (∀ w2, Moved w g (k + 1) w2 → Calls Try.prog 48 #[.pointer (some ⟨g, 0, none⟩), .int .i64 (15 - x), .int .u8 255, .int .u64 9223372036854775807] w2 fun e w' => e = .returned (.tuple #[.int .u64 ((sizedF (15 - y.toNat) 9223372036854775807 neg255 (l.drop (k + 1))).1 : Nat), .int .i64 ((sizedF (15 - y.toNat) 9223372036854775807 neg255 (l.drop (k + 1))).2 : Nat)]) ∧ Moved w g (k + (1 + sizedC (15 - y.toNat) (l.drop (k + 1)))) w') := by
      intro w2 hm
      rw [show (15 - x : Int) = (((15 - y.toNat) : Nat) : Int) by omega]
      refine (takeSized_any g (k + 1) c (15 - y.toNat) 9223372036854775807 255 neg255 A l w2 (h.moved hm (by omega)) (by omega) xor_neg).mono ?_
      rintro e w' ⟨he, hm2⟩
      refine ⟨he, ?_⟩
      rw [← Nat.add_assoc]
      exact hm.trans hm2
    have HF : Hid (intF (l.drop k) = (-((sizedF (15 - y.toNat) 9223372036854775807 neg255 (l.drop (k + 1))).1 : Int) - 1, (sizedF (15 - y.toNat) 9223372036854775807 neg255 (l.drop (k + 1))).2)) := by
      rw [HL.out]; exact if_neg h16
    have HCC : Hid (intC (l.drop k) = 1 + sizedC (15 - y.toNat) (l.drop (k + 1))) := by rw [HL.out]; exact if_neg h16
    have hle := sizedF_le (15 - y.toNat) 9223372036854775807 neg255 (l.drop (k + 1))
    have t1 : x < 16 := by omega
    have t2 : x ≤ 255 := by omega
    clear h hk hy h16
    generalize sizedF (15 - y.toNat) 9223372036854775807 neg255 (l.drop (k + 1)) = r at *
    generalize sizedC (15 - y.toNat) (l.drop (k + 1)) = sc at *
    obtain ⟨n, er⟩ := r
    obtain ⟨z, hz⟩ : ∃ z : Int, z = (n : Int) := ⟨_, rfl⟩
    have z0 : 0 ≤ z := by omega
    have z1 : z ≤ 9223372036854775807 := by
      have hle' : n ≤ 9223372036854775807 := hle
      omega
    have HZ := Lib.hid hz
    have C3 : Hid (∀ w2, Moved w g (k + 1) w2 → Calls Try.prog 48 #[.pointer (some ⟨g, 0, none⟩), .int .i64 (15 - x), .int .u8 255, .int .u64 9223372036854775807] w2 fun e w' => e = .returned (.tuple #[.int .u64 z, .int .i64 (er : Nat)]) ∧ Moved w g (k + (1 + sc)) w') := by
      intro w2 hm
      rw [hz]
      exact C2.out w2 hm
    clear hle hz C2 hx
    go_enter Try.func31, Try.ntmps31
    go_wp2_with (first
      | (go_at_call 40; ((with_reducible refine (C.out).mono ?_); rintro e w2 ⟨rfl, hm⟩; have HM := Lib.hid hm; clear hm))
      | (go_at_call 48; ((with_reducible refine (C3.out _ HM.out).mono ?_); rintro e w3 ⟨rfl, hm⟩; have HM2 := Lib.hid hm; clear hm)))
    go_ret2
    rw [HF.out, HCC.out]
    exact ⟨by rw [HZ.out]; rfl, HM2.out⟩
theorem takeInt_any (g k c : Nat) (A : Option Addr) (l : List UInt8) (w : World) (h : Rd w g k A c l) :
    Calls Try.prog 31 #[.pointer (some ⟨g, 0, none⟩)] w fun e w' => e = .returned (.tuple #[.int .i64 (intF (l.drop k)).1, .int .i64 ((intF (l.drop k)).2 : Nat)]) ∧ Moved w g (k + intC (l.drop k)) w' := by
  have hb := h.2.1.1
  rcases Nat.lt_or_ge k l.length with hk | hk
  · exact takeInt_more g k c A l w h hk
  · exact takeInt_end g k c A l w h (by omega)
theorem andNot_top (n : Nat) (h : 9223372036854775808 ≤ n) (hn : n < 18446744073709551616) : bits .andNot .u64 (n : Int) 9223372036854775808 = (n : Int) - 9223372036854775808 := by
  show IntKind.u64.wrap ((BitVec.ofInt 64 (n : Int) &&& ~~~ BitVec.ofInt 64 9223372036854775808).toNat : Int) = _
  have e1 : (~~~ BitVec.ofInt 64 9223372036854775808 : BitVec 64).toNat = 2 ^ 63 - 1 := by decide
  have e2 : (BitVec.ofInt 64 (n : Int)).toNat = n := by rw [BitVec.toNat_ofInt]; omega
  rw [BitVec.toNat_and, e1, e2, Nat.and_two_pow_sub_one_eq_mod, IntKind.wrap_u64]
  omega
/-- The float that stands at a place. -/
def atF (n : Nat) : Nat := if n < 9223372036854775808 then 18446744073709551615 - n else n - 9223372036854775808
set_option maxRecDepth 100000 in
set_option maxHeartbeats 1000000 in
theorem floatAt_any (n : Nat) (w : World) (hn : n < 18446744073709551616) :
    Calls Try.prog 55 #[.int .u64 n] w fun e w' => e = .returned (.float .f64 (atF n)) ∧ w = w' := by
  have hff := call_Float64frombits
  by_cases h0 : n < 9223372036854775808
  · have ha : bits .and .u64 (n : Int) 9223372036854775808 = 0 := by
      rw [u64_and _ _ (by omega) (by omega) (by omega) (by omega)]
      simp only [Int.toNat_natCast, show (9223372036854775808 : Int).toNat = 9223372036854775808 from rfl]
      rw [and_top n (by omega), if_pos h0]; rfl
    obtain ⟨m, hm⟩ : ∃ m : Nat, m = 18446744073709551615 - n := ⟨_, rfl⟩
    have hx : bits .xor .u64 IntKind.u64.max (n : Int) = (m : Int) := (xor_all n (by omega)).trans (by omega)
    have HE := Lib.hid (show atF n = m from (if_pos h0).trans hm.symm)
    clear h0 hn hm
    go_enter Try.func55, Try.ntmps55
    go_wp2
    go_ret
    exact ⟨by rw [HE.out]; rfl, rfl⟩
  · have ha : bits .and .u64 (n : Int) 9223372036854775808 = 9223372036854775808 := by
      rw [u64_and _ _ (by omega) (by omega) (by omega) (by omega)]
      simp only [Int.toNat_natCast, show (9223372036854775808 : Int).toNat = 9223372036854775808 from rfl]
      rw [and_top n (by omega), if_neg (by omega)]; rfl
    obtain ⟨m, hm⟩ : ∃ m : Nat, m = n - 9223372036854775808 := ⟨_, rfl⟩
    have hx : bits .andNot .u64 (n : Int) 9223372036854775808 = (m : Int) := (andNot_top n (by omega) hn).trans (by omega)
    have HE := Lib.hid (show atF n = m from (if_neg h0).trans hm.symm)
    clear h0 hn hm
    go_enter Try.func55, Try.ntmps55
    go_wp2
    go_ret
    exact ⟨by rw [HE.out]; rfl, rfl⟩
theorem spans_two (g h a b c d : Nat) (w : World) (hh : w.heap[h]? = some (.cells #[.int .u64 a, .int .u64 b, .int .u64 c, .int .u64 d] 89 (0, 0))) (hne : h ≠ g) :
    SpansOk w g (.slice (some ⟨h, 0, none⟩) 2 2) (fun low high => meetsB (low, high) (a, b) || meetsB (low, high) (c, d)) := by
  intro W hW low high
  have e := (hW.2 h (lt_heap hh) hne).trans hh
  exact Contains_two h a b c d low high W (lt_heap e) (by simpa using cell_of_row W h 0 _ _ _ e) (by simpa using cell_of_row W h 1 _ _ _ e) (by simpa using cell_of_row W h 2 _ _ _ e) (by simpa using cell_of_row W h 3 _ _ _ e)
/-- The canonical NaN, the infinities. -/
def bitsN : Nat := 9221120237041090561
def bitsM : Nat := 18442240474082181120
def bitsP : Nat := 9218868437227405312
theorem bits_lt : bitsN < 18446744073709551616 ∧ bitsM < 18446744073709551616 ∧ bitsP < 18446744073709551616 := by decide
/-- Where the canonical floats stand. -/
def okF (low high : Nat) : Bool := meetsB (low, high) (placeF bitsM, placeF bitsP) || meetsB (low, high) (placeF bitsN, placeF bitsN)
def floatF (L : List UInt8) : Nat × Nat := (atF (digF 8 id okF L).1, (digF 8 id okF L).2)
theorem digF_lt (count : Nat) (fl : UInt8 → UInt8) (ok : Nat → Nat → Bool) (L : List UInt8) : (digF count fl ok L).1 < 256 ^ count := by
  have hp := Nat.pow_pos (n := count) (show 0 < 256 by omega)
  unfold digF
  split
  · exact hp
  · split
    · exact hp
    · exact Nat.lt_of_lt_of_le (nOf_lt count fl L) (Nat.pow_le_pow_right (by omega) (by unfold thereN; omega))
set_option maxRecDepth 100000 in
set_option maxHeartbeats 1000000 in
theorem NaN_any (w : World) : Calls Try.prog 52 #[] w fun e w' => e = .returned (.float .f64 bitsN) ∧ w = w' := by
  have hff := call_Float64frombits
  go_enter Try.func52, Try.ntmps52
  go_wp2
  go_ret
  exact ⟨rfl, rfl⟩
set_option maxRecDepth 100000 in
set_option maxHeartbeats 1000000 in
theorem Inf_neg (w : World) : Calls Try.prog 54 #[.int .i64 (-1)] w fun e w' => e = .returned (.float .f64 bitsM) ∧ w = w' := by
  have hff := call_Float64frombits
  go_enter Try.func54, Try.ntmps54
  go_wp2
  go_ret
  exact ⟨rfl, rfl⟩
set_option maxRecDepth 100000 in
set_option maxHeartbeats 1000000 in
theorem Inf_pos (w : World) : Calls Try.prog 54 #[.int .i64 1] w fun e w' => e = .returned (.float .f64 bitsP) ∧ w = w' := by
  have hff := call_Float64frombits
  go_enter Try.func54, Try.ntmps54
  go_wp2
  go_ret
  exact ⟨rfl, rfl⟩
set_option maxRecDepth 100000 in
set_option maxHeartbeats 2000000 in
theorem takeFloat_any (g k c : Nat) (A : Option Addr) (l : List UInt8) (w : World) (h : Rd w g k A c l) :
    Calls Try.prog 33 #[.pointer (some ⟨g, 0, none⟩)] w fun e w' => e = .returned (.tuple #[.float .f64 (floatF (l.drop k)).1, .int .i64 ((floatF (l.drop k)).2 : Nat)]) ∧ Moved w g (k + thereN 8 (l.drop k)) w' := by
  have K1 := Lib.hid NaN_any
  have K7 := Lib.hid Inf_neg
  have K8 := Lib.hid Inf_pos
  have K2 := Lib.hid (fun w => Canon_any bitsN w bits_lt.1)
  rw [show canonF bitsN = bitsN by decide] at K2
  have K3 := Lib.hid (fun w => place_any bitsN w bits_lt.1)
  have K4 := Lib.hid (fun w => place_any bitsM w bits_lt.2.1)
  have K5 := Lib.hid (fun w => place_any bitsP w bits_lt.2.2)
  have HF0 : okF = fun low high => meetsB (low, high) (placeF bitsM, placeF bitsP) || meetsB (low, high) (placeF bitsN, placeF bitsN) := rfl
  have HF : Hid (floatF (l.drop k) = (atF (digF 8 id okF (l.drop k)).1, (digF 8 id okF (l.drop k)).2)) := by exact rfl
  rw [HF0] at HF
  clear HF0
  generalize placeF bitsN = pN at *
  generalize placeF bitsM = pM at *
  generalize placeF bitsP = pP at *
  generalize bitsN = fN at *
  generalize bitsM = fM at *
  generalize bitsP = fP at *
  obtain ⟨ok, hok⟩ : ∃ ok : Nat → Nat → Bool, ok = fun low high => meetsB (low, high) (pM, pP) || meetsB (low, high) (pN, pN) := ⟨_, rfl⟩
  rw [← hok] at HF
  have C : Hid (Calls Try.prog 53 #[.pointer (some ⟨g, 0, none⟩), .int .i64 8, .int .u8 0, .slice (some ⟨w.heap.size, 0, none⟩) 2 2] (w.alloc (.cells #[.int .u64 pM, .int .u64 pP, .int .u64 pN, .int .u64 pN] 89)) fun e w' => e = .returned (.tuple #[.int .u64 ((digF 8 id ok (l.drop k)).1 : Nat), .int .i64 ((digF 8 id ok (l.drop k)).2 : Nat)]) ∧ Moved w g (k + thereN 8 (l.drop k)) w') := by
    have hb : Below w.heap.size w (w.alloc (.cells #[.int .u64 pM, .int .u64 pP, .int .u64 pN, .int .u64 pN] 89)) := (Below.refl _ _).alloc (Nat.le_refl _) _
    refine (takeDigits_any g k c 8 0 id A l _ ok _ (h.below hb) (by omega) xor_none (by rw [hok]; exact spans_two g w.heap.size pM pP pN pN _ (heap_alloc_new w _) (Nat.ne_of_gt h.lt))).mono ?_
    rintro e w' ⟨he, hm⟩
    exact ⟨he, Moved.after hb h.lt hm⟩
  have HN := Lib.hid (digF_lt 8 id ok (l.drop k))
  generalize digF 8 id ok (l.drop k) = r at *
  obtain ⟨n, er⟩ := r
  have K6 := Lib.hid (fun w => floatAt_any n w HN.out)
  clear h hok
  go_enter Try.func33, Try.ntmps33
  go_wp2_with (first
    | (go_at_call 52; ((with_reducible refine (K1.out _).mono ?_); rintro e w' ⟨rfl, rfl⟩))
    | (go_at_call 51; ((with_reducible refine (K2.out _).mono ?_); rintro e w' ⟨rfl, rfl⟩))
    | (go_at_call 44; ((with_reducible refine (K3.out _).mono ?_); rintro e w' ⟨rfl, rfl⟩))
    | (go_at_call 44; ((with_reducible refine (K4.out _).mono ?_); rintro e w' ⟨rfl, rfl⟩))
    | (go_at_call 44; ((with_reducible refine (K5.out _).mono ?_); rintro e w' ⟨rfl, rfl⟩))
    | (go_at_call 54; ((with_reducible refine (K7.out _).mono ?_); rintro e w' ⟨rfl, rfl⟩))
    | (go_at_call 54; ((with_reducible refine (K8.out _).mono ?_); rintro e w' ⟨rfl, rfl⟩))
    | (go_at_call 53; ((with_reducible refine (C.out).mono ?_); rintro e w3 ⟨rfl, hm⟩; have HM2 := Lib.hid hm; clear hm))
    | (go_at_call 55; ((with_reducible refine (K6.out _).mono ?_); rintro e w' ⟨rfl, rfl⟩)))
  go_ret2
  rw [HF.out]
  exact ⟨rfl, HM2.out⟩
end Go.Proofs.Ytokgpifelinonaa
