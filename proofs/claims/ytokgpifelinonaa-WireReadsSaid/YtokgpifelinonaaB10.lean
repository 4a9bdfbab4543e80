/- Numbers and whole numbers read back: takeNum, takeInt. -/
import Derived.Test.YtokgpifelinonaaB9
namespace Go.Proofs.Ytokgpifelinonaa
open Go.RowKit
theorem xor_none (x : UInt8) : bits .xor .u8 (x.toNat : Int) 0 = ((id x).toNat : Int) := by
  have h : ∀ n : Fin 256, bits .xor .u8 (n.val : Int) 0 = (n.val : Int) := by decide +kernel
  exact h ⟨x.toNat, x.toNat_lt⟩
theorem xor_full (x : UInt8) : bits .xor .u8 (x.toNat : Int) 255 = ((255 - x).toNat : Int) := by
  have h : ∀ n : Fin 256, bits .xor .u8 (n.val : Int) 255 = ((255 - n.val : Nat) : Int) := by decide +kernel
  rw [byte_flip]
  exact h ⟨x.toNat, x.toNat_lt⟩
/-- What is answered of a number that is read. -/
def numF (most : Nat) : List UInt8 → Nat × Nat
  | [] => (0, 4)
  | h :: t => if (sizedF h.toNat 18446744073709551615 id t).2 = 0 ∧ most < (sizedF h.toNat 18446744073709551615 id t).1 then ((sizedF h.toNat 18446744073709551615 id t).1, 3) else sizedF h.toNat 18446744073709551615 id t
def numC : List UInt8 → Nat
  | [] => 0
  | h :: t => 1 + sizedC h.toNat t
theorem drop_more (l : List UInt8) (k : Nat) (h : k < l.length) : l.drop k = l.getD k 0 :: l.drop (k + 1) := by
  rw [List.drop_eq_getElem_cons h]
  simp [List.getD, h]
theorem drop_none (l : List UInt8) (k : Nat) (h : k = l.length) : l.drop k = [] := by subst h; simp
set_option maxRecDepth 100000 in
set_option maxHeartbeats 2000000 in
theorem takeNum_end (g k c most : Nat) (A : Option Addr) (l : List UInt8) (w : World) (h : Rd w g k A c l) (hk : k = l.length) :
    Calls Try.prog 28 #[.pointer (some ⟨g, 0, none⟩), .int .u64 most] w fun e w' => e = .returned (.tuple #[.int .u64 ((numF most (l.drop k)).1 : Nat), .int .i64 ((numF most (l.drop k)).2 : Nat)]) ∧ Moved w g (k + numC (l.drop k)) w' := by
  have C := Lib.hid (takeByte_end g k c A l w h hk)
  have HL := Lib.hid (drop_none l k hk)
  clear h hk
  go_enter Try.func28, Try.ntmps28
  go_wp2_with (go_at_call 40; ((refine (C.out).mono ?_); rintro e w2 ⟨rfl, hm⟩; have HM := Lib.hid hm; clear hm))
  go_ret2
  rw [HL.out]
  exact ⟨rfl, HM.out⟩
set_option maxRecDepth 100000 in
set_option maxHeartbeats 2000000 in
theorem takeNum_more (g k c most : Nat) (A : Option Addr) (l : List UInt8) (w : World) (h : Rd w g k A c l) (hk : k < l.length) :
    Calls Try.prog 28 #[.pointer (some ⟨g, 0, none⟩), .int .u64 most] w fun e w' => e = .returned (.tuple #[.int .u64 ((numF most (l.drop k)).1 : Nat), .int .i64 ((numF most (l.drop k)).2 : Nat)]) ∧ Moved w g (k + numC (l.drop k)) w' := by
  have C := Lib.hid (takeByte_more g k c A l w h hk)
  have HL := Lib.hid (drop_more l k hk)
  obtain ⟨y, hy⟩ : ∃ y : UInt8, y = l.getD k 0 := ⟨_, rfl⟩
  have C2 : Hid (∀ w2, Moved w g (k + 1) w2 → Calls Try.prog 48 #[.pointer (some ⟨g, 0, none⟩), .int .i64 (y.toNat : Nat), .int .u8 0, .int .u64 18446744073709551615] w2 fun e w' => e = .returned (.tuple #[.int .u64 ((sizedF y.toNat 18446744073709551615 id (l.drop (k + 1))).1 : Nat), .int .i64 ((sizedF y.toNat 18446744073709551615 id (l.drop (k + 1))).2 : Nat)]) ∧ Moved w g (k + (1 + sizedC y.toNat (l.drop (k + 1)))) w') := by
    intro w2 hm
    refine (takeSized_any g (k + 1) c y.toNat 18446744073709551615 0 id A l w2 (h.moved hm (by omega)) (by have := y.toNat_lt; omega) xor_none).mono ?_
    rintro e w' ⟨he, hm2⟩
    refine ⟨he, ?_⟩
    rw [← Nat.add_assoc]
    exact hm.trans hm2
  rw [← hy] at C HL
  have hy8 := y.toNat_lt
  have HF : Hid (numF most (l.drop k) = if (sizedF y.toNat 18446744073709551615 id (l.drop (k + 1))).2 = 0 ∧ most < (sizedF y.toNat 18446744073709551615 id (l.drop (k + 1))).1 then ((sizedF y.toNat 18446744073709551615 id (l.drop (k + 1))).1, 3) else sizedF y.toNat 18446744073709551615 id (l.drop (k + 1))) := by
    rw [HL.out]; exact rfl
  have HCC : Hid (numC (l.drop k) = 1 + sizedC y.toNat (l.drop (k + 1))) := by rw [HL.out]; exact rfl
  clear h hk hy
  generalize sizedF y.toNat 18446744073709551615 id (l.drop (k + 1)) = r at *
  generalize sizedC y.toNat (l.drop (k + 1)) = sc at *
  obtain ⟨n, er⟩ := r
  by_cases h0 : er = 0
  · subst h0
    by_cases h1 : most < n
    · have HE := Lib.hid (show numF most (l.drop k) = (n, 3) from HF.out.trans (if_pos ⟨rfl, h1⟩))
      go_enter Try.func28, Try.ntmps28
      go_wp2_with (first
        | (go_at_call 40; ((refine (C.out).mono ?_); rintro e w2 ⟨rfl, hm⟩; have HM := Lib.hid hm; clear hm))
        | (go_at_call 48; ((refine (C2.out _ HM.out).mono ?_); rintro e w3 ⟨rfl, hm⟩; have HM2 := Lib.hid hm; clear hm)))
      go_ret2
      rw [HE.out, HCC.out]
      exact ⟨rfl, HM2.out⟩
    · have HE := Lib.hid (show numF most (l.drop k) = (n, 0) from HF.out.trans (if_neg (fun x => h1 x.2)))
      have t1 : decide (most < n) = false := by simp; omega
      clear h1
      go_enter Try.func28, Try.ntmps28
      go_wp2_with (first
        | (go_at_call 40; ((refine (C.out).mono ?_); rintro e w2 ⟨rfl, hm⟩; have HM := Lib.hid hm; clear hm))
        | (go_at_call 48; ((refine (C2.out _ HM.out).mono ?_); rintro e w3 ⟨rfl, hm⟩; have HM2 := Lib.hid hm; clear hm)))
      go_ret2
      rw [HE.out, HCC.out]
      exact ⟨rfl, HM2.out⟩
  · have HE := Lib.hid (show numF most (l.drop k) = (n, er) from HF.out.trans (if_neg (fun x => h0 x.1)))
    have t1 : ((er : Int) == 0) = false := by simp; omega
    clear h0
    go_enter Try.func28, Try.ntmps28
    go_wp2_with (first
      | (go_at_call 40; ((refine (C.out).mono ?_); rintro e w2 ⟨rfl, hm⟩; have HM := Lib.hid hm; clear hm))
      | (go_at_call 48; ((refine (C2.out _ HM.out).mono ?_); rintro e w3 ⟨rfl, hm⟩; have HM2 := Lib.hid hm; clear hm)))
    go_ret2
    rw [HE.out, HCC.out]
    exact ⟨rfl, HM2.out⟩
theorem takeNum_any (g k c most : Nat) (A : Option Addr) (l : List UInt8) (w : World) (h : Rd w g k A c l) :
    Calls Try.prog 28 #[.pointer (some ⟨g, 0, none⟩), .int .u64 most] w fun e w' => e = .returned (.tuple #[.int .u64 ((numF most (l.drop k)).1 : Nat), .int .i64 ((numF most (l.drop k)).2 : Nat)]) ∧ Moved w g (k + numC (l.drop k)) w' := by
  have hb := h.2.1.1
  rcases Nat.lt_or_ge k l.length with hk | hk
  · exact takeNum_more g k c most A l w h hk
  · exact takeNum_end g k c most A l w h (by omega)
end Go.Proofs.Ytokgpifelinonaa
