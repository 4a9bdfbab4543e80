/- Numbers read back: takeSized, takeNum, takeInt. -/
import Derived.Test.YtokgpifelinonaaB8
namespace Go.Proofs.Ytokgpifelinonaa
open Go.RowKit
/-- The least number of that many digits. -/
def leastOf (count : Nat) : Nat := if 0 < count then 256 ^ (count - 1) else 0
def okOne (count most : Nat) (low high : Nat) : Bool := meetsB (low, high) (leastOf count, most)
/-- What is answered of a number of that many digits. -/
def sizedF (count most : Nat) (fl : UInt8 → UInt8) (L : List UInt8) : Nat × Nat := if 8 < count then (0, 5) else digF count fl (okOne count most) L
def sizedC (count : Nat) (L : List UInt8) : Nat := if 8 < count then 0 else thereN count L
theorem spans_one (g h a b : Nat) (w : World) (hh : w.heap[h]? = some (.cells #[.int .u64 a, .int .u64 b] 89 (0, 0))) (hne : h ≠ g) :
    SpansOk w g (.slice (some ⟨h, 0, none⟩) 1 1) (fun low high => meetsB (low, high) (a, b)) := by
  intro W hW low high
  have e := (hW.2 h (lt_heap hh) hne).trans hh
  exact Contains_one h a b low high W (by simpa using cell_of_row W h 0 _ _ _ e) (by simpa using cell_of_row W h 1 _ _ _ e)
theorem shl_least (count : Nat) (h : 0 < count) (h8 : count ≤ 8) : IntKind.u64.wrap (2 ^ (8 * ((count : Int) - 1)).toNat) = ((256 ^ (count - 1) : Nat) : Int) := by
  have e := shl_low 1 (count - 1) (by omega) (by rw [show 8 - (count - 1) = (8 - count) + 1 by omega, Nat.pow_succ]; have := Nat.pow_pos (n := 8 - count) (show 0 < 256 by omega); omega)
  rw [show ((count - 1 : Nat) : Int) = (count : Int) - 1 by omega, Nat.one_mul] at e
  simpa using e
set_option maxRecDepth 100000 in
set_option maxHeartbeats 2000000 in
theorem takeSized_long (g k c count most : Nat) (flip : Int) (fl : UInt8 → UInt8) (A : Option Addr) (l : List UInt8) (w : World) (h : Rd w g k A c l) (hc : 8 < count) (h255 : count ≤ 255) :
    Calls Try.prog 48 #[.pointer (some ⟨g, 0, none⟩), .int .i64 count, .int .u8 flip, .int .u64 most] w fun e w' => e = .returned (.tuple #[.int .u64 ((sizedF count most fl (l.drop k)).1 : Nat), .int .i64 ((sizedF count most fl (l.drop k)).2 : Nat)]) ∧ Moved w g (k + sizedC count (l.drop k)) w' := by
  have HE := Lib.hid (show sizedF count most fl (l.drop k) = (0, 5) from if_pos hc)
  have HC := Lib.hid (show sizedC count (l.drop k) = 0 from if_pos hc)
  have H := Lib.hid h
  clear h
  go_enter Try.func48, Try.ntmps48
  go_wp2
  go_ret2
  exact ⟨by rw [HE.out]; rfl, by rw [HC.out]; exact Moved.stay H.out (Below.refl _ _)⟩
set_option maxRecDepth 100000 in
set_option maxHeartbeats 2000000 in
theorem takeSized_short (g k c count most : Nat) (flip : Int) (fl : UInt8 → UInt8) (A : Option Addr) (l : List UInt8) (w : World) (h : Rd w g k A c l) (hc : count ≤ 8)
    (hfl : ∀ x : UInt8, bits .xor .u8 (x.toNat : Int) flip = ((fl x).toNat : Int)) :
    Calls Try.prog 48 #[.pointer (some ⟨g, 0, none⟩), .int .i64 count, .int .u8 flip, .int .u64 most] w fun e w' => e = .returned (.tuple #[.int .u64 ((sizedF count most fl (l.drop k)).1 : Nat), .int .i64 ((sizedF count most fl (l.drop k)).2 : Nat)]) ∧ Moved w g (k + sizedC count (l.drop k)) w' := by
  have HE := Lib.hid (show sizedF count most fl (l.drop k) = digF count fl (okOne count most) (l.drop k) from if_neg (by omega))
  have HC := Lib.hid (show sizedC count (l.drop k) = thereN count (l.drop k) from if_neg (by omega))
  have C : Hid (∀ o, o = leastOf count → Calls Try.prog 53 #[.pointer (some ⟨g, 0, none⟩), .int .i64 count, .int .u8 flip, .slice (some ⟨w.heap.size, 0, none⟩) 1 1] (w.alloc (.cells #[.int .u64 (o : Nat), .int .u64 most] 89)) fun e w' => e = .returned (.tuple #[.int .u64 ((digF count fl (okOne count most) (l.drop k)).1 : Nat), .int .i64 ((digF count fl (okOne count most) (l.drop k)).2 : Nat)]) ∧ Moved w g (k + thereN count (l.drop k)) w') := by
    rintro o rfl
    have hb : Below w.heap.size w (w.alloc (.cells #[.int .u64 (leastOf count : Nat), .int .u64 most] 89)) := (Below.refl _ _).alloc (Nat.le_refl _) _
    refine (takeDigits_any g k c count flip fl A l _ (okOne count most) _ (h.below hb) hc hfl (spans_one g w.heap.size (leastOf count) most _ (heap_alloc_new w _) (Nat.ne_of_gt h.lt))).mono ?_
    rintro e w' ⟨he, hm⟩
    exact ⟨he, Moved.after hb h.lt hm⟩
  clear h hfl
  by_cases h0 : 0 < count
  · have hsh := shl_least count h0 hc
    have HL := Lib.hid (show 256 ^ (count - 1) = leastOf count from (if_pos h0).symm)
    go_enter Try.func48, Try.ntmps48
    go_wp2_with (go_at_call 53; ((refine (C.out _ HL.out).mono ?_); rintro e w2 ⟨rfl, hm⟩; have HM := Lib.hid hm; clear hm))
    go_ret2
    exact ⟨by rw [HE.out]; rfl, by rw [HC.out]; exact HM.out⟩
  · have HL := Lib.hid (show 0 = leastOf count from (if_neg h0).symm)
    obtain rfl : count = 0 := by omega
    go_enter Try.func48, Try.ntmps48
    go_wp2_with (go_at_call 53; ((refine (C.out _ HL.out).mono ?_); rintro e w2 ⟨rfl, hm⟩; have HM := Lib.hid hm; clear hm))
    go_ret2
    exact ⟨by rw [HE.out]; rfl, by rw [HC.out]; exact HM.out⟩
theorem takeSized_any (g k c count most : Nat) (flip : Int) (fl : UInt8 → UInt8) (A : Option Addr) (l : List UInt8) (w : World) (h : Rd w g k A c l) (h255 : count ≤ 255)
    (hfl : ∀ x : UInt8, bits .xor .u8 (x.toNat : Int) flip = ((fl x).toNat : Int)) :
    Calls Try.prog 48 #[.pointer (some ⟨g, 0, none⟩), .int .i64 count, .int .u8 flip, .int .u64 most] w fun e w' => e = .returned (.tuple #[.int .u64 ((sizedF count most fl (l.drop k)).1 : Nat), .int .i64 ((sizedF count most fl (l.drop k)).2 : Nat)]) ∧ Moved w g (k + sizedC count (l.drop k)) w' := by
  rcases Nat.lt_or_ge 8 count with hc | hc
  · exact takeSized_long g k c count most flip fl A l w h hc h255
  · exact takeSized_short g k c count most flip fl A l w h hc hfl
end Go.Proofs.Ytokgpifelinonaa
