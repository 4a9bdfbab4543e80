/- The forms of numbers, whole numbers, floats and bytes, for every one. -/
import Derived.Test.YtokgpifelinonaaB2
import Derived.Test.YtokgpifelinonaaF2
namespace Go.Proofs.Ytokgpifelinonaa
open Go.RowKit
/-- What a form's call gives back: a new slice of these bytes; all that lay there stays. -/
def Gives (w : World) (l : List UInt8) (e : Ending) (w' : World) : Prop :=
  ∃ cap, e = .returned (.slice (some ⟨w.heap.size, 0, none⟩) l.length cap) ∧ w'.ownsRow w.heap.size 5 1 (.slice (some ⟨w.heap.size, 0, none⟩) l.length cap) l.length (cellsB l) ∧ Below w.heap.size w w'
theorem Gives.mk {w w' : World} {l : List UInt8} {n cap : Nat} (hl : l.length = n) (h : w'.ownsRow w.heap.size 5 1 (.slice (some ⟨w.heap.size, 0, none⟩) n cap) n (cellsB l)) (hb : Below w.heap.size w w') :
    Gives w l (.returned (.slice (some ⟨w.heap.size, 0, none⟩) n cap)) w' := by
  subst hl
  exact ⟨cap, rfl, h, hb⟩
theorem head_cells {w : World} {base g k cap : Nat} {l : List UInt8} {v : Value} {c : Nat} (hc : c ≤ 255) (hv : v = .int .u8 c) (h : w.ownsRow base 5 1 (.slice (some ⟨g, 0, none⟩) k cap) k (cellsB l ++ [v])) :
    w.ownsRow base 5 1 (.slice (some ⟨g, 0, none⟩) k cap) k (cellsB (l ++ [UInt8.ofNat c])) := by
  rw [cellsB_append]
  have e : cellsB [UInt8.ofNat c] = [v] := by
    rw [hv]
    simp [cellsB, bv]
    omega
  rw [e]
  exact h
set_option maxRecDepth 100000 in
set_option maxHeartbeats 1000000 in
theorem Num_any (A : Option Addr) (l : List UInt8) (cap n : Nat) (w : World) (hn : n < 2 ^ 64) (hA : At w A l) (hz : A = none → cap = 0) (hm : l.length + 9 ≤ 140737488355328) :
    Calls Try.prog 22 #[.slice A l.length cap, .int .u64 n] w (Gives w (l ++ encNum n)) := by
  obtain ⟨i0, hi, hz0, hz1, hz2⟩ := info_parts info8
  have h8 := nlen_8 n hn
  have C1 := Lib.hid (fun w => length_any n w hn)
  have C2 := Lib.hid (room_any A l cap (1 + nlen n) w hA hz (by omega))
  have HN := Lib.hid hn
  clear hn hA hz
  go_enter Try.func22, Try.ntmps22
  go_wp2_with (first
    | (go_at_call 45; ((with_reducible refine (C1.out _).mono ?_); rintro e w' ⟨rfl, rfl⟩))
    | (go_at_call 43; (refine (C2.out).mono ?_); rintro e w1 ⟨rfl, hown1, hb1⟩; have H1 := Lib.hid hown1; have B1 := Lib.hid hb1; have S1 := Lib.hid hb1.size; clear hown1 hb1)
    | (at_builtin; refine wpList_append_fits_any _ rfl _ _ _ rfl w.heap.size 5 i0 1 Try.underlying22 hi hz1 w.heap.size l.length (l.length + (1 + nlen n)) _ rfl (H1.out.alloc _) _ 1 1 [.int .u8 (nlen n : Nat)] rfl rfl (fun h => by cases h) (new_one _ _ rfl) (one_cell _ _) (by omega) ?_; intro w2 hown2 hg2; have H2 := Lib.hid (head_cells (by omega) rfl hown2); have B2 := Lib.hid ((B1.out.alloc S1.out _).grown hg2 (Nat.le_trans S1.out (by simp)) (by simp)); have L2 := Lib.hid ((H2.out.lt _ rfl).2); clear hown2 hg2)
    | (go_at_call 42; (refine (put_any w.heap.size w.heap.size (l.length + 1) (l.length + (1 + nlen n)) (nlen n) n (l ++ [UInt8.ofNat (nlen n)]) _ HN.out h8 L2.out (by omega) (by simp) (by omega) H2.out).mono ?_); rintro e w3 ⟨rfl, hown3, hb3⟩))
  go_ret
  refine Gives.mk (by simp [encNum, digs_length]; omega) ?_ (B2.out.trans hb3)
  simpa [encNum] using hown3
theorem encInt_neg (m : Nat) : encInt (-(m : Int) - 1) = UInt8.ofNat (15 - nlen m) :: flip8 (digs m (nlen m)) := by
  unfold encInt
  rw [if_neg (by omega), show (-(-(m : Int) - 1 + 1)).toNat = m by omega]
theorem encInt_pos (m : Nat) : encInt (m : Int) = UInt8.ofNat (16 + nlen m) :: digs m (nlen m) := by
  unfold encInt
  rw [if_pos (by omega), Int.toNat_natCast]
/-- The last digits of the complement in 64 bits. -/
theorem digs_compl (m k : Nat) (hk : k ≤ 8) (hm : m < 256 ^ k) : digs (18446744073709551615 - m) k = flip8 (digs m k) := by
  rw [← digs_flip m k hm]
  have e : 18446744073709551615 - m = (256 ^ (8 - k) - 1) * 256 ^ k + (256 ^ k - 1 - m) := by
    have h : (256 : Nat) ^ (8 - k) * 256 ^ k = 18446744073709551616 := by rw [← Nat.pow_add, show 8 - k + k = 8 by omega]
    have h1 : 0 < (256 : Nat) ^ (8 - k) := Nat.pow_pos (by omega)
    rw [Nat.sub_mul, h, Nat.one_mul]
    have h2 : (256 : Nat) ^ k ≤ 256 ^ 8 := Nat.pow_le_pow_right (by omega) hk
    omega
  rw [e, digs_add]
set_option maxRecDepth 100000 in
set_option maxHeartbeats 1000000 in
theorem Int_pos (A : Option Addr) (l : List UInt8) (cap n : Nat) (w : World) (hn : n < 2 ^ 63) (hA : At w A l) (hz : A = none → cap = 0) (hm : l.length + 9 ≤ 140737488355328) :
    Calls Try.prog 23 #[.slice A l.length cap, .int .i64 n] w (Gives w (l ++ encInt n)) := by
  obtain ⟨i0, hi, hz0, hz1, hz2⟩ := info_parts info8
  have hn64 : n < 2 ^ 64 := by omega
  have h8 := nlen_8 n hn64
  have C1 := Lib.hid (fun w => length_any n w hn64)
  have C2 := Lib.hid (room_any A l cap (1 + nlen n) w hA hz (by omega))
  have HN := Lib.hid hn64
  have t0 : decide ((n : Int) < 0) = false := by simp
  have hw : IntKind.u64.wrap (n : Int) = (n : Int) := by rw [IntKind.wrap_u64]; omega
  clear hn hn64 hA hz
  go_enter Try.func23, Try.ntmps23
  go_wp2_with (first
    | (go_at_call 45; ((with_reducible refine (C1.out _).mono ?_); rintro e w' ⟨rfl, rfl⟩))
    | (go_at_call 43; (refine (C2.out).mono ?_); rintro e w1 ⟨rfl, hown1, hb1⟩; have H1 := Lib.hid hown1; have B1 := Lib.hid hb1; have S1 := Lib.hid hb1.size; clear hown1 hb1)
    | (at_builtin; refine wpList_append_fits_any _ rfl _ _ _ rfl w.heap.size 5 i0 1 Try.underlying22 hi hz1 w.heap.size l.length (l.length + (1 + nlen n)) _ rfl (H1.out.alloc _) _ 1 1 [.int .u8 (16 + (nlen n : Nat))] rfl rfl (fun h => by cases h) (new_one _ _ rfl) (one_cell _ _) (by omega) ?_; intro w2 hown2 hg2; have H2 := Lib.hid (head_cells (c := 16 + nlen n) (by omega) (by simp) hown2); have B2 := Lib.hid ((B1.out.alloc S1.out _).grown hg2 (Nat.le_trans S1.out (by simp)) (by simp)); have L2 := Lib.hid ((H2.out.lt _ rfl).2); clear hown2 hg2)
    | (go_at_call 42; (refine (put_any w.heap.size w.heap.size (l.length + 1) (l.length + (1 + nlen n)) (nlen n) n (l ++ [UInt8.ofNat (16 + nlen n)]) _ HN.out h8 L2.out (by omega) (by simp) (by omega) H2.out).mono ?_); rintro e w3 ⟨rfl, hown3, hb3⟩))
  go_ret
  refine Gives.mk (by simp [encInt_pos, digs_length]; omega) ?_ (B2.out.trans hb3)
  simpa [encInt_pos] using hown3
set_option maxRecDepth 100000 in
set_option maxHeartbeats 1000000 in
theorem Int_neg (A : Option Addr) (l : List UInt8) (cap m : Nat) (w : World) (hn : m < 2 ^ 63) (hA : At w A l) (hz : A = none → cap = 0) (hm : l.length + 9 ≤ 140737488355328) :
    Calls Try.prog 23 #[.slice A l.length cap, .int .i64 (-(m : Int) - 1)] w (Gives w (l ++ encInt (-(m : Int) - 1))) := by
  obtain ⟨i0, hi, hz0, hz1, hz2⟩ := info_parts info8
  have hn64 : m < 2 ^ 64 := by omega
  have h8 := nlen_8 m hn64
  have hlt := nlen_lt m hn64
  have HF := Lib.hid (digs_compl m (nlen m) h8 hlt)
  have HE := Lib.hid (encInt_neg m)
  have C0 := Lib.hid (fun w => length_any (18446744073709551615 - m) w (by omega))
  have C1 := Lib.hid (fun w => length_any m w hn64)
  have C2 := Lib.hid (room_any A l cap (1 + nlen m) w hA hz (by omega))
  obtain ⟨z, hz'⟩ : ∃ z : Int, z = -(m : Int) - 1 := ⟨_, rfl⟩
  obtain ⟨u, hu⟩ : ∃ u : Nat, u = 18446744073709551615 - m := ⟨_, rfl⟩
  rw [← hz'] at HE ⊢
  rw [← hu] at C0 HF
  have HU := Lib.hid (show u < 2 ^ 64 by omega)
  have h8u := nlen_8 u HU.out
  have hx : bits .xor .u64 IntKind.u64.max (u : Int) = (m : Int) := (xor_all u (by omega)).trans (by omega)
  have t0 : z < 0 := by omega
  have hw : IntKind.u64.wrap z = (u : Int) := by rw [IntKind.wrap_u64]; omega
  clear hn hn64 hA hz hlt hz' hu
  go_enter Try.func23, Try.ntmps23
  go_wp2_with (first
    | (go_at_call 45; ((with_reducible refine (C0.out _).mono ?_); rintro e w' ⟨rfl, rfl⟩))
    | (go_at_call 45; ((with_reducible refine (C1.out _).mono ?_); rintro e w' ⟨rfl, rfl⟩))
    | (go_at_call 43; (refine (C2.out).mono ?_); rintro e w1 ⟨rfl, hown1, hb1⟩; have H1 := Lib.hid hown1; have B1 := Lib.hid hb1; have S1 := Lib.hid hb1.size; clear hown1 hb1)
    | (at_builtin; refine wpList_append_fits_any _ rfl _ _ _ rfl w.heap.size 5 i0 1 Try.underlying22 hi hz1 w.heap.size l.length (l.length + (1 + nlen m)) _ rfl (H1.out.alloc _) _ 1 1 [.int .u8 (15 - (nlen m : Nat))] rfl rfl (fun h => by cases h) (new_one _ _ rfl) (one_cell _ _) (by omega) ?_; intro w2 hown2 hg2; have H2 := Lib.hid (head_cells (c := 15 - nlen m) (by omega) (by congr 1; omega) hown2); have B2 := Lib.hid ((B1.out.alloc S1.out _).grown hg2 (Nat.le_trans S1.out (by simp)) (by simp)); have L2 := Lib.hid ((H2.out.lt _ rfl).2); clear hown2 hg2)
    | (go_at_call 42; (refine (put_any w.heap.size w.heap.size (l.length + 1) (l.length + (1 + nlen m)) (nlen m) u (l ++ [UInt8.ofNat (15 - nlen m)]) _ HU.out h8 L2.out (by omega) (by simp) (by omega) H2.out).mono ?_); rintro e w3 ⟨rfl, hown3, hb3⟩))
  go_ret
  rw [HF.out] at hown3
  refine Gives.mk (by rw [HE.out]; simp [flip8_length, digs_length]; omega) ?_ (B2.out.trans hb3)
  rw [HE.out]
  simpa using hown3
theorem Int_any (A : Option Addr) (l : List UInt8) (cap : Nat) (n : Int) (w : World) (hn : fits n) (hA : At w A l) (hz : A = none → cap = 0) (hm : l.length + 9 ≤ 140737488355328) :
    Calls Try.prog 23 #[.slice A l.length cap, .int .i64 n] w (Gives w (l ++ encInt n)) := by
  unfold fits at hn
  by_cases h : 0 ≤ n
  · obtain ⟨m, rfl⟩ := Int.eq_ofNat_of_zero_le h
    exact Int_pos A l cap m w (by omega) hA hz hm
  · obtain ⟨m, rfl⟩ : ∃ m : Nat, n = -(m : Int) - 1 := ⟨(-n - 1).toNat, by omega⟩
    exact Int_neg A l cap m w (by omega) hA hz hm
set_option maxRecDepth 100000 in
set_option maxHeartbeats 1000000 in
theorem place_any (f : Nat) (w : World) (hf : f < 18446744073709551616) :
    Calls Try.prog 44 #[.float .f64 f] w fun e w' => e = .returned (.int .u64 (placeF f)) ∧ w = w' := by
  have hfb := call_Float64bits
  by_cases h0 : f < 9223372036854775808
  · have ha : bits .and .u64 (f : Int) 9223372036854775808 = 0 := by
      rw [u64_and _ _ (by omega) (by omega) (by omega) (by omega)]
      simp only [Int.toNat_natCast, show (9223372036854775808 : Int).toNat = 9223372036854775808 from rfl]
      rw [and_top f (by omega), if_pos h0]; rfl
    have HF := Lib.hid h0
    clear h0 hf
    go_enter Try.func44, Try.ntmps44
    go_wp2
    go_ret
    have h0 := HF.out
    refine ⟨ret1 ?_, rfl⟩
    unfold placeF
    rw [u64_or _ _ (by omega) (by omega) (by omega) (by omega)]
    simp only [Int.toNat_natCast, show (9223372036854775808 : Int).toNat = 9223372036854775808 from rfl]
    rw [or_top f h0, if_pos h0]
  · have ha : bits .and .u64 (f : Int) 9223372036854775808 = 9223372036854775808 := by
      rw [u64_and _ _ (by omega) (by omega) (by omega) (by omega)]
      simp only [Int.toNat_natCast, show (9223372036854775808 : Int).toNat = 9223372036854775808 from rfl]
      rw [and_top f (by omega), if_neg (by omega)]; rfl
    have HF := Lib.hid h0
    have HG := Lib.hid hf
    clear h0 hf
    go_enter Try.func44, Try.ntmps44
    go_wp2
    go_ret
    have h0 := HF.out
    have hf := HG.out
    refine ⟨ret1 ?_, rfl⟩
    unfold placeF
    rw [if_neg h0, xor_all f (by omega)]
    omega
theorem placeF_lt (f : Nat) (hf : f < 18446744073709551616) : placeF f < 2 ^ 64 := by unfold placeF; split <;> omega
set_option maxRecDepth 100000 in
set_option maxHeartbeats 1000000 in
theorem Float_no (A : Option Addr) (l : List UInt8) (cap f : Nat) (w : World) (hf : f < 18446744073709551616) (h : canonF f ≠ f) :
    Calls Try.prog 20 #[.slice A l.length cap, .float .f64 f] w fun e w' => e = .returned (.tuple #[.slice none 0 0, .int .i64 1]) ∧ w = w' := by
  have C := Lib.hid (fun w => Canonical_any f w hf)
  rw [show decide (canonF f = f) = false by simp [h]] at C
  clear hf h
  go_enter Try.func20, Try.ntmps20
  go_wp2_with (go_at_call 41; ((with_reducible refine (C.out _).mono ?_); rintro e w' ⟨rfl, rfl⟩))
  go_ret2
  exact ⟨rfl, rfl⟩
/-- What the form of a float gives back. -/
def GivesF (w : World) (l : List UInt8) (e : Ending) (w' : World) : Prop :=
  ∃ cap, e = .returned (.tuple #[.slice (some ⟨w.heap.size, 0, none⟩) l.length cap, .int .i64 0]) ∧ w'.ownsRow w.heap.size 5 1 (.slice (some ⟨w.heap.size, 0, none⟩) l.length cap) l.length (cellsB l) ∧ Below w.heap.size w w'
theorem GivesF.mk {w w' : World} {l : List UInt8} {n cap : Nat} (hl : l.length = n) (h : w'.ownsRow w.heap.size 5 1 (.slice (some ⟨w.heap.size, 0, none⟩) n cap) n (cellsB l)) (hb : Below w.heap.size w w') :
    GivesF w l (.returned (.tuple #[.slice (some ⟨w.heap.size, 0, none⟩) n cap, .int .i64 0])) w' := by
  subst hl
  exact ⟨cap, rfl, h, hb⟩
set_option maxRecDepth 100000 in
set_option maxHeartbeats 1000000 in
theorem Float_yes (A : Option Addr) (l : List UInt8) (cap f : Nat) (w : World) (hf : f < 18446744073709551616) (h : canonF f = f) (hA : At w A l) (hz : A = none → cap = 0) (hm : l.length + 9 ≤ 140737488355328) :
    Calls Try.prog 20 #[.slice A l.length cap, .float .f64 f] w (GivesF w (l ++ encFloat f)) := by
  have C := Lib.hid (fun w => Canonical_any f w hf)
  rw [show decide (canonF f = f) = true by simp [h]] at C
  have C1 := Lib.hid (fun w => place_any f w hf)
  have C2 := Lib.hid (room_any A l cap 8 w hA hz (by omega))
  have HN := Lib.hid (placeF_lt f hf)
  clear hf h hA hz
  go_enter Try.func20, Try.ntmps20
  go_wp2_with (first
    | (go_at_call 41; ((with_reducible refine (C.out _).mono ?_); rintro e w' ⟨rfl, rfl⟩))
    | (go_at_call 44; ((with_reducible refine (C1.out _).mono ?_); rintro e w' ⟨rfl, rfl⟩))
    | (go_at_call 43; (refine (C2.out).mono ?_); rintro e w1 ⟨rfl, hown1, hb1⟩; have H1 := Lib.hid hown1; have B1 := Lib.hid hb1; have L1 := Lib.hid ((H1.out.lt _ rfl).2); clear hown1 hb1)
    | (go_at_call 42; (refine (put_any w.heap.size w.heap.size l.length (l.length + 8) 8 (placeF f) l _ HN.out (by omega) L1.out (by omega) rfl (by omega) H1.out).mono ?_); rintro e w3 ⟨rfl, hown3, hb3⟩))
  go_ret2
  exact GivesF.mk (by simp [encFloat, digs_length]) (by simpa [encFloat] using hown3) (B1.out.trans hb3)
end Go.Proofs.Ytokgpifelinonaa
