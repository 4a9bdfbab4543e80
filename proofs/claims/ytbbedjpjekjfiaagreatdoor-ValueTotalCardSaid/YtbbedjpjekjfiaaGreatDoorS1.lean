/- num.Sum and the document's own sum, for every slice of at most 1000 whole numbers: the exact sum where it fits, else the overflow. -/
import Derived.Test.YtbbedjpjekjfiaaGreatDoorC1
import Derived.Test.YtbbedjpjekjfiaaGreatDoorO1
import Derived.LoopTactic
namespace Go.Proofs.YtbbedjpjekjfiaaGreatDoor
open Go.RowKit

/-- The sum of the first k. -/
def sumTo (zs : List Int) (k : Nat) : Int := (zs.take k).sum
theorem sumTo_zero (zs : List Int) : sumTo zs 0 = 0 := by simp [sumTo]
theorem sumTo_succ (zs : List Int) (k : Nat) (h : k < zs.length) : sumTo zs (k + 1) = sumTo zs k + zs.getD k 0 := by
  unfold sumTo
  rw [List.take_succ_eq_append_getElem h, List.sum_append]
  simp [List.getD, h]
theorem sumTo_all (zs : List Int) : sumTo zs zs.length = zs.sum := by simp [sumTo]
theorem sumTo_bound (zs : List Int) (hz : ∀ n ∈ zs, fits n) (k : Nat) (hk : k ≤ zs.length) : -(9223372036854775808 * k) ≤ sumTo zs k ∧ sumTo zs k ≤ 9223372036854775807 * k := by
  induction k with
  | zero => rw [sumTo_zero]; omega
  | succ k ih =>
    have := ih (by omega)
    have e := sumTo_succ zs k (by omega)
    have f := hz (zs.getD k 0) (by simp [List.getD, show k < zs.length by omega])
    unfold fits at f
    omega
/-- What is told of a sum. -/
def sumV (z : Int) : Int := if fitB z = true then z else 0
def sumE (z : Int) : Int := if fitB z = true then 0 else 36
set_option maxRecDepth 100000 in
set_option maxHeartbeats 1000000 in
theorem Sum_any (A : Option Addr) (zs : List Int) (cap : Nat) (w : World) (hl : zs.length ≤ 1000) (hz : ∀ n ∈ zs, fits n) (hc : CellsAt w A zs) :
    Calls Tryz.prog 14 #[.slice A zs.length cap] w fun e w' => e = .returned (.tuple #[.int .i64 (sumV zs.sum), .int .i64 (sumE zs.sum)]) ∧ Below w.heap.size w w' := by
  have HC := Lib.hid hc
  have HZ := Lib.hid hz
  clear hc hz
  go_enter Tryz.func14, Tryz.ntmps14
  go_wp2
  go_loopw [11] (fun i wr => ∃ k : Nat, k ≤ zs.length ∧ i = .int .i64 k ∧ wr = w.alloc (.cells #[.int .u64 (W0 (sumTo zs k)), .int .u64 (W1 (sumTo zs k))] 80)) (fun i _ => zs.length - (intOf i).toNat)
  case atStart => exact ⟨0, Nat.zero_le _, rfl, by rw [sumTo_zero]; rfl⟩
  case round =>
    obtain ⟨k, hk, rfl, rfl⟩ := hrel
    by_cases hlt : k < zs.length
    · obtain ⟨b, off, rfl, hb, hcell⟩ := HC.out (by omega)
      have hck := hcell k hlt
      have HS := Lib.hid (sumTo_succ zs k hlt)
      have hf := HZ.out (zs.getD k 0) (by simp [List.getD, hlt])
      unfold fits at hf
      clear hcell
      generalize zs.getD k 0 = z at *
      have hw0 : IntKind.u64.wrap z = W0 z := by rw [IntKind.wrap_u64]; rfl
      have hw1 : IntKind.u64.wrap (z / 9223372036854775808) = W1 z := by rw [IntKind.wrap_u64]; unfold W1; omega
      generalize sumTo zs k = s at *
      have e1 := call_Add64 (W0 s) (W0 z) 0 (W0_range s).1 (W0_range z).1 (.inl rfl)
      have e2 := call_Add64 (W1 s) (W1 z) ((W0 s + W0 z + 0) / 18446744073709551616) (W1_range s).1 (W1_range z).1 (by have := W0_range s; have := W0_range z; omega)
      obtain ⟨f1, f2⟩ := words_sum s z
      rw [f1] at e1
      rw [f2] at e2
      generalize (W0 s + W0 z + 0) / 18446744073709551616 = c at *
      generalize (W1 s + W1 z + c) / 18446744073709551616 = d at *
      clear f1 f2
      go_wp2
      exact ⟨⟨k + 1, by omega, by go_num, by rw [HS.out]⟩, by simp [intOf]; omega⟩
    · obtain rfl : k = zs.length := by omega
      have hbd := sumTo_bound zs HZ.out zs.length (Nat.le_refl _)
      have HF := fit_words (sumTo zs zs.length) (by omega) (by omega)
      have HA := Lib.hid (sumTo_all zs)
      have hr := W0_range (sumTo zs zs.length)
      clear HZ hbd
      cases hb : fitB (sumTo zs zs.length)
      · rw [hb] at HF
        have h1 : (W1 (sumTo zs zs.length) != IntKind.u64.wrap (wrap64 (W0 (sumTo zs zs.length)) / 9223372036854775808)) = true := by simp [bne, HF]
        have HB := Lib.hid hb
        clear HF hb
        go_wp2
        go_ret2
        exact ⟨tup2 (by unfold sumV; rw [← HA.out, HB.out]; rfl) (by unfold sumE; rw [← HA.out, HB.out]; rfl), by go_grown⟩
      · rw [hb] at HF
        have h1 : (W1 (sumTo zs zs.length) != IntKind.u64.wrap (wrap64 (W0 (sumTo zs zs.length)) / 9223372036854775808)) = false := by simp [bne, HF]
        have HB := Lib.hid hb
        clear HF hb
        go_wp2
        go_ret2
        refine ⟨tup2 ?_ (by unfold sumE; rw [← HA.out, HB.out]; rfl), by go_grown⟩
        unfold sumV
        rw [← HA.out, HB.out, if_pos rfl]
        have := HB.out
        unfold fitB at this
        unfold W0
        simp only [decide_eq_true_eq] at this
        simp only [wrap64]
        omega
theorem i64_mask32 (x : Int) (h0 : 0 ≤ x) (h1 : x < 9223372036854775808) : bits .and .i64 x 4294967295 = x % 4294967296 := by
  rw [i64_and x 4294967295 h0 h1 (by omega) (by omega)]
  obtain ⟨n, rfl⟩ := Int.eq_ofNat_of_zero_le h0
  have e : n &&& 4294967295 = n % 4294967296 := Nat.and_two_pow_sub_one_eq_mod n 32
  simp only [Int.toNat_natCast]
  rw [show (4294967295 : Int).toNat = 4294967295 from rfl, e]
  omega
set_option maxRecDepth 100000 in
set_option maxHeartbeats 1000000 in
theorem refSum_any (A : Option Addr) (zs : List Int) (cap : Nat) (w : World) (hl : zs.length ≤ 1000) (hz : ∀ n ∈ zs, fits n) (hc : CellsAt w A zs) :
    Calls Tryz.prog 15 #[.slice A zs.length cap] w fun e w' => e = .returned (.tuple #[.int .i64 (sumV zs.sum), .int .i64 (sumE zs.sum)]) ∧ w = w' := by
  have HC := Lib.hid hc
  have HZ := Lib.hid hz
  clear hc hz
  go_enter Tryz.func15, Tryz.ntmps15
  go_wp2
  go_loop [4, 5, 6] (fun h l i => ∃ k : Nat, k ≤ zs.length ∧ i = .int .i64 k ∧ h = .int .i64 (sumTo zs k / 4294967296) ∧ l = .int .i64 (sumTo zs k % 4294967296)) (fun _ _ i => zs.length - (intOf i).toNat)
  case atStart => exact ⟨0, Nat.zero_le _, rfl, by rw [sumTo_zero]; rfl, by rw [sumTo_zero]; rfl⟩
  case round =>
    obtain ⟨k, hk, rfl, rfl, rfl⟩ := hrel
    have hb0 := sumTo_bound zs HZ.out k hk
    by_cases hlt : k < zs.length
    · obtain ⟨b, off, rfl, hb, hcell⟩ := HC.out (by omega)
      have hck := hcell k hlt
      have HS := Lib.hid (sumTo_succ zs k hlt)
      have hf := HZ.out (zs.getD k 0) (by simp [List.getD, hlt])
      unfold fits at hf
      clear hcell
      generalize zs.getD k 0 = z at *
      generalize sumTo zs k = s at *
      have b1 : -9223372036854775808000 ≤ s ∧ s ≤ 9223372036854775808000 := by omega
      clear hb0
      have hm := i64_mask32 (s % 4294967296 + (z - z / 4294967296 * 4294967296)) (by omega) (by omega)
      have HM := Lib.hid hm
      clear hm
      go_wp2
      refine ⟨⟨k + 1, by omega, by go_num, ?_, ?_⟩, by simp [intOf]; omega⟩
      · rw [HS.out]; congr 1; omega
      · rw [HS.out, HM.out]; congr 1; omega
    · obtain rfl : k = zs.length := by omega
      have b1 : -9223372036854775808000 ≤ sumTo zs zs.length ∧ sumTo zs zs.length ≤ 9223372036854775808000 := by omega
      have HA := Lib.hid (sumTo_all zs)
      clear HZ HC hb0
      generalize hs : sumTo zs zs.length = s at *
      have HH := Lib.hid hs
      clear hs
      by_cases p : 2147483647 < s / 4294967296
      · go_wp2
        go_ret2
        refine ⟨tup2 ?_ ?_, rfl⟩ <;> rw [← HA.out] <;> (first | unfold sumV | unfold sumE) <;> (rw [if_neg]; unfold fitB; simp; omega)
      · by_cases q : s / 4294967296 < -2147483648
        · go_wp2
          go_ret2
          refine ⟨tup2 ?_ ?_, rfl⟩ <;> rw [← HA.out] <;> (first | unfold sumV | unfold sumE) <;> (rw [if_neg]; unfold fitB; simp; omega)
        · go_wp2
          go_ret2
          have hb : fitB s = true := by unfold fitB; simp; omega
          refine ⟨tup2 ?_ ?_, rfl⟩ <;> rw [← HA.out]
          · unfold sumV; rw [if_pos hb]; omega
          · unfold sumE; rw [if_pos hb]
end Go.Proofs.YtbbedjpjekjfiaaGreatDoor
