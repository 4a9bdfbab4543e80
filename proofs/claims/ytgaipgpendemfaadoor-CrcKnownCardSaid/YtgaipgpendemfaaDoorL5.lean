/- The statement CrcKnown, walked. -/
import Derived.Test.YtgaipgpendemfaaDoorL2
namespace Go.Proofs.YtgaipgpendemfaaDoor
open Go.RowKit
theorem feed_zeros (x : BitVec 32) (n : Nat) : feed x (List.replicate n 0) = shn (8 * n) x := by
  induction n generalizing x with
  | zero => rfl
  | succ n ih =>
    rw [List.replicate_succ, feed_cons, ih, show 8 * (n + 1) = 8 + 8 * n by omega, shn_add]
    congr 1
    unfold feedB
    rw [top_zero, BitVec.xor_zero]
theorem turns_63 : ∀ d : Fin 63, shn (8 * (d.val + 1)) ones ≠ ones := by decide +kernel
/-- Noughts count. -/
theorem zeros_apart (i k : Nat) (h : k < i) (hi : i < 64) : moreV 0#32 (List.replicate i 0) ≠ moreV 0#32 (List.replicate k 0) := by
  intro e
  unfold moreV at e
  have e1 : feed (0#32 ^^^ ones) (List.replicate i 0) = feed (0#32 ^^^ ones) (List.replicate k 0) := by
    have := congrArg (fun v => v ^^^ ones) e
    simpa [xor_ones_twice] using this
  rw [feed_zeros, feed_zeros, BitVec.zero_xor, show 8 * i = 8 * (i - k) + 8 * k by omega, shn_add] at e1
  have e2 : shn (8 * k) (shn (8 * (i - k)) ones ^^^ ones) = 0#32 := by rw [shn_xor, e1, BitVec.xor_self]
  have e3 := shn_zero_inv _ e2
  have e4 : shn (8 * (i - k)) ones = ones := by
    have := congrArg (fun v => v ^^^ ones) e3
    simpa [BitVec.xor_assoc] using this
  have := turns_63 ⟨i - k - 1, by omega⟩
  rw [show 8 * ((⟨i - k - 1, by omega⟩ : Fin 63).val + 1) = 8 * (i - k) by simp; omega] at this
  exact this e4
theorem k_none : stripE [] = 4 ∧ stripL [] = [] := by decide +kernel
theorem k_noughts : stripE [0, 0, 0, 0] = 0 ∧ stripL [0, 0, 0, 0] = [] := by decide +kernel
theorem take_zeros (n i : Nat) (h : i ≤ n) : (List.replicate n (0 : UInt8)).take i = List.replicate i 0 := by
  rw [List.take_replicate, Nat.min_eq_left h]
set_option maxRecDepth 100000 in
set_option maxHeartbeats 4000000 in
theorem CrcKnown_walk (w : World) (h : Env w) : Calls Tryd.prog 8 #[] w fun e w' => e = .returned (.bool true) ∧ Below w.heap.size w w' := by
  have C1 := StripL none [] 0 0 w h (at_nil _ _) (fun _ => rfl) (by decide) (by decide) rfl
  unfold Strips at C1
  rw [k_none.1, k_none.2] at C1
  obtain ⟨Z4, hZ4⟩ : ∃ C, Array.replicate 4 (Value.int .u8 0) = C := ⟨_, rfl⟩
  obtain ⟨Z64, hZ64⟩ : ∃ C, Array.replicate 64 (Value.int .u8 0) = C := ⟨_, rfl⟩
  have hmk4 : ∀ w : World, (Instr.makeSlice 23 (.int .i64 4) (.int .i64 4)).run Tryd.prog w = .ok (.slice (some ⟨w.heap.size, 0, none⟩) 4 4) (w.alloc (.cells Z4 5)) := fun w => hZ4 ▸ make_bytes 4 w (by decide)
  have hmk64 : ∀ w : World, (Instr.makeSlice 23 (.int .i64 64) (.int .i64 64)).run Tryd.prog w = .ok (.slice (some ⟨w.heap.size, 0, none⟩) 64 64) (w.alloc (.cells Z64 5)) := fun w => hZ64 ▸ make_bytes 64 w (by decide)
  have N4 := Lib.hid (fun w : World => hZ4 ▸ zeros_new 4 w)
  have N64 := Lib.hid (fun w : World => hZ64 ▸ zeros_new 64 w)
  have HE := Lib.hid h
  have HC1 := Lib.hid C1
  clear C1 h hZ4 hZ64
  go_enter Tryd.func8, Tryd.ntmps8
  go_wp2_with fail
  refine (HC1.out).mono ?_
  rintro e w1 ⟨B1, c1, rfl, _, _, _, hb1⟩
  have E1 := Lib.hid (HE.out.below hb1)
  have X1 := Lib.hid hb1
  clear hb1
  go_wp2_with fail
  have C2 := StripL (some ⟨w1.heap.size, 0, none⟩) (List.replicate 4 0) 4 4 (w1.alloc (.cells Z4 5)) (E1.out.alloc _) (N4.out w1).at_ (fun h => by cases h) (by decide) (by decide) rfl
  unfold Strips at C2
  rw [show List.replicate 4 (0 : UInt8) = [0, 0, 0, 0] from rfl, k_noughts.1, k_noughts.2] at C2
  refine C2.mono ?_
  rintro e w2 ⟨B2, c2, rfl, _, _, _, hb2⟩
  have E2 := Lib.hid ((E1.out.alloc _).below hb2)
  have X2 := Lib.hid ((X1.out.alloc X1.out.size _).trans (hb2.mono (by have := X1.out.size; simp; omega)))
  clear hb2 C2
  go_wp2_with fail
  have M3 := Lib.hid (N64.out w2)
  have E3 := Lib.hid (E2.out.alloc (.cells Z64 5))
  have X3 := Lib.hid (X2.out.alloc X2.out.size (.cells Z64 5))
  clear hmk4 hmk64 N4 N64 HC1
  have hsz : w2.heap.size < (w2.alloc (.cells Z64 5)).heap.size := by simp
  obtain ⟨w3, hw3⟩ : ∃ w3, w2.alloc (.cells Z64 5) = w3 := ⟨_, rfl⟩
  rw [hw3] at M3 E3 X3 hsz ⊢
  go_loopw [6] (fun i wr => ∃ a : Nat, a ≤ 64 ∧ i = .int .i64 a ∧ Below w3.heap.size w3 wr) (fun i _ => 64 - (intOf i).toNat)
  case atStart => exact ⟨0, Nat.zero_le _, rfl, Below.refl _ _⟩
  case round =>
    obtain ⟨a, ha, rfl, hbel⟩ := hrel
    by_cases hlt : a < 64
    · have i1 : (a : Int) < 64 := by omega
      have i2 : (0 : Int) ≤ (a : Int) := by omega
      go_wp2_with fail
      go_loopw [7] (fun i wr => ∃ b : Nat, b ≤ a ∧ i = .int .i64 b ∧ Below w3.heap.size w3 wr) (fun i _ => 64 - (intOf i).toNat)
      case atStart => exact ⟨0, Nat.zero_le _, rfl, hbel⟩
      case round =>
        obtain ⟨b, hb, rfl, hbel2⟩ := hrel
        by_cases hlt2 : b < a
        · have j1 : (b : Int) < (a : Int) := by omega
          have j2 : (0 : Int) ≤ (b : Int) := by omega
          have j3 : (a : Int) ≤ 64 := by omega
          have j4 : (b : Int) ≤ 64 := by omega
          have hne := zeros_apart a b hlt2 hlt
          obtain ⟨X, hX⟩ : ∃ X, moreV 0#32 (List.replicate a 0) = X := ⟨_, rfl⟩
          obtain ⟨Y, hY⟩ : ∃ X, moreV 0#32 (List.replicate b 0) = X := ⟨_, rfl⟩
          rw [hX, hY] at hne
          have t0 : ((X.toNat : Int) == (Y.toNat : Int)) = false := by
            have : X.toNat ≠ Y.toNat := fun h => hne (BitVec.eq_of_toNat_eq h)
            simp
            omega
          have c1 := fun wk (hb : Below w3.heap.size w3 wk) => on hb (SumL (some ⟨w2.heap.size, 0, none⟩) (List.replicate a 0) a 64 wk (E3.out.below hb) (by have := take_at a (M3.out.at_.below hb); rw [take_zeros _ _ ha] at this; exact this) (by simp; omega) (by simp))
          rw [hX] at c1
          have c2 := fun wk (hb : Below w3.heap.size w3 wk) => on hb (SumL (some ⟨w2.heap.size, 0, none⟩) (List.replicate b 0) b 64 wk (E3.out.below hb) (by have := take_at b (M3.out.at_.below hb); rw [take_zeros _ _ (by omega)] at this; exact this) (by simp; omega) (by simp))
          rw [hY] at c2
          have C1 := Lib.hid c1
          have C2 := Lib.hid c2
          have HB := Lib.hid hbel2
          clear c1 c2 hX hY hne hbel hbel2
          go_upto_region 10 with fail
          go_region_held3 (fun wk => Below w3.heap.size w3 wk) (first | exact HB.out.drew | assumption | fail) (first
            | (go_at_call 12; (first
              | ((with_reducible refine (C1.out _ (by assumption)).mono ?_); rintro e w5 ⟨rfl, hb5⟩)
              | ((with_reducible refine (C2.out _ (by assumption)).mono ?_); rintro e w5 ⟨rfl, hb5⟩)
              | fail))
            | fail)
          go_wp2
          exact ⟨⟨b + 1, by omega, by go_num, by assumption⟩, by simp [intOf]; omega⟩
        · obtain rfl : b = a := by omega
          go_wp2
          exact ⟨⟨b + 1, by omega, by go_num, hbel2⟩, by simp [intOf]; omega⟩
    · obtain rfl : a = 64 := by omega
      have E4 := Lib.hid (E3.out.below hbel)
      have X4 := Lib.hid (X3.out.trans (hbel.mono X3.out.size))
      go_wp2_with fail
      refine (wakes_any _ E4.out).mono ?_
      rintro e w4 ⟨rfl, hb4⟩
      have X5 := Lib.hid (X4.out.trans (hb4.mono X4.out.size))
      clear hb4
      go_wp2
      go_ret
      exact ⟨rfl, X5.out⟩
end Go.Proofs.YtgaipgpendemfaaDoor
