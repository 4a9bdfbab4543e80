/- shift, More, Sum: the checksum, for every row of bytes. -/
import Derived.Test.YtbmhgmigcgeooaaDoorP1
namespace Go.Proofs.YtbmhgmigcgeooaaDoor
open Go.RowKit
theorem bx (x y : BitVec 32) : bits .xor .u32 (x.toNat : Int) (y.toNat : Int) = ((x ^^^ y).toNat : Int) := by
  rw [u32_xor_nat _ _ x.isLt y.isLt, BitVec.toNat_xor]
theorem ushl (x : BitVec 32) (k : Nat) : IntKind.u32.wrap ((x.toNat : Int) * 2 ^ k) = ((x <<< k).toNat : Int) := by
  rw [IntKind.wrap_u32', BitVec.toNat_shiftLeft, Nat.shiftLeft_eq]
  simp
theorem tab_lt : ∀ k : Fin 16, tab.getD k.val 0 < 4294967296 := by decide
theorem idx_lt (x : BitVec 32) : x.toNat / 2 ^ 28 < 16 := by have := x.isLt; omega
theorem shift_val (x : BitVec 32) : bits .xor .u32 (IntKind.u32.wrap ((x.toNat : Int) * 2 ^ 4)) (tab.getD (x.toNat / 2 ^ 28) 0 : Nat) = ((shn 4 x).toNat : Int) := by
  have h := tab_lt ⟨_, idx_lt x⟩
  rw [ushl, show (tab.getD (x.toNat / 2 ^ 28) 0 : Nat) = (BitVec.ofNat 32 (tab.getD (x.toNat / 2 ^ 28) 0)).toNat by rw [BitVec.toNat_ofNat, Nat.mod_eq_of_lt h], bx, four]
theorem shift_val' (x : BitVec 32) : bits .xor .u32 ((x.toNat : Int) * 16 % 4294967296) (tab.getD (x.toNat / 2 ^ 28) 0 : Nat) = ((shn 4 x).toNat : Int) := by
  have h := shift_val x
  rw [IntKind.wrap_u32'] at h
  exact h
set_option maxRecDepth 100000 in
set_option maxHeartbeats 1000000 in
theorem shift_any (x : BitVec 32) (w : World) (h : Env w) : Calls Tryd.prog 39 #[.int .u32 (x.toNat : Int)] w fun e w' => e = .returned (.int .u32 ((shn 4 x).toNat : Int)) ∧ w = w' := by
  have hk := idx_lt x
  have hc := h.cell _ hk
  have hv := Lib.hid (shift_val' x)
  have hx := x.isLt
  generalize tab.getD (x.toNat / 2 ^ 28) 0 = T at *
  generalize x.toNat = n at *
  clear h
  go_enter Tryd.func39, Tryd.ntmps39
  go_wp2
  go_ret
  exact ⟨ret1 hv.out, rfl⟩
theorem shift_at (n : Int) (x : BitVec 32) (w : World) (h : Env w) (hn : n = (x.toNat : Int)) : Calls Tryd.prog 39 #[.int .u32 n] w fun e w' => e = .returned (.int .u32 ((shn 4 x).toNat : Int)) ∧ w = w' := by
  subst hn
  exact shift_any x w h
theorem top_toNat (c : UInt8) : (top c).toNat = c.toNat * 16777216 := by
  unfold top
  have := c.toNat_lt
  rw [BitVec.toNat_ofNat, Nat.mod_eq_of_lt (by omega)]
theorem bxor_top (x : BitVec 32) (c : UInt8) : bits .xor .u32 (x.toNat : Int) ((c.toNat : Int) * 16777216) = ((x ^^^ top c).toNat : Int) := by
  rw [← bx, top_toNat]
  simp
theorem take_snoc (l : List UInt8) (j : Nat) (h : j < l.length) : l.take (j + 1) = l.take j ++ [l.getD j 0] := by
  rw [List.take_succ_eq_append_getElem h]
  simp [List.getD, h]
theorem feed_snoc (x : BitVec 32) (l : List UInt8) (j : Nat) (h : j < l.length) : feed x (l.take (j + 1)) = shn 4 (shn 4 (feed x (l.take j) ^^^ top (l.getD j 0))) := by
  rw [take_snoc l j h, feed_append]
  show shn 8 _ = _
  rw [show (8 : Nat) = 4 + 4 from rfl, shn_add]
theorem notv (x : BitVec 32) : bits .xor .u32 IntKind.u32.max (x.toNat : Int) = ((x ^^^ ones).toNat : Int) := by
  rw [show IntKind.u32.max = ((ones.toNat : Nat) : Int) from rfl, bx, BitVec.xor_comm]
theorem not_run (x : BitVec 32) (w : World) : (Op.unary .xor (.int .u32 (x.toNat : Int))).run Tryd.prog w = .ok (.int .u32 ((x ^^^ ones).toNat : Int)) w := by
  rw [← notv]
  rfl
set_option maxRecDepth 100000 in
set_option maxHeartbeats 1000000 in
theorem More_any (s : BitVec 32) (A : Option Addr) (l : List UInt8) (cap : Nat) (w : World) (h : Env w) (hA : At w A l) (hm : l.length ≤ 140737488355328) :
    Calls Tryd.prog 36 #[.int .u32 (s.toNat : Int), .slice A l.length cap] w fun e w' => e = .returned (.int .u32 ((moreV s l).toNat : Int)) ∧ w = w' := by
  have HE := Lib.hid h
  have HA := Lib.hid hA
  have hn := not_run
  clear h hA
  go_enter Tryd.func36, Tryd.ntmps36
  go_wp2
  go_loopw [5, 12] (fun r i wr => ∃ j : Nat, j ≤ l.length ∧ i = .int .i64 j ∧ r = .int .u32 ((feed (s ^^^ ones) (l.take j)).toNat : Int) ∧ w = wr) (fun _ i _ => l.length - (intOf i).toNat)
  case atStart => exact ⟨0, Nat.zero_le _, rfl, congrArg (Value.int .u32) (notv s), rfl⟩
  case round =>
    obtain ⟨j, hj, rfl, rfl, rfl⟩ := hrel
    by_cases hlt : j < l.length
    · obtain ⟨b, off, rfl, hb, hc⟩ := HA.out (by omega)
      have hcj := hc j hlt
      have hf := Lib.hid (feed_snoc (s ^^^ ones) l j hlt)
      have hx := Lib.hid (bxor_top (feed (s ^^^ ones) (l.take j)) (l.getD j 0))
      have hb8 := (l.getD j 0).toNat_lt
      unfold bv at hcj
      generalize l.getD j 0 = c at *
      generalize feed (s ^^^ ones) (l.take j) = y at *
      clear hc
      go_wp2_with (go_at_call 39; (first
        | ((with_reducible refine (shift_at _ (y ^^^ top c) _ HE.out hx.out).mono ?_); rintro e w' ⟨rfl, rfl⟩)
        | ((with_reducible refine (shift_any _ _ HE.out).mono ?_); rintro e w' ⟨rfl, rfl⟩)))
      exact ⟨⟨j + 1, by omega, by go_num, by rw [hf.out], by first | rfl | trivial⟩, by simp [intOf]; omega⟩
    · obtain rfl : j = l.length := by omega
      go_wp2
      go_ret
      rw [List.take_length]
      exact ⟨ret1 (notv _), by first | rfl | trivial⟩
theorem Sum_any (A : Option Addr) (l : List UInt8) (cap : Nat) (w : World) (h : Env w) (hA : At w A l) (hm : l.length ≤ 140737488355328) :
    Calls Tryd.prog 30 #[.slice A l.length cap] w fun e w' => e = .returned (.int .u32 ((moreV 0#32 l).toNat : Int)) ∧ w = w' := by
  have C := Lib.hid (More_any 0#32 A l cap w h hA hm)
  clear h hA
  go_enter Tryd.func30, Tryd.ntmps30
  go_wp2_with (go_at_call 36; ((refine (C.out).mono ?_); rintro e w' ⟨rfl, rfl⟩))
  go_ret
  exact ⟨rfl, rfl⟩
end Go.Proofs.YtbmhgmigcgeooaaDoor
