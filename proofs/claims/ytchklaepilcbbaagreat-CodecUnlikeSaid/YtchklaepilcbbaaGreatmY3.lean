/- Words, labels, numbers of nodes, periods; which operations may be. -/
import Derived.Test.YtchklaepilcbbaaGreatmY1
import Derived.Test.YtchklaepilcbbaaGreatH2
import Derived.Test.YtchklaepilcbbaaGreatH1
namespace Go.Proofs.YtchklaepilcbbaaGreat
open Go.RowKit
theorem isLetter_any (c : UInt8) (w : World) : Calls Tryz.prog 51 #[.int .u8 (c.toNat : Int)] w fun e w' => e = .returned (.bool (letterB c)) ∧ w = w' := by
  obtain ⟨x, hx⟩ : ∃ x : Int, x = (c.toNat : Int) := ⟨_, rfl⟩
  have e : letterB c = (decide (97 ≤ x) && decide (x ≤ 122)) := by unfold letterB; rw [hx, ← Bool.decide_and]; exact decide_eq_decide.2 (by omega)
  rw [← hx, e]
  clear e hx
  by_cases h1 : 97 ≤ x <;> by_cases h2 : x ≤ 122
  all_goals
    simp only [h1, h2, decide_true, decide_false, Bool.and_self, Bool.and_true, Bool.and_false]
    go_enter Tryz.func51, Tryz.ntmps51
    go_wp2
    go_ret
    exact ⟨rfl, rfl⟩
theorem isDigit_any (c : UInt8) (w : World) : Calls Tryz.prog 52 #[.int .u8 (c.toNat : Int)] w fun e w' => e = .returned (.bool (decide (48 ≤ c.toNat ∧ c.toNat ≤ 57))) ∧ w = w' := by
  obtain ⟨x, hx⟩ : ∃ x : Int, x = (c.toNat : Int) := ⟨_, rfl⟩
  have e : decide (48 ≤ c.toNat ∧ c.toNat ≤ 57) = (decide (48 ≤ x) && decide (x ≤ 57)) := by rw [hx, ← Bool.decide_and]; exact decide_eq_decide.2 (by omega)
  rw [← hx, e]
  clear e hx
  by_cases h1 : 48 ≤ x <;> by_cases h2 : x ≤ 57
  all_goals
    simp only [h1, h2, decide_true, decide_false, Bool.and_self, Bool.and_true, Bool.and_false]
    go_enter Tryz.func52, Tryz.ntmps52
    go_wp2
    go_ret
    exact ⟨rfl, rfl⟩
theorem isId_any (n : Nat) (w : World) : Calls Tryz.prog 66 #[.int .u64 (n : Int)] w fun e w' => e = .returned (.bool (decide (1 ≤ n ∧ n ≤ 1099511627776))) ∧ w = w' := by
  obtain ⟨x, hx⟩ : ∃ x : Int, x = (n : Int) := ⟨_, rfl⟩
  have e : decide (1 ≤ n ∧ n ≤ 1099511627776) = (decide (1 ≤ x) && decide (x ≤ 1099511627776)) := by rw [hx, ← Bool.decide_and]; exact decide_eq_decide.2 (by omega)
  rw [← hx, e]
  clear e hx
  by_cases h1 : 1 ≤ x <;> by_cases h2 : x ≤ 1099511627776
  all_goals
    simp only [h1, h2, decide_true, decide_false, Bool.and_self, Bool.and_true, Bool.and_false]
    go_enter Tryz.func66, Tryz.ntmps66
    go_wp2
    go_ret
    exact ⟨rfl, rfl⟩
theorem perMay_any (a b : Nat) (w : World) : Calls Tryz.prog 68 #[.agg #[.int .u64 (a : Int), .int .u64 (b : Int)]] w fun e w' => e = .returned (.bool (decide (a < b ∧ b ≤ 1099511627776))) ∧ Below w.heap.size w w' := by
  obtain ⟨x, hx⟩ : ∃ x : Int, x = (a : Int) := ⟨_, rfl⟩
  obtain ⟨y, hy⟩ : ∃ x : Int, x = (b : Int) := ⟨_, rfl⟩
  have e : decide (a < b ∧ b ≤ 1099511627776) = (decide (x < y) && decide (y ≤ 1099511627776)) := by rw [hx, hy, ← Bool.decide_and]; exact decide_eq_decide.2 (by omega)
  rw [← hx, ← hy, e]
  clear e hx hy
  by_cases h1 : x < y <;> by_cases h2 : y ≤ 1099511627776
  all_goals
    simp only [h1, h2, decide_true, decide_false, Bool.and_self, Bool.and_true, Bool.and_false]
    go_enter Tryz.func68, Tryz.ntmps68
    go_wp2
    go_ret
    exact ⟨rfl, (Below.refl _ _).alloc (Nat.le_refl _) _⟩
theorem flag_any (b : Bool) (w : World) : Calls Tryz.prog 82 #[.bool b] w fun e w' => e = .returned (.int .u8 ((bit8 b).toNat : Int)) ∧ w = w' := by
  cases b
  all_goals
    go_enter Tryz.func82, Tryz.ntmps82
    go_wp2
    go_ret
    exact ⟨rfl, rfl⟩
theorem first_byte (s : ByteArray) (h : 0 < s.size) : s.data.toList.getD 0 0 = s[0] := by
  simp [List.getD, h]; rfl
theorem wordB_no {s : ByteArray} (h : s.size = 0 ∨ 16 < s.size) : wordB s = false := by
  unfold wordB
  rcases h with h | h
  · simp [h]
  · have : decide (s.size ≤ 16) = false := by simp; omega
    simp [this]
theorem wordB_head {s : ByteArray} (h : 0 < s.size) (hc : letterB s[0] = false) : wordB s = false := by
  unfold wordB
  rw [first_byte s h, hc]; simp
theorem inner_eq (c : UInt8) : innerB c = (letterB c || decide (48 ≤ c.toNat ∧ c.toNat ≤ 57) || !decide ((c.toNat : Int) ≠ 95)) := by
  unfold innerB
  congr 1
  by_cases h : c.toNat = 95
  · simp [h]
  · have : ¬ (c.toNat : Int) = 95 := by omega
    simp [h, this]
theorem all_take (s : ByteArray) (k : Nat) (h : k < s.size) : (s.data.toList.take (k + 1)).all innerB = ((s.data.toList.take k).all innerB && innerB s[k]) := by
  rw [List.take_succ_eq_append_getElem (by simpa using h)]
  simp [List.all_append]; rfl
theorem all_no (s : ByteArray) (k : Nat) (h : k < s.size) (hc : innerB s[k] = false) : s.data.toList.all innerB = false := by
  rw [List.all_eq_false]
  exact ⟨s[k], by
    have : s[k] = s.data.toList[k]'(by simpa using h) := rfl
    rw [this]
    exact List.getElem_mem _, by rw [hc]; decide⟩
set_option maxRecDepth 100000 in
set_option maxHeartbeats 1000000 in
theorem Word_any (s : ByteArray) (w : World) : Calls Tryz.prog 15 #[.string s] w fun e w' => e = .returned (.bool (wordB s)) ∧ w = w' := by
  by_cases h0 : s.size = 0
  · have t0 : ((s.size : Int) == 0) = true := by simp [h0]
    rw [wordB_no (.inl h0)]
    clear h0
    go_enter Tryz.func15, Tryz.ntmps15
    go_wp2
    go_ret
    exact ⟨rfl, rfl⟩
  have t0 : ((s.size : Int) == 0) = false := by rw [beq_eq_false_iff_ne]; omega
  by_cases h1 : 16 < s.size
  · have t1 : decide (16 < (s.size : Int)) = true := by simp; omega
    rw [wordB_no (.inr h1)]
    clear h0 h1
    go_enter Tryz.func15, Tryz.ntmps15
    go_wp2
    go_ret
    exact ⟨rfl, rfl⟩
  have t1 : decide (16 < (s.size : Int)) = false := by simp; omega
  have hs : 0 < s.size := by omega
  cases hl : letterB s[0]
  · rw [wordB_head hs hl]
    have C := Lib.hid (fun w => isLetter_any s[0] w)
    rw [hl] at C
    clear h0 h1 hl
    go_enter Tryz.func15, Tryz.ntmps15
    go_wp2_with (go_at_call 51; ((with_reducible refine (C.out _).mono ?_); rintro e w' ⟨rfl, rfl⟩))
    go_ret
    exact ⟨rfl, rfl⟩
  have C := Lib.hid (fun w => isLetter_any s[0] w)
  rw [hl] at C
  have HW : Hid (wordB s = s.data.toList.all innerB) := Lib.hid (by
    unfold wordB
    rw [first_byte s hs, hl]
    have e1 : decide (s.size ≠ 0) = true := by rw [decide_eq_true_eq]; omega
    have e2 : decide (s.size ≤ 16) = true := by simp; omega
    rw [e1, e2]; simp)
  rw [HW.out]
  have HS := Lib.hid (show s.size ≤ 16 by omega)
  clear h0 h1 hl
  go_enter Tryz.func15, Tryz.ntmps15
  go_wp2_with (go_at_call 51; ((with_reducible refine (C.out _).mono ?_); rintro e w' ⟨rfl, rfl⟩))
  go_loopw [20] (fun i wr => ∃ k : Nat, k ≤ s.size ∧ i = .int .i64 k ∧ wr = w ∧ (s.data.toList.take k).all innerB = true) (fun i _ => s.size - (intOf i).toNat)
  case atStart => exact ⟨0, Nat.zero_le _, rfl, rfl, rfl⟩
  case round =>
    obtain ⟨k, hk, rfl, rfl, hI⟩ := hrel
    by_cases hlt : k < s.size
    · have C1 := Lib.hid (fun w => isLetter_any s[k] w)
      have C2 := Lib.hid (fun w => isDigit_any s[k] w)
      have HI := Lib.hid hI
      have HA := Lib.hid (all_take s k hlt)
      have HN := Lib.hid (all_no s k hlt)
      have HQ := Lib.hid (inner_eq s[k])
      have hsz : s.size ≤ 16 := HS.out
      obtain ⟨x, hx⟩ : ∃ x : Int, x = (s[k].toNat : Int) := ⟨_, rfl⟩
      clear hI
      generalize hp : letterB s[k] = p at *
      generalize hq : decide (48 ≤ s[k].toNat ∧ s[k].toNat ≤ 57) = q at *
      cases hr : decide ((s[k].toNat : Int) ≠ 95)
      all_goals
        have hr' : ((s[k].toNat : Int) != 95) = decide ((s[k].toNat : Int) ≠ 95) := by
          by_cases e : (s[k].toNat : Int) = 95 <;> simp [e]
        rw [hr] at hr' HQ
        have HX := Lib.hid hx
        clear hr hx hp hq
        cases p <;> cases q
        all_goals
          go_wp2_with (first
            | (go_at_call 51; ((with_reducible refine (C1.out _).mono ?_); rintro e w' ⟨rfl, rfl⟩))
            | (go_at_call 52; ((with_reducible refine (C2.out _).mono ?_); rintro e w' ⟨rfl, rfl⟩)))
          first
          | (go_ret
             refine ⟨retB ?_, rfl⟩
             exact (HN.out HQ.out).symm)
          | exact ⟨⟨k + 1, by omega, by go_num, by first | rfl | exact trivial, by rw [HA.out, HI.out, HQ.out]; rfl⟩, by simp [intOf]; omega⟩
    · obtain rfl : k = s.size := by omega
      have HI := Lib.hid (show s.data.toList.all innerB = true by
        rw [List.take_of_length_le (by simp)] at hI
        exact hI)
      clear hI
      go_wp2
      go_ret
      exact ⟨retB HI.out.symm, rfl⟩
end Go.Proofs.YtchklaepilcbbaaGreat
