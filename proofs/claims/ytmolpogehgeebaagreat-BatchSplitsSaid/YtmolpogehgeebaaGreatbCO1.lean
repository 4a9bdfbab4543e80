/- Operations in plain words: which of them may be. -/
/- Words, labels, numbers of nodes, periods; which operations may be. -/
/- Which operations may be: MayOp, for every operation. -/
/- MayOp, for every operation. -/
/- A period that came in. -/
import Derived.Test.YtmolpogehgeebaaGreatbV6b
import Derived.Test.YtmolpogehgeebaaGreatbV4
import Derived.Test.YtmolpogehgeebaaGreatbQ1
import Derived.Test.YtmolpogehgeebaaGreatbL1
namespace Go.Proofs.YtmolpogehgeebaaGreat.Co
open Go.RowKit
/-- An operation. -/
structure OP where
  kind : Int
  edge : Bool
  id : Nat
  label : ByteArray
  fr : Nat
  til : Nat
  key : ByteArray
  v : VP
  pf : Nat
  pt : Nat
/-- A batch. -/
structure BP where
  number : Nat
  stamp : Nat
  ops : List OP
theorem OP.eq {x y : OP} (h1 : x.kind = y.kind) (h2 : x.edge = y.edge) (h3 : x.id = y.id) (h4 : x.label = y.label) (h5 : x.fr = y.fr) (h6 : x.til = y.til) (h7 : x.key = y.key) (h8 : x.v = y.v) (h9 : x.pf = y.pf) (h10 : x.pt = y.pt) : x = y := by
  cases x; cases y; simp only at h1 h2 h3 h4 h5 h6 h7 h8 h9 h10; subst h1 h2 h3 h4 h5 h6 h7 h8 h9 h10; rfl
theorem BP.eq {x y : BP} (h1 : x.number = y.number) (h2 : x.stamp = y.stamp) (h3 : x.ops = y.ops) : x = y := by
  cases x; cases y; simp only at h1 h2 h3; subst h1 h2 h3; rfl
/-- A byte of a word; a word; a label. -/
def letterB (c : UInt8) : Bool := decide (97 ≤ c.toNat ∧ c.toNat ≤ 122)
def innerB (c : UInt8) : Bool := letterB c || decide (48 ≤ c.toNat ∧ c.toNat ≤ 57) || decide (c.toNat = 95)
def wordB (s : ByteArray) : Bool := decide (s.size ≠ 0) && decide (s.size ≤ 16) && letterB (s.data.toList.getD 0 0) && s.data.toList.all innerB
def labelB (s : ByteArray) : Bool := decide (s = ByteArray.empty) || wordB s
def idP (n : Nat) : Prop := 1 ≤ n ∧ n ≤ 1099511627776
theorem wordB_size {s : ByteArray} (h : wordB s = true) : s.size ≤ 16 ∧ s ≠ ByteArray.empty := by
  unfold wordB at h
  simp only [Bool.and_eq_true, decide_eq_true_eq] at h
  refine ⟨h.1.1.2, fun e => h.1.1.1 ?_⟩
  rw [e]; rfl
theorem labelB_size {s : ByteArray} (h : labelB s = true) : s.size ≤ 16 := by
  unfold labelB at h
  simp only [Bool.or_eq_true, decide_eq_true_eq] at h
  rcases h with h | h
  · rw [h]; exact Nat.zero_le _
  · exact (wordB_size h).1
/-- What an operation's kind asks of its fields. -/
def OP.kindP (o : OP) : Prop :=
  (o.kind = 1 ∧ o.edge = false ∧ labelB o.label = true ∧ o.fr = 0 ∧ o.til = 0 ∧ o.key = ByteArray.empty ∧ o.v = VP.none) ∨
  (o.kind = 2 ∧ o.edge = true ∧ labelB o.label = true ∧ idP o.fr ∧ idP o.til ∧ o.key = ByteArray.empty ∧ o.v = VP.none) ∨
  ((o.kind = 3 ∨ o.kind = 4) ∧ o.label = ByteArray.empty ∧ o.fr = 0 ∧ o.til = 0 ∧ o.key = ByteArray.empty ∧ o.v = VP.none) ∨
  (o.kind = 5 ∧ o.label = ByteArray.empty ∧ o.fr = 0 ∧ o.til = 0 ∧ wordB o.key = true ∧ o.v.may ∧ o.v.k ≠ 5 ∧ o.v.k ≠ 6)
/-- Which operations may be. -/
def OP.may (o : OP) : Prop := idP o.id ∧ o.pf < o.pt ∧ o.pt ≤ 1099511627776 ∧ o.kindP
/-- Its fields lie in their ranges. -/
def OP.wide (o : OP) : Prop := fits o.kind ∧ o.id < 18446744073709551616 ∧ o.label.size ≤ maxLen ∧ o.fr < 18446744073709551616 ∧ o.til < 18446744073709551616 ∧ o.key.size ≤ maxLen ∧ o.v.wide ∧ o.pf < 18446744073709551616 ∧ o.pt < 18446744073709551616
def BP.may (x : BP) : Prop := 1 ≤ x.number ∧ x.number ≤ 1073741824 ∧ x.stamp < 1099511627776 ∧ 1 ≤ x.ops.length ∧ x.ops.length ≤ 256 ∧ ∀ o ∈ x.ops, o.may
theorem kindP_range {o : OP} (h : o.kindP) : 1 ≤ o.kind ∧ o.kind ≤ 5 := by unfold OP.kindP at h; omega
abbrev OP.cells (o : OP) : Array Value := #[.int .i64 o.kind, .bool o.edge, .int .u64 o.id, .string o.label, .int .u64 o.fr, .int .u64 o.til, .string o.key, .int .i64 o.v.k, .bool o.v.b, .int .i64 o.v.n, .float .f64 o.v.f, .string o.v.s, .int .u64 o.pf, .int .u64 o.pt]
abbrev OP.val (o : OP) : Value := .agg o.cells
end Go.Proofs.YtmolpogehgeebaaGreat.Co


namespace Go.Proofs.YtmolpogehgeebaaGreat.Co
open Go.RowKit
theorem isLetter_any (c : UInt8) (w : World) : Calls Tryz.prog 191 #[.int .u8 (c.toNat : Int)] w fun e w' => e = .returned (.bool (letterB c)) ∧ w = w' := by
  obtain ⟨x, hx⟩ : ∃ x : Int, x = (c.toNat : Int) := ⟨_, rfl⟩
  have e : letterB c = (decide (97 ≤ x) && decide (x ≤ 122)) := by unfold letterB; rw [hx, ← Bool.decide_and]; exact decide_eq_decide.2 (by omega)
  rw [← hx, e]
  clear e hx
  by_cases h1 : 97 ≤ x <;> by_cases h2 : x ≤ 122
  all_goals
    simp only [h1, h2, decide_true, decide_false, Bool.and_self, Bool.and_true, Bool.and_false]
    go_enter Tryz.func191, Tryz.ntmps191
    go_wp2
    go_ret
    exact ⟨rfl, rfl⟩
theorem isDigit_any (c : UInt8) (w : World) : Calls Tryz.prog 192 #[.int .u8 (c.toNat : Int)] w fun e w' => e = .returned (.bool (decide (48 ≤ c.toNat ∧ c.toNat ≤ 57))) ∧ w = w' := by
  obtain ⟨x, hx⟩ : ∃ x : Int, x = (c.toNat : Int) := ⟨_, rfl⟩
  have e : decide (48 ≤ c.toNat ∧ c.toNat ≤ 57) = (decide (48 ≤ x) && decide (x ≤ 57)) := by rw [hx, ← Bool.decide_and]; exact decide_eq_decide.2 (by omega)
  rw [← hx, e]
  clear e hx
  by_cases h1 : 48 ≤ x <;> by_cases h2 : x ≤ 57
  all_goals
    simp only [h1, h2, decide_true, decide_false, Bool.and_self, Bool.and_true, Bool.and_false]
    go_enter Tryz.func192, Tryz.ntmps192
    go_wp2
    go_ret
    exact ⟨rfl, rfl⟩
theorem isId_any (n : Nat) (w : World) : Calls Tryz.prog 143 #[.int .u64 (n : Int)] w fun e w' => e = .returned (.bool (decide (1 ≤ n ∧ n ≤ 1099511627776))) ∧ w = w' := by
  obtain ⟨x, hx⟩ : ∃ x : Int, x = (n : Int) := ⟨_, rfl⟩
  have e : decide (1 ≤ n ∧ n ≤ 1099511627776) = (decide (1 ≤ x) && decide (x ≤ 1099511627776)) := by rw [hx, ← Bool.decide_and]; exact decide_eq_decide.2 (by omega)
  rw [← hx, e]
  clear e hx
  by_cases h1 : 1 ≤ x <;> by_cases h2 : x ≤ 1099511627776
  all_goals
    simp only [h1, h2, decide_true, decide_false, Bool.and_self, Bool.and_true, Bool.and_false]
    go_enter Tryz.func143, Tryz.ntmps143
    go_wp2
    go_ret
    exact ⟨rfl, rfl⟩
theorem perMay_any (a b : Nat) (w : World) : Calls Tryz.prog 95 #[.agg #[.int .u64 (a : Int), .int .u64 (b : Int)]] w fun e w' => e = .returned (.bool (decide (a < b ∧ b ≤ 1099511627776))) ∧ Below w.heap.size w w' := by
  obtain ⟨x, hx⟩ : ∃ x : Int, x = (a : Int) := ⟨_, rfl⟩
  obtain ⟨y, hy⟩ : ∃ x : Int, x = (b : Int) := ⟨_, rfl⟩
  have e : decide (a < b ∧ b ≤ 1099511627776) = (decide (x < y) && decide (y ≤ 1099511627776)) := by rw [hx, hy, ← Bool.decide_and]; exact decide_eq_decide.2 (by omega)
  rw [← hx, ← hy, e]
  clear e hx hy
  by_cases h1 : x < y <;> by_cases h2 : y ≤ 1099511627776
  all_goals
    simp only [h1, h2, decide_true, decide_false, Bool.and_self, Bool.and_true, Bool.and_false]
    go_enter Tryz.func95, Tryz.ntmps95
    go_wp2
    go_ret
    exact ⟨rfl, (Below.refl _ _).alloc (Nat.le_refl _) _⟩
theorem first_byte (s : ByteArray) (h : 0 < s.size) : s.data.toList.getD 0 0 = s[0] := by
  simp [List.getD, h]; rfl
theorem wordB_no {s : ByteArray} (h : s.size = 0 ∨ 16 < s.size) : wordB s = false := by
  unfold wordB
  rcases h with h | h
  · simp [h]
  · have : decide (s.size ≤ 16) = false := by simp; omega
    simp [this]
theorem wordB_head {s : ByteArray} (h : 0 < s.size) (hc : letterB s[0] = false) : wordB s = false := by
  unfold wordB
  rw [first_byte s h, hc]; simp
theorem inner_eq (c : UInt8) : innerB c = (letterB c || decide (48 ≤ c.toNat ∧ c.toNat ≤ 57) || !decide ((c.toNat : Int) ≠ 95)) := by
  unfold innerB
  congr 1
  by_cases h : c.toNat = 95
  · simp [h]
  · have : ¬ (c.toNat : Int) = 95 := by omega
    simp [h, this]
theorem all_take (s : ByteArray) (k : Nat) (h : k < s.size) : (s.data.toList.take (k + 1)).all innerB = ((s.data.toList.take k).all innerB && innerB s[k]) := by
  rw [List.take_succ_eq_append_getElem (by simpa using h)]
  simp [List.all_append]; rfl
theorem all_no (s : ByteArray) (k : Nat) (h : k < s.size) (hc : innerB s[k] = false) : s.data.toList.all innerB = false := by
  rw [List.all_eq_false]
  exact ⟨s[k], by
    have : s[k] = s.data.toList[k]'(by simpa using h) := rfl
    rw [this]
    exact List.getElem_mem _, by rw [hc]; decide⟩
set_option maxRecDepth 100000 in
set_option maxHeartbeats 1000000 in
theorem Word_any (s : ByteArray) (w : World) : Calls Tryz.prog 144 #[.string s] w fun e w' => e = .returned (.bool (wordB s)) ∧ w = w' := by
  by_cases h0 : s.size = 0
  · have t0 : ((s.size : Int) == 0) = true := by simp [h0]
    rw [wordB_no (.inl h0)]
    clear h0
    go_enter Tryz.func144, Tryz.ntmps144
    go_wp2
    go_ret
    exact ⟨rfl, rfl⟩
  have t0 : ((s.size : Int) == 0) = false := by rw [beq_eq_false_iff_ne]; omega
  by_cases h1 : 16 < s.size
  · have t1 : decide (16 < (s.size : Int)) = true := by simp; omega
    rw [wordB_no (.inr h1)]
    clear h0 h1
    go_enter Tryz.func144, Tryz.ntmps144
    go_wp2
    go_ret
    exact ⟨rfl, rfl⟩
  have t1 : decide (16 < (s.size : Int)) = false := by simp; omega
  have hs : 0 < s.size := by omega
  cases hl : letterB s[0]
  · rw [wordB_head hs hl]
    have C := Lib.hid (fun w => isLetter_any s[0] w)
    rw [hl] at C
    clear h0 h1 hl
    go_enter Tryz.func144, Tryz.ntmps144
    go_wp2_with (go_at_call 191; ((with_reducible refine (C.out _).mono ?_); rintro e w' ⟨rfl, rfl⟩))
    go_ret
    exact ⟨rfl, rfl⟩
  have C := Lib.hid (fun w => isLetter_any s[0] w)
  rw [hl] at C
  have HW : Hid (wordB s = s.data.toList.all innerB) := Lib.hid (by
    unfold wordB
    rw [first_byte s hs, hl]
    have e1 : decide (s.size ≠ 0) = true := by rw [decide_eq_true_eq]; omega
    have e2 : decide (s.size ≤ 16) = true := by simp; omega
    rw [e1, e2]; simp)
  rw [HW.out]
  have HS := Lib.hid (show s.size ≤ 16 by omega)
  clear h0 h1 hl
  go_enter Tryz.func144, Tryz.ntmps144
  go_wp2_with (go_at_call 191; ((with_reducible refine (C.out _).mono ?_); rintro e w' ⟨rfl, rfl⟩))
  go_loopw [20] (fun i wr => ∃ k : Nat, k ≤ s.size ∧ i = .int .i64 k ∧ wr = w ∧ (s.data.toList.take k).all innerB = true) (fun i _ => s.size - (intOf i).toNat)
  case atStart => exact ⟨0, Nat.zero_le _, rfl, rfl, rfl⟩
  case round =>
    obtain ⟨k, hk, rfl, rfl, hI⟩ := hrel
    by_cases hlt : k < s.size
    · have C1 := Lib.hid (fun w => isLetter_any s[k] w)
      have C2 := Lib.hid (fun w => isDigit_any s[k] w)
      have HI := Lib.hid hI
      have HA := Lib.hid (all_take s k hlt)
      have HN := Lib.hid (all_no s k hlt)
      have HQ := Lib.hid (inner_eq s[k])
      have hsz : s.size ≤ 16 := HS.out
      obtain ⟨x, hx⟩ : ∃ x : Int, x = (s[k].toNat : Int) := ⟨_, rfl⟩
      clear hI
      generalize hp : letterB s[k] = p at *
      generalize hq : decide (48 ≤ s[k].toNat ∧ s[k].toNat ≤ 57) = q at *
      cases hr : decide ((s[k].toNat : Int) ≠ 95)
      all_goals
        have hr' : ((s[k].toNat : Int) != 95) = decide ((s[k].toNat : Int) ≠ 95) := by
          by_cases e : (s[k].toNat : Int) = 95 <;> simp [e]
        rw [hr] at hr' HQ
        have HX := Lib.hid hx
        clear hr hx hp hq
        cases p <;> cases q
        all_goals
          go_wp2_with (first
            | (go_at_call 191; ((with_reducible refine (C1.out _).mono ?_); rintro e w' ⟨rfl, rfl⟩))
            | (go_at_call 192; ((with_reducible refine (C2.out _).mono ?_); rintro e w' ⟨rfl, rfl⟩)))
          first
          | (go_ret
             refine ⟨retB ?_, rfl⟩
             exact (HN.out HQ.out).symm)
          | exact ⟨⟨k + 1, by omega, by go_num, by first | rfl | exact trivial, by rw [HA.out, HI.out, HQ.out]; rfl⟩, by simp [intOf]; omega⟩
    · obtain rfl : k = s.size := by omega
      have HI := Lib.hid (show s.data.toList.all innerB = true by
        rw [List.take_of_length_le (by simp)] at hI
        exact hI)
      clear hI
      go_wp2
      go_ret
      exact ⟨retB HI.out.symm, rfl⟩
end Go.Proofs.YtmolpogehgeebaaGreat.Co


namespace Go.Proofs.YtmolpogehgeebaaGreat.Co
open Go.RowKit
theorem str_empty {s : ByteArray} (h : s ≠ ByteArray.empty) : (s.toList == []) = false := by
  rw [ByteArray.toList_eq, beq_eq_false_iff_ne]
  intro e
  exact h (ByteArray.ext (Array.toList_inj.1 (by rw [e]; rfl)))
theorem labelB_eq {s : ByteArray} (h : s ≠ ByteArray.empty) : labelB s = wordB s := by unfold labelB; simp [h]
set_option maxRecDepth 100000 in
theorem isLabel_any (s : ByteArray) (w : World) : Calls Tryz.prog 142 #[.string s] w fun e w' => e = .returned (.bool (labelB s)) ∧ w = w' := by
  by_cases h : s = ByteArray.empty
  · subst h
    rw [show labelB ByteArray.empty = true by decide]
    go_enter Tryz.func142, Tryz.ntmps142
    go_wp2
    go_ret
    exact ⟨rfl, rfl⟩
  · have t1 := str_empty h
    have C := Lib.hid (fun w => Word_any s w)
    rw [labelB_eq h]
    clear h
    go_enter Tryz.func142, Tryz.ntmps142
    go_wp2_with (go_at_call 144; ((with_reducible refine (C.out _).mono ?_); rintro e w' ⟨rfl, rfl⟩))
    go_ret
    exact ⟨rfl, rfl⟩
theorem mayB_iff {v : VP} : mayB v.k v.b v.n v.f v.s = true ↔ v.may := by unfold mayB VP.may; simp
set_option maxRecDepth 100000 in
theorem mayProperty_any (v : VP) (hf : v.f < 18446744073709551616) (w : World) :
    Calls Tryz.prog 145 #[v.val] w fun e w' => ∃ c : Bool, e = .returned (.bool c) ∧ (c = true ↔ v.k ≠ 5 ∧ v.k ≠ 6 ∧ v.may) ∧ Below w.heap.size w w' := by
  have C := Lib.hid (fun W => May_any v.k v.b v.n v.f v.s W hf)
  have HB := Lib.hid (mayB_iff (v := v))
  obtain ⟨k, b, n, f, s⟩ := v
  simp only at C HB
  by_cases h5 : k = 5
  · subst h5
    clear hf
    go_enter Tryz.func145, Tryz.ntmps145
    go_wp2
    go_ret
    exact ⟨_, rfl, by simp, (Below.refl _ _).alloc (Nat.le_refl _) _⟩
  have t5 : (k != 5) = true := by simp [h5]
  by_cases h6 : k = 6
  · subst h6
    clear hf
    go_enter Tryz.func145, Tryz.ntmps145
    go_wp2
    go_ret
    exact ⟨_, rfl, by simp, (Below.refl _ _).alloc (Nat.le_refl _) _⟩
  have t6 : (k != 6) = true := by simp [h6]
  have H5 := Lib.hid (And.intro h5 h6)
  clear hf h5 h6
  go_enter Tryz.func145, Tryz.ntmps145
  go_wp2_with (go_at_call 193; ((with_reducible refine (C.out _).mono ?_); rintro e w1 ⟨rfl, hb⟩))
  go_ret
  refine ⟨_, rfl, ?_, ((Below.refl _ _).alloc (Nat.le_refl _) _).trans (hb.mono (by simp))⟩
  rw [HB.out]
  exact ⟨fun h => ⟨H5.out.1, H5.out.2, h⟩, fun h => h.2.2⟩
/-- What isBare asks. -/
def OP.bare (o : OP) : Prop := o.label = ByteArray.empty ∧ o.fr = 0 ∧ o.til = 0 ∧ o.key = ByteArray.empty ∧ o.v.k = 0 ∧ o.v.may
theorem ne_zero {n : Nat} (h : n ≠ 0) : ((n : Int) == 0) = false := by rw [beq_eq_false_iff_ne]; omega
set_option maxRecDepth 100000 in
set_option maxHeartbeats 1000000 in
theorem isBare_any (o : OP) (hf : o.v.f < 18446744073709551616) (w : World) :
    Calls Tryz.prog 146 #[o.val] w fun e w' => ∃ c : Bool, e = .returned (.bool c) ∧ (c = true ↔ o.bare) ∧ Below w.heap.size w w' := by
  obtain ⟨kind, edge, id, label, fr, til, key, ⟨k, b, n, f, s⟩, pf, pt⟩ := o
  have C := Lib.hid (fun W => May_any k b n f s W hf)
  have HB := Lib.hid (mayB_iff (v := ⟨k, b, n, f, s⟩))
  simp only at C HB
  clear hf
  by_cases h1 : label = ByteArray.empty
  case neg =>
    have t1 := str_empty h1
    have H := Lib.hid h1
    clear h1
    go_enter Tryz.func146, Tryz.ntmps146
    go_wp2
    go_ret
    exact ⟨_, rfl, by simp [OP.bare, H.out], (Below.refl _ _).alloc (Nat.le_refl _) _⟩
  subst h1
  by_cases h2 : fr = 0
  case neg =>
    have t1 := ne_zero h2
    have H := Lib.hid h2
    clear h2
    go_enter Tryz.func146, Tryz.ntmps146
    go_wp2
    go_ret
    exact ⟨_, rfl, by simp [OP.bare, H.out], (Below.refl _ _).alloc (Nat.le_refl _) _⟩
  subst h2
  by_cases h3 : til = 0
  case neg =>
    have t1 := ne_zero h3
    have H := Lib.hid h3
    clear h3
    go_enter Tryz.func146, Tryz.ntmps146
    go_wp2
    go_ret
    exact ⟨_, rfl, by simp [OP.bare, H.out], (Below.refl _ _).alloc (Nat.le_refl _) _⟩
  subst h3
  by_cases h4 : key = ByteArray.empty
  case neg =>
    have t1 := str_empty h4
    have H := Lib.hid h4
    clear h4
    go_enter Tryz.func146, Tryz.ntmps146
    go_wp2
    go_ret
    exact ⟨_, rfl, by simp [OP.bare, H.out], (Below.refl _ _).alloc (Nat.le_refl _) _⟩
  subst h4
  by_cases h5 : k = 0
  case neg =>
    have t1 : (k == 0) = false := by simp [h5]
    have H := Lib.hid h5
    clear h5
    go_enter Tryz.func146, Tryz.ntmps146
    go_wp2
    go_ret
    exact ⟨_, rfl, by simp [OP.bare, H.out], (Below.refl _ _).alloc (Nat.le_refl _) _⟩
  subst h5
  go_enter Tryz.func146, Tryz.ntmps146
  go_wp2_with (go_at_call 193; ((with_reducible refine (C.out _).mono ?_); rintro e w1 ⟨rfl, hb⟩))
  go_ret
  refine ⟨_, rfl, ?_, ((Below.refl _ _).alloc (Nat.le_refl _) _).trans (hb.mono (by simp))⟩
  rw [HB.out]
  simp [OP.bare]
end Go.Proofs.YtmolpogehgeebaaGreat.Co


namespace Go.Proofs.YtmolpogehgeebaaGreat
open Go.RowKit
theorem Bx.set {w : World} {g : Nat} {A : Array Value} (h : Bx w g A) (i : Nat) (v : Value) (hi : i < A.size) : Bx (w.setCell ⟨g, i, none⟩ v) g (A.setIfInBounds i v) := by
  refine ⟨by simpa [World.setCell] using h.lt, fun j => ?_, fun j => by rw [World.frozen?_setCell]; exact h.fr j⟩
  by_cases e : j = i
  · subst e
    rw [World.cell?_setCell_same _ _ _ ((h.c j).trans (Array.getElem?_eq_getElem hi))]
    simp [hi]
  · rw [World.cell?_setCell_other _ _ _ _ (fun he => e (by injection he with _ h2; exact h2.symm)), h.c j]
    rw [Array.getElem?_setIfInBounds]
    simp [show ¬ i = j from fun h => e h.symm]
theorem Bx.eq {w : World} {g : Nat} {A B : Array Value} (h : Bx w g A) (e : A = B) : Bx w g B := e ▸ h
end Go.Proofs.YtmolpogehgeebaaGreat
namespace Go.Proofs.YtmolpogehgeebaaGreat.Co
open Go.RowKit
theorem null_iff {v : VP} : v.k = 0 ∧ v.may ↔ v = VP.none := ⟨fun h => may_none h.2 h.1, fun h => by rw [h]; exact ⟨rfl, none_may⟩⟩
theorem idP_iff {n : Nat} : decide (1 ≤ n ∧ n ≤ 1099511627776) = true ↔ idP n := by unfold idP; simp
theorem per_iff {a b : Nat} : decide (a < b ∧ b ≤ 1099511627776) = true ↔ (a < b ∧ b ≤ 1099511627776) := by simp
theorem al1 {w w' : World} {o : Obj} (h : Below (w.alloc o).heap.size (w.alloc o) w') : Below w.heap.size w w' := ((Below.refl _ _).alloc (Nat.le_refl _) o).trans (h.mono (by simp))
theorem al2 {w w1 w2 : World} {o : Obj} (h1 : Below (w.alloc o).heap.size (w.alloc o) w1) (h2 : Below w1.heap.size w1 w2) : Below w.heap.size w w2 := al1 (h1.trans (h2.mono h1.size))
theorem blank5 (w w2 : World) (kind : Int) (edge : Bool) (id : Nat) (label : ByteArray) (fr til : Nat) (key : ByteArray) (k : Int) (b : Bool) (n : Int) (f : Nat) (s : ByteArray) (pf pt : Nat) (h : Bx w2 w.heap.size (OP.cells ⟨kind, edge, id, label, fr, til, key, ⟨k, b, n, f, s⟩, pf, pt⟩)) (hb : Below w.heap.size w w2) :
    ∃ W, ((((((w2.setCell ⟨w.heap.size, 6, none⟩ (.string ⟨#[]⟩)).setCell ⟨w.heap.size, 7, none⟩ (.int .i64 0)).setCell ⟨w.heap.size, 8, none⟩ (.bool false)).setCell ⟨w.heap.size, 9, none⟩ (.int .i64 0)).setCell ⟨w.heap.size, 10, none⟩ (.float .f64 0)).setCell ⟨w.heap.size, 11, none⟩ (.string ⟨#[]⟩)) = W ∧
      Bx W w.heap.size (OP.cells ⟨kind, edge, id, label, fr, til, ⟨#[]⟩, ⟨0, false, 0, 0, ⟨#[]⟩⟩, pf, pt⟩) ∧ Below w.heap.size w W := by
  refine ⟨_, rfl, ?_, ?_⟩
  · exact (((((((h.set 6 _ (by simp)).set 7 _ (by simp)).set 8 _ (by simp)).set 9 _ (by simp)).set 10 _ (by simp)).set 11 _ (by simp)).eq rfl)
  · exact (((((hb.setCell (Nat.le_refl _) _).setCell (Nat.le_refl _) _).setCell (Nat.le_refl _) _).setCell (Nat.le_refl _) _).setCell (Nat.le_refl _) _).setCell (Nat.le_refl _) _
theorem mk_empty : (⟨#[]⟩ : ByteArray) = ByteArray.empty := rfl
section
set_option maxRecDepth 100000
set_option maxHeartbeats 2000000
theorem MayOp_1 (edge : Bool) (id : Nat) (label : ByteArray) (fr til : Nat) (key : ByteArray) (k : Int) (b : Bool) (n : Int) (f : Nat) (s : ByteArray) (pf pt : Nat) (w : World) (hf : f < 18446744073709551616) :
    Calls Tryz.prog 79 #[OP.val ⟨1, edge, id, label, fr, til, key, ⟨k, b, n, f, s⟩, pf, pt⟩] w fun e w' => ∃ c : Bool, e = .returned (.bool c) ∧ (c = true ↔ OP.may ⟨1, edge, id, label, fr, til, key, ⟨k, b, n, f, s⟩, pf, pt⟩) ∧ Below w.heap.size w w' := by
  have CL := Lib.hid (fun W => isLabel_any label W)
  have CI := Lib.hid (fun W => isId_any id W)
  have CP := Lib.hid (fun W => perMay_any pf pt W)
  have CB := Lib.hid (fun W => isBare_any ⟨1, edge, id, ⟨#[]⟩, fr, til, key, ⟨k, b, n, f, s⟩, pf, pt⟩ hf W)
  have HI := Lib.hid (idP_iff (n := id))
  have HP := Lib.hid (per_iff (a := pf) (b := pt))
  generalize decide (1 ≤ id ∧ id ≤ 1099511627776) = q at *
  generalize decide (pf < pt ∧ pt ≤ 1099511627776) = r at *
  clear hf
  cases edge
  case true =>
    go_enter Tryz.func79, Tryz.ntmps79
    go_wp2
    go_ret
    first | exact ⟨_, rfl, by simp [OP.may, OP.kindP], (Below.refl _ _).alloc (Nat.le_refl _) _⟩ | exact Or.inl ⟨rfl, by simp [OP.may, OP.kindP], (Below.refl _ _).alloc (Nat.le_refl _) _⟩
  obtain ⟨p, hp⟩ : ∃ p, labelB label = p := ⟨_, rfl⟩
  have HL2 := Lib.hid hp
  rw [hp] at CL
  clear hp
  cases p
  case false =>
    go_enter Tryz.func79, Tryz.ntmps79
    go_wp2_with (first
      | (go_at_call 142; ((with_reducible refine (CL.out _).mono ?_); rintro e w' ⟨rfl, rfl⟩)))
    go_ret
    first | exact ⟨_, rfl, by simp [OP.may, OP.kindP, HL2.out], (Below.refl _ _).alloc (Nat.le_refl _) _⟩ | exact Or.inl ⟨rfl, by simp [OP.may, OP.kindP, HL2.out], (Below.refl _ _).alloc (Nat.le_refl _) _⟩
  cases q
  case false =>
    go_enter Tryz.func79, Tryz.ntmps79
    go_wp2_with (first
      | (go_at_call 142; ((with_reducible refine (CL.out _).mono ?_); rintro e w' ⟨rfl, rfl⟩))
      | (go_at_call 143; ((with_reducible refine (CI.out _).mono ?_); rintro e w' ⟨rfl, rfl⟩)))
    go_ret
    first | exact ⟨_, rfl, by have h := HI.out; simp at h; simp [OP.may, h], (Below.refl _ _).alloc (Nat.le_refl _) _⟩ | exact Or.inl ⟨rfl, by have h := HI.out; simp at h; simp [OP.may, h], (Below.refl _ _).alloc (Nat.le_refl _) _⟩
  cases r
  case false =>
    go_enter Tryz.func79, Tryz.ntmps79
    go_wp2_with (first
      | (go_at_call 142; ((with_reducible refine (CL.out _).mono ?_); rintro e w' ⟨rfl, rfl⟩))
      | (go_at_call 143; ((with_reducible refine (CI.out _).mono ?_); rintro e w' ⟨rfl, rfl⟩))
      | (go_at_call 95; ((with_reducible refine (CP.out _).mono ?_); rintro e w3 ⟨rfl, hb⟩; have B3 := Lib.hid hb; have q3 := ((Bx.new _ _ _).below hb).c; clear hb)))
    go_ret
    first | exact ⟨_, rfl, by have h := HP.out; simp at h; simp [OP.may]; omega, al1 B3.out⟩ | exact Or.inl ⟨rfl, by have h := HP.out; simp at h; simp [OP.may]; omega, al1 B3.out⟩
  go_enter Tryz.func79, Tryz.ntmps79
  go_wp2_with (first
    | (go_at_call 142; ((with_reducible refine (CL.out _).mono ?_); rintro e w' ⟨rfl, rfl⟩))
    | (go_at_call 143; ((with_reducible refine (CI.out _).mono ?_); rintro e w' ⟨rfl, rfl⟩))
    | (go_at_call 95; ((with_reducible refine (CP.out _).mono ?_); rintro e w3 ⟨rfl, hb⟩; have B3 := Lib.hid hb; have q3 := ((Bx.new _ _ _).below hb).c; clear hb))
    | (go_at_call 146; ((refine (CB.out _).mono ?_); rintro e w4 ⟨cb, rfl, hcb, hb⟩; have HC := Lib.hid hcb; have B4 := Lib.hid hb; clear hcb hb)))
  go_ret
  refine ⟨_, rfl, ?_, al2 B3.out B4.out⟩
  rw [HC.out]
  have h1 := HI.out.1 (by simp)
  have h2 := HP.out.1 (by simp)
  simp [OP.bare, OP.may, OP.kindP, HL2.out, h1, h2, mk_empty]; intros; exact null_iff (v := ⟨k, b, n, f, s⟩)
theorem MayOp_2 (edge : Bool) (id : Nat) (label : ByteArray) (fr til : Nat) (key : ByteArray) (k : Int) (b : Bool) (n : Int) (f : Nat) (s : ByteArray) (pf pt : Nat) (w : World) (hf : f < 18446744073709551616) :
    Calls Tryz.prog 79 #[OP.val ⟨2, edge, id, label, fr, til, key, ⟨k, b, n, f, s⟩, pf, pt⟩] w fun e w' => ∃ c : Bool, e = .returned (.bool c) ∧ (c = true ↔ OP.may ⟨2, edge, id, label, fr, til, key, ⟨k, b, n, f, s⟩, pf, pt⟩) ∧ Below w.heap.size w w' := by
  have CL := Lib.hid (fun W => isLabel_any label W)
  have CF := Lib.hid (fun W => isId_any fr W)
  have CT := Lib.hid (fun W => isId_any til W)
  have HF := Lib.hid (idP_iff (n := fr))
  have HT := Lib.hid (idP_iff (n := til))
  generalize decide (1 ≤ fr ∧ fr ≤ 1099511627776) = x at *
  generalize decide (1 ≤ til ∧ til ≤ 1099511627776) = y at *
  have CI := Lib.hid (fun W => isId_any id W)
  have CP := Lib.hid (fun W => perMay_any pf pt W)
  have CB := Lib.hid (fun W => isBare_any ⟨2, edge, id, ⟨#[]⟩, 0, 0, key, ⟨k, b, n, f, s⟩, pf, pt⟩ hf W)
  have HI := Lib.hid (idP_iff (n := id))
  have HP := Lib.hid (per_iff (a := pf) (b := pt))
  generalize decide (1 ≤ id ∧ id ≤ 1099511627776) = q at *
  generalize decide (pf < pt ∧ pt ≤ 1099511627776) = r at *
  clear hf
  cases edge
  case false =>
    go_enter Tryz.func79, Tryz.ntmps79
    go_wp2
    go_ret
    first | exact ⟨_, rfl, by simp [OP.may, OP.kindP], (Below.refl _ _).alloc (Nat.le_refl _) _⟩ | exact Or.inl ⟨rfl, by simp [OP.may, OP.kindP], (Below.refl _ _).alloc (Nat.le_refl _) _⟩
  obtain ⟨p, hp⟩ : ∃ p, labelB label = p := ⟨_, rfl⟩
  have HL2 := Lib.hid hp
  rw [hp] at CL
  clear hp
  cases p
  case false =>
    go_enter Tryz.func79, Tryz.ntmps79
    go_wp2_with (first
      | (go_at_call 142; ((with_reducible refine (CL.out _).mono ?_); rintro e w' ⟨rfl, rfl⟩)))
    go_ret
    first | exact ⟨_, rfl, by simp [OP.may, OP.kindP, HL2.out], (Below.refl _ _).alloc (Nat.le_refl _) _⟩ | exact Or.inl ⟨rfl, by simp [OP.may, OP.kindP, HL2.out], (Below.refl _ _).alloc (Nat.le_refl _) _⟩
  cases x
  case false =>
    go_enter Tryz.func79, Tryz.ntmps79
    go_wp2_with (first
      | (go_at_call 142; ((with_reducible refine (CL.out _).mono ?_); rintro e w' ⟨rfl, rfl⟩))
      | (go_at_call 143; ((with_reducible refine (CF.out _).mono ?_); rintro e w' ⟨rfl, rfl⟩)))
    go_ret
    first | exact ⟨_, rfl, by have h := HF.out; simp at h; simp [OP.may, OP.kindP, h], (Below.refl _ _).alloc (Nat.le_refl _) _⟩ | exact Or.inl ⟨rfl, by have h := HF.out; simp at h; simp [OP.may, OP.kindP, h], (Below.refl _ _).alloc (Nat.le_refl _) _⟩
  cases y
  case false =>
    go_enter Tryz.func79, Tryz.ntmps79
    go_wp2_with (first
      | (go_at_call 142; ((with_reducible refine (CL.out _).mono ?_); rintro e w' ⟨rfl, rfl⟩))
      | (go_at_call 143; ((with_reducible refine (CF.out _).mono ?_); rintro e w' ⟨rfl, rfl⟩))
      | (go_at_call 143; ((with_reducible refine (CT.out _).mono ?_); rintro e w' ⟨rfl, rfl⟩)))
    go_ret
    first | exact ⟨_, rfl, by have h := HT.out; simp at h; simp [OP.may, OP.kindP, h], (Below.refl _ _).alloc (Nat.le_refl _) _⟩ | exact Or.inl ⟨rfl, by have h := HT.out; simp at h; simp [OP.may, OP.kindP, h], (Below.refl _ _).alloc (Nat.le_refl _) _⟩
  cases q
  case false =>
    go_enter Tryz.func79, Tryz.ntmps79
    go_wp2_with (first
      | (go_at_call 142; ((with_reducible refine (CL.out _).mono ?_); rintro e w' ⟨rfl, rfl⟩))
      | (go_at_call 143; ((with_reducible refine (CF.out _).mono ?_); rintro e w' ⟨rfl, rfl⟩))
      | (go_at_call 143; ((with_reducible refine (CT.out _).mono ?_); rintro e w' ⟨rfl, rfl⟩))
      | (go_at_call 143; ((with_reducible refine (CI.out _).mono ?_); rintro e w' ⟨rfl, rfl⟩)))
    go_ret
    first | exact ⟨_, rfl, by have h := HI.out; simp at h; simp [OP.may, h], (Below.refl _ _).alloc (Nat.le_refl _) _⟩ | exact Or.inl ⟨rfl, by have h := HI.out; simp at h; simp [OP.may, h], (Below.refl _ _).alloc (Nat.le_refl _) _⟩
  cases r
  case false =>
    go_enter Tryz.func79, Tryz.ntmps79
    go_wp2_with (first
      | (go_at_call 142; ((with_reducible refine (CL.out _).mono ?_); rintro e w' ⟨rfl, rfl⟩))
      | (go_at_call 143; ((with_reducible refine (CF.out _).mono ?_); rintro e w' ⟨rfl, rfl⟩))
      | (go_at_call 143; ((with_reducible refine (CT.out _).mono ?_); rintro e w' ⟨rfl, rfl⟩))
      | (go_at_call 143; ((with_reducible refine (CI.out _).mono ?_); rintro e w' ⟨rfl, rfl⟩))
      | (go_at_call 95; ((with_reducible refine (CP.out _).mono ?_); rintro e w3 ⟨rfl, hb⟩; have B3 := Lib.hid hb; have q3 := ((Bx.new _ _ _).below hb).c; clear hb)))
    go_ret
    first | exact ⟨_, rfl, by have h := HP.out; simp at h; simp [OP.may]; omega, al1 B3.out⟩ | exact Or.inl ⟨rfl, by have h := HP.out; simp at h; simp [OP.may]; omega, al1 B3.out⟩
  go_enter Tryz.func79, Tryz.ntmps79
  go_wp2_with (first
    | (go_at_call 142; ((with_reducible refine (CL.out _).mono ?_); rintro e w' ⟨rfl, rfl⟩))
    | (go_at_call 143; ((with_reducible refine (CF.out _).mono ?_); rintro e w' ⟨rfl, rfl⟩))
    | (go_at_call 143; ((with_reducible refine (CT.out _).mono ?_); rintro e w' ⟨rfl, rfl⟩))
    | (go_at_call 143; ((with_reducible refine (CI.out _).mono ?_); rintro e w' ⟨rfl, rfl⟩))
    | (go_at_call 95; ((with_reducible refine (CP.out _).mono ?_); rintro e w3 ⟨rfl, hb⟩; have B3 := Lib.hid hb; have q3 := ((Bx.new _ _ _).below hb).c; clear hb))
    | (go_at_call 146; ((refine (CB.out _).mono ?_); rintro e w4 ⟨cb, rfl, hcb, hb⟩; have HC := Lib.hid hcb; have B4 := Lib.hid hb; clear hcb hb)))
  go_ret
  refine ⟨_, rfl, ?_, al2 B3.out B4.out⟩
  rw [HC.out]
  have h1 := HI.out.1 (by simp)
  have h2 := HP.out.1 (by simp)
  have h3 := HF.out.1 (by simp)
  have h4 := HT.out.1 (by simp)
  simp [OP.bare, OP.may, OP.kindP, HL2.out, h1, h2, h3, h4, mk_empty]; intros; exact null_iff (v := ⟨k, b, n, f, s⟩)
theorem MayOp_3 (edge : Bool) (id : Nat) (label : ByteArray) (fr til : Nat) (key : ByteArray) (k : Int) (b : Bool) (n : Int) (f : Nat) (s : ByteArray) (pf pt : Nat) (w : World) (hf : f < 18446744073709551616) :
    Calls Tryz.prog 79 #[OP.val ⟨3, edge, id, label, fr, til, key, ⟨k, b, n, f, s⟩, pf, pt⟩] w fun e w' => ∃ c : Bool, e = .returned (.bool c) ∧ (c = true ↔ OP.may ⟨3, edge, id, label, fr, til, key, ⟨k, b, n, f, s⟩, pf, pt⟩) ∧ Below w.heap.size w w' := by
  have CI := Lib.hid (fun W => isId_any id W)
  have CP := Lib.hid (fun W => perMay_any pf pt W)
  have CB := Lib.hid (fun W => isBare_any ⟨3, edge, id, label, fr, til, key, ⟨k, b, n, f, s⟩, pf, pt⟩ hf W)
  have HI := Lib.hid (idP_iff (n := id))
  have HP := Lib.hid (per_iff (a := pf) (b := pt))
  generalize decide (1 ≤ id ∧ id ≤ 1099511627776) = q at *
  generalize decide (pf < pt ∧ pt ≤ 1099511627776) = r at *
  clear hf
  cases q
  case false =>
    go_enter Tryz.func79, Tryz.ntmps79
    go_wp2_with (first
      | (go_at_call 143; ((with_reducible refine (CI.out _).mono ?_); rintro e w' ⟨rfl, rfl⟩)))
    go_ret
    first | exact ⟨_, rfl, by have h := HI.out; simp at h; simp [OP.may, h], (Below.refl _ _).alloc (Nat.le_refl _) _⟩ | exact Or.inl ⟨rfl, by have h := HI.out; simp at h; simp [OP.may, h], (Below.refl _ _).alloc (Nat.le_refl _) _⟩
  cases r
  case false =>
    go_enter Tryz.func79, Tryz.ntmps79
    go_wp2_with (first
      | (go_at_call 143; ((with_reducible refine (CI.out _).mono ?_); rintro e w' ⟨rfl, rfl⟩))
      | (go_at_call 95; ((with_reducible refine (CP.out _).mono ?_); rintro e w3 ⟨rfl, hb⟩; have B3 := Lib.hid hb; have q3 := ((Bx.new _ _ _).below hb).c; clear hb)))
    go_ret
    first | exact ⟨_, rfl, by have h := HP.out; simp at h; simp [OP.may]; omega, al1 B3.out⟩ | exact Or.inl ⟨rfl, by have h := HP.out; simp at h; simp [OP.may]; omega, al1 B3.out⟩
  go_enter Tryz.func79, Tryz.ntmps79
  go_wp2_with (first
    | (go_at_call 143; ((with_reducible refine (CI.out _).mono ?_); rintro e w' ⟨rfl, rfl⟩))
    | (go_at_call 95; ((with_reducible refine (CP.out _).mono ?_); rintro e w3 ⟨rfl, hb⟩; have B3 := Lib.hid hb; have q3 := ((Bx.new _ _ _).below hb).c; clear hb))
    | (go_at_call 146; ((refine (CB.out _).mono ?_); rintro e w4 ⟨cb, rfl, hcb, hb⟩; have HC := Lib.hid hcb; have B4 := Lib.hid hb; clear hcb hb)))
  go_ret
  refine ⟨_, rfl, ?_, al2 B3.out B4.out⟩
  rw [HC.out]
  have h1 := HI.out.1 (by simp)
  have h2 := HP.out.1 (by simp)
  simp [OP.bare, OP.may, OP.kindP, h1, h2]; intros; exact null_iff (v := ⟨k, b, n, f, s⟩)
theorem MayOp_4 (edge : Bool) (id : Nat) (label : ByteArray) (fr til : Nat) (key : ByteArray) (k : Int) (b : Bool) (n : Int) (f : Nat) (s : ByteArray) (pf pt : Nat) (w : World) (hf : f < 18446744073709551616) :
    Calls Tryz.prog 79 #[OP.val ⟨4, edge, id, label, fr, til, key, ⟨k, b, n, f, s⟩, pf, pt⟩] w fun e w' => ∃ c : Bool, e = .returned (.bool c) ∧ (c = true ↔ OP.may ⟨4, edge, id, label, fr, til, key, ⟨k, b, n, f, s⟩, pf, pt⟩) ∧ Below w.heap.size w w' := by
  have CI := Lib.hid (fun W => isId_any id W)
  have CP := Lib.hid (fun W => perMay_any pf pt W)
  have CB := Lib.hid (fun W => isBare_any ⟨4, edge, id, label, fr, til, key, ⟨k, b, n, f, s⟩, pf, pt⟩ hf W)
  have HI := Lib.hid (idP_iff (n := id))
  have HP := Lib.hid (per_iff (a := pf) (b := pt))
  generalize decide (1 ≤ id ∧ id ≤ 1099511627776) = q at *
  generalize decide (pf < pt ∧ pt ≤ 1099511627776) = r at *
  clear hf
  cases q
  case false =>
    go_enter Tryz.func79, Tryz.ntmps79
    go_wp2_with (first
      | (go_at_call 143; ((with_reducible refine (CI.out _).mono ?_); rintro e w' ⟨rfl, rfl⟩)))
    go_ret
    first | exact ⟨_, rfl, by have h := HI.out; simp at h; simp [OP.may, h], (Below.refl _ _).alloc (Nat.le_refl _) _⟩ | exact Or.inl ⟨rfl, by have h := HI.out; simp at h; simp [OP.may, h], (Below.refl _ _).alloc (Nat.le_refl _) _⟩
  cases r
  case false =>
    go_enter Tryz.func79, Tryz.ntmps79
    go_wp2_with (first
      | (go_at_call 143; ((with_reducible refine (CI.out _).mono ?_); rintro e w' ⟨rfl, rfl⟩))
      | (go_at_call 95; ((with_reducible refine (CP.out _).mono ?_); rintro e w3 ⟨rfl, hb⟩; have B3 := Lib.hid hb; have q3 := ((Bx.new _ _ _).below hb).c; clear hb)))
    go_ret
    first | exact ⟨_, rfl, by have h := HP.out; simp at h; simp [OP.may]; omega, al1 B3.out⟩ | exact Or.inl ⟨rfl, by have h := HP.out; simp at h; simp [OP.may]; omega, al1 B3.out⟩
  go_enter Tryz.func79, Tryz.ntmps79
  go_wp2_with (first
    | (go_at_call 143; ((with_reducible refine (CI.out _).mono ?_); rintro e w' ⟨rfl, rfl⟩))
    | (go_at_call 95; ((with_reducible refine (CP.out _).mono ?_); rintro e w3 ⟨rfl, hb⟩; have B3 := Lib.hid hb; have q3 := ((Bx.new _ _ _).below hb).c; clear hb))
    | (go_at_call 146; ((refine (CB.out _).mono ?_); rintro e w4 ⟨cb, rfl, hcb, hb⟩; have HC := Lib.hid hcb; have B4 := Lib.hid hb; clear hcb hb)))
  go_ret
  refine ⟨_, rfl, ?_, al2 B3.out B4.out⟩
  rw [HC.out]
  have h1 := HI.out.1 (by simp)
  have h2 := HP.out.1 (by simp)
  simp [OP.bare, OP.may, OP.kindP, h1, h2]; intros; exact null_iff (v := ⟨k, b, n, f, s⟩)
theorem MayOp_5 (edge : Bool) (id : Nat) (label : ByteArray) (fr til : Nat) (key : ByteArray) (k : Int) (b : Bool) (n : Int) (f : Nat) (s : ByteArray) (pf pt : Nat) (w : World) (hf : f < 18446744073709551616) :
    Calls Tryz.prog 79 #[OP.val ⟨5, edge, id, label, fr, til, key, ⟨k, b, n, f, s⟩, pf, pt⟩] w fun e w' => ∃ c : Bool, e = .returned (.bool c) ∧ (c = true ↔ OP.may ⟨5, edge, id, label, fr, til, key, ⟨k, b, n, f, s⟩, pf, pt⟩) ∧ Below w.heap.size w w' := by
  have CW := Lib.hid (fun W => Word_any key W)
  have CM := Lib.hid (fun W => mayProperty_any ⟨k, b, n, f, s⟩ hf W)
  have CI := Lib.hid (fun W => isId_any id W)
  have CP := Lib.hid (fun W => perMay_any pf pt W)
  have CB := Lib.hid (fun W => isBare_any ⟨5, edge, id, label, fr, til, ⟨#[]⟩, ⟨0, false, 0, 0, ⟨#[]⟩⟩, pf, pt⟩ (by simp) W)
  have HI := Lib.hid (idP_iff (n := id))
  have HP := Lib.hid (per_iff (a := pf) (b := pt))
  generalize decide (1 ≤ id ∧ id ≤ 1099511627776) = q at *
  generalize decide (pf < pt ∧ pt ≤ 1099511627776) = r at *
  have hsf := store_float
  clear hf
  obtain ⟨p, hp⟩ : ∃ p, wordB key = p := ⟨_, rfl⟩
  have HL2 := Lib.hid hp
  rw [hp] at CW
  clear hp
  cases p
  case false =>
    go_enter Tryz.func79, Tryz.ntmps79
    go_wp2_with (first
      | (go_at_call 144; ((with_reducible refine (CW.out _).mono ?_); rintro e w' ⟨rfl, rfl⟩)))
    go_ret
    first | exact ⟨_, rfl, by simp [OP.may, OP.kindP, HL2.out], (Below.refl _ _).alloc (Nat.le_refl _) _⟩ | exact Or.inl ⟨rfl, by simp [OP.may, OP.kindP, HL2.out], (Below.refl _ _).alloc (Nat.le_refl _) _⟩
  go_enter Tryz.func79, Tryz.ntmps79
  go_upto_region 15 with (first
    | (go_at_call 144; ((with_reducible refine (CW.out _).mono ?_); rintro e w' ⟨rfl, rfl⟩))
    | (go_at_call 145; ((with_reducible refine (CM.out _).mono ?_); rintro e w2 ⟨cm, rfl, hcm, hb⟩; have HM := Lib.hid hcm; have B2 := Lib.hid hb; have q2 := ((Bx.new _ _ _).below hb).c; have f2 := ((Bx.new _ _ _).below hb).fr; clear hcm hb)))
  obtain ⟨W5, hW, x5, b5⟩ := blank5 w w2 5 edge id label fr til key k b n f s pf pt ((Bx.new _ _ _).below B2.out) (al1 B2.out)
  rw [hW]
  have X5 := Lib.hid x5
  have q5 := x5.c
  have HB5 := Lib.hid b5
  have HX := Lib.hid (show w.heap.size < W5.heap.size from x5.lt)
  clear hW x5 b5 q2 f2
  cases cm
  case false =>
    go_wp2
    go_ret
    first | exact ⟨_, rfl, by have h := HM.out; simp at h; simp [OP.may, OP.kindP]; intros; simp_all, HB5.out⟩ | exact Or.inl ⟨rfl, by have h := HM.out; simp at h; simp [OP.may, OP.kindP]; intros; simp_all, HB5.out⟩
  cases q
  case false =>
    go_wp2_with (first
      | (go_at_call 143; ((with_reducible refine (CI.out _).mono ?_); rintro e w' ⟨rfl, rfl⟩)))
    go_ret
    first | exact ⟨_, rfl, by have h := HI.out; simp at h; simp [OP.may, h], HB5.out⟩ | exact Or.inl ⟨rfl, by have h := HI.out; simp at h; simp [OP.may, h], HB5.out⟩
  cases r
  case false =>
    go_wp2_with (first
      | (go_at_call 143; ((with_reducible refine (CI.out _).mono ?_); rintro e w' ⟨rfl, rfl⟩))
      | (go_at_call 95; ((with_reducible refine (CP.out _).mono ?_); rintro e w3 ⟨rfl, hb⟩; have B3 := Lib.hid hb; have q3 := (X5.out.below hb).c; clear hb)))
    go_ret
    exact ⟨_, rfl, by have h := HP.out; simp at h; simp [OP.may]; omega, HB5.out.trans (B3.out.mono (Nat.le_of_lt HX.out))⟩
  go_wp2_with (first
    | (go_at_call 143; ((with_reducible refine (CI.out _).mono ?_); rintro e w' ⟨rfl, rfl⟩))
    | (go_at_call 95; ((with_reducible refine (CP.out _).mono ?_); rintro e w3 ⟨rfl, hb⟩; have B3 := Lib.hid hb; have q3 := (X5.out.below hb).c; clear hb))
    | (go_at_call 146; ((refine (CB.out _).mono ?_); rintro e w4 ⟨cb, rfl, hcb, hb⟩; have HC := Lib.hid hcb; have B4 := Lib.hid hb; clear hcb hb)))
  go_ret
  refine ⟨_, rfl, ?_, HB5.out.trans ((B3.out.trans (B4.out.mono B3.out.size)).mono (Nat.le_of_lt HX.out))⟩
  rw [HC.out]
  have h1 := HI.out.1 (by simp)
  have h2 := HP.out.1 (by simp)
  have h3 := HM.out.1 (by simp)
  simp [OP.bare, OP.may, OP.kindP, HL2.out, h1, h2, h3, mk_empty]
  intros
  exact none_may
theorem MayOp_else (kind : Int) (edge : Bool) (id : Nat) (label : ByteArray) (fr til : Nat) (key : ByteArray) (k : Int) (b : Bool) (n : Int) (f : Nat) (s : ByteArray) (pf pt : Nat) (w : World) (hk : kind < 1 ∨ 5 < kind) :
    Calls Tryz.prog 79 #[OP.val ⟨kind, edge, id, label, fr, til, key, ⟨k, b, n, f, s⟩, pf, pt⟩] w fun e w' => ∃ c : Bool, e = .returned (.bool c) ∧ (c = true ↔ OP.may ⟨kind, edge, id, label, fr, til, key, ⟨k, b, n, f, s⟩, pf, pt⟩) ∧ Below w.heap.size w w' := by
  have HN : Hid (¬ OP.may ⟨kind, edge, id, label, fr, til, key, ⟨k, b, n, f, s⟩, pf, pt⟩) := Lib.hid fun h => by
    have h2 := kindP_range h.2.2.2
    simp only at h2
    omega
  have t1 : (kind == 1) = false := by rw [beq_eq_false_iff_ne]; omega
  have t2 : (kind == 2) = false := by rw [beq_eq_false_iff_ne]; omega
  have t3 : (kind == 3) = false := by rw [beq_eq_false_iff_ne]; omega
  have t4 : (kind == 4) = false := by rw [beq_eq_false_iff_ne]; omega
  have t5 : (kind == 5) = false := by rw [beq_eq_false_iff_ne]; omega
  clear hk
  go_enter Tryz.func79, Tryz.ntmps79
  go_wp2
  go_ret
  first | exact ⟨_, rfl, by simp [HN.out], (Below.refl _ _).alloc (Nat.le_refl _) _⟩ | exact Or.inl ⟨rfl, by simp [HN.out], (Below.refl _ _).alloc (Nat.le_refl _) _⟩
theorem MayOp_any (o : OP) (hf : o.v.f < 18446744073709551616) (w : World) :
    Calls Tryz.prog 79 #[o.val] w fun e w' => ∃ c : Bool, e = .returned (.bool c) ∧ (c = true ↔ o.may) ∧ Below w.heap.size w w' := by
  obtain ⟨kind, edge, id, label, fr, til, key, ⟨k, b, n, f, s⟩, pf, pt⟩ := o
  by_cases h1 : kind = 1
  · subst h1; exact MayOp_1 edge id label fr til key k b n f s pf pt w hf
  by_cases h2 : kind = 2
  · subst h2; exact MayOp_2 edge id label fr til key k b n f s pf pt w hf
  by_cases h3 : kind = 3
  · subst h3; exact MayOp_3 edge id label fr til key k b n f s pf pt w hf
  by_cases h4 : kind = 4
  · subst h4; exact MayOp_4 edge id label fr til key k b n f s pf pt w hf
  by_cases h5 : kind = 5
  · subst h5; exact MayOp_5 edge id label fr til key k b n f s pf pt w hf
  · exact MayOp_else kind edge id label fr til key k b n f s pf pt w (by omega)
end
end Go.Proofs.YtmolpogehgeebaaGreat.Co


namespace Go.Proofs.YtmolpogehgeebaaGreat
open Go.ChangeShapes Go.WideShapes Go.ChangeAt Go.RowKit
set_option maxRecDepth 100000 in
theorem open_per1 {H : Type} {enc : TypeId × Value → H} {W : World} {base b0 : Nat} {sp : Nat → Bool} {held : Bool} {r : Reach} {v : Value} {d : DataW H} {p : List MemPlace} (hv : Value.okWide Tryz.prog W r b0 33 v) (h : DataW.Trod enc Tryz.prog W base sp held 33 v d p) : ∃ c d : Int, v = .agg #[.int .u64 c, .int .u64 d] ∧ 0 ≤ c ∧ 0 ≤ d := by
  obtain ⟨cs, rfl, hsz⟩ := okWide_struct Tryz.underlying33 hv
  have hC : Tryz.prog.cellsOf 33 = 2 := by kernel_rfl
  obtain ⟨l⟩ := cs
  match l, hsz.trans hC with
  | [c0, c1], _ =>
    obtain ⟨fuel, hf⟩ := h
    obtain ⟨a, b, e, _, _⟩ := trod_period (c0 := c0) (c1 := c1) hf
    exact ⟨a, b, by rw [e], by omega, by omega⟩
end Go.Proofs.YtmolpogehgeebaaGreat


