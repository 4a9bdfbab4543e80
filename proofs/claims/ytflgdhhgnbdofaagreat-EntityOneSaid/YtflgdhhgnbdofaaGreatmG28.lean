/- A period that came in. -/
/- Operations in plain words: which of them may be. -/
/- Words, labels, numbers of nodes, periods; which operations may be. -/
/- Which operations may be: MayOp, for every operation. -/
import Derived.Test.YtflgdhhgnbdofaaGreatmG27
import Derived.Test.YtflgdhhgnbdofaaGreatmG14
import Derived.Test.YtflgdhhgnbdofaaGreatmG13
import Derived.Test.YtflgdhhgnbdofaaGreatmG11
namespace Go.Proofs.YtflgdhhgnbdofaaGreat
open Go.ChangeShapes Go.WideShapes Go.ChangeAt Go.RowKit
set_option maxRecDepth 100000 in
theorem open_per1 {H : Type} {enc : TypeId × Value → H} {W : World} {base b0 : Nat} {sp : Nat → Bool} {held : Bool} {r : Reach} {v : Value} {d : DataW H} {p : List MemPlace} (hv : Value.okWide Tryz.prog W r b0 33 v) (h : DataW.Trod enc Tryz.prog W base sp held 33 v d p) : ∃ c d : Int, v = .agg #[.int .u64 c, .int .u64 d] ∧ 0 ≤ c ∧ 0 ≤ d := by
  obtain ⟨cs, rfl, hsz⟩ := okWide_struct Tryz.underlying33 hv
  have hC : Tryz.prog.cellsOf 33 = 2 := by kernel_rfl
  obtain ⟨l⟩ := cs
  match l, hsz.trans hC with
  | [c0, c1], _ =>
    obtain ⟨fuel, hf⟩ := h
    obtain ⟨a, b, e, _, _⟩ := trod_period (c0 := c0) (c1 := c1) hf
    exact ⟨a, b, by rw [e], by omega, by omega⟩
end Go.Proofs.YtflgdhhgnbdofaaGreat

namespace Go.Proofs.YtflgdhhgnbdofaaGreat.Co
open Go.RowKit
/-- An operation. -/
structure OP where
  kind : Int
  edge : Bool
  id : Nat
  label : ByteArray
  fr : Nat
  til : Nat
  key : ByteArray
  v : VP
  pf : Nat
  pt : Nat
/-- A batch. -/
structure BP where
  number : Nat
  stamp : Nat
  ops : List OP
theorem OP.eq {x y : OP} (h1 : x.kind = y.kind) (h2 : x.edge = y.edge) (h3 : x.id = y.id) (h4 : x.label = y.label) (h5 : x.fr = y.fr) (h6 : x.til = y.til) (h7 : x.key = y.key) (h8 : x.v = y.v) (h9 : x.pf = y.pf) (h10 : x.pt = y.pt) : x = y := by
  cases x; cases y; simp only at h1 h2 h3 h4 h5 h6 h7 h8 h9 h10; subst h1 h2 h3 h4 h5 h6 h7 h8 h9 h10; rfl
theorem BP.eq {x y : BP} (h1 : x.number = y.number) (h2 : x.stamp = y.stamp) (h3 : x.ops = y.ops) : x = y := by
  cases x; cases y; simp only at h1 h2 h3; subst h1 h2 h3; rfl
/-- A byte of a word; a word; a label. -/
def letterB (c : UInt8) : Bool := decide (97 ≤ c.toNat ∧ c.toNat ≤ 122)
def innerB (c : UInt8) : Bool := letterB c || decide (48 ≤ c.toNat ∧ c.toNat ≤ 57) || decide (c.toNat = 95)
def wordB (s : ByteArray) : Bool := decide (s.size ≠ 0) && decide (s.size ≤ 16) && letterB (s.data.toList.getD 0 0) && s.data.toList.all innerB
def labelB (s : ByteArray) : Bool := decide (s = ByteArray.empty) || wordB s
def idP (n : Nat) : Prop := 1 ≤ n ∧ n ≤ 1099511627776
theorem wordB_size {s : ByteArray} (h : wordB s = true) : s.size ≤ 16 ∧ s ≠ ByteArray.empty := by
  unfold wordB at h
  simp only [Bool.and_eq_true, decide_eq_true_eq] at h
  refine ⟨h.1.1.2, fun e => h.1.1.1 ?_⟩
  rw [e]; rfl
theorem labelB_size {s : ByteArray} (h : labelB s = true) : s.size ≤ 16 := by
  unfold labelB at h
  simp only [Bool.or_eq_true, decide_eq_true_eq] at h
  rcases h with h | h
  · rw [h]; exact Nat.zero_le _
  · exact (wordB_size h).1
/-- What an operation's kind asks of its fields. -/
def OP.kindP (o : OP) : Prop :=
  (o.kind = 1 ∧ o.edge = false ∧ labelB o.label = true ∧ o.fr = 0 ∧ o.til = 0 ∧ o.key = ByteArray.empty ∧ o.v = VP.none) ∨
  (o.kind = 2 ∧ o.edge = true ∧ labelB o.label = true ∧ idP o.fr ∧ idP o.til ∧ o.key = ByteArray.empty ∧ o.v = VP.none) ∨
  ((o.kind = 3 ∨ o.kind = 4) ∧ o.label = ByteArray.empty ∧ o.fr = 0 ∧ o.til = 0 ∧ o.key = ByteArray.empty ∧ o.v = VP.none) ∨
  (o.kind = 5 ∧ o.label = ByteArray.empty ∧ o.fr = 0 ∧ o.til = 0 ∧ wordB o.key = true ∧ o.v.may ∧ o.v.k ≠ 5 ∧ o.v.k ≠ 6)
/-- Which operations may be. -/
def OP.may (o : OP) : Prop := idP o.id ∧ o.pf < o.pt ∧ o.pt ≤ 1099511627776 ∧ o.kindP
/-- Its fields lie in their ranges. -/
def OP.wide (o : OP) : Prop := fits o.kind ∧ o.id < 18446744073709551616 ∧ o.label.size ≤ maxLen ∧ o.fr < 18446744073709551616 ∧ o.til < 18446744073709551616 ∧ o.key.size ≤ maxLen ∧ o.v.wide ∧ o.pf < 18446744073709551616 ∧ o.pt < 18446744073709551616
def BP.may (x : BP) : Prop := 1 ≤ x.number ∧ x.number ≤ 1073741824 ∧ x.stamp < 1099511627776 ∧ 1 ≤ x.ops.length ∧ x.ops.length ≤ 256 ∧ ∀ o ∈ x.ops, o.may
theorem OP.may_v {o : OP} (h : o.may) : o.v.may := by
  rcases h.2.2.2 with h | h | h | h
  · rw [h.2.2.2.2.2.2]; exact none_may
  · rw [h.2.2.2.2.2.2]; exact none_may
  · rw [h.2.2.2.2.2]; exact none_may
  · exact h.2.2.2.2.2.1
theorem kindP_range {o : OP} (h : o.kindP) : 1 ≤ o.kind ∧ o.kind ≤ 5 := by unfold OP.kindP at h; omega
abbrev OP.cells (o : OP) : Array Value := #[.int .i64 o.kind, .bool o.edge, .int .u64 o.id, .string o.label, .int .u64 o.fr, .int .u64 o.til, .string o.key, .int .i64 o.v.k, .bool o.v.b, .int .i64 o.v.n, .float .f64 o.v.f, .string o.v.s, .int .u64 o.pf, .int .u64 o.pt]
abbrev OP.val (o : OP) : Value := .agg o.cells
end Go.Proofs.YtflgdhhgnbdofaaGreat.Co

namespace Go.Proofs.YtflgdhhgnbdofaaGreat.Co
open Go.RowKit
theorem isLetter_any (c : UInt8) (w : World) : Calls Tryz.prog 177 #[.int .u8 (c.toNat : Int)] w fun e w' => e = .returned (.bool (letterB c)) ∧ w = w' := by
  obtain ⟨x, hx⟩ : ∃ x : Int, x = (c.toNat : Int) := ⟨_, rfl⟩
  have e : letterB c = (decide (97 ≤ x) && decide (x ≤ 122)) := by unfold letterB; rw [hx, ← Bool.decide_and]; exact decide_eq_decide.2 (by omega)
  rw [← hx, e]
  clear e hx
  by_cases h1 : 97 ≤ x <;> by_cases h2 : x ≤ 122
  all_goals
    simp only [h1, h2, decide_true, decide_false, Bool.and_self, Bool.and_true, Bool.and_false]
    go_enter Tryz.func177, Tryz.ntmps177
    go_wp2
    go_ret
    exact ⟨rfl, rfl⟩
theorem isDigit_any (c : UInt8) (w : World) : Calls Tryz.prog 178 #[.int .u8 (c.toNat : Int)] w fun e w' => e = .returned (.bool (decide (48 ≤ c.toNat ∧ c.toNat ≤ 57))) ∧ w = w' := by
  obtain ⟨x, hx⟩ : ∃ x : Int, x = (c.toNat : Int) := ⟨_, rfl⟩
  have e : decide (48 ≤ c.toNat ∧ c.toNat ≤ 57) = (decide (48 ≤ x) && decide (x ≤ 57)) := by rw [hx, ← Bool.decide_and]; exact decide_eq_decide.2 (by omega)
  rw [← hx, e]
  clear e hx
  by_cases h1 : 48 ≤ x <;> by_cases h2 : x ≤ 57
  all_goals
    simp only [h1, h2, decide_true, decide_false, Bool.and_self, Bool.and_true, Bool.and_false]
    go_enter Tryz.func178, Tryz.ntmps178
    go_wp2
    go_ret
    exact ⟨rfl, rfl⟩
theorem isId_any (n : Nat) (w : World) : Calls Tryz.prog 135 #[.int .u64 (n : Int)] w fun e w' => e = .returned (.bool (decide (1 ≤ n ∧ n ≤ 1099511627776))) ∧ w = w' := by
  obtain ⟨x, hx⟩ : ∃ x : Int, x = (n : Int) := ⟨_, rfl⟩
  have e : decide (1 ≤ n ∧ n ≤ 1099511627776) = (decide (1 ≤ x) && decide (x ≤ 1099511627776)) := by rw [hx, ← Bool.decide_and]; exact decide_eq_decide.2 (by omega)
  rw [← hx, e]
  clear e hx
  by_cases h1 : 1 ≤ x <;> by_cases h2 : x ≤ 1099511627776
  all_goals
    simp only [h1, h2, decide_true, decide_false, Bool.and_self, Bool.and_true, Bool.and_false]
    go_enter Tryz.func135, Tryz.ntmps135
    go_wp2
    go_ret
    exact ⟨rfl, rfl⟩
theorem perMay_any (a b : Nat) (w : World) : Calls Tryz.prog 80 #[.agg #[.int .u64 (a : Int), .int .u64 (b : Int)]] w fun e w' => e = .returned (.bool (decide (a < b ∧ b ≤ 1099511627776))) ∧ Below w.heap.size w w' := by
  obtain ⟨x, hx⟩ : ∃ x : Int, x = (a : Int) := ⟨_, rfl⟩
  obtain ⟨y, hy⟩ : ∃ x : Int, x = (b : Int) := ⟨_, rfl⟩
  have e : decide (a < b ∧ b ≤ 1099511627776) = (decide (x < y) && decide (y ≤ 1099511627776)) := by rw [hx, hy, ← Bool.decide_and]; exact decide_eq_decide.2 (by omega)
  rw [← hx, ← hy, e]
  clear e hx hy
  by_cases h1 : x < y <;> by_cases h2 : y ≤ 1099511627776
  all_goals
    simp only [h1, h2, decide_true, decide_false, Bool.and_self, Bool.and_true, Bool.and_false]
    go_enter Tryz.func80, Tryz.ntmps80
    go_wp2
    go_ret
    exact ⟨rfl, (Below.refl _ _).alloc (Nat.le_refl _) _⟩
theorem first_byte (s : ByteArray) (h : 0 < s.size) : s.data.toList.getD 0 0 = s[0] := by
  simp [List.getD, h]; rfl
theorem wordB_no {s : ByteArray} (h : s.size = 0 ∨ 16 < s.size) : wordB s = false := by
  unfold wordB
  rcases h with h | h
  · simp [h]
  · have : decide (s.size ≤ 16) = false := by simp; omega
    simp [this]
theorem wordB_head {s : ByteArray} (h : 0 < s.size) (hc : letterB s[0] = false) : wordB s = false := by
  unfold wordB
  rw [first_byte s h, hc]; simp
theorem inner_eq (c : UInt8) : innerB c = (letterB c || decide (48 ≤ c.toNat ∧ c.toNat ≤ 57) || !decide ((c.toNat : Int) ≠ 95)) := by
  unfold innerB
  congr 1
  by_cases h : c.toNat = 95
  · simp [h]
  · have : ¬ (c.toNat : Int) = 95 := by omega
    simp [h, this]
theorem all_take (s : ByteArray) (k : Nat) (h : k < s.size) : (s.data.toList.take (k + 1)).all innerB = ((s.data.toList.take k).all innerB && innerB s[k]) := by
  rw [List.take_succ_eq_append_getElem (by simpa using h)]
  simp [List.all_append]; rfl
theorem all_no (s : ByteArray) (k : Nat) (h : k < s.size) (hc : innerB s[k] = false) : s.data.toList.all innerB = false := by
  rw [List.all_eq_false]
  exact ⟨s[k], by
    have : s[k] = s.data.toList[k]'(by simpa using h) := rfl
    rw [this]
    exact List.getElem_mem _, by rw [hc]; decide⟩
set_option maxRecDepth 100000 in
set_option maxHeartbeats 1000000 in
theorem Word_any (s : ByteArray) (w : World) : Calls Tryz.prog 136 #[.string s] w fun e w' => e = .returned (.bool (wordB s)) ∧ w = w' := by
  by_cases h0 : s.size = 0
  · have t0 : ((s.size : Int) == 0) = true := by simp [h0]
    rw [wordB_no (.inl h0)]
    clear h0
    go_enter Tryz.func136, Tryz.ntmps136
    go_wp2
    go_ret
    exact ⟨rfl, rfl⟩
  have t0 : ((s.size : Int) == 0) = false := by rw [beq_eq_false_iff_ne]; omega
  by_cases h1 : 16 < s.size
  · have t1 : decide (16 < (s.size : Int)) = true := by simp; omega
    rw [wordB_no (.inr h1)]
    clear h0 h1
    go_enter Tryz.func136, Tryz.ntmps136
    go_wp2
    go_ret
    exact ⟨rfl, rfl⟩
  have t1 : decide (16 < (s.size : Int)) = false := by simp; omega
  have hs : 0 < s.size := by omega
  cases hl : letterB s[0]
  · rw [wordB_head hs hl]
    have C := Lib.hid (fun w => isLetter_any s[0] w)
    rw [hl] at C
    clear h0 h1 hl
    go_enter Tryz.func136, Tryz.ntmps136
    go_wp2_with (go_at_call 177; ((with_reducible refine (C.out _).mono ?_); rintro e w' ⟨rfl, rfl⟩))
    go_ret
    exact ⟨rfl, rfl⟩
  have C := Lib.hid (fun w => isLetter_any s[0] w)
  rw [hl] at C
  have HW : Hid (wordB s = s.data.toList.all innerB) := Lib.hid (by
    unfold wordB
    rw [first_byte s hs, hl]
    have e1 : decide (s.size ≠ 0) = true := by rw [decide_eq_true_eq]; omega
    have e2 : decide (s.size ≤ 16) = true := by simp; omega
    rw [e1, e2]; simp)
  rw [HW.out]
  have HS := Lib.hid (show s.size ≤ 16 by omega)
  clear h0 h1 hl
  go_enter Tryz.func136, Tryz.ntmps136
  go_wp2_with (go_at_call 177; ((with_reducible refine (C.out _).mono ?_); rintro e w' ⟨rfl, rfl⟩))
  go_loopw [20] (fun i wr => ∃ k : Nat, k ≤ s.size ∧ i = .int .i64 k ∧ wr = w ∧ (s.data.toList.take k).all innerB = true) (fun i _ => s.size - (intOf i).toNat)
  case atStart => exact ⟨0, Nat.zero_le _, rfl, rfl, rfl⟩
  case round =>
    obtain ⟨k, hk, rfl, rfl, hI⟩ := hrel
    by_cases hlt : k < s.size
    · have C1 := Lib.hid (fun w => isLetter_any s[k] w)
      have C2 := Lib.hid (fun w => isDigit_any s[k] w)
      have HI := Lib.hid hI
      have HA := Lib.hid (all_take s k hlt)
      have HN := Lib.hid (all_no s k hlt)
      have HQ := Lib.hid (inner_eq s[k])
      have hsz : s.size ≤ 16 := HS.out
      obtain ⟨x, hx⟩ : ∃ x : Int, x = (s[k].toNat : Int) := ⟨_, rfl⟩
      clear hI
      generalize hp : letterB s[k] = p at *
      generalize hq : decide (48 ≤ s[k].toNat ∧ s[k].toNat ≤ 57) = q at *
      cases hr : decide ((s[k].toNat : Int) ≠ 95)
      all_goals
        have hr' : ((s[k].toNat : Int) != 95) = decide ((s[k].toNat : Int) ≠ 95) := by
          by_cases e : (s[k].toNat : Int) = 95 <;> simp [e]
        rw [hr] at hr' HQ
        have HX := Lib.hid hx
        clear hr hx hp hq
        cases p <;> cases q
        all_goals
          go_wp2_with (first
            | (go_at_call 177; ((with_reducible refine (C1.out _).mono ?_); rintro e w' ⟨rfl, rfl⟩))
            | (go_at_call 178; ((with_reducible refine (C2.out _).mono ?_); rintro e w' ⟨rfl, rfl⟩)))
          first
          | (go_ret
             refine ⟨retB ?_, rfl⟩
             exact (HN.out HQ.out).symm)
          | exact ⟨⟨k + 1, by omega, by go_num, by first | rfl | exact trivial, by rw [HA.out, HI.out, HQ.out]; rfl⟩, by simp [intOf]; omega⟩
    · obtain rfl : k = s.size := by omega
      have HI := Lib.hid (show s.data.toList.all innerB = true by
        rw [List.take_of_length_le (by simp)] at hI
        exact hI)
      clear hI
      go_wp2
      go_ret
      exact ⟨retB HI.out.symm, rfl⟩
end Go.Proofs.YtflgdhhgnbdofaaGreat.Co

namespace Go.Proofs.YtflgdhhgnbdofaaGreat.Co
open Go.RowKit
theorem str_empty {s : ByteArray} (h : s ≠ ByteArray.empty) : (s.toList == []) = false := by
  rw [ByteArray.toList_eq, beq_eq_false_iff_ne]
  intro e
  exact h (ByteArray.ext (Array.toList_inj.1 (by rw [e]; rfl)))
theorem labelB_eq {s : ByteArray} (h : s ≠ ByteArray.empty) : labelB s = wordB s := by unfold labelB; simp [h]
set_option maxRecDepth 100000 in
theorem isLabel_any (s : ByteArray) (w : World) : Calls Tryz.prog 134 #[.string s] w fun e w' => e = .returned (.bool (labelB s)) ∧ w = w' := by
  by_cases h : s = ByteArray.empty
  · subst h
    rw [show labelB ByteArray.empty = true by decide]
    go_enter Tryz.func134, Tryz.ntmps134
    go_wp2
    go_ret
    exact ⟨rfl, rfl⟩
  · have t1 := str_empty h
    have C := Lib.hid (fun w => Word_any s w)
    rw [labelB_eq h]
    clear h
    go_enter Tryz.func134, Tryz.ntmps134
    go_wp2_with (go_at_call 136; ((with_reducible refine (C.out _).mono ?_); rintro e w' ⟨rfl, rfl⟩))
    go_ret
    exact ⟨rfl, rfl⟩
theorem mayB_iff {v : VP} : mayB v.k v.b v.n v.f v.s = true ↔ v.may := by unfold mayB VP.may; simp
set_option maxRecDepth 100000 in
theorem mayProperty_any (v : VP) (hf : v.f < 18446744073709551616) (w : World) :
    Calls Tryz.prog 137 #[v.val] w fun e w' => ∃ c : Bool, e = .returned (.bool c) ∧ (c = true ↔ v.k ≠ 5 ∧ v.k ≠ 6 ∧ v.may) ∧ Below w.heap.size w w' := by
  have C := Lib.hid (fun W => May_any v.k v.b v.n v.f v.s W hf)
  have HB := Lib.hid (mayB_iff (v := v))
  obtain ⟨k, b, n, f, s⟩ := v
  simp only at C HB
  by_cases h5 : k = 5
  · subst h5
    clear hf
    go_enter Tryz.func137, Tryz.ntmps137
    go_wp2
    go_ret
    exact ⟨_, rfl, by simp, (Below.refl _ _).alloc (Nat.le_refl _) _⟩
  have t5 : (k != 5) = true := by simp [h5]
  by_cases h6 : k = 6
  · subst h6
    clear hf
    go_enter Tryz.func137, Tryz.ntmps137
    go_wp2
    go_ret
    exact ⟨_, rfl, by simp, (Below.refl _ _).alloc (Nat.le_refl _) _⟩
  have t6 : (k != 6) = true := by simp [h6]
  have H5 := Lib.hid (And.intro h5 h6)
  clear hf h5 h6
  go_enter Tryz.func137, Tryz.ntmps137
  go_wp2_with (go_at_call 132; ((with_reducible refine (C.out _).mono ?_); rintro e w1 ⟨rfl, hb⟩))
  go_ret
  refine ⟨_, rfl, ?_, ((Below.refl _ _).alloc (Nat.le_refl _) _).trans (hb.mono (by simp))⟩
  rw [HB.out]
  exact ⟨fun h => ⟨H5.out.1, H5.out.2, h⟩, fun h => h.2.2⟩
/-- What isBare asks. -/
def OP.bare (o : OP) : Prop := o.label = ByteArray.empty ∧ o.fr = 0 ∧ o.til = 0 ∧ o.key = ByteArray.empty ∧ o.v.k = 0 ∧ o.v.may
theorem ne_zero {n : Nat} (h : n ≠ 0) : ((n : Int) == 0) = false := by rw [beq_eq_false_iff_ne]; omega
set_option maxRecDepth 100000 in
set_option maxHeartbeats 1000000 in
theorem isBare_any (o : OP) (hf : o.v.f < 18446744073709551616) (w : World) :
    Calls Tryz.prog 138 #[o.val] w fun e w' => ∃ c : Bool, e = .returned (.bool c) ∧ (c = true ↔ o.bare) ∧ Below w.heap.size w w' := by
  obtain ⟨kind, edge, id, label, fr, til, key, ⟨k, b, n, f, s⟩, pf, pt⟩ := o
  have C := Lib.hid (fun W => May_any k b n f s W hf)
  have HB := Lib.hid (mayB_iff (v := ⟨k, b, n, f, s⟩))
  simp only at C HB
  clear hf
  by_cases h1 : label = ByteArray.empty
  case neg =>
    have t1 := str_empty h1
    have H := Lib.hid h1
    clear h1
    go_enter Tryz.func138, Tryz.ntmps138
    go_wp2
    go_ret
    exact ⟨_, rfl, by simp [OP.bare, H.out], (Below.refl _ _).alloc (Nat.le_refl _) _⟩
  subst h1
  by_cases h2 : fr = 0
  case neg =>
    have t1 := ne_zero h2
    have H := Lib.hid h2
    clear h2
    go_enter Tryz.func138, Tryz.ntmps138
    go_wp2
    go_ret
    exact ⟨_, rfl, by simp [OP.bare, H.out], (Below.refl _ _).alloc (Nat.le_refl _) _⟩
  subst h2
  by_cases h3 : til = 0
  case neg =>
    have t1 := ne_zero h3
    have H := Lib.hid h3
    clear h3
    go_enter Tryz.func138, Tryz.ntmps138
    go_wp2
    go_ret
    exact ⟨_, rfl, by simp [OP.bare, H.out], (Below.refl _ _).alloc (Nat.le_refl _) _⟩
  subst h3
  by_cases h4 : key = ByteArray.empty
  case neg =>
    have t1 := str_empty h4
    have H := Lib.hid h4
    clear h4
    go_enter Tryz.func138, Tryz.ntmps138
    go_wp2
    go_ret
    exact ⟨_, rfl, by simp [OP.bare, H.out], (Below.refl _ _).alloc (Nat.le_refl _) _⟩
  subst h4
  by_cases h5 : k = 0
  case neg =>
    have t1 : (k == 0) = false := by simp [h5]
    have H := Lib.hid h5
    clear h5
    go_enter Tryz.func138, Tryz.ntmps138
    go_wp2
    go_ret
    exact ⟨_, rfl, by simp [OP.bare, H.out], (Below.refl _ _).alloc (Nat.le_refl _) _⟩
  subst h5
  go_enter Tryz.func138, Tryz.ntmps138
  go_wp2_with (go_at_call 132; ((with_reducible refine (C.out _).mono ?_); rintro e w1 ⟨rfl, hb⟩))
  go_ret
  refine ⟨_, rfl, ?_, ((Below.refl _ _).alloc (Nat.le_refl _) _).trans (hb.mono (by simp))⟩
  rw [HB.out]
  simp [OP.bare]
end Go.Proofs.YtflgdhhgnbdofaaGreat.Co

