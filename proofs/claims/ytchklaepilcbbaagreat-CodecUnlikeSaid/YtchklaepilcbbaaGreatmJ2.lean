/- Which batches may be. -/
import Derived.Test.YtchklaepilcbbaaGreatmJ1
import Derived.Deep.MidRow
namespace Go.Proofs.YtchklaepilcbbaaGreat
open Go.RowKit
/-- A call that tells whether P. -/
def Says (P : Prop) (w : World) (e : Ending) (w' : World) : Prop := ∃ c : Bool, e = .returned (.bool c) ∧ (c = true ↔ P) ∧ Below w.heap.size w w'
/-- A call that looks for a place: there is one just if P. -/
def Finds (P : Prop) (w : World) (e : Ending) (w' : World) : Prop := ∃ (c : Bool) (i : Int), e = .returned (.int .i64 i) ∧ decide (0 ≤ i) = c ∧ (c = true ↔ P) ∧ Below w.heap.size w w'
/-- One of them may not be. -/
def NotAll (l : List OP) : Prop := ¬ ∀ o ∈ l, o.may
theorem rowOp : (Tryz.prog.info? 43).map (·.size) = some 14 := by kernel_rfl
section
set_option maxRecDepth 100000
set_option maxHeartbeats 2000000
theorem MayB1_any (o : OP) (hf : o.v.f < 18446744073709551616) (w : World) : Calls Tryz.prog 78 #[o.val] w (Says (¬ o.may) w) := by
  have C1 := Lib.hid (fun W => MayOp_any o hf W)
  have HP : Hid (∀ c : Bool, (c = true ↔ o.may) → ((!c) = true ↔ ¬ o.may)) := Lib.hid fun c h => by cases c <;> simp_all
  obtain ⟨kind, edge, id, label, fr, til, key, ⟨k, b, n, f, s⟩, pf, pt⟩ := o
  clear hf
  go_enter Tryz.func78, Tryz.ntmps78
  go_wp2_with (go_at_call 25; (with_reducible refine (C1.out _).mono ?_); rintro e w1 ⟨c, rfl, hc, hb⟩; have HC := Lib.hid hc; have B1 := Lib.hid hb; clear hc hb)
  go_ret
  exact ⟨!c, rfl, HP.out c HC.out, al1 B1.out⟩
theorem Index_any (v : Value) (l : List OP) (w : World) (h : SO w v l) (hw : ∀ o ∈ l, o.wide) :
    Calls Tryz.prog 119 #[v, .func (.func 78) #[] #[]] w (Finds (NotAll l) w) := by
  obtain ⟨A, c, rfl, hA, hm⟩ := h
  have HA := Lib.hid hA
  have HW := Lib.hid hw
  clear hA hw
  go_enter Tryz.func119, Tryz.ntmps119
  go_wp2
  go_loopw [8] (fun i wr => ∃ k : Nat, k ≤ l.length ∧ i = .int .i64 k ∧ (∀ j (h : j < l.length), j < k → l[j].may) ∧ Below w.heap.size w wr) (fun i _ => l.length - (intOf i).toNat)
  case atStart => exact ⟨0, Nat.zero_le _, rfl, fun j _ h => absurd h (Nat.not_lt_zero j), Below.refl _ _⟩
  case round =>
    obtain ⟨k, hk, rfl, hp, hb⟩ := hrel
    have HP := Lib.hid hp
    have HB := Lib.hid hb
    clear hp hb
    by_cases hlt : k < l.length
    · obtain ⟨g, off, rfl, lg, cg⟩ := (HA.out.below HB.out) (by omega)
      have r := cg k hlt
      have HO := Lib.hid (HW.out l[k] (List.getElem_mem hlt)).2.2.2.2.2.2.1.2.2.1
      have HK : Hid (l[k].may → ∀ j (h : j < l.length), j < k + 1 → l[j].may) := Lib.hid fun h j h1 h2 => if e : j = k then (by subst e; exact h) else HP.out j h1 (by omega)
      have HN : Hid (¬ l[k].may → NotAll l) := Lib.hid fun h g => h (g _ (List.getElem_mem hlt))
      generalize l[k] = o at *
      have CM := Lib.hid (fun W => MayB1_any o HO.out W)
      have i0 : (k : Int) < (l.length : Int) := by omega
      have i1 : (0 : Int) ≤ (k : Int) := by omega
      have i2 : decide (0 ≤ (k : Int)) = true := by simp
      obtain ⟨kind, edge, id, label, fr, til, key, ⟨kk, b, n, f, s⟩, pf, pt⟩ := o
      clear cg HA HW HO HP
      go_upto_if 16 with (first
        | refine wpList_load_mid rfl 43 (.tmp 14) rfl g (off + k * 14) rfl _ _ r Tryz.underlying43 rfl rowOp ?_
        | (go_at_call 78; (with_reducible refine (CM.out _).mono ?_); rintro e w1 ⟨c1, rfl, hc, hb⟩; have HC := Lib.hid hc; have B1 := Lib.hid (HB.out.trans (hb.mono HB.out.size)); clear hc hb r))
      cases c1
      · have HK2 := Lib.hid (HK.out (by have := HC.out; simpa using this))
        clear HK HN
        go_wp2
        exact ⟨⟨k + 1, by omega, by go_num, HK2.out, B1.out⟩, by simp [intOf]; omega⟩
      · go_wp2
        go_ret
        exact ⟨true, k, rfl, by simp, ⟨fun _ => HN.out (by simpa using HC.out), fun _ => rfl⟩, B1.out⟩
    · have HT : Hid (∀ o ∈ l, o.may) := Lib.hid fun o ho => by
        obtain ⟨j, hj, rfl⟩ := List.mem_iff_getElem.1 ho
        exact HP.out j hj (by omega)
      clear HP
      go_wp2
      go_ret
      exact ⟨false, -1, rfl, by decide, ⟨fun h => (by cases h), fun h => absurd HT.out h⟩, HB.out⟩
theorem Contains_any (v : Value) (l : List OP) (w : World) (h : SO w v l) (hw : ∀ o ∈ l, o.wide) :
    Calls Tryz.prog 77 #[v, .func (.func 78) #[] #[]] w (Says (NotAll l) w) := by
  have C := Lib.hid (Index_any v l w h hw)
  clear h hw
  go_enter Tryz.func77, Tryz.ntmps77
  go_wp2_with (go_at_call 119; ((with_reducible refine (C.out).mono ?_); rintro e w1 ⟨c, i, rfl, hi, hc, hb⟩; have HC := Lib.hid (And.intro hi (And.intro hc hb)); clear hi hc hb))
  go_ret
  exact ⟨_, rfl, by rw [HC.out.1]; exact HC.out.2.1, HC.out.2.2⟩
/-- A batch as the program has it. -/
abbrev bval (x : BP) (s : Value) : Value := .agg #[.int .u64 (x.number : Int), .int .u64 (x.stamp : Int), s]
theorem MayBatch_any (x : BP) (s : Value) (w : World) (hs : SO w s x.ops) (hw : ∀ o ∈ x.ops, o.wide) : Calls Tryz.prog 32 #[bval x s] w (Says x.may w) := by
  have C := Lib.hid (fun W (hb : Below w.heap.size w W) => Contains_any s x.ops W (hs.below hb) hw)
  obtain ⟨A, c, rfl, hA, hm⟩ := hs
  obtain ⟨num, st, ops⟩ := x
  simp only at hA hm C
  clear hA hw
  have HY : Hid (1 ≤ num → num ≤ 1073741824 → st < 1099511627776 → 1 ≤ ops.length → ops.length ≤ 256 → ∀ c : Bool, (c = true ↔ NotAll ops) → ((!c) = true ↔ BP.may ⟨num, st, ops⟩)) := Lib.hid fun h1 h2 h3 h4 h5 c hc => by
    unfold BP.may
    unfold NotAll at hc
    cases c
    · simp at hc; simp; exact ⟨h1, h2, h3, h4, h5, hc⟩
    · have := hc.1 rfl
      simp only [Bool.not_true, Bool.false_eq_true, false_iff]
      rintro ⟨_, _, _, _, _, h⟩
      exact this h
  by_cases h1 : 1 ≤ num
  case neg =>
    have HF : Hid (¬ BP.may ⟨num, st, ops⟩) := Lib.hid fun h => h1 h.1
    have t1 : decide ((1 : Int) ≤ (num : Int)) = false := by simp; omega
    clear HY C h1 hm
    go_enter Tryz.func32, Tryz.ntmps32
    go_wp2
    go_ret
    exact ⟨false, rfl, by simp [HF.out], (Below.refl _ _).alloc (Nat.le_refl _) _⟩
  have t1 : decide ((1 : Int) ≤ (num : Int)) = true := by simp; omega
  by_cases h2 : num ≤ 1073741824
  case neg =>
    have HF : Hid (¬ BP.may ⟨num, st, ops⟩) := Lib.hid fun h => h2 h.2.1
    have t2 : decide ((num : Int) ≤ 1073741824) = false := by simp; omega
    clear HY C h1 h2 hm
    go_enter Tryz.func32, Tryz.ntmps32
    go_wp2
    go_ret
    exact ⟨false, rfl, by simp [HF.out], (Below.refl _ _).alloc (Nat.le_refl _) _⟩
  have t2 : decide ((num : Int) ≤ 1073741824) = true := by simp; omega
  by_cases h3 : st < 1099511627776
  case neg =>
    have HF : Hid (¬ BP.may ⟨num, st, ops⟩) := Lib.hid fun h => h3 h.2.2.1
    have t3 : decide ((st : Int) < 1099511627776) = false := by simp; omega
    clear HY C h1 h2 h3 hm
    go_enter Tryz.func32, Tryz.ntmps32
    go_wp2
    go_ret
    exact ⟨false, rfl, by simp [HF.out], (Below.refl _ _).alloc (Nat.le_refl _) _⟩
  have t3 : decide ((st : Int) < 1099511627776) = true := by simp; omega
  by_cases h4 : 1 ≤ ops.length
  case neg =>
    have HF : Hid (¬ BP.may ⟨num, st, ops⟩) := Lib.hid fun h => h4 h.2.2.2.1
    have t4 : decide ((1 : Int) ≤ (ops.length : Int)) = false := by simp; omega
    clear HY C h1 h2 h3 h4 hm
    go_enter Tryz.func32, Tryz.ntmps32
    go_wp2
    go_ret
    exact ⟨false, rfl, by simp [HF.out], (Below.refl _ _).alloc (Nat.le_refl _) _⟩
  have t4 : decide ((1 : Int) ≤ (ops.length : Int)) = true := by simp; omega
  by_cases h5 : ops.length ≤ 256
  case neg =>
    have HF : Hid (¬ BP.may ⟨num, st, ops⟩) := Lib.hid fun h => h5 h.2.2.2.2.1
    have t5 : decide ((ops.length : Int) ≤ 256) = false := by simp; omega
    clear HY C h1 h2 h3 h4 h5 hm
    go_enter Tryz.func32, Tryz.ntmps32
    go_wp2
    go_ret
    exact ⟨false, rfl, by simp [HF.out], (Below.refl _ _).alloc (Nat.le_refl _) _⟩
  have t5 : decide ((ops.length : Int) ≤ 256) = true := by simp; omega
  have HZ := Lib.hid (HY.out h1 h2 h3 h4 h5)
  have C2 := Lib.hid (C.out _ ((Below.refl w.heap.size w).alloc (Nat.le_refl _) (.cells #[.int .u64 (num : Int), .int .u64 (st : Int), .slice A ops.length c] 56)))
  clear HY C h1 h2 h3 h4 h5 hm
  go_enter Tryz.func32, Tryz.ntmps32
  go_wp2_with (go_at_call 77; ((with_reducible refine (C2.out).mono ?_); rintro e w1 ⟨c1, rfl, hc, hb⟩; have HC := Lib.hid hc; have B1 := Lib.hid hb; clear hc hb))
  go_ret
  exact ⟨!c1, rfl, HZ.out c1 HC.out, al1 B1.out⟩
end
end Go.Proofs.YtchklaepilcbbaaGreat
