/- The calls of package iset that answer sets, numbers and truths. -/
import Derived.Test.YtgjahnidjcfbiaaGreatDoorJ7
import Derived.Shelf.SlicesQ.IndexFunc
import Derived.Ground.SlgfProg
namespace Go.Proofs.YtgjahnidjcfbiaaGreatDoor
open Go.RowKit Go.Shelf Go.Lib
open Iset (nf has NF Res Wide)
theorem Union1_any (x y : Bool) (w : World) : Calls Tryz.prog 27 #[.bool x, .bool y] w fun e w' => e = .returned (.bool (x || y)) ∧ w = w' := by
  cases x <;> cases y <;> (go_enter Tryz.func27, Tryz.ntmps27; go_wp2; go_ret; exact ⟨rfl, rfl⟩)
theorem Meet1_any (x y : Bool) (w : World) : Calls Tryz.prog 28 #[.bool x, .bool y] w fun e w' => e = .returned (.bool (x && y)) ∧ w = w' := by
  cases x <;> cases y <;> (go_enter Tryz.func28, Tryz.ntmps28; go_wp2; go_ret; exact ⟨rfl, rfl⟩)
theorem Minus1_any (x y : Bool) (w : World) : Calls Tryz.prog 29 #[.bool x, .bool y] w fun e w' => e = .returned (.bool (x && !y)) ∧ w = w' := by
  cases x <;> cases y <;> (go_enter Tryz.func29, Tryz.ntmps29; go_wp2; go_ret; exact ⟨rfl, rfl⟩)
abbrev kOr (x y : Bool) : Bool := x || y
abbrev kAnd (x y : Bool) : Bool := x && y
abbrev kLess (x y : Bool) : Bool := x && !y
/-- A call that answers a new set. -/
def Answers (base : Nat) (w : World) (P : List (Int × Int) → Prop) (e : Ending) (w' : World) : Prop := ∃ v R, e = .returned v ∧ P R ∧ OwnP base w' v R ∧ Below base w w'
section
variable (va vb : Value) (a b : List (Int × Int)) (w : World) (ha : IsP w va a) (hb : IsP w vb b) (wa : Wide a) (wb : Wide b) (la : a.length ≤ 100000000000) (lb : b.length ≤ 100000000000)
include ha hb wa wb la lb
theorem Union_any : Calls Tryz.prog 6 #[va, vb] w (Answers w.heap.size w (Res kOr a b)) := by
  have H := Lib.hid (combine_any kOr rfl 27 (enters_of Tryz.func27 (by kernel_rfl) rfl) Union1_any va vb a b w ha hb wa wb la lb)
  clear ha hb wa wb la lb
  go_enter Tryz.func6, Tryz.ntmps6
  go_wp2_with fail
  refine (H.out).mono ?_
  rintro e w1 ⟨v1, R, rfl, hR, ho, hb⟩
  go_wp2
  go_ret
  exact ⟨_, R, rfl, hR, ho, hb⟩
theorem Meet_any : Calls Tryz.prog 7 #[va, vb] w (Answers w.heap.size w (Res kAnd a b)) := by
  have H := Lib.hid (combine_any kAnd rfl 28 (enters_of Tryz.func28 (by kernel_rfl) rfl) Meet1_any va vb a b w ha hb wa wb la lb)
  clear ha hb wa wb la lb
  go_enter Tryz.func7, Tryz.ntmps7
  go_wp2_with fail
  refine (H.out).mono ?_
  rintro e w1 ⟨v1, R, rfl, hR, ho, hb⟩
  go_wp2
  go_ret
  exact ⟨_, R, rfl, hR, ho, hb⟩
theorem Minus_any : Calls Tryz.prog 8 #[va, vb] w (Answers w.heap.size w (Res kLess a b)) := by
  have H := Lib.hid (combine_any kLess rfl 29 (enters_of Tryz.func29 (by kernel_rfl) rfl) Minus1_any va vb a b w ha hb wa wb la lb)
  clear ha hb wa wb la lb
  go_enter Tryz.func8, Tryz.ntmps8
  go_wp2_with fail
  refine (H.out).mono ?_
  rintro e w1 ⟨v1, R, rfl, hR, ho, hb⟩
  go_wp2
  go_ret
  exact ⟨_, R, rfl, hR, ho, hb⟩
theorem Covers_any : Calls Tryz.prog 19 #[va, vb] w fun e w' => ∃ r : Bool, e = .returned (.bool r) ∧ (r = true ↔ Iset.covers a b) ∧ Below w.heap.size w w' := by
  have H := Lib.hid (Minus_any vb va b a w hb ha wb wa lb la)
  clear ha hb wa wb la lb
  go_enter Tryz.func19, Tryz.ntmps19
  go_wp2_with fail
  refine (H.out).mono ?_
  rintro e w1 ⟨v1, R, rfl, hR, ho, hb⟩
  obtain ⟨A, c, rfl, _⟩ := ho.at
  have hC := Lib.hid (Iset.minus_nil_iff hR)
  clear hR ho
  go_wp2
  go_ret
  refine ⟨((R.length : Int) == 0), rfl, ?_, hb⟩
  rw [← hC.out, beq_iff_eq]
  constructor
  · intro h
    exact List.eq_nil_of_length_eq_zero (by omega)
  · rintro rfl
    rfl
end
/-- Not: what is not in a set. -/
def NotOf (a R : List (Int × Int)) : Prop := NF R ∧ (∀ t, has R t = (decide (0 ≤ t) && decide (t < 1099511627776) && !has a t)) ∧ R.length ≤ a.length + 2
theorem not_of {a R : List (Int × Int)} (h : Res kLess [(0, 1099511627776)] a R) : NotOf a R := by
  refine ⟨h.nf, fun t => ?_, by have := h.len; simp at this; omega⟩
  rw [h.has]
  have e : has [(0, 1099511627776)] t = (decide (0 ≤ t) && decide (t < 1099511627776)) := by
    rw [Iset.has_cons, Iset.has_nil, Bool.or_false, Iset.hasP, (Iset.mayP_iff (0, 1099511627776)).2 (by decide), Bool.true_and]
  rw [e]
theorem Not_any (va : Value) (a : List (Int × Int)) (w : World) (ha : IsP w va a) (wa : Wide a) (la : a.length ≤ 100000000000) :
    Calls Tryz.prog 9 #[va] w (Answers w.heap.size w (NotOf a)) := by
  have hb1 : Below w.heap.size w (w.alloc (.cells #[.int .u64 0, .int .u64 1099511627776] 29)) := (Below.refl _ _).alloc (Nat.le_refl _) _
  have hP : IsP (w.alloc (.cells #[.int .u64 0, .int .u64 1099511627776] 29)) (.slice (some ⟨w.heap.size, 0, none⟩) 1 1) [(0, 1099511627776)] := by
    refine ⟨_, _, rfl, fun _ => ⟨_, 0, rfl, by simp, fun i hi => ?_⟩⟩
    have h0 : i = 0 := by simp at hi; omega
    subst h0
    have B := box_at w 0 1099511627776 29 w.heap.size rfl
    exact ⟨B.c0, B.c1⟩
  have H := Lib.hid (Minus_any _ va [(0, 1099511627776)] a _ hP (ha.below hb1) (fun p hp => by simp at hp; subst hp; exact ⟨by decide, by decide⟩) wa (by simp) la)
  have HB := Lib.hid hb1
  clear hb1 hP ha wa la
  go_enter Tryz.func9, Tryz.ntmps9
  go_wp2_with fail
  refine (H.out).mono ?_
  rintro e w1 ⟨v1, R, rfl, hR, ho, hb⟩
  go_wp2
  go_ret
  exact ⟨_, R, rfl, not_of hR, ho.mono (by simp), HB.out.trans (hb.mono (by simp))⟩
theorem Is_any (va : Value) (a : List (Int × Int)) (w : World) (ha : IsP w va a) (la : a.length ≤ 1000000000000) :
    Calls Tryz.prog 16 #[va] w fun e w' => e = .returned (.bool (sameL (nf a) a)) ∧ Below w.heap.size w w' := by
  have H := Lib.hid (Of_any va a w ha la)
  have hn := Iset.nf_length a
  have HA := Lib.hid ha
  have HE := Lib.hid (fun v w' (h : IsP w' v (nf a)) (g : Below w.heap.size w w') => Equal_any v va (nf a) a w' h (ha.below g) (by omega) (by omega))
  clear ha la hn
  go_enter Tryz.func16, Tryz.ntmps16
  go_wp2_with fail
  refine (H.out).mono ?_
  rintro e w1 ⟨v1, rfl, ho, hb⟩
  have HO := Lib.hid ho
  have HB := Lib.hid hb
  clear ho hb
  go_wp2_with fail
  refine (HE.out _ _ HO.out.at HB.out).mono ?_
  rintro e w2 ⟨rfl, hb2⟩
  go_wp2
  go_ret
  exact ⟨rfl, HB.out.trans (hb2.mono HB.out.size)⟩
theorem Same_any (va vb : Value) (a b : List (Int × Int)) (w : World) (ha : IsP w va a) (hb : IsP w vb b) (la : a.length ≤ 1000000000000) (lb : b.length ≤ 1000000000000) :
    Calls Tryz.prog 20 #[va, vb] w fun e w' => e = .returned (.bool (sameL (nf a) (nf b))) ∧ Below w.heap.size w w' := by
  have H := Lib.hid (Of_any va a w ha la)
  have hn := Iset.nf_length a
  have hm := Iset.nf_length b
  have HG := Lib.hid (fun w1 (h : Below w.heap.size w w1) => Of_any vb b w1 (hb.below h) lb)
  have HE := Lib.hid (fun v v' w' (h : IsP w' v (nf a)) (h' : IsP w' v' (nf b)) => Equal_any v v' (nf a) (nf b) w' h h' (by omega) (by omega))
  clear ha hb la lb hn hm
  go_enter Tryz.func20, Tryz.ntmps20
  go_wp2_with fail
  refine (H.out).mono ?_
  rintro e w1 ⟨v1, rfl, ho, hb⟩
  have HO := Lib.hid ho
  have HB := Lib.hid hb
  clear ho hb
  go_wp2_with fail
  refine (HG.out _ HB.out).mono ?_
  rintro e w2 ⟨v2, rfl, ho2, hb2⟩
  have HO2 := Lib.hid ho2
  have HO1 := Lib.hid (HO.out.below hb2)
  have HB2 := Lib.hid (HB.out.trans (hb2.mono HB.out.size))
  clear ho2 hb2
  go_wp2_with fail
  refine (HE.out _ _ _ HO1.out.at HO2.out.at).mono ?_
  rintro e w3 ⟨rfl, hb3⟩
  go_wp2
  go_ret
  exact ⟨rfl, HB2.out.trans (hb3.mono HB2.out.size)⟩
end Go.Proofs.YtgjahnidjcfbiaaGreatDoor
