/- Two lists of periods held against each other. -/
/- The calls of package iset that answer sets, numbers and truths. -/
import Derived.Test.YtmolpogehgeebaaGreatbJ6
import Derived.Shelf.SlicesQ.IndexFunc
import Derived.Ground.SlgfProg
namespace Go.Proofs.YtmolpogehgeebaaGreat.Se
open Go.RowKit
/-- Are two lists the same? -/
def sameL (L M : List (Int × Int)) : Bool := decide (L = M)
theorem sameL_len {L M : List (Int × Int)} (h : L.length ≠ M.length) : sameL L M = false := by
  rw [sameL, decide_eq_false_iff_not]
  rintro rfl
  exact h rfl
theorem sameL_at {L M : List (Int × Int)} (k : Nat) (h : k < L.length) (g : k < M.length) (hne : ¬ (L[k].1 = M[k].1 ∧ L[k].2 = M[k].2)) : sameL L M = false := by
  rw [sameL, decide_eq_false_iff_not]
  rintro rfl
  exact hne ⟨rfl, rfl⟩
theorem sameL_all {L M : List (Int × Int)} (hl : L.length = M.length) (h : ∀ k (h : k < L.length) (g : k < M.length), L[k].1 = M[k].1 ∧ L[k].2 = M[k].2) : sameL L M = true := by
  rw [sameL, decide_eq_true_eq]
  exact List.ext_getElem hl fun k h1 h2 => Prod.ext (h k h1 h2).1 (h k h1 h2).2
set_option maxRecDepth 100000 in
set_option maxHeartbeats 2000000 in
theorem Equal_any (va vb : Value) (L M : List (Int × Int)) (w : World) (ha : IsP w va L) (hb : IsP w vb M) (hl : L.length ≤ 4000000000000) (hm : M.length ≤ 4000000000000) :
    Calls Tryz.prog 77 #[va, vb] w fun e w' => e = .returned (.bool (sameL L M)) ∧ Below w.heap.size w w' := by
  obtain ⟨A, c, rfl, hA⟩ := ha
  obtain ⟨B, d, rfl, hB⟩ := hb
  have HA := Lib.hid hA
  have HB := Lib.hid hB
  clear hA hB
  by_cases hne : L.length = M.length
  · have HN := Lib.hid (sameL_at (L := L) (M := M))
    have HY := Lib.hid (sameL_all (L := L) (M := M) hne)
    have HE := Lib.hid hne
    have hne' : ((L.length : Int) != (M.length : Int)) = false := by simp [hne]
    clear hne
    go_enter Tryz.func77, Tryz.ntmps77
    go_wp2
    clear hne'
    go_loopw [13] (fun v wr => ∃ i : Nat, i ≤ L.length ∧ v = .int .i64 i ∧ (∀ k (h : k < L.length) (g : k < M.length), k < i → L[k].1 = M[k].1 ∧ L[k].2 = M[k].2) ∧ Below w.heap.size w wr) (fun v _ => L.length - (intOf v).toNat)
    case atStart => exact ⟨0, Nat.zero_le _, rfl, fun k _ _ h => absurd h (Nat.not_lt_zero k), Below.refl _ _⟩
    case round =>
      obtain ⟨i, hi, rfl, hp, hb⟩ := hrel
      have HP := Lib.hid hp
      have HBl := Lib.hid hb
      clear hp hb
      by_cases hlt : i < L.length
      · have hlt2 : i < M.length := by have := HE.out; omega
        obtain ⟨g, og, rfl, lg, cg⟩ := (HA.out.below HBl.out) (by omega)
        obtain ⟨f, of, rfl, lf, cf⟩ := (HB.out.below HBl.out) (by omega)
        obtain ⟨x0, x1⟩ := cg i hlt
        obtain ⟨y0, y1⟩ := cf i hlt2
        have HN1 := Lib.hid (HN.out i hlt hlt2)
        have HP1 := Lib.hid (fun (h : L[i].1 = M[i].1 ∧ L[i].2 = M[i].2) k (h1 : k < L.length) (h2 : k < M.length) (h3 : k < i + 1) => if e : k = i then (by subst e; exact h) else HP.out k h1 h2 (by omega))
        have i0 : (i : Int) < (L.length : Int) := by omega
        have i1 : (0 : Int) ≤ (i : Int) := by omega
        generalize L[i].1 = p at *
        generalize L[i].2 = q at *
        generalize M[i].1 = p' at *
        generalize M[i].2 = q' at *
        clear cg cf HA HB HN HP
        by_cases h1 : p = p'
        · subst h1
          by_cases h2 : q = q'
          · subst h2
            have HP2 := Lib.hid (HP1.out ⟨rfl, rfl⟩)
            clear HP1 HN1
            go_upto_region 6 with fail
            go_quiet (fail)
            go_wp2
            exact ⟨⟨i + 1, by omega, by go_num, HP2.out, bel_drewN _ HBl.out⟩, by simp [intOf]; omega⟩
          · have HN2 := Lib.hid (HN1.out fun h => h2 h.2)
            have h2' : (q == q') = false := by simpa using h2
            clear HP1 HN1 h2
            go_upto_region 6 with fail
            go_quiet (fail)
            go_wp2
            go_ret
            exact ⟨by rw [HN2.out]; rfl, bel_drewN _ HBl.out⟩
        · have HN2 := Lib.hid (HN1.out fun h => h1 h.1)
          have h1' : (p == p') = false := by simpa using h1
          clear HP1 HN1 h1
          go_upto_region 6 with fail
          go_quiet (fail)
          go_wp2
          go_ret
          exact ⟨by rw [HN2.out]; rfl, bel_drewN _ HBl.out⟩
      · obtain rfl : i = L.length := by omega
        have HY1 := Lib.hid (HY.out fun k h g => HP.out k h g h)
        clear HA HB HP HN HY
        go_wp2
        go_ret
        exact ⟨by rw [HY1.out]; rfl, HBl.out⟩
  · have hne' : ((L.length : Int) != (M.length : Int)) = true := by
      rw [bne_iff_ne]
      omega
    rw [sameL_len hne]
    clear hne
    go_enter Tryz.func77, Tryz.ntmps77
    go_wp2
    go_ret
    exact ⟨rfl, Below.refl _ _⟩
set_option maxRecDepth 100000 in
set_option maxHeartbeats 2000000 in
theorem Like_any (va vb : Value) (L M : List (Int × Int)) (w : World) (ha : IsP w va L) (hb : IsP w vb M) (hl : L.length ≤ 4000000000000) (hm : M.length ≤ 4000000000000) :
    Calls Tryz.prog 82 #[va, vb] w fun e w' => e = .returned (.bool (sameL L M)) ∧ Below w.heap.size w w' := by
  obtain ⟨A, c, rfl, hA⟩ := ha
  obtain ⟨B, d, rfl, hB⟩ := hb
  have HA := Lib.hid hA
  have HB := Lib.hid hB
  clear hA hB
  by_cases hne : L.length = M.length
  · have HN := Lib.hid (sameL_at (L := L) (M := M))
    have HY := Lib.hid (sameL_all (L := L) (M := M) hne)
    have HE := Lib.hid hne
    have hne' : ((L.length : Int) != (M.length : Int)) = false := by simp [hne]
    clear hne
    go_enter Tryz.func82, Tryz.ntmps82
    go_wp2
    clear hne'
    go_loopw [5] (fun v wr => ∃ i : Nat, i ≤ L.length ∧ v = .int .i64 i ∧ (∀ k (h : k < L.length) (g : k < M.length), k < i → L[k].1 = M[k].1 ∧ L[k].2 = M[k].2) ∧ Below w.heap.size w wr) (fun v _ => L.length - (intOf v).toNat)
    case atStart => exact ⟨0, Nat.zero_le _, rfl, fun k _ _ h => absurd h (Nat.not_lt_zero k), Below.refl _ _⟩
    case round =>
      obtain ⟨i, hi, rfl, hp, hb⟩ := hrel
      have HP := Lib.hid hp
      have HBl := Lib.hid hb
      clear hp hb
      by_cases hlt : i < L.length
      · have hlt2 : i < M.length := by have := HE.out; omega
        obtain ⟨g, og, rfl, lg, cg⟩ := (HA.out.below HBl.out) (by omega)
        obtain ⟨f, of, rfl, lf, cf⟩ := (HB.out.below HBl.out) (by omega)
        obtain ⟨x0, x1⟩ := cg i hlt
        obtain ⟨y0, y1⟩ := cf i hlt2
        have HN1 := Lib.hid (HN.out i hlt hlt2)
        have HP1 := Lib.hid (fun (h : L[i].1 = M[i].1 ∧ L[i].2 = M[i].2) k (h1 : k < L.length) (h2 : k < M.length) (h3 : k < i + 1) => if e : k = i then (by subst e; exact h) else HP.out k h1 h2 (by omega))
        have i0 : (i : Int) < (L.length : Int) := by omega
        have i1 : (0 : Int) ≤ (i : Int) := by omega
        generalize L[i].1 = p at *
        generalize L[i].2 = q at *
        generalize M[i].1 = p' at *
        generalize M[i].2 = q' at *
        clear cg cf HA HB HN HP
        by_cases h1 : p = p'
        · subst h1
          by_cases h2 : q = q'
          · subst h2
            have HP2 := Lib.hid (HP1.out ⟨rfl, rfl⟩)
            clear HP1 HN1
            go_upto_region 6 with fail
            go_quiet (fail)
            go_wp2
            exact ⟨⟨i + 1, by omega, by go_num, HP2.out, bel_drewN _ HBl.out⟩, by simp [intOf]; omega⟩
          · have HN2 := Lib.hid (HN1.out fun h => h2 h.2)
            have h2' : (q == q') = false := by simpa using h2
            clear HP1 HN1 h2
            go_upto_region 6 with fail
            go_quiet (fail)
            go_wp2
            go_ret
            exact ⟨by rw [HN2.out]; rfl, bel_drewN _ HBl.out⟩
        · have HN2 := Lib.hid (HN1.out fun h => h1 h.1)
          have h1' : (p == p') = false := by simpa using h1
          clear HP1 HN1 h1
          go_upto_region 6 with fail
          go_quiet (fail)
          go_wp2
          go_ret
          exact ⟨by rw [HN2.out]; rfl, bel_drewN _ HBl.out⟩
      · obtain rfl : i = L.length := by omega
        have HY1 := Lib.hid (HY.out fun k h g => HP.out k h g h)
        clear HA HB HP HN HY
        go_wp2
        go_ret
        exact ⟨by rw [HY1.out]; rfl, HBl.out⟩
  · have hne' : ((L.length : Int) != (M.length : Int)) = true := by
      rw [bne_iff_ne]
      omega
    rw [sameL_len hne]
    clear hne
    go_enter Tryz.func82, Tryz.ntmps82
    go_wp2
    go_ret
    exact ⟨rfl, Below.refl _ _⟩
end Go.Proofs.YtmolpogehgeebaaGreat.Se


namespace Go.Proofs.YtmolpogehgeebaaGreat.Se
open Go.RowKit Go.Shelf Go.Lib
open Iset (nf has NF Res Wide)
theorem Union1_any (x y : Bool) (w : World) : Calls Tryz.prog 243 #[.bool x, .bool y] w fun e w' => e = .returned (.bool (x || y)) ∧ w = w' := by
  cases x <;> cases y <;> (go_enter Tryz.func243, Tryz.ntmps243; go_wp2; go_ret; exact ⟨rfl, rfl⟩)
theorem Meet1_any (x y : Bool) (w : World) : Calls Tryz.prog 120 #[.bool x, .bool y] w fun e w' => e = .returned (.bool (x && y)) ∧ w = w' := by
  cases x <;> cases y <;> (go_enter Tryz.func120, Tryz.ntmps120; go_wp2; go_ret; exact ⟨rfl, rfl⟩)
theorem Minus1_any (x y : Bool) (w : World) : Calls Tryz.prog 164 #[.bool x, .bool y] w fun e w' => e = .returned (.bool (x && !y)) ∧ w = w' := by
  cases x <;> cases y <;> (go_enter Tryz.func164, Tryz.ntmps164; go_wp2; go_ret; exact ⟨rfl, rfl⟩)
abbrev kOr (x y : Bool) : Bool := x || y
abbrev kAnd (x y : Bool) : Bool := x && y
abbrev kLess (x y : Bool) : Bool := x && !y
/-- A call that answers a new set. -/
def Answers (base : Nat) (w : World) (P : List (Int × Int) → Prop) (e : Ending) (w' : World) : Prop := ∃ v R, e = .returned v ∧ P R ∧ OwnP base w' v R ∧ Below base w w'
section
variable (va vb : Value) (a b : List (Int × Int)) (w : World) (ha : IsP w va a) (hb : IsP w vb b) (wa : Wide a) (wb : Wide b) (la : a.length ≤ 100000000000) (lb : b.length ≤ 100000000000)
include ha hb wa wb la lb
theorem Union_any : Calls Tryz.prog 198 #[va, vb] w (Answers w.heap.size w (Res kOr a b)) := by
  have H := Lib.hid (combine_any kOr rfl 243 (enters_of Tryz.func243 (by kernel_rfl) rfl) Union1_any va vb a b w ha hb wa wb la lb)
  clear ha hb wa wb la lb
  go_enter Tryz.func198, Tryz.ntmps198
  go_wp2_with fail
  refine (H.out).mono ?_
  rintro e w1 ⟨v1, R, rfl, hR, ho, hb⟩
  go_wp2
  go_ret
  exact ⟨_, R, rfl, hR, ho, hb⟩
theorem Meet_any : Calls Tryz.prog 41 #[va, vb] w (Answers w.heap.size w (Res kAnd a b)) := by
  have H := Lib.hid (combine_any kAnd rfl 120 (enters_of Tryz.func120 (by kernel_rfl) rfl) Meet1_any va vb a b w ha hb wa wb la lb)
  clear ha hb wa wb la lb
  go_enter Tryz.func41, Tryz.ntmps41
  go_wp2_with fail
  refine (H.out).mono ?_
  rintro e w1 ⟨v1, R, rfl, hR, ho, hb⟩
  go_wp2
  go_ret
  exact ⟨_, R, rfl, hR, ho, hb⟩
theorem Minus_any : Calls Tryz.prog 101 #[va, vb] w (Answers w.heap.size w (Res kLess a b)) := by
  have H := Lib.hid (combine_any kLess rfl 164 (enters_of Tryz.func164 (by kernel_rfl) rfl) Minus1_any va vb a b w ha hb wa wb la lb)
  clear ha hb wa wb la lb
  go_enter Tryz.func101, Tryz.ntmps101
  go_wp2_with fail
  refine (H.out).mono ?_
  rintro e w1 ⟨v1, R, rfl, hR, ho, hb⟩
  go_wp2
  go_ret
  exact ⟨_, R, rfl, hR, ho, hb⟩
theorem Covers_any : Calls Tryz.prog 26 #[va, vb] w fun e w' => ∃ r : Bool, e = .returned (.bool r) ∧ (r = true ↔ Iset.covers a b) ∧ Below w.heap.size w w' := by
  have H := Lib.hid (Minus_any vb va b a w hb ha wb wa lb la)
  clear ha hb wa wb la lb
  go_enter Tryz.func26, Tryz.ntmps26
  go_wp2_with fail
  refine (H.out).mono ?_
  rintro e w1 ⟨v1, R, rfl, hR, ho, hb⟩
  obtain ⟨A, c, rfl, _⟩ := ho.at
  have hC := Lib.hid (Iset.minus_nil_iff hR)
  clear hR ho
  go_wp2
  go_ret
  refine ⟨((R.length : Int) == 0), rfl, ?_, hb⟩
  rw [← hC.out, beq_iff_eq]
  constructor
  · intro h
    exact List.eq_nil_of_length_eq_zero (by omega)
  · rintro rfl
    rfl
end
/-- Not: what is not in a set. -/
def NotOf (a R : List (Int × Int)) : Prop := NF R ∧ (∀ t, has R t = (decide (0 ≤ t) && decide (t < 1099511627776) && !has a t)) ∧ R.length ≤ a.length + 2
theorem not_of {a R : List (Int × Int)} (h : Res kLess [(0, 1099511627776)] a R) : NotOf a R := by
  refine ⟨h.nf, fun t => ?_, by have := h.len; simp at this; omega⟩
  rw [h.has]
  have e : has [(0, 1099511627776)] t = (decide (0 ≤ t) && decide (t < 1099511627776)) := by
    rw [Iset.has_cons, Iset.has_nil, Bool.or_false, Iset.hasP, (Iset.mayP_iff (0, 1099511627776)).2 (by decide), Bool.true_and]
  rw [e]
theorem Is_any (va : Value) (a : List (Int × Int)) (w : World) (ha : IsP w va a) (la : a.length ≤ 1000000000000) :
    Calls Tryz.prog 99 #[va] w fun e w' => e = .returned (.bool (sameL (nf a) a)) ∧ Below w.heap.size w w' := by
  have H := Lib.hid (Of_any va a w ha la)
  have hn := Iset.nf_length a
  have HA := Lib.hid ha
  have HE := Lib.hid (fun v w' (h : IsP w' v (nf a)) (g : Below w.heap.size w w') => Equal_any v va (nf a) a w' h (ha.below g) (by omega) (by omega))
  clear ha la hn
  go_enter Tryz.func99, Tryz.ntmps99
  go_wp2_with fail
  refine (H.out).mono ?_
  rintro e w1 ⟨v1, rfl, ho, hb⟩
  have HO := Lib.hid ho
  have HB := Lib.hid hb
  clear ho hb
  go_wp2_with fail
  refine (HE.out _ _ HO.out.at HB.out).mono ?_
  rintro e w2 ⟨rfl, hb2⟩
  go_wp2
  go_ret
  exact ⟨rfl, HB.out.trans (hb2.mono HB.out.size)⟩
theorem Same_any (va vb : Value) (a b : List (Int × Int)) (w : World) (ha : IsP w va a) (hb : IsP w vb b) (la : a.length ≤ 1000000000000) (lb : b.length ≤ 1000000000000) :
    Calls Tryz.prog 42 #[va, vb] w fun e w' => e = .returned (.bool (sameL (nf a) (nf b))) ∧ Below w.heap.size w w' := by
  have H := Lib.hid (Of_any va a w ha la)
  have hn := Iset.nf_length a
  have hm := Iset.nf_length b
  have HG := Lib.hid (fun w1 (h : Below w.heap.size w w1) => Of_any vb b w1 (hb.below h) lb)
  have HE := Lib.hid (fun v v' w' (h : IsP w' v (nf a)) (h' : IsP w' v' (nf b)) => Equal_any v v' (nf a) (nf b) w' h h' (by omega) (by omega))
  clear ha hb la lb hn hm
  go_enter Tryz.func42, Tryz.ntmps42
  go_wp2_with fail
  refine (H.out).mono ?_
  rintro e w1 ⟨v1, rfl, ho, hb⟩
  have HO := Lib.hid ho
  have HB := Lib.hid hb
  clear ho hb
  go_wp2_with fail
  refine (HG.out _ HB.out).mono ?_
  rintro e w2 ⟨v2, rfl, ho2, hb2⟩
  have HO2 := Lib.hid ho2
  have HO1 := Lib.hid (HO.out.below hb2)
  have HB2 := Lib.hid (HB.out.trans (hb2.mono HB.out.size))
  clear ho2 hb2
  go_wp2_with fail
  refine (HE.out _ _ _ HO1.out.at HO2.out.at).mono ?_
  rintro e w3 ⟨rfl, hb3⟩
  go_wp2
  go_ret
  exact ⟨rfl, HB2.out.trans (hb3.mono HB2.out.size)⟩
end Go.Proofs.YtmolpogehgeebaaGreat.Se


