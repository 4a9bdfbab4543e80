/- Sets of instants in plain numbers: the laws. -/
import Derived.Test.YtgjahnidjcfbiaaGreatDoorI4
namespace Go.Proofs.YtgjahnidjcfbiaaGreatDoor
namespace Iset
abbrev opOr (x y : Bool) : Bool := x || y
abbrev opAnd (x y : Bool) : Bool := x && y
abbrev opLess (x y : Bool) : Bool := x && !y
/-- Below the end of time. -/
def inF (t : Int) : Bool := decide (0 ≤ t) && decide (t < 1099511627776)
/-- What is not in a set. -/
def NotL (a R : List P) : Prop := NF R ∧ (∀ t, has R t = (decide (0 ≤ t) && decide (t < 1099511627776) && !has a t)) ∧ R.length ≤ a.length + 2
theorem NotL.has {a R : List P} (h : NotL a R) (t : Int) : Iset.has R t = (inF t && !Iset.has a t) := h.2.1 t
theorem in_has {a : List P} (h : Wide a) (t : Int) : (inF t && has a t) = has a t := by
  cases hh : has a t
  · simp
  · have h1 := has_below a t hh
    have h0 : 0 ≤ t := by
      by_cases x : t < 0
      · rw [has_neg a h t x] at hh
        cases hh
      · omega
    simp [inF, h0, h1]
theorem full_has (t : Int) : has [(0, 1099511627776)] t = inF t := by
  rw [has_cons, has_nil, Bool.or_false, hasP, (mayP_iff (0, 1099511627776)).2 (by decide), Bool.true_and]
  rfl
theorem full_nf : NF [(0, 1099511627776)] := ⟨by decide, by decide⟩
section
variable {a b c I O R S U V W X Y : List P}
/-- Two normal forms of one meaning. -/
theorem eqL (h : NF R) (k : NF S) (e : ∀ t, has R t = has S t) : R = S := NF.ext h k e
theorem part_apart (h1 : Res opAnd a b I) (h2 : Res opLess a b O) (h : Res opAnd I O R) : R = [] := eqL h.nf NF.nil fun t => by
  rw [h.has, h1.has, h2.has, has_nil]
  cases has a t <;> cases has b t <;> rfl
theorem part_whole (h1 : Res opAnd a b I) (h2 : Res opLess a b O) (h : Res opOr I O R) : R = nf a := eqL h.nf (nf_nf a) fun t => by
  rw [h.has, h1.has, h2.has, nf_has]
  cases has a t <;> cases has b t <;> rfl
theorem part_size (wa : Wide a) (wi : Wide I) (wo : Wide O) (h1 : Res opAnd a b I) (h2 : Res opLess a b O) : size I + size O = size a := by
  rw [size_eq I wi, size_eq O wo, size_eq a wa, ← cnt_or_and]
  have e1 : cnt (fun t => has I t && has O t) 1099511627776 = 0 := by
    rw [← cnt_none 1099511627776]
    refine cnt_congr _ _ _ fun t _ => ?_
    rw [h1.has, h2.has]
    cases has a t <;> cases has b t <;> rfl
  have e2 : cnt (fun t => has I t || has O t) 1099511627776 = cnt (has a) 1099511627776 := by
    refine cnt_congr _ _ _ fun t _ => ?_
    rw [h1.has, h2.has]
    cases has a t <;> cases has b t <;> rfl
  omega
theorem cov_or (h : covers a b) (h1 : Res opOr a c X) (h2 : Res opOr b c Y) : covers X Y := fun t ht => by
  rw [h2.has] at ht
  rw [h1.has]
  have := h t
  revert ht this
  cases has a t <;> cases has b t <;> cases has c t <;> simp
theorem cov_and (h : covers a b) (h1 : Res opAnd a c X) (h2 : Res opAnd b c Y) : covers X Y := fun t ht => by
  rw [h2.has] at ht
  rw [h1.has]
  have := h t
  revert ht this
  cases has a t <;> cases has b t <;> cases has c t <;> simp
theorem cov_less (h : covers a b) (h1 : Res opLess a c X) (h2 : Res opLess b c Y) : covers X Y := fun t ht => by
  rw [h2.has] at ht
  rw [h1.has]
  have := h t
  revert ht this
  cases has a t <;> cases has b t <;> cases has c t <;> simp
theorem cov_of (h : covers a b) (h1 : Res opLess c b X) (h2 : Res opLess c a Y) : covers X Y := fun t ht => by
  rw [h2.has] at ht
  rw [h1.has]
  have := h t
  revert ht this
  cases has a t <;> cases has b t <;> cases has c t <;> simp
theorem less_less (h1 : Res opLess a b X) (h2 : Res opLess X c Y) (h3 : Res opOr b c U) (h4 : Res opLess a U V) : Y = V := eqL h2.nf h4.nf fun t => by
  rw [h2.has, h1.has, h4.has, h3.has]
  cases has a t <;> cases has b t <;> cases has c t <;> rfl
/- An algebra. -/
theorem or_comm (h : Res opOr a b X) (k : Res opOr b a Y) : X = Y := eqL h.nf k.nf fun t => by
  rw [h.has, k.has]
  cases has a t <;> cases has b t <;> rfl
theorem and_comm (h : Res opAnd a b X) (k : Res opAnd b a Y) : X = Y := eqL h.nf k.nf fun t => by
  rw [h.has, k.has]
  cases has a t <;> cases has b t <;> rfl
theorem or_assoc (h1 : Res opOr b c U) (h2 : Res opOr a U X) (h3 : Res opOr a b V) (h4 : Res opOr V c Y) : X = Y := eqL h2.nf h4.nf fun t => by
  rw [h2.has, h1.has, h4.has, h3.has]
  cases has a t <;> cases has b t <;> cases has c t <;> rfl
theorem and_assoc (h1 : Res opAnd b c U) (h2 : Res opAnd a U X) (h3 : Res opAnd a b V) (h4 : Res opAnd V c Y) : X = Y := eqL h2.nf h4.nf fun t => by
  rw [h2.has, h1.has, h4.has, h3.has]
  cases has a t <;> cases has b t <;> cases has c t <;> rfl
theorem and_or (h1 : Res opOr b c U) (h2 : Res opAnd a U X) (h3 : Res opAnd a b V) (h4 : Res opAnd a c W) (h5 : Res opOr V W Y) : X = Y := eqL h2.nf h5.nf fun t => by
  rw [h2.has, h1.has, h5.has, h3.has, h4.has]
  cases has a t <;> cases has b t <;> cases has c t <;> rfl
theorem or_and (h1 : Res opAnd b c U) (h2 : Res opOr a U X) (h3 : Res opOr a b V) (h4 : Res opOr a c W) (h5 : Res opAnd V W Y) : X = Y := eqL h2.nf h5.nf fun t => by
  rw [h2.has, h1.has, h5.has, h3.has, h4.has]
  cases has a t <;> cases has b t <;> cases has c t <;> rfl
theorem not_or (h1 : Res opOr a b U) (h2 : NotL U X) (h3 : NotL a V) (h4 : NotL b W) (h5 : Res opAnd V W Y) : X = Y := eqL h2.1 h5.nf fun t => by
  rw [h2.has, h1.has, h5.has, h3.has, h4.has]
  cases has a t <;> cases has b t <;> cases inF t <;> rfl
theorem not_and (h1 : Res opAnd a b U) (h2 : NotL U X) (h3 : NotL a V) (h4 : NotL b W) (h5 : Res opOr V W Y) : X = Y := eqL h2.1 h5.nf fun t => by
  rw [h2.has, h1.has, h5.has, h3.has, h4.has]
  cases has a t <;> cases has b t <;> cases inF t <;> rfl
theorem not_not (wa : Wide a) (h1 : NotL a V) (h2 : NotL V X) : X = nf a := eqL h2.1 (nf_nf a) fun t => by
  rw [h2.has, h1.has, nf_has, ← in_has wa t]
  cases has a t <;> cases inF t <;> rfl
theorem less_not (wa : Wide a) (h1 : Res opLess a b X) (h2 : NotL b V) (h3 : Res opAnd a V Y) : X = Y := eqL h1.nf h3.nf fun t => by
  rw [h1.has, h3.has, h2.has, ← in_has wa t]
  cases has a t <;> cases has b t <;> cases inF t <;> rfl
theorem or_not (wa : Wide a) (h1 : NotL a V) (h2 : Res opOr a V X) : X = [(0, 1099511627776)] := eqL h2.nf full_nf fun t => by
  rw [h2.has, h1.has, full_has, ← in_has wa t]
  cases has a t <;> cases inF t <;> rfl
theorem and_not (h1 : NotL a V) (h2 : Res opAnd a V X) : X = [] := eqL h2.nf NF.nil fun t => by
  rw [h2.has, h1.has, has_nil]
  cases has a t <;> cases inF t <;> rfl
theorem or_within (h1 : Res opAnd a b U) (h2 : Res opOr a U X) : X = nf a := eqL h2.nf (nf_nf a) fun t => by
  rw [h2.has, h1.has, nf_has]
  cases has a t <;> cases has b t <;> rfl
theorem and_within (h1 : Res opOr a b U) (h2 : Res opAnd a U X) : X = nf a := eqL h2.nf (nf_nf a) fun t => by
  rw [h2.has, h1.has, nf_has]
  cases has a t <;> cases has b t <;> rfl
/- An order. -/
theorem or_covers (h : Res opOr a b X) : covers X a := fun t ht => by rw [h.has, ht]; rfl
theorem covers_and (h : Res opAnd a b X) : covers a X := fun t ht => by
  rw [h.has] at ht
  revert ht
  cases has a t <;> simp
theorem covers_none (a : List P) : covers a [] := fun t ht => by cases ht
theorem same_iff (a b : List P) : nf a = nf b ↔ covers a b ∧ covers b a := ⟨fun h => ⟨nf_same_covers h, nf_same_covers h.symm⟩, fun h => covers_same h.1 h.2⟩
theorem or_same (h : Res opOr a b X) : nf X = nf a ↔ covers a b := by
  rw [nf_eq_iff]
  constructor
  · intro e t ht
    have := e t
    rw [h.has, ht] at this
    rw [← this]
    simp
  · intro e t
    rw [h.has]
    have := e t
    revert this
    cases has a t <;> cases has b t <;> simp
theorem and_same (h : Res opAnd a b X) : nf X = nf b ↔ covers a b := by
  rw [nf_eq_iff]
  constructor
  · intro e t ht
    have := e t
    rw [h.has, ht] at this
    revert this
    cases has a t <;> simp
  · intro e t
    rw [h.has]
    have := e t
    revert this
    cases has a t <;> cases has b t <;> simp
theorem covers_trans (h : covers a b) (k : covers b c) : covers a c := fun t ht => h t (k t ht)
theorem of_covers (a : List P) : covers (nf a) a := fun t ht => by rw [nf_has]; exact ht
theorem covers_of (a : List P) : covers a (nf a) := fun t ht => by rw [nf_has] at ht; exact ht
theorem not_size (wa : Wide a) (wv : Wide V) (h : NotL a V) : size a + size V = 1099511627776 := by
  rw [size_eq a wa, size_eq V wv, ← cnt_or_and]
  have e1 : cnt (fun t => has a t && has V t) 1099511627776 = 0 := by
    rw [← cnt_none 1099511627776]
    refine cnt_congr _ _ _ fun t _ => ?_
    rw [h.has]
    cases has a t <;> cases inF t <;> rfl
  have e2 : cnt (fun t => has a t || has V t) 1099511627776 = 1099511627776 := by
    have hs := cnt_span 0 1099511627776 1099511627776 (Int.le_refl _) (by decide) (by decide)
    rw [show (1099511627776 : Int) - 0 = 1099511627776 by decide] at hs
    rw [← hs]
    refine cnt_congr _ _ _ fun t _ => ?_
    rw [h.has, ← in_has wa t]
    show _ = inF t
    cases has a t <;> cases inF t <;> rfl
  omega
end
end Iset
end Go.Proofs.YtgjahnidjcfbiaaGreatDoor
