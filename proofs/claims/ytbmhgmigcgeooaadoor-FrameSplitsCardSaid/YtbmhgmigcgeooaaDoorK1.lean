/- A region that draws its order: operations whose guard leaves them out, skipped all at once. -/
import Derived.Test.YtbmhgmigcgeooaaDoorP1
import Derived.Deep.RegionHeld3
namespace Go.Proofs.YtbmhgmigcgeooaaDoor
open Go.RowKit
section
variable {P : Program} {ops : Array Oper} {Q : Exit → Act → World → Prop} {md : Region.Mode} {S : World → Prop}
/-- The state behind the operations that were left out: each of their temporaries is undefined. -/
def skipped (ops : Array Oper) (a : Act) (us : List Nat) : Act := us.foldl (fun a i => a.put ((ops[i]?).bind (·.dst)) undef) a
def skipListed (listed : Array Bool) (us : List Nat) : Array Bool := us.foldl (fun l i => l.setIfInBounds i true) listed
/-- May these be skipped, one behind the other? -/
def maySkip (md : Region.Mode) (ops : Array Oper) : Array Bool → Array Value → List Nat → Bool
  | _, _, [] => true
  | listed, tmps, i :: us =>
    match ops[i]? with
    | none => false
    | some o => Region.free md ops listed i && (Region.ready md ops listed).contains i && !(Region.wanted o (yielded ops tmps)) && maySkip md ops (listed.setIfInBounds i true) (match o.dst with | some d => tmps.setIfInBounds d undef | none => tmps) us
theorem wpAnyH_skip (hs : Region.noSelect ops = true) (hQ : ∀ c (a : Act) (d : Option Tmp) w, Q (.panic c) (a.put d undef) w → Q (.panic c) a w) :
    ∀ (us : List Nat) (fuel : Nat) (listed : Array Bool) (a : Act) (w : World), maySkip md ops listed a.tmps us = true → S w →
      wpAnyH P md ops Q S fuel (skipListed listed us) (skipped ops a us) w → wpAnyH P md ops Q S (fuel + us.length) listed a w
  | [], _, _, _, _, _, _, h => h
  | i :: us, fuel, listed, a, w, hm, hS, h => by
    unfold maySkip at hm
    cases ho : ops[i]? with
    | none => rw [ho] at hm; cases hm
    | some o =>
      rw [ho] at hm
      simp only [Bool.and_eq_true, Bool.not_eq_true'] at hm
      obtain ⟨⟨⟨h1, h2⟩, h3⟩, h4⟩ := hm
      have e : (a.put o.dst undef).tmps = (match o.dst with | some d => a.tmps.setIfInBounds d undef | none => a.tmps) := by
        unfold Act.put; cases o.dst <;> rfl
      have ih := wpAnyH_skip hs hQ us fuel (listed.setIfInBounds i true) (a.put o.dst undef) w (by rw [e]; exact h4) hS (by
        have : skipped ops a (i :: us) = skipped ops (a.put o.dst undef) us := by
          unfold skipped
          rw [List.foldl_cons, ho]
          rfl
        rw [← this]
        exact h)
      have hl : fuel + (i :: us).length = (fuel + us.length) + 1 := by simp; omega
      rw [hl]
      exact wpAnyH_take ho hs h1 h2 (fun c a w hq => hQ c a o.dst w hq) (.inr ⟨h3, rfl⟩) hS ih
end
theorem take_in {P : Program} {md : Region.Mode} {ops : Array Oper} {Q : Exit → Act → World → Prop} {S : World → Prop} {i : Nat} {oi : Oper} {v : Value} {fuel : Nat} {listed : Array Bool} {a : Act} {w : World} (d : Option Nat) (hi : ops[i]? = some oi) (hd : oi.dst = d)
    (hs : Region.noSelect ops = true) (hf : Region.free md ops listed i = true) (hr : (Region.ready md ops listed).contains i = true)
    (hQ : ∀ c a w, Q (.panic c) (a.put d v) w → Q (.panic c) a w) (hy : YieldsIf P ops S oi v a) (hS : S w)
    (h : wpAnyH P md ops Q S fuel (listed.setIfInBounds i true) (a.put d v) w) : wpAnyH P md ops Q S (fuel + 1) listed a w := by
  subst hd
  exact wpAnyH_take hi hs hf hr hQ hy hS h
theorem wpAnyH_skip' {P : Program} {ops : Array Oper} {Q : Exit → Act → World → Prop} {md : Region.Mode} {S : World → Prop} (hs : Region.noSelect ops = true) (hQ : ∀ c (a : Act) (d : Option Tmp) w, Q (.panic c) (a.put d undef) w → Q (.panic c) a w)
    (us : List Nat) (fuel k : Nat) (hk : us.length = k) (listed l' : Array Bool) (a : Act) (w : World) (hm : maySkip md ops listed a.tmps us = true) (he : skipped ops a us = a) (hl : skipListed listed us = l') (hS : S w)
    (h : wpAnyH P md ops Q S fuel l' a w) : wpAnyH P md ops Q S (fuel + k) listed a w := by
  subst hk hl
  exact wpAnyH_skip hs hQ us fuel listed a w hm hS (by rw [he]; exact h)
end Go.Proofs.YtbmhgmigcgeooaaDoor
