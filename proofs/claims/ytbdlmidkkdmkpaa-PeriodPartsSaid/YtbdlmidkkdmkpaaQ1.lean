/- What PeriodParts asks, in plain numbers. -/
import Derived.Test.YtbdlmidkkdmkpaaP12
namespace Go.Proofs.Ytbdlmidkkdmkpaa
open Go.RowKit
theorem has_iff {a b x : Int} : hasB a b x = true ↔ (a < b ∧ b ≤ 1099511627776) ∧ a ≤ x ∧ x < b := by
  simp [hasB, mayB, and_assoc]
theorem may_iff {a b : Int} : mayB a b = true ↔ a < b ∧ b ≤ 1099511627776 := by simp [mayB]
theorem meet_iff {a b c d : Int} : meetB a b c d = true ↔ (a < b ∧ b ≤ 1099511627776) ∧ (c < d ∧ d ≤ 1099511627776) ∧ mx a c < mn b d ∧ mn b d ≤ 1099511627776 := by
  simp [meetB, mayB, and_assoc]
theorem has_meet (a b c d x : Int) : hasB (meetF a b c d) (meetT a b c d) x = (hasB a b x && hasB c d x) := by
  rw [Bool.eq_iff_iff, Bool.and_eq_true, has_iff, has_iff, has_iff]
  cases h : meetB a b c d
  · rw [(meet_no h).1, (meet_no h).2]
    have h' : ¬ meetB a b c d = true := by rw [h]; decide
    rw [meet_iff] at h'
    unfold mx mn at h'
    refine ⟨fun e => absurd e.1.1 (by decide), fun e => absurd ?_ h'⟩
    refine ⟨e.1.1, e.2.1, ?_⟩
    split <;> split <;> omega
  · rw [(meet_yes h).1, (meet_yes h).2]
    rw [meet_iff] at h
    unfold mx mn at *
    split at h <;> split at h <;> simp_all <;> omega
/-- How many of the first k hold x. -/
def cntL (L : List (Int × Int)) (x : Int) (k : Nat) : Int := (((L.take k).countP fun e => hasB e.1 e.2 x : Nat) : Int)
def lastL (L : List (Int × Int)) (k : Nat) : Int := if k = 0 then 0 else (L.getD (k - 1) (0, 0)).2
theorem cnt_zero' (L : List (Int × Int)) (x : Int) : cntL L x 0 = 0 := by simp [cntL]
theorem cnt_succ (L : List (Int × Int)) (x : Int) (k : Nat) (h : k < L.length) : cntL L x (k + 1) = cntL L x k + if hasB L[k].1 L[k].2 x = true then 1 else 0 := by
  unfold cntL
  rw [List.take_succ_eq_append_getElem h, List.countP_append]
  by_cases e : hasB L[k].1 L[k].2 x = true <;> simp [e]
theorem last_succ (L : List (Int × Int)) (k : Nat) (h : k < L.length) : lastL L (k + 1) = L[k].2 := by
  unfold lastL
  rw [if_neg (by omega)]
  simp [List.getD, h]
theorem minus_cases (a b c d : Int) : (mayB a b = false ∧ minusL a b c d = []) ∨ (mayB a b = true ∧ meetB a b c d = false ∧ minusL a b c d = [(a, b)]) ∨ (mayB a b = true ∧ meetB a b c d = true ∧ minusL a b c d = (if a < c then [(a, c)] else []) ++ (if d < b then [(d, b)] else [])) := by
  cases h1 : mayB a b
  · exact .inl ⟨rfl, minus_no h1⟩
  · cases h2 : meetB a b c d
    · exact .inr (.inl ⟨rfl, rfl, minus_all h1 h2⟩)
    · exact .inr (.inr ⟨rfl, rfl, minus_two h2⟩)
/-- Each that is left may be, begins behind the one ahead of it, and has no instant of q. -/
theorem minus_each (a b c d x : Int) (k : Nat) (h : k < (minusL a b c d).length) :
    mayB (minusL a b c d)[k].1 (minusL a b c d)[k].2 = true ∧ (0 < k → ¬ (minusL a b c d)[k].1 ≤ lastL (minusL a b c d) k) ∧ (hasB (minusL a b c d)[k].1 (minusL a b c d)[k].2 x = true → hasB c d x = false) := by
  have hl := minus_length a b c d
  rcases minus_cases a b c d with ⟨_, e⟩ | ⟨h1, h2, e⟩ | ⟨h1, h2, e⟩
  · exact absurd h (by rw [e]; simp)
  · have hm := has_meet a b c d x
    rw [(meet_no h2).1, (meet_no h2).2, show hasB 0 0 x = false from rfl] at hm
    generalize minusL a b c d = L at *
    subst e
    obtain rfl : k = 0 := by simp at h; omega
    refine ⟨h1, fun e => absurd e (by omega), fun e => ?_⟩
    simp at e
    rw [e] at hm
    simpa using hm.symm
  · generalize minusL a b c d = L at *
    rw [may_iff] at h1
    rw [meet_iff] at h2
    rw [← Bool.not_eq_true]
    rw [has_iff]
    by_cases x1 : a < c <;> by_cases x2 : d < b
    · rw [if_pos x1, if_pos x2] at e
      subst e
      match k, h with
      | 0, _ => refine ⟨?_, fun e => absurd e (by omega), ?_⟩ <;> simp [has_iff, may_iff] <;> omega
      | 1, _ => refine ⟨?_, ?_, ?_⟩ <;> simp [has_iff, may_iff, lastL] <;> omega
    · rw [if_pos x1, if_neg x2] at e
      subst e
      match k, h with
      | 0, _ => refine ⟨?_, fun e => absurd e (by omega), ?_⟩ <;> simp [has_iff, may_iff] <;> omega
    · rw [if_neg x1, if_pos x2] at e
      subst e
      match k, h with
      | 0, _ => refine ⟨?_, fun e => absurd e (by omega), ?_⟩ <;> simp [has_iff, may_iff] <;> omega
    · rw [if_neg x1, if_neg x2] at e
      subst e
      simp at h
def oneIf (v : Bool) : Int := if v = true then 1 else 0
/-- Each instant of p is in just one. -/
theorem minus_count (a b c d x : Int) : oneIf (hasB a b x && hasB c d x) + cntL (minusL a b c d) x (minusL a b c d).length = oneIf (hasB a b x) := by
  have key : ∀ (A B : Prop) [Decidable A] [Decidable B], (A ↔ B) → (if A then (1 : Int) else 0) = if B then 1 else 0 := fun A B _ _ h => by simp only [h]
  unfold oneIf cntL
  rw [List.take_length]
  rcases minus_cases a b c d with ⟨h1, e⟩ | ⟨h1, h2, e⟩ | ⟨h1, h2, e⟩
  · rw [e]
    have : hasB a b x = false := by simp [hasB, h1]
    rw [this]; rfl
  · have hm := has_meet a b c d x
    rw [(meet_no h2).1, (meet_no h2).2, show hasB 0 0 x = false from rfl] at hm
    rw [← hm, e]
    by_cases hx : hasB a b x = true <;> simp [hx]
  · rw [e]
    rw [may_iff] at h1
    rw [meet_iff] at h2
    unfold mx mn at h2
    have e1 : (hasB a b x && hasB c d x) = true ↔ ((a < b ∧ b ≤ 1099511627776) ∧ a ≤ x ∧ x < b) ∧ ((c < d ∧ d ≤ 1099511627776) ∧ c ≤ x ∧ x < d) := by rw [Bool.and_eq_true, has_iff, has_iff]
    have e2 : hasB a b x = true ↔ ((a < b ∧ b ≤ 1099511627776) ∧ a ≤ x ∧ x < b) := has_iff
    have e3 : hasB a c x = true ↔ ((a < c ∧ c ≤ 1099511627776) ∧ a ≤ x ∧ x < c) := has_iff
    have e4 : hasB d b x = true ↔ ((d < b ∧ b ≤ 1099511627776) ∧ d ≤ x ∧ x < b) := has_iff
    rw [List.countP_append]
    by_cases x1 : a < c <;> by_cases x2 : d < b <;> simp only [x1, x2, if_true, if_false, List.countP_nil, List.countP_cons, e1, e2, e3, e4, Nat.zero_add, Nat.add_zero] <;> (repeat' split at h2) <;> (repeat' split) <;> simp_all <;> omega
theorem cnt_le (a b c d x : Int) (k : Nat) : 0 ≤ cntL (minusL a b c d) x k ∧ cntL (minusL a b c d) x k ≤ 2 := by
  have hl := minus_length a b c d
  unfold cntL
  have h1 := List.countP_le_length (p := fun e : Int × Int => hasB e.1 e.2 x) (l := (minusL a b c d).take k)
  rw [List.length_take] at h1
  omega
theorem meet_may2 {a b c d : Int} (h : meetB a b c d = true) : mayB (meetF a b c d) (meetT a b c d) = true := by
  rw [(meet_yes h).1, (meet_yes h).2, may_iff]
  rw [meet_iff] at h
  omega
theorem hull_has {a b c d x : Int} (h : bothB a b c d = true) (hx : hasB a b x = true ∨ hasB c d x = true) : hasB (hullF a b c d) (hullT a b c d) x = true := by
  rw [(hull_yes h).1, (hull_yes h).2.1]
  simp only [bothB, Bool.and_eq_true, may_iff] at h
  rw [has_iff, has_iff] at hx
  rw [has_iff]
  unfold mx mn
  split <;> split <;> omega
theorem hull_ends {a b c d : Int} (h : bothB a b c d = true) : (hullF a b c d = a ∨ hullF a b c d = c) ∧ (hullT a b c d = b ∨ hullT a b c d = d) := by
  rw [(hull_yes h).1, (hull_yes h).2.1]
  unfold mx mn
  constructor <;> split <;> simp
end Go.Proofs.Ytbdlmidkkdmkpaa
