/- Sets of instants in plain numbers: how many instants they hold; what covers what. -/
/- The text of a set in plain lists of bytes, and its reading. -/
import Derived.Test.YtflgdhhgnbdofaaGreatmI2
import Derived.Lib.ItoaNum
import Derived.Lib.AtoiAll
namespace Go.Proofs.YtflgdhhgnbdofaaGreat.Se
namespace Iset
/-- How many of the first n instants a set holds. -/
def cnt (f : Int → Bool) : Nat → Int
  | 0 => 0
  | n + 1 => cnt f n + if f n then 1 else 0
theorem cnt_congr (f g : Int → Bool) (n : Nat) (h : ∀ t : Int, 0 ≤ t → f t = g t) : cnt f n = cnt g n := by
  induction n with
  | zero => rfl
  | succ n ih => rw [cnt, cnt, ih, h n (by omega)]
theorem cnt_or_and (f g : Int → Bool) (n : Nat) : cnt (fun t => f t || g t) n + cnt (fun t => f t && g t) n = cnt f n + cnt g n := by
  induction n with
  | zero => rfl
  | succ n ih =>
    have key : ∀ (p q : Bool), (if (p || q) = true then (1 : Int) else 0) + (if (p && q) = true then 1 else 0) = (if p = true then 1 else 0) + (if q = true then 1 else 0) := by decide
    have := key (f n) (g n)
    simp only [cnt]
    omega
theorem cnt_none (n : Nat) : cnt (fun _ => false) n = 0 := by
  induction n with
  | zero => rfl
  | succ n ih => simp [cnt, ih]
theorem cnt_nonneg (f : Int → Bool) (n : Nat) : 0 ≤ cnt f n := by
  induction n with
  | zero => exact Int.le_refl _
  | succ n ih =>
    rw [cnt]
    split <;> omega
theorem cnt_le (f : Int → Bool) (n : Nat) : cnt f n ≤ n := by
  induction n with
  | zero => exact Int.le_refl _
  | succ n ih =>
    rw [cnt]
    split <;> omega
theorem cnt_mono (f g : Int → Bool) (n : Nat) (h : ∀ t, g t = true → f t = true) : cnt g n ≤ cnt f n := by
  induction n with
  | zero => exact Int.le_refl _
  | succ n ih =>
    rw [cnt, cnt]
    have := h n
    cases hg : g n
    · simp
      split <;> omega
    · rw [this hg]
      simp
      omega
theorem cnt_same (f g : Int → Bool) (n : Nat) (h : ∀ t, g t = true → f t = true) (e : cnt f n = cnt g n) : ∀ t : Nat, t < n → f t = g t := by
  induction n with
  | zero => omega
  | succ n ih =>
    intro t ht
    have hm := cnt_mono f g n h
    rw [cnt, cnt] at e
    have hn := h n
    have e1 : f n = g n ∧ cnt f n = cnt g n := by
      cases hf : f n <;> cases hg : g n <;> rw [hf, hg] at e <;> simp at e ⊢
      · exact e
      · rw [hn hg] at hf
        cases hf
      · omega
      · omega
    by_cases ht2 : t = n
    · subst ht2
      exact e1.1
    · exact ih e1.2 t (by omega)
theorem cnt_span (a b : Int) (n : Nat) (h0 : 0 ≤ a) (h1 : a ≤ b) (h2 : b ≤ n) : cnt (fun t => decide (a ≤ t) && decide (t < b)) n = b - a := by
  have key : ∀ m : Nat, cnt (fun t => decide (a ≤ t) && decide (t < b)) m = if (m : Int) ≤ a then 0 else if (m : Int) ≤ b then m - a else b - a := by
    intro m
    induction m with
    | zero => rw [cnt, if_pos (by simpa using h0)]
    | succ m ih =>
      have hc : ((m + 1 : Nat) : Int) = (m : Int) + 1 := rfl
      rw [cnt, ih, hc]
      by_cases x1 : a ≤ (m : Int)
      · by_cases x2 : (m : Int) < b
        · rw [decide_eq_true x1, decide_eq_true x2]
          simp only [Bool.and_self, if_true]
          split <;> (try split) <;> (try split) <;> (try split) <;> omega
        · rw [decide_eq_false x2, Bool.and_false]
          simp only [Bool.false_eq_true, if_false, Int.add_zero]
          split <;> (try split) <;> (try split) <;> (try split) <;> omega
      · rw [decide_eq_false x1, Bool.false_and]
        simp only [Bool.false_eq_true, if_false, Int.add_zero]
        split <;> (try split) <;> (try split) <;> (try split) <;> omega
  rw [key]
  split <;> (try split) <;> omega
/-- The sum of the lengths. -/
def sumL : List P → Int
  | [] => 0
  | p :: l => (p.2 - p.1) + sumL l
theorem sumL_append (a b : List P) : sumL (a ++ b) = sumL a + sumL b := by
  induction a with
  | nil => simp [sumL]
  | cons p a ih => simp only [List.cons_append, sumL, ih]; omega
theorem NF.sum : ∀ {l : List P}, NF l → Wide l → ∀ n : Nat, (∀ p ∈ l, p.2 ≤ n) → sumL l = cnt (Iset.has l) n
  | [], _, _, n, _ => (cnt_none n).symm
  | p :: l, h, hw, n, hn => by
    have mp := (mayP_iff p).1 (h.may p (by simp))
    have wp := hw p (by simp)
    have ih := NF.sum h.cons (fun q hq => hw q (by simp [hq])) n fun q hq => hn q (by simp [hq])
    have e := cnt_or_and (fun t => decide (p.1 ≤ t) && decide (t < p.2)) (Iset.has l) n
    rw [cnt_span p.1 p.2 n wp.1 (by omega) (hn p (by simp))] at e
    have e1 : cnt (fun t => decide (p.1 ≤ t) && decide (t < p.2) && Iset.has l t) n = 0 := by
      rw [← cnt_none n]
      refine cnt_congr _ _ _ fun t _ => ?_
      rw [Bool.eq_false_iff]
      intro hh
      simp only [Bool.and_eq_true, decide_eq_true_eq] at hh
      have := h.gap t hh.2
      omega
    have e2 : cnt (fun t => decide (p.1 ≤ t) && decide (t < p.2) || Iset.has l t) n = cnt (Iset.has (p :: l)) n := by
      refine cnt_congr _ _ _ fun t _ => ?_
      rw [has_cons]
      congr 1
      rw [hasP, (mayP_iff p).2 mp, Bool.true_and]
    rw [sumL, ih]
    omega
/-- How many instants a list means. -/
def size (l : List P) : Int := sumL (nf l)
theorem size_eq (l : List P) (h : Wide l) : size l = cnt (has l) 1099511627776 := by
  rw [size, (nf_nf l).sum (nf_wide h) 1099511627776 fun p hp => ((mayP_iff p).1 ((nf_nf l).may p hp)).2]
  exact cnt_congr _ _ _ fun t _ => nf_has l t
theorem size_bd (l : List P) (h : Wide l) : 0 ≤ size l ∧ size l ≤ 1099511627776 := by
  rw [size_eq l h]
  exact ⟨cnt_nonneg _ _, cnt_le _ _⟩
/-- Sums of a part of a row stay below. -/
theorem sum_take (l : List P) (hl : NF l) (hw : Wide l) (k : Nat) : 0 ≤ sumL (l.take k) ∧ sumL (l.take k) ≤ 1099511627776 := by
  have h1 : NF (l.take k) := ⟨fun p hp => hl.may p (List.mem_of_mem_take hp), hl.apart.sublist (List.take_sublist k l)⟩
  have h2 : Wide (l.take k) := fun p hp => hw p (List.mem_of_mem_take hp)
  rw [h1.sum h2 1099511627776 fun p hp => ((mayP_iff p).1 (h1.may p hp)).2]
  exact ⟨cnt_nonneg _ _, cnt_le _ _⟩
/-- Does a hold all that b holds? -/
def covers (a b : List P) : Prop := ∀ t, has b t = true → has a t = true
theorem minus_nil_iff {a b R : List P} (h : Res (fun x y => x && !y) b a R) : R = [] ↔ covers a b := by
  constructor
  · rintro rfl t ht
    have := h.has t
    rw [has_nil, ht] at this
    simpa using this.symm
  · intro hc
    refine NF.ext h.nf NF.nil fun t => ?_
    rw [h.has, has_nil]
    cases hb : has b t
    · rfl
    · rw [hc t hb]
      rfl
theorem covers_same {a b : List P} (h1 : covers a b) (h2 : covers b a) : nf a = nf b :=
  (nf_eq_iff a b).2 fun t => by
    rw [Bool.eq_iff_iff]
    exact ⟨h2 t, h1 t⟩
theorem nf_same_covers {a b : List P} (h : nf a = nf b) : covers a b := fun t ht => by rw [(nf_eq_iff a b).1 h t]; exact ht
theorem covers_size {a b : List P} (ha : Wide a) (hb : Wide b) (h : covers a b) : size b ≤ size a := by
  rw [size_eq a ha, size_eq b hb]
  exact cnt_mono _ _ _ h
theorem covers_size_eq {a b : List P} (ha : Wide a) (hb : Wide b) (h : covers a b) (e : size a = size b) : covers b a := by
  rw [size_eq a ha, size_eq b hb] at e
  intro t ht
  have h0 : 0 ≤ t := by
    by_cases x : t < 0
    · rw [has_neg a ha t x] at ht
      cases ht
    · omega
  have h1 := has_below a t ht
  have := cnt_same (has a) (has b) 1099511627776 h e t.toNat (by omega)
  rw [Int.toNat_of_nonneg h0] at this
  rw [← this]
  exact ht
theorem size_or_and {a b R S : List P} (ha : Wide a) (hb : Wide b) (hR : Res or a b R) (hS : Res and a b S) (wR : Wide R) (wS : Wide S) : size R + size S = size a + size b := by
  rw [size_eq a ha, size_eq b hb, size_eq R wR, size_eq S wS, cnt_congr (has R) (fun t => has a t || has b t) _ fun t _ => hR.has t, cnt_congr (has S) (fun t => has a t && has b t) _ fun t _ => hS.has t]
  exact cnt_or_and _ _ _
theorem Res.wide {k : Bool → Bool → Bool} {a b R : List P} (hk : k false false = false) (h : Res k a b R) (ha : Wide a) (hb : Wide b) : Wide R :=
  h.nf.wide fun t ht => by rw [h.has, has_neg a ha t ht, has_neg b hb t ht, hk]
end Iset
end Go.Proofs.YtflgdhhgnbdofaaGreat.Se

namespace Go.Proofs.YtflgdhhgnbdofaaGreat.Se
namespace Iset
open Go.Lib
def dec (z : Int) : List UInt8 := decDigits z.toNat
def endT (z : Int) : List UInt8 := if z = 1099511627776 then [42] else dec z
/-- The text of one period. -/
def textP (p : P) : List UInt8 := [91] ++ dec p.1 ++ [44] ++ endT p.2 ++ [41]
def textsL (l : List P) : List UInt8 := l.flatMap textP
/-- The text of a normal form. -/
def textL (l : List P) : List UInt8 := if l = [] then [91, 41] else textsL l
/-- What stands ahead of the first c, and behind it. -/
def cutAt (c : UInt8) : List UInt8 → List UInt8 × List UInt8 × Bool
  | [] => ([], [], false)
  | x :: l => if x = c then ([], l, true) else (x :: (cutAt c l).1, (cutAt c l).2)
theorem cutAt_hit (c : UInt8) : ∀ (a b : List UInt8), (∀ x ∈ a, x ≠ c) → cutAt c (a ++ c :: b) = (a, b, true)
  | [], b, _ => by simp [cutAt]
  | x :: a, b, h => by
    have := h x (by simp)
    rw [List.cons_append, cutAt, if_neg this, cutAt_hit c a b fun y hy => h y (by simp [hy])]
theorem cutAt_shorter (c : UInt8) : ∀ (l : List UInt8), (cutAt c l).2.1.length ≤ l.length ∧ ((cutAt c l).2.2 = true → (cutAt c l).2.1.length < l.length)
  | [] => by simp [cutAt]
  | x :: l => by
    rw [cutAt]
    split
    · simp
    · have := cutAt_shorter c l
      simp only [List.length_cons]
      exact ⟨by omega, fun h => by have := this.2 h; omega⟩
/-- An end, read. -/
def readEndL (l : List UInt8) : Option Int := if l = [42] then some 1099511627776 else match parseMag l with
  | .ok u => some (u : Int)
  | _ => none
/-- A period, read; what is behind it. -/
def readPL (l : List UInt8) : Option (P × List UInt8) := match l with
  | [] => none
  | x :: l1 => if x = 91 then (if (cutAt 44 l1).2.2 = true ∧ (cutAt 41 (cutAt 44 l1).2.1).2.2 = true then
      match readEndL (cutAt 44 l1).1, readEndL (cutAt 41 (cutAt 44 l1).2.1).1 with
      | some a, some b => some ((a, b), (cutAt 41 (cutAt 44 l1).2.1).2.1)
      | _, _ => none
    else none) else none
/-- Period by period. -/
inductive Reads : List UInt8 → List P → Prop
  | nil : Reads [] []
  | cons {l r : List UInt8} {p : P} {L : List P} : readPL l = some (p, r) → Reads r L → Reads l (p :: L)
theorem Reads.det : ∀ {l : List UInt8} {L M : List P}, Reads l L → Reads l M → L = M
  | _, _, _, .nil, .nil => rfl
  | _, _, _, .nil, .cons h _ => by cases h
  | _, _, _, .cons h _, .nil => by cases h
  | _, _, _, .cons h k, .cons h' k' => by
    rw [h] at h'
    injection h' with h'
    injection h' with h1 h2
    subst h1 h2
    rw [Reads.det k k']
theorem readPL_shorter {l r : List UInt8} {p : P} (h : readPL l = some (p, r)) : r.length + 3 ≤ l.length := by
  unfold readPL at h
  match l, h with
  | x :: l1, h =>
    simp only at h
    split at h
    · split at h
      · rename_i hc
        have h1 := (cutAt_shorter 44 l1).2 hc.1
        have h2 := (cutAt_shorter 41 (cutAt 44 l1).2.1).2 hc.2
        split at h
        · injection h with h
          injection h with _ h
          subst h
          simp only [List.length_cons]
          omega
        · cases h
      · cases h
    · cases h
theorem Reads.length {l : List UInt8} {L : List P} (h : Reads l L) : 3 * L.length ≤ l.length := by
  induction h with
  | nil => exact Nat.le_refl _
  | cons h _ ih =>
    have := readPL_shorter h
    simp only [List.length_cons]
    omega
theorem dig_num (d : Nat) (h : d < 10) : (UInt8.ofNat (48 + d)).toNat = 48 + d := by
  rw [UInt8.toNat_ofNat']
  omega
/-- Digits alone. -/
theorem dec_digit (u : Nat) : ∀ x ∈ decDigits u, 48 ≤ x.toNat ∧ x.toNat ≤ 57 := by
  induction u using Nat.strongRecOn with
  | _ u ih =>
    intro x hx
    by_cases h : u < 10
    · rw [decDigits_one h, List.mem_singleton] at hx
      subst hx
      rw [dig_num u h]
      omega
    · rw [decDigits, dif_neg h, List.mem_append, List.mem_singleton] at hx
      rcases hx with hx | rfl
      · exact ih (u / 10) (by omega) x hx
      · rw [dig_num _ (by omega)]
        omega
theorem dec_not (u : Nat) (c : UInt8) (hc : c.toNat < 48) : ∀ x ∈ decDigits u, x ≠ c := by
  rintro x hx rfl
  have := dec_digit u x hx
  omega
theorem dec_ne (u : Nat) : decDigits u ≠ [] := by
  intro h
  have := decDigits_length u
  rw [h] at this
  have := nDigits_pos u
  simp at *
  omega
theorem parse_append : ∀ (a b : List UInt8) (acc v : Nat), parseUint10 acc a = .ok v → parseUint10 acc (a ++ b) = parseUint10 v b
  | [], b, acc, v, h => by
    rw [parseUint10] at h
    injection h with h
    subst h
    rfl
  | c :: a, b, acc, v, h => by
    rw [List.cons_append]
    rw [parseUint10] at h ⊢
    split at h
    · rename_i h1
      rw [if_pos h1]
      split at h
      · cases h
      · rename_i h2
        rw [if_neg h2]
        split at h
        · cases h
        · rename_i h3
          rw [if_neg h3]
          exact parse_append a b _ v h
    · cases h
theorem parse_dec (u : Nat) : u < 18446744073709551616 → parseUint10 0 (decDigits u) = .ok u := by
  induction u using Nat.strongRecOn with
  | _ u ih =>
    intro hu
    by_cases h : u < 10
    · rw [decDigits_one h, parseUint10, dig_num u h, if_pos (by omega), if_neg (by omega), if_neg (by omega), parseUint10]
      congr 1
      omega
    · rw [decDigits, dif_neg h, parse_append _ _ 0 (u / 10) (ih (u / 10) (by omega) (by omega)), parseUint10, dig_num _ (by omega), if_pos (by omega), if_neg (by omega), if_neg (by omega), parseUint10]
      congr 1
      omega
theorem mag_dec (u : Nat) (hu : u < 18446744073709551616) : parseMag (decDigits u) = .ok u := by
  rw [parseMag, if_neg (dec_ne u), parse_dec u hu]
theorem dec_inj {u v : Nat} (hu : u < 18446744073709551616) (hv : v < 18446744073709551616) (h : decDigits u = decDigits v) : u = v := by
  have := mag_dec u hu
  rw [h, mag_dec v hv] at this
  injection this with this
  exact this.symm
theorem dec_star (u : Nat) : decDigits u ≠ [42] := by
  intro h
  have := dec_digit u 42 (by rw [h]; simp)
  revert this
  decide
theorem readEnd_dec (z : Int) (h0 : 0 ≤ z) (h1 : z < 18446744073709551616) : readEndL (dec z) = some z := by
  rw [readEndL, dec, if_neg (dec_star _), mag_dec _ (by omega)]
  simp only
  rw [Int.toNat_of_nonneg h0]
theorem readEnd_end (z : Int) (h0 : 0 ≤ z) (h1 : z < 18446744073709551616) : readEndL (endT z) = some z := by
  rw [endT]
  split
  · rename_i h
    rw [h]
    rfl
  · exact readEnd_dec z h0 h1
theorem endT_not (z : Int) : ∀ x ∈ endT z, x ≠ 41 := by
  rw [endT]
  split
  · simp
  · exact dec_not _ 41 (by decide)
theorem readPL_text (p : P) (r : List UInt8) (h0 : 0 ≤ p.1) (h1 : p.1 < 18446744073709551616) (h2 : 0 ≤ p.2) (h3 : p.2 < 18446744073709551616) : readPL (textP p ++ r) = some (p, r) := by
  have e : textP p ++ r = 91 :: (dec p.1 ++ 44 :: (endT p.2 ++ 41 :: r)) := by simp [textP]
  rw [e, readPL]
  simp only [if_true]
  rw [cutAt_hit 44 (dec p.1) _ (dec_not _ 44 (by decide)), cutAt_hit 41 _ _ (endT_not p.2)]
  simp only [and_self, if_true]
  rw [readEnd_dec _ h0 h1, readEnd_end _ h2 h3]
theorem reads_texts : ∀ (l : List P), NF l → Wide l → Reads (textsL l) l
  | [], _, _ => .nil
  | p :: l, h, hw => by
    have mp := (mayP_iff p).1 (h.may p (by simp))
    have wp := hw p (by simp)
    exact .cons (readPL_text p (textsL l) wp.1 (by omega) wp.2 (by omega)) (reads_texts l h.cons fun q hq => hw q (by simp [hq]))
theorem textsL_long (p : P) (l : List P) : 5 ≤ (textsL (p :: l)).length := by
  have h1 : 1 ≤ (dec p.1).length := List.length_pos_iff.2 (dec_ne _)
  have h2 : 1 ≤ (endT p.2).length := by
    rw [endT]
    split
    · simp
    · exact List.length_pos_iff.2 (dec_ne _)
  simp only [textsL, List.flatMap_cons, List.length_append, textP, List.length_cons, List.length_nil]
  omega
theorem text_not_empty {l : List P} (hl : l ≠ []) : textL l ≠ [91, 41] := by
  match l, hl with
  | p :: l, _ =>
    rw [textL, if_neg (by simp)]
    intro h
    have := textsL_long p l
    rw [h] at this
    simp at this
theorem text_nil_iff (l : List P) : textL l = [91, 41] ↔ l = [] := by
  constructor
  · intro h
    by_cases hl : l = []
    · exact hl
    · exact absurd h (text_not_empty hl)
  · rintro rfl
    rfl
theorem textL_some {l : List P} (h : l ≠ []) : textL l = textsL l := if_neg h
/-- Unlike sets, unlike texts. -/
theorem text_inj {a b : List P} (ha : NF a) (wa : Wide a) (hb : NF b) (wb : Wide b) (h : textL a = textL b) : a = b := by
  by_cases e : a = []
  · subst e
    exact ((text_nil_iff b).1 h.symm).symm
  · by_cases f : b = []
    · subst f
      exact (text_nil_iff a).1 h
    · rw [textL_some e, textL_some f] at h
      have := reads_texts a ha wa
      rw [h] at this
      exact this.det (reads_texts b hb wb)
/-- What a text is read as. -/
def Parsed (s : List UInt8) (R : Option (List P)) : Prop := match R with
  | some R => NF R ∧ Wide R ∧ textL R = s
  | none => ∀ R, NF R → Wide R → textL R ≠ s
theorem Parsed.uniq {s : List UInt8} {R S : Option (List P)} (h : Parsed s R) (k : Parsed s S) : R = S := by
  match R, S, h, k with
  | none, none, _, _ => rfl
  | none, some S, h, k => exact absurd k.2.2 (h S k.1 k.2.1)
  | some R, none, h, k => exact absurd h.2.2 (k R h.1 h.2.1)
  | some R, some S, h, k => rw [text_inj h.1 h.2.1 k.1 k.2.1 (h.2.2.trans k.2.2.symm)]
/-- What is read loosely, and whose text is the string, is a normal form. -/
theorem parsed_some {s : List UInt8} {L : List P} (h : Reads s L) (hw : Wide L) (ht : textL (nf L) = s) (hne : s ≠ [91, 41]) : Parsed s (some L) := by
  have h1 : nf L ≠ [] := fun e => hne (by rw [← ht, e]; rfl)
  have h2 := reads_texts (nf L) (nf_nf L) (nf_wide hw)
  rw [← textL_some h1, ht] at h2
  have e := h.det h2
  exact ⟨e ▸ nf_nf L, hw, by rw [e, ← e]; rw [← e] at ht; exact ht⟩
theorem parsed_unlike {s : List UInt8} {L : List P} (h : Reads s L) (ht : textL (nf L) ≠ s) (hne : s ≠ [91, 41]) : Parsed s none := by
  intro R h1 h2 h3
  have hR : R ≠ [] := fun e => hne (by rw [← h3, e]; rfl)
  have := reads_texts R h1 h2
  rw [← textL_some hR, h3] at this
  have e := h.det this
  subst e
  rw [nf_of_NF h1] at ht
  exact ht h3
theorem parsed_unread {s : List UInt8} (h : ∀ L, ¬ Reads s L) (hne : s ≠ [91, 41]) : Parsed s none := by
  intro R h1 h2 h3
  have hR : R ≠ [] := fun e => hne (by rw [← h3, e]; rfl)
  have := reads_texts R h1 h2
  rw [← textL_some hR, h3] at this
  exact h R this
theorem readEnd_fits {l : List UInt8} {z : Int} (h : readEndL l = some z) : 0 ≤ z ∧ z < 18446744073709551616 := by
  rw [readEndL] at h
  split at h
  · injection h with h
    omega
  · split at h
    · rename_i u hu
      injection h with h
      have := parseMag_lt hu
      omega
    · cases h
theorem readPL_fits {l r : List UInt8} {p : P} (h : readPL l = some (p, r)) : (0 ≤ p.1 ∧ p.1 < 18446744073709551616) ∧ 0 ≤ p.2 ∧ p.2 < 18446744073709551616 := by
  unfold readPL at h
  match l, h with
  | x :: l1, h =>
    simp only at h
    split at h
    · split at h
      · split at h
        · rename_i h1 h2
          injection h with h
          injection h with h _
          subst h
          exact ⟨readEnd_fits h1, readEnd_fits h2⟩
        · cases h
      · cases h
    · cases h
end Iset
end Go.Proofs.YtflgdhhgnbdofaaGreat.Se

