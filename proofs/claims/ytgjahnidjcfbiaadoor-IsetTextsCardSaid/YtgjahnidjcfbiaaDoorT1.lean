/- Which numbers stand in a text, in plain lists of bytes. -/
import Derived.Test.YtgjahnidjcfbiaaDoorK50
namespace Go.Proofs.YtgjahnidjcfbiaaDoor
namespace Iset
open Go.Lib
def isDig (c : UInt8) : Bool := decide (48 ≤ c.toNat) && decide (c.toNat ≤ 57)
/-- One more digit of the last number. -/
def bump (l : List Int) (c : UInt8) : List Int := match l.getLast? with
  | none => l
  | some z => l.dropLast ++ [(10 * z + ((c.toNat : Int) - 48)) % 18446744073709551616]
theorem bump_snoc (l : List Int) (z : Int) (c : UInt8) : bump (l ++ [z]) c = l ++ [(10 * z + ((c.toNat : Int) - 48)) % 18446744073709551616] := by
  simp only [bump, List.getLast?_concat, List.dropLast_concat]
/-- What one byte adds: d tells whether a digit stood ahead. -/
def feed (d : Bool) (l : List Int) (c : UInt8) : List Int := if isDig c then (if d then bump l c else l ++ [(c.toNat : Int) - 48]) else (if c = 42 then l ++ [1099511627776] else l)
def run (d : Bool) (l : List Int) : List UInt8 → List Int
  | [] => l
  | c :: cs => run (isDig c) (feed d l c) cs
/-- The numbers of a text. -/
def nums (s : List UInt8) : List Int := run false [] s
/-- Is the last one a digit? -/
def lastDig (s : List UInt8) : Bool := match s.getLast? with
  | none => false
  | some c => isDig c
theorem lastDig_snoc (s : List UInt8) (c : UInt8) : lastDig (s ++ [c]) = isDig c := by simp [lastDig]
theorem run_append : ∀ (a b : List UInt8) (d : Bool) (l : List Int), run d l (a ++ b) = run (if a = [] then d else lastDig a) (run d l a) b
  | [], b, d, l => by simp [run]
  | [c], b, d, l => by simp [run, lastDig]
  | c :: c2 :: a, b, d, l => by
    have := run_append (c2 :: a) b (isDig c) (feed d l c)
    rw [List.cons_append, run, this, run, if_neg (by simp), if_neg (by simp)]
    simp [lastDig]
    rfl
theorem nums_snoc (s : List UInt8) (c : UInt8) : nums (s ++ [c]) = feed (lastDig s) (nums s) c := by
  rw [nums, run_append, run, run]
  congr 1
  split
  · rename_i h
    rw [h]; rfl
  · rfl
theorem dig_isDig (d : Nat) (h : d < 10) : isDig (UInt8.ofNat (48 + d)) = true := by
  rw [isDig, dig_num d h]
  simp
  omega
theorem run_dec (u : Nat) : u < 18446744073709551616 → ∀ l rest, run false l (decDigits u ++ rest) = run true (l ++ [(u : Int)]) rest := by
  induction u using Nat.strongRecOn with
  | _ u ih =>
    intro hu l rest
    by_cases h : u < 10
    · rw [decDigits_one h, List.singleton_append, run, feed, dig_isDig u h, dig_num u h, if_pos rfl, if_neg (by simp)]
      congr 3
      omega
    · rw [decDigits, dif_neg h, List.append_assoc, ih (u / 10) (by omega) (by omega), List.singleton_append, run, feed, dig_isDig _ (by omega), if_pos rfl, if_pos rfl, bump_snoc, dig_num _ (by omega)]
      congr 3
      omega
theorem run_char (c : UInt8) (hc : isDig c = false) (h : c ≠ 42) (d : Bool) (l : List Int) (rest : List UInt8) : run d l (c :: rest) = run false l rest := by
  rw [run, feed, hc, if_neg (by simp), if_neg h]
theorem run_text (p : P) (h0 : 0 ≤ p.1) (h1 : p.1 < 18446744073709551616) (h2 : 0 ≤ p.2) (h3 : p.2 < 18446744073709551616) (d : Bool) (l : List Int) (rest : List UInt8) : run d l (textP p ++ rest) = run false (l ++ [p.1, p.2]) rest := by
  have e : textP p ++ rest = 91 :: (decDigits p.1.toNat ++ 44 :: (endT p.2 ++ 41 :: rest)) := by simp [textP, dec]
  rw [e, run_char 91 (by decide) (by decide), run_dec _ (by omega), run_char 44 (by decide) (by decide), endT]
  split
  · rename_i hF
    rw [List.singleton_append, run, feed, show isDig 42 = false by decide, if_neg (by simp), if_pos rfl, run_char 41 (by decide) (by decide), hF, Int.toNat_of_nonneg h0]
    simp
  · rw [dec, run_dec _ (by omega), run_char 41 (by decide) (by decide), Int.toNat_of_nonneg h0, Int.toNat_of_nonneg h2]
    simp
theorem run_texts : ∀ (R : List P), NF R → Wide R → ∀ (d : Bool) (l : List Int), run d l (textsL R) = l ++ ends R
  | [], _, _, d, l => by simp [textsL, run, ends]
  | p :: R, h, hw, d, l => by
    have mp := (mayP_iff p).1 (h.may p (by simp))
    have wp := hw p (by simp)
    have e : textsL (p :: R) = textP p ++ textsL R := by simp [textsL]
    rw [e, run_text p wp.1 (by omega) wp.2 (by omega), run_texts R h.cons (fun q hq => hw q (by simp [hq])), ends_cons]
    simp
theorem pairs_ends : ∀ (R : List P), pairs (ends R) = R
  | [] => rfl
  | p :: R => by rw [ends_cons, pairs, pairs_ends R]
theorem nums_text {R : List P} (h : NF R) (hw : Wide R) : pairs (nums (textL R)) = R := by
  by_cases e : R = []
  · subst e
    rfl
  · rw [textL_some e, nums, run_texts R h hw, List.nil_append, pairs_ends]
/-- The document's reading is the program's. -/
theorem doc_yes {s : List UInt8} (hw : Wide (pairs (nums s))) (h : textL (nf (pairs (nums s))) = s) : Parsed s (some (pairs (nums s))) := by
  have e := nums_text (nf_nf (pairs (nums s))) (nf_wide hw)
  rw [h] at e
  refine ⟨e ▸ nf_nf _, hw, ?_⟩
  rw [← e] at h
  exact h
theorem doc_no {s : List UInt8} (h : textL (nf (pairs (nums s))) ≠ s) : Parsed s none := by
  intro R h1 h2 h3
  have e := nums_text h1 h2
  rw [h3] at e
  rw [e, nf_of_NF h1] at h
  exact h h3
theorem feed_wide {d : Bool} {l : List Int} {c : UInt8} (h : ∀ z ∈ l, 0 ≤ z) : ∀ z ∈ feed d l c, 0 ≤ z := by
  intro z hz
  rw [feed] at hz
  split at hz
  · rename_i hd
    simp [isDig] at hd
    split at hz
    · rcases nil_or_snocI l with rfl | ⟨l, y, rfl⟩
      · simp [bump] at hz
      · rw [bump_snoc] at hz
        simp only [List.mem_append, List.mem_singleton] at hz
        rcases hz with hz | rfl
        · exact h z (by simp [hz])
        · omega
    · simp only [List.mem_append, List.mem_singleton] at hz
      rcases hz with hz | rfl
      · exact h z hz
      · omega
  · split at hz
    · simp only [List.mem_append, List.mem_singleton] at hz
      rcases hz with hz | rfl
      · exact h z hz
      · omega
    · exact h z hz
theorem feed_len (d : Bool) (l : List Int) (c : UInt8) : (feed d l c).length ≤ l.length + 1 := by
  rw [feed]
  split
  · split
    · rcases nil_or_snocI l with rfl | ⟨l, y, rfl⟩
      · simp [bump]
      · rw [bump_snoc]; simp
    · simp
  · split <;> simp
/-- Where the reading of numbers stands. -/
structure Told (s : List UInt8) (i : Nat) (l : List Int) : Prop where
  eq : nums (s.take i) = l
  wide : ∀ z ∈ l, 0 ≤ z
  len : l.length ≤ i
  some : lastDig (s.take i) = true → l ≠ []
theorem Told.start (s : List UInt8) : Told s 0 [] := ⟨by simp [nums, run], by simp, Nat.le_refl _, by simp [lastDig]⟩
theorem Told.next {s : List UInt8} {i : Nat} {l : List Int} (h : Told s i l) (hi : i < s.length) : Told s (i + 1) (feed (lastDig (s.take i)) l s[i]) := by
  have e : s.take (i + 1) = s.take i ++ [s[i]] := List.take_succ_eq_append_getElem hi
  refine ⟨by rw [e, nums_snoc, h.eq], feed_wide h.wide, Nat.le_trans (feed_len _ _ _) (by have := h.len; omega), fun hd => ?_⟩
  rw [e, lastDig_snoc] at hd
  rw [feed, if_pos hd]
  split
  · rename_i hl
    have := h.some hl
    rcases nil_or_snocI l with rfl | ⟨l, y, rfl⟩
    · exact absurd rfl this
    · rw [bump_snoc]; simp
  · simp
theorem Told.done {s : List UInt8} {l : List Int} (h : Told s s.length l) : nums s = l := by
  have := h.eq
  rwa [List.take_length] at this
theorem lastDig_take {s : List UInt8} {i : Nat} (h0 : 0 < i) (hi : i ≤ s.length) : lastDig (s.take i) = isDig (s[i - 1]'(by omega)) := by
  obtain ⟨j, rfl⟩ : ∃ j, i = j + 1 := ⟨i - 1, by omega⟩
  rw [List.take_succ_eq_append_getElem (by omega), lastDig_snoc]
  rfl
theorem pairs_wide : ∀ {l : List Int}, (∀ z ∈ l, 0 ≤ z) → Wide (pairs l)
  | [], _ => fun p hp => by simp [pairs] at hp
  | [_], _ => fun p hp => by simp [pairs] at hp
  | a :: b :: l, h => fun p hp => by
    simp only [pairs, List.mem_cons] at hp
    rcases hp with rfl | hp
    · exact ⟨h a (by simp), h b (by simp)⟩
    · exact pairs_wide (fun z hz => h z (by simp [hz])) p hp
/-- What is left of a number's digits. -/
def pre (m : Nat) : List UInt8 := if m < 10 then [] else decDigits (m / 10)
theorem pre_small {m : Nat} (h : m < 10) : pre m = [] := if_pos h
theorem pre_start (m : Nat) : decDigits m = pre m ++ [UInt8.ofNat (48 + m % 10)] := by
  rw [pre]
  split
  · rename_i h
    rw [decDigits_one h, Nat.mod_eq_of_lt h]; rfl
  · rename_i h
    rw [decDigits, dif_neg h]
theorem pre_next {m : Nat} (h : ¬ m < 10) : pre m = pre (m / 10) ++ [UInt8.ofNat (48 + m / 10 % 10)] := by
  rw [← pre_start, pre, if_neg h]
end Iset
end Go.Proofs.YtgjahnidjcfbiaaDoor
