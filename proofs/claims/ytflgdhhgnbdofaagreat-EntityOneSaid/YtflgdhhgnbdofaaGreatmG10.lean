/- A float's place in the order of floats, in plain numbers; the laws' own test of bits. -/
/- What NumOneOrder asks of the orders, in plain numbers: the place of a canonical float is its own; a whole number against a float rises with the whole number and falls with the float; a whole number of 53 digits is a float. -/
/- The order of values in plain numbers and bytes: a value's class, its number in exact units, its bytes; the order is total, and none but the same value stands with itself. No program. -/
import Derived.Test.YtflgdhhgnbdofaaGreatmF6
import Derived.Lib.Bytealg
namespace Go.Proofs.YtflgdhhgnbdofaaGreat
open Go.RowKit
theorem rank_nan_eq (b : Nat) (hb : b < 18446744073709551616) (n : isNaNF b = true) : rankOf b = 18446744073709551615 := by
  unfold rankOf; rw [self_nan b hb, if_pos n]
theorem rank_num_eq (b : Nat) (hb : b < 18446744073709551616) (n : isNaNF b = false) : rankOf b = if b < 9223372036854775808 then (b : Int) + 9223372036854775808 else 18446744073709551615 - b := by
  unfold rankOf; rw [self_nan b hb, if_neg (by simp [n])]
theorem num_bound (b : Nat) (n : isNaNF b = false) : b % 9223372036854775808 ≤ 9218868437227405312 := by
  unfold isNaNF at n; simp only [decide_eq_false_iff_not] at n; omega
end Go.Proofs.YtflgdhhgnbdofaaGreat

namespace Go.Proofs.YtflgdhhgnbdofaaGreat
open Go.RowKit
theorem canonF_lt (b : Nat) (hb : b < 18446744073709551616) : canonF b < 18446744073709551616 := by
  unfold canonF; split <;> omega
theorem canonF_nan (b : Nat) : isNaNF (canonF b) = true → canonF b = 9221120237041090561 := by
  unfold canonF
  by_cases p : isNaNF b = true
  · rw [if_pos p]; intro _; rfl
  · rw [if_neg p]; intro h; exact absurd h p
theorem cmpI_flip (x y : Int) : cmpI x y = -cmpI y x := by
  unfold cmpI; repeat' split
  all_goals omega
theorem cmpI_le (x y : Int) : cmpI x y ≤ 0 ↔ x ≤ y := by
  unfold cmpI; repeat' split
  all_goals omega
theorem cmpI_zero (x y : Int) : cmpI x y = 0 ↔ x = y := by
  unfold cmpI; repeat' split
  all_goals omega
theorem rank_below (b : Nat) (hb : b < 18446744073709551616) (n : isNaNF b = false) : rankOf b < 18446744073709551615 := by
  have k := num_bound b n
  rw [rank_num_eq b hb n]
  split <;> omega
theorem rank_inj (a b : Nat) (ha : a < 18446744073709551616) (hb : b < 18446744073709551616) : rankOf (canonF a) = rankOf (canonF b) ↔ canonF a = canonF b := by
  constructor
  · have la := canonF_lt a ha
    have lb := canonF_lt b hb
    have na := canonF_nan a
    have nb := canonF_nan b
    generalize canonF a = x at *
    generalize canonF b = y at *
    intro h
    cases p : isNaNF x <;> cases q : isNaNF y
    · rw [rank_num_eq x la p, rank_num_eq y lb q] at h
      split at h <;> split at h <;> omega
    · have := rank_below x la p
      rw [rank_nan_eq y lb q] at h; omega
    · have := rank_below y lb q
      rw [rank_nan_eq x la p] at h; omega
    · rw [na p, nb q]
  · intro h; rw [h]
theorem cmpZ_mono (x y z : Int) (h : x ≤ y) : cmpZ x z ≤ cmpZ y z := by
  unfold cmpZ; repeat' split
  all_goals omega
theorem cmpZ_anti (x y z : Int) (h : x ≤ y) : cmpZ z y ≤ cmpZ z x := by
  unfold cmpZ; repeat' split
  all_goals omega
theorem cmpZ_least (x y : Int) : -1 ≤ cmpZ x y := by
  unfold cmpZ; repeat' split
  all_goals omega
theorem mixed_mono (n m : Int) (b : Nat) (h : m ≤ n) : mixedF m b ≤ mixedF n b := by
  unfold mixedF
  split
  · omega
  · exact cmpZ_mono _ _ _ (Int.mul_le_mul_of_nonneg_right h (by have := unitF_pos; omega))
theorem mixed_anti (n : Int) (a b : Nat) (ha : a < 18446744073709551616) (hb : b < 18446744073709551616) (h : rankOf a ≤ rankOf b) : mixedF n b ≤ mixedF n a := by
  unfold mixedF
  cases p : isNaNF a <;> cases q : isNaNF b
  · rw [if_neg (by simp), if_neg (by simp)]
    refine cmpZ_anti _ _ _ ?_
    rw [rank_num_eq a ha p, rank_num_eq b hb q] at h
    have v := (valF_lt b a)
    have k : ¬ keyF b < keyF a := by
      unfold keyF
      split at h <;> split at h <;> simp only [*, if_true, if_false] <;> omega
    omega
  · rw [if_pos rfl, if_neg (by simp)]
    exact cmpZ_least _ _
  · have := rank_below b hb q
    rw [rank_nan_eq a ha p] at h; omega
  · rw [if_pos rfl, if_pos rfl]; exact Int.le_refl _
/-- The float of a whole number that is a multiple of 2048. -/
theorem whole_float (k : Int) (h1 : -9223372036854775808 ≤ k) (h2 : k ≤ 9223372036854775807) (hd : k % 2048 = 0) :
    valF (Ieee.double.nearest (decide (k < 0)) k.natAbs 0) = k * unitF ∧ Ieee.double.nearest (decide (k < 0)) k.natAbs 0 < 18446744073709551616 ∧
    isNaNF (Ieee.double.nearest (decide (k < 0)) k.natAbs 0) = false := by
  have d : k.natAbs % 2 ^ (k.natAbs.log2 - 52) = 0 := by
    have e : k.natAbs.log2 - 52 ≤ 11 := by
      rcases Nat.eq_zero_or_pos k.natAbs with z | z
      · rw [z]; decide
      · have := (Nat.log2_lt (n := k.natAbs) (k := 64) (by omega)).2 (by omega)
        omega
    have s : 2 ^ (k.natAbs.log2 - 52) ∣ 2 ^ 11 := Nat.pow_dvd_pow 2 e
    have t : 2 ^ 11 ∣ k.natAbs := by
      have : k.natAbs % 2048 = 0 := by omega
      exact Nat.dvd_of_mod_eq_zero this
    exact Nat.mod_eq_zero_of_dvd (Nat.dvd_trans s t)
  obtain ⟨a1, a2, a3⟩ := valF_nearest (decide (k < 0)) k.natAbs (by omega) d
  refine ⟨?_, a2, ?_⟩
  · rw [a1]
    congr 1
    by_cases p : k < 0
    · rw [if_pos (by simp [p])]; omega
    · rw [if_neg (by simp [p])]; omega
  · unfold isNaNF
    simp only [decide_eq_false_iff_not]
    omega
theorem cmpZ_scale (x y : Int) : cmpZ (x * unitF) (y * unitF) = cmpZ x y := by
  have u := unitF_pos
  have h1 : x * unitF < y * unitF ↔ x < y := Int.mul_lt_mul_right u
  have h2 : y * unitF < x * unitF ↔ y < x := Int.mul_lt_mul_right u
  unfold cmpZ
  simp only [h1, h2]
/-- A whole number against the float of a multiple of 2048. -/
theorem mixed_whole (n k : Int) (h1 : -9223372036854775808 ≤ k) (h2 : k ≤ 9223372036854775807) (hd : k % 2048 = 0) :
    mixedF n (Ieee.double.nearest (decide (k < 0)) k.natAbs 0) = cmpZ n k := by
  obtain ⟨a1, _, a3⟩ := whole_float k h1 h2 hd
  unfold mixedF
  rw [if_neg (by simp [a3]), a1, cmpZ_scale]
end Go.Proofs.YtflgdhhgnbdofaaGreat

namespace Go.Proofs.YtflgdhhgnbdofaaGreat
open Go.RowKit

/-- A comparison that is a total order in which only one and the same stand together. -/
structure Good {α : Type} (c : α → α → Int) : Prop where
  flip : ∀ x y, c x y = -c y x
  least : ∀ x y, -1 ≤ c x y
  zero : ∀ x y, c x y = 0 ↔ x = y
  trans : ∀ x y z, c x y ≤ 0 → c y z ≤ 0 → c x z ≤ 0
theorem Good.most {α : Type} {c : α → α → Int} (h : Good c) (x y : α) : c x y ≤ 1 := by
  have := h.flip x y
  have := h.least y x
  omega
theorem Good.self {α : Type} {c : α → α → Int} (h : Good c) (x : α) : c x x = 0 := (h.zero x x).2 rfl
/-- Of three: what is behind neither of two is not behind; and with itself only where both are. -/
theorem Good.three {α : Type} {c : α → α → Int} (h : Good c) (x y z : α) (p : c x y ≤ 0) (q : c y z ≤ 0) : c x z ≤ 0 ∧ (c x z = 0 → c x y = 0 ∧ c y z = 0) := by
  refine ⟨h.trans x y z p q, fun r => ?_⟩
  have e := (h.zero x z).1 r
  subst e
  have := h.flip x y
  omega
theorem good_int : Good cmpI where
  flip := cmpI_flip
  least x y := by unfold cmpI; repeat' split
                  all_goals omega
  zero := cmpI_zero
  trans x y z p q := by
    rw [cmpI_le] at *
    omega
theorem good_lex {α β : Type} {c : α → α → Int} {d : β → β → Int} (hc : Good c) (hd : Good d) :
    Good (fun (x y : α × β) => if c x.1 y.1 = 0 then d x.2 y.2 else c x.1 y.1) where
  flip x y := by
    have f := hc.flip x.1 y.1
    have g := hd.flip x.2 y.2
    by_cases e : c x.1 y.1 = 0
    · simp only [e, show c y.1 x.1 = 0 by omega, if_true]; exact g
    · simp only [if_neg e, if_neg (show ¬ c y.1 x.1 = 0 by omega)]; exact f
  least x y := by
    split
    · exact hd.least _ _
    · exact hc.least _ _
  zero x y := by
    have f := hc.zero x.1 y.1
    have g := hd.zero x.2 y.2
    constructor
    · intro h
      split at h
      · rename_i e
        exact Prod.ext (f.1 e) (g.1 h)
      · contradiction
    · rintro rfl
      rw [if_pos (hc.self _)]; exact hd.self _
  trans x y z p q := by
    have t := hc.three x.1 y.1 z.1
    have s := hd.trans x.2 y.2 z.2
    have e1 := hc.zero x.1 y.1
    have e2 := hc.zero y.1 z.1
    by_cases a : c x.1 y.1 = 0
    · rw [if_pos a] at p
      rw [e1.1 a]
      by_cases b : c y.1 z.1 = 0
      · rw [if_pos b] at q ⊢
        exact s p q
      · rw [if_neg b] at q ⊢
        exact q
    · rw [if_neg a] at p
      by_cases b : c y.1 z.1 = 0
      · rw [← e2.1 b, if_neg a]; exact p
      · rw [if_neg b] at q
        obtain ⟨t1, t2⟩ := t p q
        rw [if_neg (fun r => a (t2 r).1)]
        exact t1

theorem good_bytes : Good Lib.compareBytes where
  flip := by
    intro x
    induction x with
    | nil => intro y; cases y <;> simp [Lib.compareBytes]
    | cons a x ih =>
      intro y
      cases y with
      | nil => simp [Lib.compareBytes]
      | cons b y =>
        unfold Lib.compareBytes
        have := ih y
        have h1 : a < b → ¬ b < a := fun h => by rw [UInt8.lt_iff_toNat_lt] at *; omega
        by_cases p : a < b
        · rw [if_pos p, if_neg (h1 p), if_pos p]
        · rw [if_neg p]
          by_cases q : b < a
          · rw [if_pos q, if_pos q]; rfl
          · rw [if_neg q, if_neg q, if_neg p]; exact this
  least := by
    intro x
    induction x with
    | nil => intro y; cases y <;> simp [Lib.compareBytes]
    | cons a x ih =>
      intro y
      cases y with
      | nil => simp [Lib.compareBytes]
      | cons b y =>
        unfold Lib.compareBytes
        have := ih y
        repeat' split
        all_goals omega
  zero := by
    intro x
    induction x with
    | nil => intro y; cases y <;> simp [Lib.compareBytes]
    | cons a x ih =>
      intro y
      cases y with
      | nil => simp [Lib.compareBytes]
      | cons b y =>
        unfold Lib.compareBytes
        have t := ih y
        have e : ¬ a < b → ¬ b < a → a = b := fun h g => by
          rw [UInt8.lt_iff_toNat_lt] at *
          exact UInt8.toNat_inj.1 (by omega)
        have f : a = b → ¬ a < b ∧ ¬ b < a := fun h => by
          subst h; rw [UInt8.lt_iff_toNat_lt]; omega
        constructor
        · intro h
          split at h
          · omega
          · split at h
            · omega
            · rw [e ‹_› ‹_›, t.1 h]
        · intro h
          obtain ⟨h1, h2⟩ := List.cons.inj h
          rw [if_neg (f h1).1, if_neg (f h1).2]
          exact t.2 h2
  trans := by
    intro x
    induction x with
    | nil => intro y z; cases z <;> simp [Lib.compareBytes]
    | cons a x ih =>
      intro y z
      cases y with
      | nil => simp [Lib.compareBytes]
      | cons b y =>
        cases z with
        | nil => simp [Lib.compareBytes]
        | cons c z =>
          unfold Lib.compareBytes
          have t := ih y z
          simp only [UInt8.lt_iff_toNat_lt]
          intro p q
          repeat' split at p
          all_goals (repeat' split at q)
          all_goals (repeat' split)
          all_goals first | omega | exact t p q

/-- A value's class: Ints and Floats are one. -/
def classK (k : Int) : Int := if k = 3 then 2 else k
/-- A number's place, exactly: in quarters of the least place, an Int ahead of the Floats that are worth the same, -0 ahead of 0, a NaN behind all. -/
def numKey (k n : Int) (f : Nat) : Int :=
  if k = 2 then 4 * (n * unitF) else if isNaNF f = true then 4 * valF 9218868437227405312 + 3 else 4 * valF f + if f < 9223372036854775808 then 2 else 1
/-- A value's number within its class. -/
def ikey (k : Int) (b : Bool) (n : Int) (f : Nat) : Int :=
  if k = 1 then (if b = true then 1 else 0) else if k = 2 ∨ k = 3 then numKey k n f else if k = 5 ∨ k = 6 then n else 0
/-- A value's bytes. -/
def skey (k : Int) (s : ByteArray) : List UInt8 := if k = 4 then s.data.toList else []
/-- The order of values. -/
def cmpK (x y : Int × Int × List UInt8) : Int :=
  if cmpI x.1 y.1 = 0 then (if cmpI x.2.1 y.2.1 = 0 then Lib.compareBytes x.2.2 y.2.2 else cmpI x.2.1 y.2.1) else cmpI x.1 y.1
theorem good_cmpK : Good cmpK := good_lex good_int (good_lex good_int good_bytes)
def keyV (k : Int) (b : Bool) (n : Int) (f : Nat) (s : ByteArray) : Int × Int × List UInt8 := (classK k, ikey k b n f, skey k s)

/-- Which values may be. -/
def MayV (k : Int) (b : Bool) (n : Int) (f : Nat) (s : ByteArray) : Prop :=
  (k = 0 ∧ b = false ∧ n = 0 ∧ f = 0 ∧ s = ByteArray.empty) ∨ (k = 1 ∧ n = 0 ∧ f = 0 ∧ s = ByteArray.empty) ∨ (k = 2 ∧ b = false ∧ f = 0 ∧ s = ByteArray.empty) ∨
  (k = 3 ∧ b = false ∧ n = 0 ∧ s = ByteArray.empty ∧ canonF f = f) ∨ (k = 4 ∧ b = false ∧ n = 0 ∧ f = 0 ∧ s.size ≤ 32) ∨
  ((k = 5 ∨ k = 6) ∧ b = false ∧ f = 0 ∧ s = ByteArray.empty ∧ 1 ≤ n ∧ n ≤ 1099511627776)

theorem numKey_int (n : Int) (f : Nat) : numKey 2 n f = 4 * (n * unitF) := by unfold numKey; rw [if_pos rfl]
theorem numKey_nan (n : Int) (f : Nat) (h : isNaNF f = true) : numKey 3 n f = 4 * valF 9218868437227405312 + 3 := by unfold numKey; rw [if_neg (by omega), if_pos h]
theorem numKey_float (n : Int) (f : Nat) (h : isNaNF f = false) : numKey 3 n f = 4 * valF f + if f < 9223372036854775808 then 2 else 1 := by unfold numKey; rw [if_neg (by omega), if_neg (by simp [h])]
theorem valF_most (f : Nat) (hf : f < 18446744073709551616) (h : isNaNF f = false) : valF f ≤ valF 9218868437227405312 := by
  have k := num_bound f h
  have v := valF_lt 9218868437227405312 f
  have e : ¬ keyF 9218868437227405312 < keyF f := by
    unfold keyF
    rw [if_pos (by omega)]
    split <;> omega
  omega
theorem edge_le : valF 4890909195324358656 ≤ valF 9218868437227405312 := valF_most _ (by omega) (by decide)
/-- Two floats, neither a NaN: their places are as their keys. -/
theorem key_floats (a b : Nat) (ha : a < 18446744073709551616) (hb : b < 18446744073709551616) (na : isNaNF a = false) (nb : isNaNF b = false) (n m : Int) :
    (rankOf a < rankOf b ↔ numKey 3 n a < numKey 3 m b) := by
  rw [numKey_float n a na, numKey_float m b nb, rank_num_eq a ha na, rank_num_eq b hb nb]
  have v := valF_lt a b
  have w := valF_lt b a
  unfold keyF at v w
  by_cases p : a < 9223372036854775808 <;> by_cases q : b < 9223372036854775808 <;> simp only [p, q, if_true, if_false] at v w ⊢ <;> omega
theorem key_any_floats (a b : Nat) (ha : a < 18446744073709551616) (hb : b < 18446744073709551616) (n m : Int) :
    (rankOf a < rankOf b ↔ numKey 3 n a < numKey 3 m b) := by
  cases na : isNaNF a <;> cases nb : isNaNF b
  · exact key_floats a b ha hb na nb n m
  · have := rank_below a ha na
    have := valF_most a ha na
    rw [numKey_float n a na, numKey_nan m b nb, rank_nan_eq b hb nb]
    split <;> omega
  · have := rank_below b hb nb
    have := valF_most b hb nb
    rw [numKey_nan n a na, numKey_float m b nb, rank_nan_eq a ha na]
    split <;> omega
  · rw [numKey_nan n a na, numKey_nan m b nb, rank_nan_eq a ha na, rank_nan_eq b hb nb]
    omega
theorem cmpI_of (x y x' y' : Int) (h1 : x < y ↔ x' < y') (h2 : y < x ↔ y' < x') : cmpI x y = cmpI x' y' := by
  unfold cmpI; simp only [h1, h2]
theorem cmp_floats (a b : Nat) (ha : a < 18446744073709551616) (hb : b < 18446744073709551616) (n m : Int) : cmpI (rankOf a) (rankOf b) = cmpI (numKey 3 n a) (numKey 3 m b) :=
  cmpI_of _ _ _ _ (key_any_floats a b ha hb n m) (key_any_floats b a hb ha m n)
theorem cmp_ints (n m : Int) (f g : Nat) : cmpI n m = cmpI (numKey 2 n f) (numKey 2 m g) := by
  rw [numKey_int, numKey_int]
  have u := unitF_pos
  have h1 : n * unitF < m * unitF ↔ n < m := Int.mul_lt_mul_right u
  have h2 : m * unitF < n * unitF ↔ m < n := Int.mul_lt_mul_right u
  exact cmpI_of _ _ _ _ (by omega) (by omega)
theorem cmp_mixed (n : Int) (f : Nat) (hn : fits n) (g : Nat) (m : Int) :
    cmpI (numKey 2 n g) (numKey 3 m f) = if 0 < mixedF n f then 1 else -1 := by
  rw [numKey_int]
  cases p : isNaNF f
  · rw [show mixedF n f = cmpZ (n * unitF) (valF f) by unfold mixedF; rw [if_neg (by simp [p])], numKey_float m f p]
    unfold cmpZ cmpI
    generalize n * unitF = x
    generalize valF f = y
    repeat' split
    all_goals omega
  · rw [show mixedF n f = -1 by unfold mixedF; rw [if_pos p], numKey_nan m f p, if_neg (by omega)]
    have e := edge_le
    rw [valF_edge] at e
    have u := unitF_pos
    have h1 : n * unitF ≤ 9223372036854775808 * unitF := Int.mul_le_mul_of_nonneg_right (by have := hn.2; omega) (by omega)
    unfold cmpI
    rw [if_pos (by omega)]

/-- Unlike values, unlike keys. -/
theorem num_key_inj (k l n m : Int) (f g : Nat) (hk : k = 2 ∧ f = 0 ∨ k = 3 ∧ n = 0 ∧ canonF f = f) (hl : l = 2 ∧ g = 0 ∨ l = 3 ∧ m = 0 ∧ canonF g = g) (hf : f < 18446744073709551616) (hg : g < 18446744073709551616)
    (h : numKey k n f = numKey l m g) : k = l ∧ n = m ∧ f = g := by
  rcases hk with ⟨rfl, rfl⟩ | ⟨rfl, rfl, cf⟩ <;> rcases hl with ⟨rfl, rfl⟩ | ⟨rfl, rfl, cg⟩
  · rw [numKey_int, numKey_int] at h
    refine ⟨rfl, ?_, rfl⟩
    exact Int.eq_of_mul_eq_mul_right (by have := unitF_pos; omega) (by omega : n * unitF = m * unitF)
  · rw [numKey_int] at h
    cases q : isNaNF g
    · rw [numKey_float _ g q] at h; split at h <;> omega
    · rw [numKey_nan _ g q] at h; omega
  · rw [numKey_int] at h
    cases q : isNaNF f
    · rw [numKey_float _ f q] at h; split at h <;> omega
    · rw [numKey_nan _ f q] at h; omega
  · refine ⟨rfl, rfl, ?_⟩
    have t := cmp_floats f g hf hg 0 0
    rw [h, good_int.self] at t
    have := (cmpI_zero _ _).1 t
    rw [← cf, ← cg] at this
    rw [← cf, ← cg]
    exact (rank_inj f g hf hg).1 this
theorem key_inj (k l : Int) (b c : Bool) (n m : Int) (f g : Nat) (s t : ByteArray) (hx : MayV k b n f s) (hy : MayV l c m g t) (hf : f < 18446744073709551616) (hg : g < 18446744073709551616)
    (h : keyV k b n f s = keyV l c m g t) : k = l ∧ b = c ∧ n = m ∧ f = g ∧ s = t := by
  have h1 : classK k = classK l := (Prod.mk.inj h).1
  have h2 : ikey k b n f = ikey l c m g := (Prod.mk.inj (Prod.mk.inj h).2).1
  have h3 : skey k s = skey l t := (Prod.mk.inj (Prod.mk.inj h).2).2
  clear h
  unfold MayV at hx hy
  by_cases e : k = 2 ∨ k = 3
  · have e' : l = 2 ∨ l = 3 := by unfold classK at h1; split at h1 <;> split at h1 <;> omega
    have i1 : ikey k b n f = numKey k n f := by unfold ikey; rw [if_neg (by omega), if_pos e]
    have i2 : ikey l c m g = numKey l m g := by unfold ikey; rw [if_neg (by omega), if_pos e']
    rw [i1, i2] at h2
    have hk : k = 2 ∧ f = 0 ∨ k = 3 ∧ n = 0 ∧ canonF f = f := by rcases e with rfl | rfl <;> simp at hx <;> simp [hx]
    have hl : l = 2 ∧ g = 0 ∨ l = 3 ∧ m = 0 ∧ canonF g = g := by rcases e' with rfl | rfl <;> simp at hy <;> simp [hy]
    obtain ⟨r1, r2, r3⟩ := num_key_inj k l n m f g hk hl hf hg h2
    have r4 : b = c ∧ s = t := by rcases e with rfl | rfl <;> subst r1 <;> simp at hx hy <;> simp [hx, hy]
    exact ⟨r1, r4.1, r2, r3, r4.2⟩
  · have e' : k = l := by unfold classK at h1; split at h1 <;> split at h1 <;> omega
    subst e'
    refine ⟨rfl, ?_⟩
    rcases hx with ⟨rfl, rfl, rfl, rfl, rfl⟩ | ⟨rfl, rfl, rfl, rfl⟩ | ⟨rfl, _⟩ | ⟨rfl, _⟩ | ⟨rfl, rfl, rfl, rfl, _⟩ | ⟨hk, rfl, rfl, rfl, _⟩
    · simp at hy; simp [hy]
    · simp at hy
      simp [ikey] at h2
      obtain ⟨rfl, rfl, rfl⟩ := hy
      refine ⟨?_, rfl, rfl, rfl⟩
      revert h2
      cases b <;> cases c <;> simp
    · omega
    · omega
    · simp at hy
      simp [skey] at h3
      obtain ⟨rfl, rfl, rfl, _⟩ := hy
      exact ⟨rfl, rfl, rfl, ByteArray.ext h3⟩
    · rcases hk with rfl | rfl <;> simp at hy <;> simp [ikey] at h2 <;> simp [hy, h2]
end Go.Proofs.YtflgdhhgnbdofaaGreat

