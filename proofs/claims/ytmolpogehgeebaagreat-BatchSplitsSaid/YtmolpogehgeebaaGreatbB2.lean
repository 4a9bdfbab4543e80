/- Lines in plain words, cut by a period or by a set: what is left of a piece, what lies of it in a set; how many parts there are; where a piece is put; a line of what is set, and of what lies within. -/
import Derived.Test.YtmolpogehgeebaaGreatbB1
import Derived.Test.YtmolpogehgeebaaGreatbPM
import Derived.Test.YtmolpogehgeebaaGreatbI2
namespace Go.Proofs.YtmolpogehgeebaaGreat
namespace Pl
open Se (mayB)
open Se.Pe (mx mn meetB meetF meetT minusL)
open Se.Iset (NF has hasP mayP)
section
variable {V : Type}
theorem meetB_iff (a b c d : Int) : meetB a b c d = true ↔ (a < b ∧ b ≤ 1099511627776) ∧ (c < d ∧ d ≤ 1099511627776) ∧ a < d ∧ c < b := by
  unfold meetB mayB mx mn
  simp only [Bool.and_eq_true, decide_eq_true_eq]
  constructor
  · rintro ⟨⟨h1, h2⟩, h3⟩
    refine ⟨h1, h2, ?_⟩
    split at h3 <;> split at h3 <;> omega
  · rintro ⟨h1, h2, h3, h4⟩
    refine ⟨⟨h1, h2⟩, ?_⟩
    split <;> split <;> omega
/-- What is left of a piece. -/
theorem cuts_minus {ok : V → Prop} {x : PC V} {c d : Int} (hx : may ok x) (hcd : c < d ∧ d ≤ 1099511627776) : Cuts (fun t => ¬ (c ≤ t ∧ t < d)) x (minusL x.a x.b c d) := by
  obtain ⟨h1, h2, _⟩ := hx
  have hm : mayB x.a x.b = true := by unfold mayB; simp [h1, h2]
  unfold minusL
  rw [if_neg (by simp [hm])]
  by_cases hM : meetB x.a x.b c d = true
  · rw [if_neg (by simp [hM])]
    obtain ⟨_, _, m1, m2⟩ := (meetB_iff _ _ _ _).1 hM
    by_cases c1 : x.a < c <;> by_cases c2 : d < x.b
    · rw [if_pos c1, if_pos c2]
      refine ⟨by simp; omega, fun p hp => ?_, fun t => ?_⟩
      · simp at hp
        rcases hp with rfl | rfl
        · simp; omega
        · simp; omega
      · simp; omega
    · rw [if_pos c1, if_neg c2]
      refine ⟨by simp, fun p hp => ?_, fun t => ?_⟩
      · simp at hp; subst hp; simp; omega
      · simp; omega
    · rw [if_neg c1, if_pos c2]
      refine ⟨by simp, fun p hp => ?_, fun t => ?_⟩
      · simp at hp; subst hp; simp; omega
      · simp; omega
    · rw [if_neg c1, if_neg c2]
      refine ⟨by simp, fun p hp => by simp at hp, fun t => ?_⟩
      simp; omega
  · have hM' : meetB x.a x.b c d = false := by simpa using hM
    rw [if_pos hM']
    have hM2 : ¬ ((x.a < x.b ∧ x.b ≤ 1099511627776) ∧ (c < d ∧ d ≤ 1099511627776) ∧ x.a < d ∧ c < x.b) := fun h => hM ((meetB_iff _ _ _ _).2 h)
    refine ⟨by simp, fun p hp => ?_, fun t => ?_⟩
    · simp at hp; subst hp; simp; omega
    · simp; omega
theorem minus_one {x : PC V} {c d : Int} (_ : c < d) (h : ¬ (x.a < c ∧ d < x.b)) : (minusL x.a x.b c d).length ≤ 1 := by
  unfold minusL
  split
  · simp
  · split
    · simp
    · by_cases c1 : x.a < c <;> by_cases c2 : d < x.b
      · exact absurd ⟨c1, c2⟩ h
      · rw [if_pos c1, if_neg c2]; simp
      · rw [if_neg c1, if_pos c2]; simp
      · rw [if_neg c1, if_neg c2]; simp
theorem minus_two {x : PC V} {c d : Int} : (minusL x.a x.b c d).length ≤ 2 := by
  unfold minusL
  (repeat' split) <;> simp
/-- The parts of the first k pieces: of piece j those that F j lists. -/
def partsK (F : Nat → List (Int × Int)) (l : List (PC V)) : Nat → List (PC V)
  | 0 => []
  | k + 1 => partsK F l k ++ (match l[k]? with | none => [] | some x => withV x.v (F k))
theorem partsK_succ (F : Nat → List (Int × Int)) (l : List (PC V)) (k : Nat) (h : k < l.length) : partsK F l (k + 1) = partsK F l k ++ withV l[k].v (F k) := by
  show partsK F l k ++ (match l[k]? with | none => [] | some x => withV x.v (F k)) = _
  rw [List.getElem?_eq_getElem h]
theorem partsK_cut {S : Int → Prop} (F : Nat → List (Int × Int)) (l : List (PC V)) (h : ∀ k (hk : k < l.length), Cuts S l[k] (F k)) : ∀ k, k ≤ l.length → CutOf S (l.take k) (partsK F l k)
  | 0, _ => by simpa [partsK] using CutOf.nil
  | k + 1, hk => by
    rw [List.take_succ_eq_append_getElem (by omega), partsK_succ F l k (by omega)]
    exact (partsK_cut F l h k (by omega)).snoc (h k (by omega))
theorem partsK_all {S : Int → Prop} (F : Nat → List (Int × Int)) (l : List (PC V)) (h : ∀ k (hk : k < l.length), Cuts S l[k] (F k)) : CutOf S l (partsK F l l.length) := by
  have := partsK_cut F l h l.length (Nat.le_refl _)
  rwa [List.take_length] at this
theorem withV_length (v : V) (F : List (Int × Int)) : (withV v F).length = F.length := by simp [withV]
/-- One period parts one piece in two at most. -/
theorem minus_count {ok : V → Prop} (l : List (PC V)) (hl : Par ok l) {c d : Int} (hp : c < d) : ∀ k, k ≤ l.length →
    (partsK (fun j => match l[j]? with | none => [] | some x => minusL x.a x.b c d) l k).length ≤ k + 1 ∧
    ((∀ j (h : j < l.length), j < k → ¬ (l[j].a < c ∧ d < l[j].b)) → (partsK (fun j => match l[j]? with | none => [] | some x => minusL x.a x.b c d) l k).length ≤ k)
  | 0, _ => by simp [partsK]
  | k + 1, hk => by
    have hlt : k < l.length := by omega
    obtain ⟨i1, i2⟩ := minus_count l hl hp k (by omega)
    have e := partsK_succ (fun j => match l[j]? with | none => [] | some x => minusL x.a x.b c d) l k hlt
    rw [e, List.length_append, withV_length, List.getElem?_eq_getElem hlt]
    simp only []
    have two := minus_two (x := l[k]) (c := c) (d := d)
    have hfirst : (l[k].a < c ∧ d < l[k].b) → ∀ j (h : j < l.length), j < k → ¬ (l[j].a < c ∧ d < l[j].b) := fun hh j hj hjk g => by
      have := (List.pairwise_iff_getElem.1 hl.row) j k hj hlt hjk
      omega
    constructor
    · by_cases hh : l[k].a < c ∧ d < l[k].b
      · have := i2 (hfirst hh)
        omega
      · have := minus_one hp hh
        omega
    · intro hall
      have h1 := minus_one hp (hall k hlt (by omega))
      have := i2 fun j hj hjk => hall j hj (by omega)
      omega
/-- What lies of a piece in a set that begins no earlier than it ends. -/
def common (x : PC V) (L : List (Int × Int)) : List (Int × Int) := (L.takeWhile fun s => meetB x.a x.b s.1 s.2).map fun s => (meetF x.a x.b s.1 s.2, meetT x.a x.b s.1 s.2)
def ahead (a : Int) (R : List (Int × Int)) : List (Int × Int) := R.dropWhile fun s => decide (s.2 ≤ a)
theorem ahead_ahead {a b : Int} (h : a ≤ b) (R : List (Int × Int)) : ahead b (ahead a R) = ahead b R := by
  induction R with
  | nil => rfl
  | cons s R ih =>
    unfold ahead at *
    by_cases c : s.2 ≤ a
    · rw [List.dropWhile_cons_of_pos (by simpa using c), ih, List.dropWhile_cons_of_pos (by simp; omega)]
    · rw [List.dropWhile_cons_of_neg (by simpa using c)]
theorem NF.ahead {R : List (Int × Int)} (h : NF R) (a : Int) : NF (ahead a R) ∧ (∀ t, a ≤ t → has (Pl.ahead a R) t = has R t) ∧ (∀ s ∈ Pl.ahead a R, a < s.2) := by
  induction R with
  | nil => exact ⟨h, fun _ _ => rfl, by simp [Pl.ahead]⟩
  | cons s R ih =>
    unfold Pl.ahead at *
    by_cases c : s.2 ≤ a
    · rw [List.dropWhile_cons_of_pos (by simpa using c)]
      obtain ⟨i1, i2, i3⟩ := ih h.cons
      refine ⟨i1, fun t ht => ?_, i3⟩
      rw [i2 t ht, Se.Iset.has_cons]
      have : hasP s t = false := by
        rw [Bool.eq_false_iff]
        intro e
        have := (Se.Iset.hasP_iff s t).1 e
        omega
      rw [this, Bool.false_or]
    · rw [List.dropWhile_cons_of_neg (by simpa using c)]
      refine ⟨h, fun _ _ => rfl, fun q hq => ?_⟩
      rcases List.mem_cons.1 hq with rfl | hq
      · omega
      · have := (List.pairwise_cons.1 h.apart).1 q hq
        have := (Se.Iset.mayP_iff q).1 (h.may q (List.mem_cons_of_mem _ hq))
        omega
theorem mem_takeWhile {α : Type} {p : α → Bool} : ∀ {l : List α} {x : α}, x ∈ l.takeWhile p → x ∈ l ∧ p x = true
  | [], _, h => by simp at h
  | y :: l, x, h => by
    by_cases c : p y = true
    · rw [List.takeWhile_cons_of_pos c] at h
      rcases List.mem_cons.1 h with rfl | h
      · exact ⟨by simp, c⟩
      · exact ⟨List.mem_cons_of_mem _ (mem_takeWhile h).1, (mem_takeWhile h).2⟩
    · rw [List.takeWhile_cons_of_neg c] at h
      simp at h
/-- In a set, all that meet a piece stand at its head, once what ends ahead is gone. -/
theorem take_meets {ok : V → Prop} {x : PC V} (hx : may ok x) : ∀ {L : List (Int × Int)}, NF L → (∀ s ∈ L, x.a < s.2) → ∀ s ∈ L, s.1 < x.b → s ∈ L.takeWhile fun s => meetB x.a x.b s.1 s.2
  | [], _, _, s, hs, _ => by simp at hs
  | q :: L, hn, hg, s, hs, h => by
    have mq := (Se.Iset.mayP_iff q).1 (hn.may q (by simp))
    have gq := hg q (by simp)
    have hq : q.1 < x.b := by
      rcases List.mem_cons.1 hs with rfl | hs'
      · exact h
      · have := (List.pairwise_cons.1 hn.apart).1 s hs'
        omega
    have hpos : meetB x.a x.b q.1 q.2 = true := (meetB_iff _ _ _ _).2 ⟨⟨hx.1, hx.2.1⟩, mq, gq, hq⟩
    rw [List.takeWhile_cons]
    simp only [hpos, if_true]
    rcases List.mem_cons.1 hs with rfl | hs'
    · simp
    · exact List.mem_cons_of_mem _ (take_meets hx hn.cons (fun r hr => hg r (List.mem_cons_of_mem _ hr)) s hs' h)
theorem cuts_common {ok : V → Prop} {x : PC V} {R : List (Int × Int)} (hx : may ok x) (hR : NF R) : Cuts (fun t => has R t = true) x (common x (ahead x.a R)) := by
  obtain ⟨n1, n2, n3⟩ := NF.ahead hR x.a
  have key : ∀ s : Int × Int, meetB x.a x.b s.1 s.2 = true → meetF x.a x.b s.1 s.2 = max x.a s.1 ∧ meetT x.a x.b s.1 s.2 = min x.b s.2 := fun s h => by
    unfold meetF meetT
    rw [if_pos h, if_pos h]
    unfold mx mn
    constructor <;> split <;> omega
  refine ⟨?_, fun p hp => ?_, fun t => ?_⟩
  · unfold common
    refine List.pairwise_map.2 ?_
    refine (List.Pairwise.sublist (List.takeWhile_sublist _) n1.apart).imp_of_mem ?_
    intro s q hs hq h
    obtain ⟨_, ms⟩ := mem_takeWhile hs
    obtain ⟨_, mq⟩ := mem_takeWhile hq
    rw [(key s ms).2, (key q mq).1]
    omega
  · unfold common at hp
    obtain ⟨s, hs, rfl⟩ := List.mem_map.1 hp
    obtain ⟨_, ms⟩ := mem_takeWhile hs
    have := (meetB_iff _ _ _ _).1 ms
    simp only []
    rw [(key s ms).1, (key s ms).2]
    omega
  · constructor
    · rintro ⟨p, hp, h1, h2⟩
      unfold common at hp
      obtain ⟨s, hs, rfl⟩ := List.mem_map.1 hp
      obtain ⟨ls, ms⟩ := mem_takeWhile hs
      have := (meetB_iff _ _ _ _).1 ms
      simp only [] at h1 h2
      rw [(key s ms).1] at h1
      rw [(key s ms).2] at h2
      refine ⟨by omega, by omega, ?_⟩
      rw [← n2 t (by omega)]
      exact (Se.Iset.has_iff _ t).2 ⟨s, ls, (Se.Iset.hasP_iff s t).2 ⟨by omega, by omega, by omega⟩⟩
    · rintro ⟨h1, h2, h3⟩
      rw [← n2 t h1] at h3
      obtain ⟨s, ls, hs⟩ := (Se.Iset.has_iff _ t).1 h3
      obtain ⟨ms, g1, g2⟩ := (Se.Iset.hasP_iff s t).1 hs
      have tk := take_meets hx n1 n3 s ls (by omega)
      have mm := (mem_takeWhile tk).2
      refine ⟨(meetF x.a x.b s.1 s.2, meetT x.a x.b s.1 s.2), List.mem_map.2 ⟨s, tk, rfl⟩, ?_, ?_⟩
      · simp only []
        rw [(key s mm).1]
        omega
      · simp only []
        rw [(key s mm).2]
        omega
theorem dropWhile_length {α : Type} (p : α → Bool) : ∀ l : List α, (l.dropWhile p).length ≤ l.length
  | [] => by simp
  | x :: l => by
    by_cases c : p x = true
    · rw [List.dropWhile_cons_of_pos c]
      have := dropWhile_length p l
      simp only [List.length_cons]; omega
    · rw [List.dropWhile_cons_of_neg c]; exact Nat.le_refl _
theorem takeWhile_length {α : Type} (p : α → Bool) (l : List α) : (l.takeWhile p).length ≤ l.length := (List.takeWhile_sublist p).length_le
theorem common_length (x : PC V) (a : Int) (R : List (Int × Int)) : (common x (ahead a R)).length ≤ R.length := by
  unfold common ahead
  rw [List.length_map]
  exact Nat.le_trans (takeWhile_length _ _) (dropWhile_length _ _)
/-! What is set; what lies within. -/
/-- R is the line that means v from c to d, and what l means elsewhere. -/
structure SetR (ok : V → Prop) (z : V) (l : List (PC V)) (c d : Int) (v : V) (R : List (PC V)) : Prop where
  line : Line ok R
  means : ∀ t, (c ≤ t ∧ t < d → Pl.means z R t = v) ∧ (¬ (c ≤ t ∧ t < d) → Pl.means z R t = Pl.means z l t)
  len : R.length ≤ l.length + 2
/-- R is the line that means what l means within S, and nothing elsewhere. -/
structure WithinR (ok : V → Prop) (z : V) (l : List (PC V)) (S : List (Int × Int)) (R : List (PC V)) : Prop where
  line : Line ok R
  means : ∀ t, Pl.means z R t = if has S t = true then Pl.means z l t else z
  len : R.length ≤ l.length * S.length
theorem partsK_length {n : Nat} (F : Nat → List (Int × Int)) (l : List (PC V)) (h : ∀ k, k < l.length → (F k).length ≤ n) : ∀ k, k ≤ l.length → (partsK F l k).length ≤ k * n
  | 0, _ => by simp [partsK]
  | k + 1, hk => by
    have i := partsK_length F l h k (by omega)
    have := h k (by omega)
    rw [partsK_succ F l k (by omega), List.length_append, withV_length, Nat.succ_mul]
    omega
end
end Pl
end Go.Proofs.YtmolpogehgeebaaGreat


