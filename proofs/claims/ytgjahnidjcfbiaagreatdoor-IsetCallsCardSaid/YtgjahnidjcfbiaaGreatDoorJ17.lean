/- Sets in memory, as the laws' walks carry them; each call once more, over them. -/
import Derived.Test.YtgjahnidjcfbiaaGreatDoorJ16
namespace Go.Proofs.YtgjahnidjcfbiaaGreatDoor
open Go.RowKit Go.Shelf Go.Lib
open Iset (nf has NF Res Wide textL Parsed)
/-- A value that is a set of at most n periods, whose ends fit in words. -/
structure SetAt (w : World) (v : Value) (L : List (Int × Int)) (n : Nat) : Prop where
  at_ : IsP w v L
  wide : Wide L
  len : L.length ≤ n
theorem SetAt.below {w w' : World} {v : Value} {L : List (Int × Int)} {n : Nat} (h : SetAt w v L n) (hb : Below w.heap.size w w') : SetAt w' v L n := ⟨h.at_.below hb, h.wide, h.len⟩
theorem SetAt.nil (w : World) : SetAt w (.slice none 0 0) [] 0 := ⟨IsP.nil w, fun p hp => by simp at hp, Nat.le_refl _⟩
/-- What lives, newest first. -/
def Live (w : World) (l : List (Value × List (Int × Int) × Nat)) : Prop := ∀ x ∈ l, SetAt w x.1 x.2.1 x.2.2
theorem Live.nil (w : World) : Live w [] := fun _ h => by cases h
theorem Live.below {w w' : World} {l : List (Value × List (Int × Int) × Nat)} (h : Live w l) (hb : Below w.heap.size w w') : Live w' l := fun x hx => (h x hx).below hb
theorem Live.cons {w : World} {l : List (Value × List (Int × Int) × Nat)} (h : Live w l) {v : Value} {L : List (Int × Int)} {n : Nat} (k : SetAt w v L n) : Live w ((v, L, n) :: l) := fun x hx => by
  rcases List.mem_cons.1 hx with rfl | hx
  · exact k
  · exact h x hx
theorem Live.nth {w : World} {l : List (Value × List (Int × Int) × Nat)} (h : Live w l) (i : Nat) {v : Value} {L : List (Int × Int)} {n : Nat} (e : l[i]? = some (v, L, n)) : SetAt w v L n := h (v, L, n) (List.mem_of_getElem? e)
section
variable {va vb : Value} {a b : List (Int × Int)} {n m : Nat} {w : World}
theorem cUnion (ha : SetAt w va a n) (hb : SetAt w vb b m) (hn : n + m ≤ 1000000) :
    Calls Tryz.prog 6 #[va, vb] w fun e w' => ∃ v R, e = .returned v ∧ Res kOr a b R ∧ SetAt w' v R (n + m + 1) ∧ Below w.heap.size w w' :=
  (Union_any va vb a b w ha.at_ hb.at_ ha.wide hb.wide (by have := ha.len; omega) (by have := hb.len; omega)).mono fun e w' ⟨v, R, he, hR, ho, hw⟩ => ⟨v, R, he, hR, ⟨ho.at, hR.wide rfl ha.wide hb.wide, by have := hR.len; have := ha.len; have := hb.len; omega⟩, hw⟩
theorem cMeet (ha : SetAt w va a n) (hb : SetAt w vb b m) (hn : n + m ≤ 1000000) :
    Calls Tryz.prog 7 #[va, vb] w fun e w' => ∃ v R, e = .returned v ∧ Res kAnd a b R ∧ SetAt w' v R (n + m + 1) ∧ Below w.heap.size w w' :=
  (Meet_any va vb a b w ha.at_ hb.at_ ha.wide hb.wide (by have := ha.len; omega) (by have := hb.len; omega)).mono fun e w' ⟨v, R, he, hR, ho, hw⟩ => ⟨v, R, he, hR, ⟨ho.at, hR.wide rfl ha.wide hb.wide, by have := hR.len; have := ha.len; have := hb.len; omega⟩, hw⟩
theorem cMinus (ha : SetAt w va a n) (hb : SetAt w vb b m) (hn : n + m ≤ 1000000) :
    Calls Tryz.prog 8 #[va, vb] w fun e w' => ∃ v R, e = .returned v ∧ Res kLess a b R ∧ SetAt w' v R (n + m + 1) ∧ Below w.heap.size w w' :=
  (Minus_any va vb a b w ha.at_ hb.at_ ha.wide hb.wide (by have := ha.len; omega) (by have := hb.len; omega)).mono fun e w' ⟨v, R, he, hR, ho, hw⟩ => ⟨v, R, he, hR, ⟨ho.at, hR.wide rfl ha.wide hb.wide, by have := hR.len; have := ha.len; have := hb.len; omega⟩, hw⟩
theorem not_wide {a R : List (Int × Int)} (h : NotOf a R) : Wide R := h.1.wide fun t ht => by rw [h.2.1, decide_eq_false (by omega), Bool.false_and, Bool.false_and]
theorem cNot (ha : SetAt w va a n) (hn : n ≤ 1000000) :
    Calls Tryz.prog 9 #[va] w fun e w' => ∃ v R, e = .returned v ∧ NotOf a R ∧ SetAt w' v R (n + 2) ∧ Below w.heap.size w w' :=
  (Not_any va a w ha.at_ ha.wide (by have := ha.len; omega)).mono fun e w' ⟨v, R, he, hR, ho, hw⟩ => ⟨v, R, he, hR, ⟨ho.at, not_wide hR, by have := hR.2.2; have := ha.len; omega⟩, hw⟩
theorem cOf (ha : SetAt w va a n) (hn : n ≤ 1000000) :
    Calls Tryz.prog 5 #[va] w fun e w' => ∃ v, e = .returned v ∧ SetAt w' v (nf a) n ∧ Below w.heap.size w w' :=
  (Of_any va a w ha.at_ (by have := ha.len; omega)).mono fun e w' ⟨v, he, ho, hw⟩ => ⟨v, he, ⟨ho.at, Iset.nf_wide ha.wide, by have := ha.len; have := Iset.nf_length a; omega⟩, hw⟩
theorem cCovers (ha : SetAt w va a n) (hb : SetAt w vb b m) (hn : n + m ≤ 1000000) :
    Calls Tryz.prog 19 #[va, vb] w fun e w' => ∃ r : Bool, e = .returned (.bool r) ∧ (r = true ↔ Iset.covers a b) ∧ Below w.heap.size w w' :=
  Covers_any va vb a b w ha.at_ hb.at_ ha.wide hb.wide (by have := ha.len; omega) (by have := hb.len; omega)
theorem cSame (ha : SetAt w va a n) (hb : SetAt w vb b m) (hn : n + m ≤ 1000000) :
    Calls Tryz.prog 20 #[va, vb] w fun e w' => ∃ r : Bool, e = .returned (.bool r) ∧ (r = true ↔ nf a = nf b) ∧ Below w.heap.size w w' :=
  (Same_any va vb a b w ha.at_ hb.at_ (by have := ha.len; omega) (by have := hb.len; omega)).mono fun e w' ⟨he, hw⟩ => ⟨_, he, by rw [sameL, decide_eq_true_eq], hw⟩
theorem cSize (ha : SetAt w va a n) (hn : n ≤ 1000000) :
    Calls Tryz.prog 22 #[va] w fun e w' => e = .returned (.int .u64 (Iset.size a)) ∧ Below w.heap.size w w' :=
  Size_any va a w ha.at_ ha.wide (by have := ha.len; omega)
theorem cIs (ha : SetAt w va a n) (hn : n ≤ 1000000) (h : NF a) :
    Calls Tryz.prog 16 #[va] w fun e w' => e = .returned (.bool true) ∧ Below w.heap.size w w' :=
  (Is_any va a w ha.at_ (by have := ha.len; omega)).mono fun e w' ⟨he, hw⟩ => ⟨by rw [he, Iset.nf_of_NF h, sameL, decide_eq_true rfl], hw⟩
theorem cIsNot (ha : SetAt w va a n) (hn : n ≤ 1000000) (h : ¬ NF a) :
    Calls Tryz.prog 16 #[va] w fun e w' => e = .returned (.bool false) ∧ Below w.heap.size w w' :=
  (Is_any va a w ha.at_ (by have := ha.len; omega)).mono fun e w' ⟨he, hw⟩ => ⟨by rw [he, sameL, decide_eq_false fun (he : nf a = a) => h (by have hh := Iset.nf_nf a; rw [he] at hh; exact hh)], hw⟩
theorem cHas (ha : SetAt w va a n) (t : Int) (hn : n ≤ 1000000) :
    Calls Tryz.prog 17 #[va, .int .u64 t] w fun e w' => e = .returned (.bool (has a t)) ∧ Below w.heap.size w w' :=
  HasI_any va a t w ha.at_ (by have := ha.len; omega)
theorem cLike (ha : SetAt w va a n) (hb : SetAt w vb b m) (hn : n + m ≤ 1000000) (h : a = b) :
    Calls Tryz.prog 15 #[va, vb] w fun e w' => e = .returned (.bool true) ∧ Below w.heap.size w w' :=
  (Like_any va vb a b w ha.at_ hb.at_ (by have := ha.len; omega) (by have := hb.len; omega)).mono fun e w' ⟨he, hw⟩ => ⟨by rw [he, sameL, decide_eq_true h], hw⟩
theorem cText (ha : SetAt w va a n) (hn : n ≤ 1000000) (henv : Env w) :
    Calls Tryz.prog 38 #[va] w fun e w' => ∃ s : ByteArray, e = .returned (.string s) ∧ s.data.toList = textL (nf a) ∧ Below w.heap.size w w' :=
  Text_any va a w ha.at_ ha.wide (by have := ha.len; omega) henv
end
end Go.Proofs.YtgjahnidjcfbiaaGreatDoor
