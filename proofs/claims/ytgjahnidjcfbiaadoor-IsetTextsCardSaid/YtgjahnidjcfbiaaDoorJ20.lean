/- What the laws' walks share. -/
import Derived.Test.YtgjahnidjcfbiaaDoorJ19
import Derived.Test.YtgjahnidjcfbiaaDoorI5
namespace Go.Proofs.YtgjahnidjcfbiaaDoor
open Go.RowKit Go.Shelf Go.Lib
open Iset (nf has NF Res Wide NotL)
theorem SetAt.cut {w : World} {A : Option Addr} {a : List (Int × Int)} {n m c : Nat} (h : PAt w A a) (hw : Wide a) (hn : min a.length m = n) : SetAt w (.slice A n c) (a.take m) m :=
  ⟨⟨A, c, by rw [List.length_take, Nat.min_comm, hn], h.take m⟩, fun p hp => hw p (List.mem_of_mem_take hp), by rw [List.length_take]; omega⟩
section
variable {va vb vc : Value} {a b c : List (Int × Int)} {n m k : Nat} {w : World}
theorem cSame2 (ha : SetAt w va a n) (hb : SetAt w vb b m) (hn : n + m ≤ 400000) (h : a = b) :
    Calls Tryd.prog 24 #[.slice (some ⟨w.heap.size, 0, none⟩) 2 2] (w.alloc (.cells #[va, vb] 22)) fun e w' => e = .returned (.bool true) ∧ Below w.heap.size w w' := by
  subst h
  have hb1 : Below w.heap.size w (w.alloc (.cells #[va, vb] 22)) := (Below.refl _ _).alloc (Nat.le_refl _) _
  refine (same_yes w.heap.size 2 [va, vb] a (n + m) _ (by simp) (fun i hi => ?_) (fun v hv => ?_) (by omega) (by simp)).mono fun e w' ⟨he, h⟩ => ⟨he, hb1.trans (h.mono (by simp))⟩
  · match i, hi with
    | 0, _ => simp [World.cell?_alloc_new]
    | 1, _ => simp [World.cell?_alloc_new]
  · simp only [List.mem_cons, List.not_mem_nil, or_false] at hv
    rcases hv with rfl | rfl
    · exact ⟨(ha.below hb1).at_, ha.wide, by have := ha.len; omega⟩
    · exact ⟨(hb.below hb1).at_, ha.wide, by have := hb.len; omega⟩
theorem cSame3 (ha : SetAt w va a n) (hb : SetAt w vb b m) (hc : SetAt w vc c k) (hn : n + m + k ≤ 400000) (h : a = b) (h' : b = c) :
    Calls Tryd.prog 24 #[.slice (some ⟨w.heap.size, 0, none⟩) 3 3] (w.alloc (.cells #[va, vb, vc] 22)) fun e w' => e = .returned (.bool true) ∧ Below w.heap.size w w' := by
  subst h h'
  have hb1 : Below w.heap.size w (w.alloc (.cells #[va, vb, vc] 22)) := (Below.refl _ _).alloc (Nat.le_refl _) _
  refine (same_yes w.heap.size 3 [va, vb, vc] a (n + m + k) _ (by simp) (fun i hi => ?_) (fun v hv => ?_) (by omega) (by simp)).mono fun e w' ⟨he, h⟩ => ⟨he, hb1.trans (h.mono (by simp))⟩
  · match i, hi with
    | 0, _ => simp [World.cell?_alloc_new]
    | 1, _ => simp [World.cell?_alloc_new]
    | 2, _ => simp [World.cell?_alloc_new]
  · simp only [List.mem_cons, List.not_mem_nil, or_false] at hv
    rcases hv with rfl | rfl | rfl
    · exact ⟨(ha.below hb1).at_, ha.wide, by have := ha.len; omega⟩
    · exact ⟨(hb.below hb1).at_, ha.wide, by have := hb.len; omega⟩
    · exact ⟨(hc.below hb1).at_, ha.wide, by have := hc.len; omega⟩
theorem cCoversYes (ha : SetAt w va a n) (hb : SetAt w vb b m) (hn : n + m ≤ 1000000) (h : Iset.covers a b) :
    Calls Tryd.prog 27 #[va, vb] w fun e w' => e = .returned (.bool true) ∧ Below w.heap.size w w' :=
  (cCovers ha hb hn).mono fun e w' ⟨r, he, hr, hw⟩ => ⟨by rw [he, hr.2 h], hw⟩
theorem cCoversNo (ha : SetAt w va a n) (hb : SetAt w vb b m) (hn : n + m ≤ 1000000) (h : ¬ Iset.covers a b) :
    Calls Tryd.prog 27 #[va, vb] w fun e w' => e = .returned (.bool false) ∧ Below w.heap.size w w' :=
  (cCovers ha hb hn).mono fun e w' ⟨r, he, hr, hw⟩ => ⟨by cases r with
    | false => exact he
    | true => exact absurd (hr.1 rfl) h, hw⟩
theorem cSameYes (ha : SetAt w va a n) (hb : SetAt w vb b m) (hn : n + m ≤ 1000000) (h : nf a = nf b) :
    Calls Tryd.prog 28 #[va, vb] w fun e w' => e = .returned (.bool true) ∧ Below w.heap.size w w' :=
  (cSame ha hb hn).mono fun e w' ⟨r, he, hr, hw⟩ => ⟨by rw [he, hr.2 h], hw⟩
theorem cSameNo (ha : SetAt w va a n) (hb : SetAt w vb b m) (hn : n + m ≤ 1000000) (h : ¬ nf a = nf b) :
    Calls Tryd.prog 28 #[va, vb] w fun e w' => e = .returned (.bool false) ∧ Below w.heap.size w w' :=
  (cSame ha hb hn).mono fun e w' ⟨r, he, hr, hw⟩ => ⟨by cases r with
    | false => exact he
    | true => exact absurd (hr.1 rfl) h, hw⟩
/-- A Meet that holds nothing, as a slice of no elements. -/
theorem cMeetNone (ha : SetAt w va a n) (hb : SetAt w vb b m) (hn : n + m ≤ 1000000) (h : ∀ R, Res kAnd a b R → R = []) :
    Calls Tryd.prog 18 #[va, vb] w fun e w' => ∃ A c, e = .returned (.slice A 0 c) ∧ Below w.heap.size w w' :=
  (cMeet ha hb hn).mono fun e w' ⟨v, R, he, hR, hs, hw⟩ => by
    obtain ⟨A, c, rfl, _⟩ := hs.at_
    obtain rfl := h R hR
    exact ⟨A, c, he, hw⟩
theorem cSizeAs (ha : SetAt w va a n) (hn : n ≤ 1000000) (z : Int) (h : Iset.size a = z) :
    Calls Tryd.prog 29 #[va] w fun e w' => e = .returned (.int .u64 z) ∧ Below w.heap.size w w' := h ▸ cSize ha hn
end
end Go.Proofs.YtgjahnidjcfbiaaDoor
