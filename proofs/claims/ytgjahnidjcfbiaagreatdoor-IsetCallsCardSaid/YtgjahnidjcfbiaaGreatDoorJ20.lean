/- What the laws' walks share. -/
import Derived.Test.YtgjahnidjcfbiaaGreatDoorJ19
import Derived.Test.YtgjahnidjcfbiaaGreatDoorI5
namespace Go.Proofs.YtgjahnidjcfbiaaGreatDoor
open Go.RowKit Go.Shelf Go.Lib
open Iset (nf has NF Res Wide NotL)
theorem SetAt.cut {w : World} {A : Option Addr} {a : List (Int × Int)} {n m c : Nat} (h : PAt w A a) (hw : Wide a) (hn : min a.length m = n) : SetAt w (.slice A n c) (a.take m) m :=
  ⟨⟨A, c, by rw [List.length_take, Nat.min_comm, hn], h.take m⟩, fun p hp => hw p (List.mem_of_mem_take hp), by rw [List.length_take]; omega⟩
section
variable {va vb vc : Value} {a b c : List (Int × Int)} {n m k : Nat} {w : World}
theorem cCoversYes (ha : SetAt w va a n) (hb : SetAt w vb b m) (hn : n + m ≤ 1000000) (h : Iset.covers a b) :
    Calls Tryz.prog 19 #[va, vb] w fun e w' => e = .returned (.bool true) ∧ Below w.heap.size w w' :=
  (cCovers ha hb hn).mono fun e w' ⟨r, he, hr, hw⟩ => ⟨by rw [he, hr.2 h], hw⟩
theorem cCoversNo (ha : SetAt w va a n) (hb : SetAt w vb b m) (hn : n + m ≤ 1000000) (h : ¬ Iset.covers a b) :
    Calls Tryz.prog 19 #[va, vb] w fun e w' => e = .returned (.bool false) ∧ Below w.heap.size w w' :=
  (cCovers ha hb hn).mono fun e w' ⟨r, he, hr, hw⟩ => ⟨by cases r with
    | false => exact he
    | true => exact absurd (hr.1 rfl) h, hw⟩
theorem cSameYes (ha : SetAt w va a n) (hb : SetAt w vb b m) (hn : n + m ≤ 1000000) (h : nf a = nf b) :
    Calls Tryz.prog 20 #[va, vb] w fun e w' => e = .returned (.bool true) ∧ Below w.heap.size w w' :=
  (cSame ha hb hn).mono fun e w' ⟨r, he, hr, hw⟩ => ⟨by rw [he, hr.2 h], hw⟩
theorem cSameNo (ha : SetAt w va a n) (hb : SetAt w vb b m) (hn : n + m ≤ 1000000) (h : ¬ nf a = nf b) :
    Calls Tryz.prog 20 #[va, vb] w fun e w' => e = .returned (.bool false) ∧ Below w.heap.size w w' :=
  (cSame ha hb hn).mono fun e w' ⟨r, he, hr, hw⟩ => ⟨by cases r with
    | false => exact he
    | true => exact absurd (hr.1 rfl) h, hw⟩
/-- A Meet that holds nothing, as a slice of no elements. -/
theorem cMeetNone (ha : SetAt w va a n) (hb : SetAt w vb b m) (hn : n + m ≤ 1000000) (h : ∀ R, Res kAnd a b R → R = []) :
    Calls Tryz.prog 7 #[va, vb] w fun e w' => ∃ A c, e = .returned (.slice A 0 c) ∧ Below w.heap.size w w' :=
  (cMeet ha hb hn).mono fun e w' ⟨v, R, he, hR, hs, hw⟩ => by
    obtain ⟨A, c, rfl, _⟩ := hs.at_
    obtain rfl := h R hR
    exact ⟨A, c, he, hw⟩
theorem cSizeAs (ha : SetAt w va a n) (hn : n ≤ 1000000) (z : Int) (h : Iset.size a = z) :
    Calls Tryz.prog 22 #[va] w fun e w' => e = .returned (.int .u64 z) ∧ Below w.heap.size w w' := h ▸ cSize ha hn
end
end Go.Proofs.YtgjahnidjcfbiaaGreatDoor
