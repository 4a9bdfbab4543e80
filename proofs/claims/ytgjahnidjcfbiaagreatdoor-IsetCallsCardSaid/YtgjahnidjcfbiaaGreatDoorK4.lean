/- What the walk of the document's Kept wants. -/
import Derived.Test.YtgjahnidjcfbiaaGreatDoorK3
namespace Go.Proofs.YtgjahnidjcfbiaaGreatDoor
open Go.RowKit Go.Shelf Go.Lib
open Iset (nf has NF Res Wide)
/-- What is not in the first. -/
abbrev Iset.opNot (x _y : Bool) : Bool := !x
theorem ch1 {w0 a b : World} (h : Below w0.heap.size w0 a) (k : Below a.heap.size a b) : Below w0.heap.size w0 b := h.trans (k.mono h.size)
/-- A slice of these periods; a nil one has no room. -/
def IsZ (w : World) (v : Value) (L : List (Int × Int)) : Prop := ∃ A c, v = .slice A L.length c ∧ PAt w A L ∧ (A = none → c = 0)
theorem IsZ.isP {w : World} {v : Value} {L : List (Int × Int)} (h : IsZ w v L) : IsP w v L := by
  obtain ⟨A, c, e, k, _⟩ := h
  exact ⟨A, c, e, k⟩
theorem IsZ.below {w w' : World} {v : Value} {L : List (Int × Int)} (h : IsZ w v L) (hb : Below w.heap.size w w') : IsZ w' v L := by
  obtain ⟨A, c, e, k, z⟩ := h
  exact ⟨A, c, e, k.below hb, z⟩
theorem IsZ.nil (w : World) : IsZ w (.slice none 0 0) [] := ⟨none, 0, rfl, PAt.nil _ _, fun _ => rfl⟩
theorem OwnP.isZ {base : Nat} {w : World} {v : Value} {L : List (Int × Int)} (h : OwnP base w v L) : IsZ w v L := by
  obtain ⟨A, c, e, k⟩ := h.at
  refine ⟨A, c, e, k, fun hA => ?_⟩
  rcases h.2 with ⟨rfl, h0⟩ | ⟨g, cap, cur, rfl, _⟩
  · injection e with _ _ e
    exact e.symm
  · injection e with e _ _
    rw [hA] at e
    cases e
set_option maxRecDepth 100000 in
theorem cutO_any (A : Option Addr) (c : Nat) (L : List (Int × Int)) (w : World) (hA : PAt w A L) (hz : A = none → c = 0) (hc : L.length ≤ c) :
    Calls Tryz.prog 4 #[.slice A L.length c] w fun e w' => ∃ v, e = .returned v ∧ OwnP w.heap.size w' v (L.take 60) ∧ Below w.heap.size w w' := by
  obtain ⟨n, hn⟩ : ∃ n : Nat, min L.length 60 = n := ⟨_, rfl⟩
  have hi : min (L.length : Int) 60 = (n : Int) := by omega
  have hj : n ≤ c := by omega
  have hl : (L.take 60).length = n := by rw [List.length_take]; omega
  have HA := Lib.hid (hA.take 60)
  have HZ := Lib.hid hz
  have HL := Lib.hid hl
  have hn60 : n ≤ 60 := by omega
  clear hA hz hc hl hn
  go_enter Tryz.func4, Tryz.ntmps4
  go_wp2_with (at_builtin; refine wpList_appPs _ rfl _ (.tmp 7) rfl w.heap.size (.slice none 0 0) [] rfl (OwnP.nil _ _) A n c (L.take 60) rfl HA.out HZ.out HL.out (by rw [HL.out]; simp; omega) (Nat.le_refl _) ?_; intro v1 w1 ho1 hb1; have HO := Lib.hid ho1; have HB := Lib.hid hb1; clear ho1 hb1)
  go_ret
  exact ⟨v1, rfl, HO.out, HB.out⟩
end Go.Proofs.YtgjahnidjcfbiaaGreatDoor
