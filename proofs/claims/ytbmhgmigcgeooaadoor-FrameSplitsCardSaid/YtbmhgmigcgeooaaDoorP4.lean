/- Rows of bytes that the call owns; bytes.Equal, Strip. -/
import Derived.Test.YtbmhgmigcgeooaaDoorP3
namespace Go.Proofs.YtbmhgmigcgeooaaDoor
open Go.RowKit
/-- A block of the call's own, and the bytes in it. -/
structure Mine (base : Nat) (w : World) (b : Nat) (l : List UInt8) : Prop where
  ge : base ≤ b
  lt : b < w.heap.size
  cell : ∀ i, i < l.length → w.cell? ⟨b, i, none⟩ = some (bv (l.getD i 0))
  free : ∀ i, w.frozen? ⟨b, i, none⟩ = false
  typ : ∃ c fr, w.heap[b]? = some (.cells c 5 fr)
section
variable {base b : Nat} {w w' : World} {l : List UInt8}
theorem Mine.at_ (h : Mine base w b l) : At w (some ⟨b, 0, none⟩) l := fun _ => ⟨b, 0, rfl, h.lt, fun i hi => by rw [Nat.zero_add]; exact h.cell i hi⟩
theorem Mine.below (h : Mine base w b l) (hb : Below w.heap.size w w') : Mine base w' b l :=
  ⟨h.ge, Nat.lt_of_lt_of_le h.lt hb.size, fun i hi => (hb.cell (p := ⟨b, i, none⟩) h.lt).trans (h.cell i hi), fun i => (hb.frozen (p := ⟨b, i, none⟩) h.lt).trans (h.free i), by obtain ⟨c, fr, e⟩ := h.typ; exact ⟨c, fr, (hb.block b h.lt).trans e⟩⟩
theorem Mine.weaken {c : Nat} (h : Mine base w b l) (hc : c ≤ base) : Mine c w b l := ⟨Nat.le_trans hc h.ge, h.lt, h.cell, h.free, h.typ⟩
theorem Mine.take (k : Nat) (h : Mine base w b l) : Mine base w b (l.take k) :=
  ⟨h.ge, h.lt, fun i hi => by
    rw [List.length_take] at hi
    rw [h.cell i (by omega)]
    congr 2
    rw [List.getD, List.getD, List.getElem?_take, if_pos (by omega)], h.free, h.typ⟩
theorem set_bytes (h : Mine base w b l) (q : Nat) (v : UInt8) : Mine base (w.setCell ⟨b, q, none⟩ (bv v)) b (l.set q v) := by
  refine ⟨h.ge, by simpa [World.setCell] using h.lt, fun i hi => ?_, fun i => by rw [World.frozen?_setCell]; exact h.free i, by obtain ⟨c, fr, e⟩ := h.typ; exact ⟨c.setIfInBounds q (bv v), fr, by simp [World.setCell, Array.getElem?_modify, e]⟩⟩
  rw [List.length_set] at hi
  by_cases e : i = q
  · subst e
    rw [World.cell?_setCell_same _ _ _ (h.cell i hi)]
    simp [List.getD, hi]
  · rw [World.cell?_setCell_other _ _ _ _ (fun he => e (by injection he with _ h2; exact h2.symm)), h.cell i hi]
    congr 2
    rw [List.getD, List.getD, List.getElem?_set, if_neg (fun he => e he.symm)]
theorem below_set (h : Below base w w') (hb : base ≤ b) (q : Nat) (v : Value) : Below base w (w'.setCell ⟨b, q, none⟩ v) := h.setCell hb v
end
theorem own_mine {w : World} {base g n cap : Nat} {l : List UInt8} (h : w.ownsRow base 5 1 (.slice (some ⟨g, 0, none⟩) n cap) n (cellsB l)) : Mine base w g l := by
  rcases h.2 with ⟨h1, _⟩ | ⟨g', cap', cur, hv, hge, hh, hr⟩
  · cases h1
  · injection hv with hP
    injection hP with hP
    injection hP with hP
    subst hP
    have hlt : g < w.heap.size := (Array.getElem?_eq_some_iff.1 hh).1
    refine ⟨hge, hlt, fun i hi => ?_, fun i => ?_, ⟨_, _, hh⟩⟩
    · have hc := h.cells (g := g) rfl i (bv (l.getD i 0)) (by simp [cellsB, List.getD, hi])
      rw [add_plain, Nat.zero_add] at hc
      exact hc
    · unfold World.frozen?
      simp only []
      rw [hh]
      simp
theorem Mark_mine (A : Option Addr) (l : List UInt8) (n cap : Nat) (w : World) (h : Env w) (hA : At w A l) (hz : A = none → cap = 0) (hm : l.length + 4 ≤ 140737488355328) (hn : l.length = n) :
    Calls Tryd.prog 23 #[.slice A n cap] w fun e w' => ∃ c, e = .returned (.slice (some ⟨w.heap.size, 0, none⟩) (l.length + 4) c) ∧ l.length + 4 ≤ c ∧ Mine w.heap.size w' w.heap.size (markL l) ∧ Below w.heap.size w w' := by
  subst hn
  refine (Mark_any A l cap w h hA hz hm).mono ?_
  rintro e w' ⟨c, rfl, ho, hb⟩
  refine ⟨c, by rw [markL_length], ?_, own_mine ho, hb⟩
  rcases ho.2 with ⟨h1, _⟩ | ⟨g', cap', cur, hv, hge, hh, hr⟩
  · cases h1
  · injection hv with _ _ hc
    subst hc
    have := markL_length l
    omega
set_option maxRecDepth 100000 in
set_option maxHeartbeats 1000000 in
theorem Equal_any (A B : Option Addr) (a b : List UInt8) (n m c d : Nat) (w : World) (hA : At w A a) (hB : At w B b) (hn : a.length = n) (hm : b.length = m) :
    Calls Tryd.prog 10 #[.slice A n c, .slice B m d] w fun e w' => e = .returned (.bool (a == b)) ∧ w = w' := by
  subst hn hm
  have q1 := conv_text w A a c hA
  have q2 := conv_text w B b d hB
  clear hA hB
  go_enter Tryd.func10, Tryd.ntmps10
  go_wp2
  go_ret
  exact ⟨by simp, rfl⟩
def stripE (l : List UInt8) : Nat := if l.length < 4 then 4 else if markL (l.take (l.length - 4)) = l then 0 else 21
def stripL (l : List UInt8) : List UInt8 := if stripE l = 0 then l.take (l.length - 4) else []
/-- What Strip gives back. -/
def Strips (w : World) (l : List UInt8) (e : Ending) (w' : World) : Prop :=
  ∃ A cap, e = .returned (.tuple #[.slice A (stripL l).length cap, .int .i64 (stripE l : Nat)]) ∧ cap = (stripL l).length ∧ At w' A (stripL l) ∧ (A = none ∨ (A = some ⟨w.heap.size, 0, none⟩ ∧ Mine w.heap.size w' w.heap.size (stripL l))) ∧ Below w.heap.size w w'
theorem tup_ret {a b : Value} {x y : Int} (h1 : a = b) (h2 : x = y) : Ending.returned (.tuple #[a, .int .i64 x]) = .returned (.tuple #[b, .int .i64 y]) := by rw [h1, h2]
theorem Strips.short {w : World} {l : List UInt8} (h : l.length < 4) : Strips w l (.returned (.tuple #[.slice none 0 0, .int .i64 4])) w := by
  have e : stripE l = 4 := by unfold stripE; rw [if_pos h]
  have e2 : stripL l = [] := by unfold stripL; rw [e]; rfl
  refine ⟨none, 0, ?_, by rw [e2]; rfl, ?_, .inl rfl, Below.refl _ _⟩
  · rw [e, e2]; rfl
  · rw [e2]; exact at_nil _ _
theorem Strips.sum {w w' : World} {l : List UInt8} (h : ¬ l.length < 4) (hs : markL (l.take (l.length - 4)) ≠ l) (hb : Below w.heap.size w w') : Strips w l (.returned (.tuple #[.slice none 0 0, .int .i64 21])) w' := by
  have e : stripE l = 21 := by unfold stripE; rw [if_neg h, if_neg hs]
  have e2 : stripL l = [] := by unfold stripL; rw [e]; rfl
  refine ⟨none, 0, ?_, by rw [e2]; rfl, ?_, .inl rfl, hb⟩
  · rw [e, e2]; rfl
  · rw [e2]; exact at_nil _ _
theorem Strips.ok {w w' : World} {l : List UInt8} {n : Nat} (h : ¬ l.length < 4) (hs : markL (l.take (l.length - 4)) = l) (hn : n = l.length - 4) (hm : Mine w.heap.size w' w.heap.size (markL (l.take (l.length - 4)))) (hb : Below w.heap.size w w') : Strips w l (.returned (.tuple #[.slice (some ⟨w.heap.size, 0, none⟩) n n, .int .i64 0])) w' := by
  have e : stripE l = 0 := by unfold stripE; rw [if_neg h, if_pos hs]
  have e2 : stripL l = l.take (l.length - 4) := by unfold stripL; rw [e]; rfl
  have hM : Mine w.heap.size w' w.heap.size (stripL l) := by
    rw [e2]
    rw [hs] at hm
    exact hm.take _
  refine ⟨some ⟨w.heap.size, 0, none⟩, n, ?_, by rw [e2, List.length_take]; omega, hM.at_, .inr ⟨rfl, hM⟩, hb⟩
  rw [e, e2, List.length_take]
  subst hn
  rw [show min (l.length - 4) l.length = l.length - 4 by omega]
  rfl
set_option maxRecDepth 100000 in
set_option maxHeartbeats 1000000 in
theorem Strip_any (A : Option Addr) (l : List UInt8) (cap : Nat) (w : World) (h : Env w) (hA : At w A l) (hz : A = none → cap = 0) (hc : l.length ≤ cap) (hm : l.length ≤ 140737488355328) :
    Calls Tryd.prog 38 #[.slice A l.length cap] w (Strips w l) := by
  by_cases h4 : l.length < 4
  · clear h hA hz
    have i1 : (l.length : Int) - 4 < 0 := by omega
    go_enter Tryd.func38, Tryd.ntmps38
    go_wp2
    go_ret2
    exact Strips.short h4
  · have hl : (l.take (l.length - 4)).length = l.length - 4 := by rw [List.length_take]; omega
    have CM := Lib.hid (Mark_mine A (l.take (l.length - 4)) (l.length - 4) cap w h (take_at _ hA) hz (by omega) hl)
    obtain ⟨b, off, rfl, _, _⟩ := hA (by omega)
    have HA := Lib.hid hA
    have i1 : ¬ (l.length : Int) - 4 < 0 := by omega
    have i2 : ((l.length : Int) - 4).toNat = l.length - 4 := by omega
    have HN := Lib.hid (Nat.le_of_not_lt h4)
    have hml := markL_length (l.take (l.length - 4))
    rw [hl] at CM hml
    by_cases hs : markL (l.take (l.length - 4)) = l
    · have t1 : (markL (l.take (l.length - 4)) == l) = true := by rw [hs]; exact beq_self_eq_true _
      have HK : Hid (∀ w', Mine w.heap.size w' w.heap.size (markL (l.take (l.length - 4))) → Below w.heap.size w w' → Strips w l (.returned (.tuple #[.slice (some ⟨w.heap.size, 0, none⟩) (l.length - 4) (l.length - 4), .int .i64 0])) w') := Lib.hid fun w' => Strips.ok h4 hs rfl
      generalize markL (l.take (l.length - 4)) = m at *
      clear h hA hz hs
      go_enter Tryd.func38, Tryd.ntmps38
      go_wp2_with (first
        | (go_at_call 23; ((refine (CM.out).mono ?_); rintro e w1 ⟨c1, rfl, hc1, hm1, hb1⟩; have M1 := Lib.hid hm1; have B1 := Lib.hid hb1; clear hm1 hb1))
        | (go_at_call 10; ((with_reducible refine (Equal_any _ _ m l _ _ _ _ _ M1.out.at_ (HA.out.below B1.out) hml rfl).mono ?_); rintro e w' ⟨rfl, rfl⟩)))
      go_ret2
      exact HK.out _ M1.out B1.out
    · have t1 : (markL (l.take (l.length - 4)) == l) = false := by simpa using hs
      have HK : Hid (∀ w', Below w.heap.size w w' → Strips w l (.returned (.tuple #[.slice none 0 0, .int .i64 21])) w') := Lib.hid fun w' => Strips.sum h4 hs
      generalize markL (l.take (l.length - 4)) = m at *
      clear h hA hz hs
      go_enter Tryd.func38, Tryd.ntmps38
      go_wp2_with (first
        | (go_at_call 23; ((refine (CM.out).mono ?_); rintro e w1 ⟨c1, rfl, hc1, hm1, hb1⟩; have M1 := Lib.hid hm1; have B1 := Lib.hid hb1; clear hm1 hb1))
        | (go_at_call 10; ((with_reducible refine (Equal_any _ _ m l _ _ _ _ _ M1.out.at_ (HA.out.below B1.out) hml rfl).mono ?_); rintro e w' ⟨rfl, rfl⟩)))
      go_ret2
      exact HK.out _ B1.out
end Go.Proofs.YtbmhgmigcgeooaaDoor
