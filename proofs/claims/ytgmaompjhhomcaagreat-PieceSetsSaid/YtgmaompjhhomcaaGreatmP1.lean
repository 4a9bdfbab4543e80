/- Periods in memory; the calls that ask of one or two periods: May, Has, Meet, Hull, Compare, and the document's own. -/
import Derived.Test.YtgmaompjhhomcaaGreatProg
import Derived.WalkKit
import Derived.WalkSpells
import Derived.WalkLawsBesides
import Derived.Handy
import Derived.Lib.Hide
import Derived.Lib.ConvBytes
import Derived.Lib.Small
import Derived.Deep.RegionWith
import Derived.Deep.DeepFit
import Derived.Deep.DeepMust
import Derived.Deep.DeepCutAuto
import Derived.Deep.QuietTactic
import Derived.Deep.RegionHeld3
import Derived.Deep.AppendLies
import Derived.BigQuiet
import Derived.OwnWalk
import Derived.LoopTactic
import Derived.Maps.AppendAt
import Derived.Laws.MakeOwn
namespace Go.Proofs.YtgmaompjhhomcaaGreat.Se
open Go.RowKit
theorem ret1 {k : IntKind} {a b : Int} (h : a = b) : Ending.returned (.int k a) = .returned (.int k b) := by rw [h]
theorem retv {a b : Value} (h : a = b) : Ending.returned a = .returned b := by rw [h]
/-- A period as a value. -/
abbrev per (a b : Int) : Value := .agg #[.int .u64 a, .int .u64 b]
/-- A period in a box. -/
structure Box (w : World) (g : Nat) (a b : Int) : Prop where
  c0 : w.cell? ⟨g, 0, none⟩ = some (.int .u64 a)
  c1 : w.cell? ⟨g, 1, none⟩ = some (.int .u64 b)
  fr : ∀ o, w.frozen? ⟨g, o, none⟩ = false
  lt : g < w.heap.size
theorem Box.below {w w' : World} {g : Nat} {a b : Int} (h : Box w g a b) (hb : Below w.heap.size w w') : Box w' g a b :=
  ⟨(hb.cell (p := ⟨g, 0, none⟩) h.lt).trans h.c0, (hb.cell (p := ⟨g, 1, none⟩) h.lt).trans h.c1, fun o => (hb.frozen (p := ⟨g, o, none⟩) h.lt).trans (h.fr o), Nat.lt_of_lt_of_le h.lt hb.size⟩
theorem Box.alloc {w : World} {g : Nat} {a b : Int} (h : Box w g a b) (o : Obj) : Box (w.alloc o) g a b :=
  h.below ((Below.refl _ _).alloc (Nat.le_refl _) o)
theorem box_new (w : World) (a b : Int) (t : TypeId) : Box (w.alloc (.cells #[.int .u64 a, .int .u64 b] t)) w.heap.size a b := by
  refine ⟨?_, ?_, fun o => ?_, by simp⟩
  · go_simp
  · go_simp
  · go_simp
theorem box_at (w : World) (a b : Int) (t : TypeId) (g : Nat) (h : w.heap.size = g) : Box (w.alloc (.cells #[.int .u64 a, .int .u64 b] t)) g a b := h ▸ box_new w a b t
theorem bcell {W w1 : World} (hb : Below W.heap.size W w1) : (∀ b o, b < W.heap.size → w1.cell? ⟨b, o, none⟩ = W.cell? ⟨b, o, none⟩) ∧ (∀ b o, b < W.heap.size → w1.frozen? ⟨b, o, none⟩ = W.frozen? ⟨b, o, none⟩) :=
  ⟨fun b o h => hb.cell (p := ⟨b, o, none⟩) h, fun b o h => hb.frozen (p := ⟨b, o, none⟩) h⟩
/-- What a call gives: a value, and memory as it was but for what it made. -/
def Gives (f : FuncId) (args : Array Value) (w : World) (v : Value) : Prop := Calls Tryz.prog f args w fun e w' => e = .returned v ∧ Below w.heap.size w w'
theorem Gives.on {f : FuncId} {args : Array Value} {W w : World} {v : Value} (h : Gives f args w v) (hb : Below W.heap.size W w) : Calls Tryz.prog f args w fun e w' => e = .returned v ∧ Below W.heap.size W w' :=
  Calls.mono h fun _ _ h => ⟨h.1, hb.trans (h.2.mono hb.size)⟩
/-- May this period be? -/
def mayB (a b : Int) : Bool := decide (a < b) && decide (b ≤ 1099511627776)

theorem May_any (a b : Int) (w : World) : Calls Tryz.prog 58 #[.agg #[.int .u64 a, .int .u64 b]] w fun e w' => e = .returned (.bool (mayB a b)) ∧ Below w.heap.size w w' := by
  by_cases h1 : a < b
  · by_cases h2 : b ≤ 1099511627776
    · have hv : mayB a b = true := by unfold mayB; simp [h1, h2]
      rw [hv]
      clear hv
      go_enter Tryz.func58, Tryz.ntmps58
      go_wp2
      go_ret
      exact ⟨rfl, (Below.refl _ _).alloc (Nat.le_refl _) _⟩
    · have hv : mayB a b = false := by unfold mayB; rw [decide_eq_false h2, Bool.and_false]
      rw [hv]
      clear hv
      go_enter Tryz.func58, Tryz.ntmps58
      go_wp2
      go_ret
      exact ⟨rfl, (Below.refl _ _).alloc (Nat.le_refl _) _⟩
  · have hv : mayB a b = false := by unfold mayB; rw [decide_eq_false h1, Bool.false_and]
    have h1' : decide (a < b) = false := by simpa using h1
    rw [hv]
    clear hv
    go_enter Tryz.func58, Tryz.ntmps58
    go_wp2
    go_ret
    exact ⟨rfl, (Below.refl _ _).alloc (Nat.le_refl _) _⟩
theorem refMay_any (a b : Int) (w : World) : Calls Tryz.prog 66 #[.agg #[.int .u64 a, .int .u64 b]] w fun e w' => e = .returned (.bool (mayB a b)) ∧ Below w.heap.size w w' := by
  by_cases h1 : a < b
  · by_cases h2 : b ≤ 1099511627776
    · have hv : mayB a b = true := by unfold mayB; simp [h1, h2]
      rw [hv]
      clear hv
      go_enter Tryz.func66, Tryz.ntmps66
      go_wp2
      go_ret
      exact ⟨rfl, (Below.refl _ _).alloc (Nat.le_refl _) _⟩
    · have hv : mayB a b = false := by unfold mayB; rw [decide_eq_false h2, Bool.and_false]
      rw [hv]
      clear hv
      go_enter Tryz.func66, Tryz.ntmps66
      go_wp2
      go_ret
      exact ⟨rfl, (Below.refl _ _).alloc (Nat.le_refl _) _⟩
  · have hv : mayB a b = false := by unfold mayB; rw [decide_eq_false h1, Bool.false_and]
    have h1' : decide (a < b) = false := by simpa using h1
    rw [hv]
    clear hv
    go_enter Tryz.func66, Tryz.ntmps66
    go_wp2
    go_ret
    exact ⟨rfl, (Below.refl _ _).alloc (Nat.le_refl _) _⟩
/-- Has. -/
def hasB (a b t : Int) : Bool := mayB a b && decide (a ≤ t) && decide (t < b)
theorem Has_any (a b t : Int) (w : World) : Calls Tryz.prog 50 #[.agg #[.int .u64 a, .int .u64 b], .int .u64 t] w fun e w' => e = .returned (.bool (hasB a b t)) ∧ Below w.heap.size w w' := by
  have hM := May_any a b
  unfold hasB
  generalize mayB a b = m at *
  have HM := Lib.hid hM
  clear hM
  cases m
  · rw [Bool.false_and, Bool.false_and]
    go_enter Tryz.func50, Tryz.ntmps50
    go_wp2_with (go_at_call 58; ((with_reducible refine (HM.out _).mono ?_); rintro e w1 ⟨rfl, hb1⟩; obtain ⟨hc1, hf1⟩ := bcell hb1))
    go_ret
    exact ⟨rfl, ((Below.refl _ _).alloc (Nat.le_refl _) _).trans (hb1.mono (by simp))⟩
  · by_cases h1 : a ≤ t
    · rw [decide_eq_true h1, Bool.true_and, Bool.true_and]
      go_enter Tryz.func50, Tryz.ntmps50
      go_wp2_with (go_at_call 58; ((with_reducible refine (HM.out _).mono ?_); rintro e w1 ⟨rfl, hb1⟩; obtain ⟨hc1, hf1⟩ := bcell hb1))
      go_ret
      exact ⟨rfl, ((Below.refl _ _).alloc (Nat.le_refl _) _).trans (hb1.mono (by simp))⟩
    · have h1' : decide (a ≤ t) = false := by simpa using h1
      rw [h1', Bool.and_false, Bool.false_and]
      go_enter Tryz.func50, Tryz.ntmps50
      go_wp2_with (go_at_call 58; ((with_reducible refine (HM.out _).mono ?_); rintro e w1 ⟨rfl, hb1⟩; obtain ⟨hc1, hf1⟩ := bcell hb1))
      go_ret
      exact ⟨rfl, ((Below.refl _ _).alloc (Nat.le_refl _) _).trans (hb1.mono (by simp))⟩
end Go.Proofs.YtgmaompjhhomcaaGreat.Se

