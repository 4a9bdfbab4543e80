/- The document's Num, Int, Text. -/
import Derived.Test.YtokgpifelinonaaR1
namespace Go.Proofs.Ytokgpifelinonaa
open Go.RowKit
theorem Own1.weaken {base c : Nat} {w : World} {v : Value} {l : List UInt8} (h : Own1 base w v l) (hc : c ≤ base) : Own1 c w v l :=
  ⟨h.1, h.2.imp id fun ⟨g, cap, cur, h1, h2, h3⟩ => ⟨g, cap, cur, h1, Nat.le_trans hc h2, h3⟩⟩
/-- What a call of the document's gives back: a slice of its own, with these bytes. -/
def Tells (w : World) (l : List UInt8) (e : Ending) (w' : World) : Prop := ∃ v, e = .returned v ∧ Own1 w.heap.size w' v l ∧ Below w.heap.size w w'
end Go.Proofs.Ytokgpifelinonaa
