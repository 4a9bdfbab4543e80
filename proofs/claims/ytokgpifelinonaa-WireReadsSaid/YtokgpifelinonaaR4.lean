/- The document's Text and Float. -/
import Derived.Test.YtokgpifelinonaaR3
import Derived.Test.YtokgpifelinonaaB17
namespace Go.Proofs.Ytokgpifelinonaa
open Go.RowKit
/-- What the document's Float gives back. -/
def TellsF (w : World) (l : List UInt8) (e : Ending) (w' : World) : Prop := ∃ v, e = .returned (.tuple #[v, .int .i64 0]) ∧ Own1 w.heap.size w' v l ∧ Below w.heap.size w w'
end Go.Proofs.Ytokgpifelinonaa
