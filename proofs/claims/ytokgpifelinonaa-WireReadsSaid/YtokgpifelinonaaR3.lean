/- The document's Int below 0, Text. -/
import Derived.Test.YtokgpifelinonaaR2
namespace Go.Proofs.Ytokgpifelinonaa
open Go.RowKit
theorem flip_take (l : List UInt8) (j : Nat) (h : j < l.length) : flip8 (l.take (j + 1)) = flip8 (l.take j) ++ [255 - l.getD j 0] := by
  rw [List.take_succ_eq_append_getElem h]
  unfold flip8
  rw [List.map_append, List.map_cons, List.map_nil, show l.getD j 0 = l[j] by simp [List.getD, h]]
end Go.Proofs.Ytokgpifelinonaa
