/- What the row of BatchSplits says of the program's own shape, limb by limb: in one piece it outgrows the kernel's memory. -/
import Derived.Test.YtmolpogehgeebaaGreatRows
import Derived.ProofKit
import Derived.JoinedOf
namespace Go.Proofs.YtmolpogehgeebaaGreat
open Go.RowKit
theorem splits_and {a b : Bool} (h : a = true) (g : b = true) : (a && b) = true := by rw [h, g]; rfl
set_option maxRecDepth 100000 in
set_option maxHeartbeats 8000000 in
theorem batchSplits_closed : joinedFacts Tryz.prog 7 Tryz.f7 Rows.batchSplitsSpec Rows.batchSplitsRow = true := by
  unfold joinedFacts
  repeat' (with_reducible refine splits_and ?_ ?_)
  all_goals (as_aux_lemma => kernel_rfl)
end Go.Proofs.YtmolpogehgeebaaGreat


