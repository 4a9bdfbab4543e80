/- What the row of ValueChain says of the program's own shape, limb by limb: in one piece it outgrows the kernel's memory. -/
import Derived.Test.YtbpakmiopmgmbaaGreatDoorRows
import Derived.ProofKit
import Derived.JoinedOf
namespace Go.Proofs.YtbpakmiopmgmbaaGreatDoor
open Go.RowKit
theorem chain_and {a b : Bool} (h : a = true) (g : b = true) : (a && b) = true := by rw [h, g]; rfl
set_option maxRecDepth 100000 in
set_option maxHeartbeats 8000000 in
theorem chain_closed : joinedFacts Tryz.prog 4 Tryz.f4 Rows.valueChainSpec Rows.valueChainRow = true := by
  unfold joinedFacts
  repeat' (with_reducible refine chain_and ?_ ?_)
  all_goals (as_aux_lemma => kernel_rfl)
end Go.Proofs.YtbpakmiopmgmbaaGreatDoor
