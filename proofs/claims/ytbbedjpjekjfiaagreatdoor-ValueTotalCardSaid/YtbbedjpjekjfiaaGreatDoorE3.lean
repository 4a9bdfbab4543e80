/- What the row of ValueTotal says of the program's own shape, limb by limb: in one piece it outgrows the kernel's memory. -/
import Derived.Test.YtbbedjpjekjfiaaGreatDoorRows
import Derived.ProofKit
import Derived.JoinedOf
namespace Go.Proofs.YtbbedjpjekjfiaaGreatDoor
open Go.RowKit
theorem total_and {a b : Bool} (h : a = true) (g : b = true) : (a && b) = true := by rw [h, g]; rfl
set_option maxRecDepth 100000 in
set_option maxHeartbeats 8000000 in
theorem total_closed : joinedFacts Tryz.prog 9 Tryz.f9 Rows.valueTotalSpec Rows.valueTotalRow = true := by
  unfold joinedFacts
  repeat' (with_reducible refine total_and ?_ ?_)
  all_goals (as_aux_lemma => kernel_rfl)
end Go.Proofs.YtbbedjpjekjfiaaGreatDoor
