/- What the seat's program owns. -/
import Derived.Test.YtaaekjmiapelgaaGreatmG18
namespace Go.Proofs.YtaaekjmiapelgaaGreat
open Go.ChangeShapes Go.WideShapes Go.ChangeAt Go.RowKit
theorem known_own : ownKnob Tryz.prog.godebug = none := by kernel_rfl
theorem known_out : laidOutB Tryz.prog = true := by kernel_rfl
end Go.Proofs.YtaaekjmiapelgaaGreat

