/- The document's own Mixed and Floats, for every whole number and every float. -/
/- The document's own order of floats, and NumOrders: for every whole number and every two floats it answers true. -/
import Derived.Test.YtmolpogehgeebaaGreatbF6
import Derived.Test.YtmolpogehgeebaaGreatbQ1
namespace Go.Proofs.YtmolpogehgeebaaGreat
open Go.RowKit
end Go.Proofs.YtmolpogehgeebaaGreat


namespace Go.Proofs.YtmolpogehgeebaaGreat
open Go.RowKit
end Go.Proofs.YtmolpogehgeebaaGreat


