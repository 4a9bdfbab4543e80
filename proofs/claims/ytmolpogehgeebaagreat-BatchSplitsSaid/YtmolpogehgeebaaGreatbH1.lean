/- The document's order of values, as far as it tells whether two are the same. -/
import Derived.Test.YtmolpogehgeebaaGreatbV6b
import Derived.Test.YtmolpogehgeebaaGreatbF7
namespace Go.Proofs.YtmolpogehgeebaaGreat
open Go.RowKit
section
set_option maxRecDepth 100000
set_option maxHeartbeats 4000000
end
end Go.Proofs.YtmolpogehgeebaaGreat


