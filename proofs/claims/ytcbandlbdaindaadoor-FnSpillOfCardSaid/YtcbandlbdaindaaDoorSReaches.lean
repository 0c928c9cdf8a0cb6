/- The contract of spec.reaches. -/
import Derived.Test.YtcbandlbdaindaaDoorWays
import Derived.Test.YtcbandlbdaindaaDoorSBySinking
namespace Go.Proofs.YtcbandlbdaindaaDoor
open Go.RowKit
end Go.Proofs.YtcbandlbdaindaaDoor
