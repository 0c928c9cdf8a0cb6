/- The contract of spec.PassBetween. -/
import Derived.Test.YtcbandlbdaindaaDoorSReaches
import Derived.Test.YtcbandlbdaindaaDoorWays
namespace Go.Proofs.YtcbandlbdaindaaDoor
open Go.RowKit
end Go.Proofs.YtcbandlbdaindaaDoor
