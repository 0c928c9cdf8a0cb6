/- The contract of spec.PassBetween. -/
import Derived.Test.YthjnfkphlildaaaDoorSReaches
import Derived.Test.YthjnfkphlildaaaDoorWays
namespace Go.Proofs.YthjnfkphlildaaaDoor
open Go.RowKit
end Go.Proofs.YthjnfkphlildaaaDoor
