/- The contract of spec.reaches. -/
import Derived.Test.YthjnfkphlildaaaDoorWays
import Derived.Test.YthjnfkphlildaaaDoorSBySinking
namespace Go.Proofs.YthjnfkphlildaaaDoor
open Go.RowKit
end Go.Proofs.YthjnfkphlildaaaDoor
