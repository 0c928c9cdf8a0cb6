/- The contract of spec.FewestSteps. -/
import Derived.Test.YtihbccknajhcbaaDoorFewest
namespace Go.Proofs.YtihbccknajhcbaaDoor
open Go.RowKit
end Go.Proofs.YtihbccknajhcbaaDoor
