/- The contract of laws.equalRows. -/
import Derived.Test.YtdjjimnfhfdjdaaDoorEqualInts
namespace Go.Proofs.YtdjjimnfhfdjdaaDoor
open Go.RowKit
end Go.Proofs.YtdjjimnfhfdjdaaDoor
