/- The contract of laws.isIn. -/
import Derived.Test.YthlanmnjkonbjaaDoorRows
import Derived.Test.YthlanmnjkonbjaaDoorBase
namespace Go.Proofs.YthlanmnjkonbjaaDoor
open Go.RowKit
end Go.Proofs.YthlanmnjkonbjaaDoor
