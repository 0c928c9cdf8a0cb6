/- The contract of spec.at. -/
import Derived.Test.YthgafljbbkgldaaDoorCells
import Derived.Test.YthgafljbbkgldaaDoorAround
namespace Go.Proofs.YthgafljbbkgldaaDoor
open Go.RowKit
end Go.Proofs.YthgafljbbkgldaaDoor
