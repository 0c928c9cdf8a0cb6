/- The contract of spec.at. -/
import Derived.Test.YthgafljbbkgldaaCells
import Derived.Test.YthgafljbbkgldaaAround
namespace Go.Proofs.Ythgafljbbkgldaa
open Go.RowKit
end Go.Proofs.Ythgafljbbkgldaa
