/- The contracts of spec.AddSand, calm, Burns, filled and ZeroSand. -/
import Derived.Test.YthgafljbbkgldaaSSandI
import Derived.Test.YthgafljbbkgldaaSandZ
import Derived.Test.YthgafljbbkgldaaBurn
namespace Go.Proofs.Ythgafljbbkgldaa
open Go.RowKit


end Go.Proofs.Ythgafljbbkgldaa
