/- The contract of slices.Clone, of whole numbers. -/
import Derived.Test.YthgafljbbkgldaaRowOf
namespace Go.Proofs.Ythgafljbbkgldaa
open Go.RowKit

theorem not_nil (ad : Addr) (n c : Nat) (W : World) : (binOp .eql 34 (.slice (some ad) n c) (.slice none 0 0)).run Try.prog W = .ok (.bool false) W := by kernel_rfl

end Go.Proofs.Ythgafljbbkgldaa
