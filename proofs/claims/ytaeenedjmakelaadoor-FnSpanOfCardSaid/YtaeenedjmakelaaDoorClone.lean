/- The contract of slices.Clone, of whole numbers. -/
import Derived.Test.YtaeenedjmakelaaDoorRowOf
namespace Go.Proofs.YtaeenedjmakelaaDoor
open Go.RowKit

theorem not_nil (ad : Addr) (n c : Nat) (W : World) : (binOp .eql 22 (.slice (some ad) n c) (.slice none 0 0)).run Tryd.prog W = .ok (.bool false) W := by kernel_rfl

end Go.Proofs.YtaeenedjmakelaaDoor
