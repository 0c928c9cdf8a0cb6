/- Three listed tables that no walk reads: a world that meets the condition. -/
import Derived.Test.YtkeeonjbkfgeeaaDoorBase
import Derived.Test.YtkeeonjbkfgeeaaDoorRows
import Derived.Test.YtkeeonjbkfgeeaaDoorCode
import Derived.LaidMore
import Derived.OpenVars
import Derived.Stop.Joined
import Derived.ChangeVars
import Derived.OpenShut
namespace Go.Proofs.YtkeeonjbkfgeeaaDoor
open Go.RowKit Go.ChangeShapes Go.WideShapes Go.ChangeAt

abbrev laid3 : List (String × DataW Unit) := [("math/bits.deBruijn32tab", Rows.laid_math_bits_deBruijn32tab), ("math/bits.deBruijn64tab", Rows.laid_math_bits_deBruijn64tab), ("internal/strconv.uint64pow10", Rows.laid_internal_strconv_uint64pow10)]
set_option maxRecDepth 100000 in
theorem door_met3 (os : Os) (args : Array Value) : laidMetH Tryd.prog laid3 ((World.doorLaid Tryd.prog 400 os).forCall (fun _ _ => 0) ⟨#[], args, []⟩).memory :=
  laidMetH_of_parts3 (fuel := 8) (laidMet_of_run' 8 (by kernel_rfl) (by kernel_rfl)) (by kernel_rfl) (by kernel_rfl)
end Go.Proofs.YtkeeonjbkfgeeaaDoor
