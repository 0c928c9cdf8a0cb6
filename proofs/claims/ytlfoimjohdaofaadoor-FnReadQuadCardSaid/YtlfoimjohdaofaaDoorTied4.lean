/- Four listed variables: three tables that no walk reads, and errors.errorType, the handle of the type error. -/
import Derived.Test.YtlfoimjohdaofaaDoorBase
import Derived.Test.YtlfoimjohdaofaaDoorAs
import Derived.Test.YtlfoimjohdaofaaDoorRows
import Derived.Test.YtlfoimjohdaofaaDoorCode
import Derived.LaidMore
import Derived.OpenVars
import Derived.Stop.Joined
import Derived.ChangeVars
import Derived.OpenShut
namespace Go.Proofs.YtlfoimjohdaofaaDoor
open Go.RowKit Go.ChangeShapes Go.WideShapes Go.ChangeAt

abbrev laid4 : List (String × DataW Unit) := [("math/bits.deBruijn32tab", Rows.laid_math_bits_deBruijn32tab), ("math/bits.deBruijn64tab", Rows.laid_math_bits_deBruijn64tab), ("internal/strconv.uint64pow10", Rows.laid_internal_strconv_uint64pow10), ("errors.errorType", Rows.laid_errors_errorType)]
set_option maxRecDepth 100000 in
theorem door_met4 (os : Os) (args : Array Value) : laidMetH Tryd.prog laid4 ((World.doorLaid Tryd.prog 400 os).forCall (fun _ _ => 0) ⟨#[], args, []⟩).memory :=
  laidMetH_of_parts3 (fuel := 8) (laidMet_of_run' 8 (by kernel_rfl) (by kernel_rfl)) (by kernel_rfl) (by kernel_rfl)
theorem q_et : Tryd.prog.globalNamed "errors.errorType" = some 0 := by kernel_rfl
theorem q_rt : (Tryd.prog.cutTypes.find? (·.1 == "internal/reflectlite.rtype")).map (·.2) = some 98 := by kernel_rfl
theorem q_oneRow : ((List.range 161).filter fun t => Tryd.prog.rowNamed t [101, 114, 114, 111, 114]) = [48] := by kernel_rfl
theorem q_types : Tryd.prog.types.size = 161 := by kernel_rfl
/-- What the condition gives a walk: the cell of errors.errorType. -/
theorem errAs_of_laid {W : World} (h : laidMetH Tryd.prog laid4 W) : ErrAs W := by
  have h' : laidMet Tryd.prog (laid4.filter fun x => x.2.handleName?.isNone) W ∧ handlesMet Tryd.prog [("errors.errorType", Rows.laid_errors_errorType)] W := h
  obtain ⟨name, u, ty, e1, e2, e3, e4, e5⟩ := h'.2 _ (List.mem_singleton.2 rfl)
  have en : name = [101, 114, 114, 111, 114] := (Option.some.inj e1).symm
  subst en
  obtain rfl := Option.some.inj (q_rt.symm.trans e2)
  have hm : ty ∈ (List.range 161).filter fun t => Tryd.prog.rowNamed t [101, 114, 114, 111, 114] := List.mem_filter.2 ⟨List.mem_range.2 (by rw [← q_types]; exact e3), e4⟩
  rw [q_oneRow] at hm
  obtain rfl := List.mem_singleton.1 hm
  have hh : typeHandle Tryd.prog 48 = .pointer (some ⟨4, 48, none⟩) := by kernel_rfl
  rw [hh] at e5
  unfold ErrAs
  simpa using World.var?_cell q_et e5 0
end Go.Proofs.YtlfoimjohdaofaaDoor
