/- What the two listed tables of math/bits give a walk: that for 64 bits lies where it is laid; and a world that meets the condition. -/
import Derived.Test.YtaeenedjmakelaaDoorBitsW
import Derived.Test.YtaeenedjmakelaaDoorRows
import Derived.Test.YtaeenedjmakelaaDoorCode
import Derived.LaidMore
import Derived.OpenVars
import Derived.Stop.Joined
import Derived.ChangeVars
import Derived.OpenShut
import Derived.Lib.LaidTab
namespace Go.Proofs.YtaeenedjmakelaaDoor
open Go.RowKit Go.ChangeShapes Go.WideShapes Go.ChangeAt

abbrev laidD : List (String × DataW Unit) := [("math/bits.deBruijn32tab", Rows.laid_math_bits_deBruijn32tab), ("math/bits.deBruijn64tab", Rows.laid_math_bits_deBruijn64tab)]
set_option maxRecDepth 100000 in
theorem door_metD (os : Os) (args : Array Value) : laidMetH Tryd.prog laidD ((World.doorLaid Tryd.prog 400 os).forCall (fun _ _ => 0) ⟨#[], args, []⟩).memory :=
  laidMetH_of_parts3 (fuel := 8) (laidMet_of_run' 8 (by kernel_rfl) (by kernel_rfl)) (by kernel_rfl) (by kernel_rfl)
theorem gDeb : Tryd.prog.globalNamed "math/bits.deBruijn64tab" = some 3 := by kernel_rfl
theorem tDeb : (Tryd.prog.globals[3]?).map (·.type) = some 114 := by kernel_rfl
set_option maxRecDepth 100000 in
theorem deb_of_laid {W : World} (h : laidMetH Tryd.prog laidD W) : Deb W := by
  rw [MakeChecks.laidMetH_plain _ _ _ (by kernel_rfl)] at h
  obtain ⟨ps, ⟨g0, t0, cs0, f0, p0, q0, hg0, ht0, hv0, hd0, ⟨g1, t1, cs1, f1, p1, q1, hg1, ht1, hv1, hd1, _, hps1⟩, hps⟩, _, hz⟩ := h
  obtain rfl := Option.some.inj (gDeb.symm.trans hg1)
  obtain rfl := Option.some.inj (tDeb.symm.trans ht1)
  have hI : Lib.TabIs Tryd.prog W "math/bits.deBruijn64tab" .u8 (deBruijnL.map fun (z : Nat) => (z : Int)) := by
    unfold Lib.TabIs
    rw [hv1, ← Lib.cells_of_tab (zs := deBruijnL.map fun (z : Nat) => (z : Int)) Tryd.underlying114 Tryd.underlying5 (by kernel_rfl) (by kernel_rfl) (show DataW.trod _ Tryd.prog W 0 _ false f1 114 cs1.toList = some (Lib.tabData .u8 (deBruijnL.map fun (z : Nat) => (z : Int)), p1) from hd1)]
  intro j hj
  have := Lib.TabIs.cell hI gDeb j (by rw [List.length_map]; exact hj)
  rw [this]
  congr 2
  rw [List.getD_eq_getElem?_getD, List.getD_eq_getElem?_getD, List.getElem?_map, List.getElem?_eq_getElem (show j < deBruijnL.length from hj)]
  rfl
end Go.Proofs.YtaeenedjmakelaaDoor
