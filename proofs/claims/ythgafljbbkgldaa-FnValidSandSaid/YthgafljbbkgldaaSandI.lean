/- The contracts of impl.CalmFirst, CalmLast, TopplesOf and AddSand. -/
import Derived.Test.YthgafljbbkgldaaTop
import Derived.Test.YthgafljbbkgldaaBurn
import Derived.Test.YthgafljbbkgldaaShapeF
namespace Go.Proofs.Ythgafljbbkgldaa
open Go.RowKit

/-- What CalmFirst and CalmLast answer, and what TopplesOf does. -/
def calmX (h : List (List Int)) : List (List Int) := if vSand h = true then shapeL (calmL h.length (h.getD 0 []).length h.flatten) (h.getD 0 []).length h.length else []
def timesX (h : List (List Int)) : List (List Int) := if vSand h = true then shapeL (timesL h.length (h.getD 0 []).length h.flatten) (h.getD 0 []).length h.length else []
theorem sandV_of {w : World} {v : Value} {h : List (List Int)} (hv : RowsV w v h) (hs : vSand h = true) : SandV w v h h.length (h.getD 0 []).length h.flatten := ⟨hv, (sand_of hs).1, rfl, rfl, (sand_of hs).2.1⟩
theorem shape_sandV {w : World} {v : Value} {n m : Nat} {x : List Int} (hx : Sandy n m x) (hv : RowsV w v (shapeL x m n)) : SandV w v (shapeL x m n) n m x := by
  have hb := hx.box
  refine ⟨hv, ⟨by rw [shapeL_len]; exact hb.1.1, by rw [shapeL_len]; have := hb.1.2; omega, hb.2.1, by have := hb.2.2; omega, fun r hr => ?_⟩, shapeL_len _ _ _, shapeL_flat _ _ _ hx.len, hx⟩
  rw [shapeL_len] at hr
  exact shapeL_row _ _ _ _ hx.len hr

end Go.Proofs.Ythgafljbbkgldaa
