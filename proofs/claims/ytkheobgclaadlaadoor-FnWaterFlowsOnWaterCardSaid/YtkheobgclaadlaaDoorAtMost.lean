/- The contract of laws.atMost, where each number is at most its like; water on water. -/
import Derived.Test.YtkheobgclaadlaaDoorShapes2
import Derived.Test.YtkheobgclaadlaaDoorBase
namespace Go.Proofs.YtkheobgclaadlaaDoor
open Go.RowKit
/-- Water on water is water. -/
theorem fillL_idem {h : List (List Int)} (hg : vGrid h = true) : fillL (fillL h) = fillL h := by
  have W := grid_level hg
  have e := fillL_yes hg rfl rfl W
  obtain ⟨A, hL, hF⟩ := fill_grid hg
  have W2 : Level h.length (h.getD 0 []).length (fillL h).flatten (levelL h.length (h.getD 0 []).length h.flatten) := by rw [hF]; exact W.again
  have G := Grid.of hg
  rw [fillL_yes A.to hL (A.len 0 (by have := G.n1; omega)) W2, e]
theorem fill_le {h : List (List Int)} (hg : vGrid h = true) : h.flatten.length = (fillL h).flatten.length ∧ ∀ i, i < h.flatten.length → h.flatten.getD i 0 ≤ (fillL h).flatten.getD i 0 := by
  have W := grid_level hg
  have G := Grid.of hg
  obtain ⟨A, hL, hF⟩ := fill_grid hg
  have hl := flat_grid_len G
  rw [hF]
  exact ⟨by rw [hl]; exact W.len.symm, fun i hi => W.base (by rw [← hl]; exact hi)⟩
end Go.Proofs.YtkheobgclaadlaaDoor
