/- The contracts of impl.FlatsOf and spec.FlatsOf. -/
import Derived.Test.YtaeenedjmakelaaDoorSFlats
import Derived.Test.YtaeenedjmakelaaDoorInRows
import Derived.Test.YtaeenedjmakelaaDoorExact
namespace Go.Proofs.YtaeenedjmakelaaDoor
open Go.RowKit

/-- For each cell the first cell of its flat, row by row. -/
noncomputable def flatsOfL (h : List (List Int)) : List (List Int) :=
  if vGrid h then shapeL (flatsL h.length (h.getD 0 []).length (sameH h.flatten)) (h.getD 0 []).length h.length else []
theorem flatsOfL_no {h : List (List Int)} (hg : vGrid h = false) : flatsOfL h = [] := by unfold flatsOfL; rw [hg]; rfl
theorem flatsOfL_yes {h : List (List Int)} {n m : Nat} {fs : List Int} (hg : vGrid h = true) (en : h.length = n) (em : (h.getD 0 []).length = m) (F : Flats n m (sameH h.flatten) fs) : flatsOfL h = shapeL fs m n := by
  have G := Grid.of hg
  unfold flatsOfL
  rw [if_pos hg, en, em, F.eq (by rw [← en]; exact G.n5) (by rw [← em]; exact G.m5)]

theorem shapeL_total (xs : List Int) (m n : Nat) : total (shapeL xs m n) ≤ n * m := by
  induction n with
  | zero => simp [shapeL, total]
  | succ n ih =>
    rw [shapeL_succ]
    unfold total at ih ⊢
    rw [List.map_append, List.sum_append, Nat.succ_mul]
    have : ((xs.drop (n * m)).take m).length ≤ m := List.length_take_le _ _
    simp only [List.map_cons, List.map_nil, List.sum_cons, List.sum_nil]
    omega
theorem shape_grid_total {h : List (List Int)} (hg : vGrid h = true) (xs : List Int) : total (shapeL xs (h.getD 0 []).length h.length) ≤ 1000000 := by
  have G := Grid.of hg
  exact Nat.le_trans (shapeL_total _ _ _) (Nat.le_trans (Nat.mul_le_mul G.n5 G.m5) (by decide))
theorem flatsOfL_total (h : List (List Int)) : total (flatsOfL h) ≤ 1000000 := by
  unfold flatsOfL
  by_cases hg : vGrid h = true
  · rw [if_pos hg]; exact shape_grid_total hg _
  · rw [if_neg hg]; simp [total]

end Go.Proofs.YtaeenedjmakelaaDoor
