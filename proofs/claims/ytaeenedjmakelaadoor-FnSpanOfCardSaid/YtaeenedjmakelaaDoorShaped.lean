/- The contract of spec.shaped: a list cut into rows. -/
import Derived.Test.YtaeenedjmakelaaDoorRowOf
namespace Go.Proofs.YtaeenedjmakelaaDoor
open Go.RowKit

/-- The first k rows of m. -/
def shapeL (xs : List Int) (m k : Nat) : List (List Int) := (List.range k).map fun r => (xs.drop (r * m)).take m
theorem shapeL_len (xs : List Int) (m k : Nat) : (shapeL xs m k).length = k := by simp [shapeL]
theorem shapeL_succ (xs : List Int) (m k : Nat) : shapeL xs m (k + 1) = shapeL xs m k ++ [(xs.drop (k * m)).take m] := by simp [shapeL, List.range_succ]
theorem shapeL_at (xs : List Int) (m k r : Nat) (h : r < k) : (shapeL xs m k).getD r [] = (xs.drop (r * m)).take m := by simp [shapeL, h]
theorem cut_len (xs : List Int) (m I : Nat) (h : I + m ≤ xs.length) : ((xs.drop I).take m).length = m := by simp; omega
theorem cut_at (xs : List Int) (m I i : Nat) (h : i < m) : ((xs.drop I).take m).getD i 0 = xs.getD (I + i) 0 := by
  simp [h]

end Go.Proofs.YtaeenedjmakelaaDoor
