/- Rows cut out of a list: laid behind each other they are the list. -/
import Derived.Test.YtaeenedjmakelaaDoorShaped
namespace Go.Proofs.YtaeenedjmakelaaDoor
open Go.RowKit

theorem shapeL_flat (xs : List Int) (n m : Nat) (h : xs.length = n * m) : (shapeL xs m n).flatten = xs := by
  have key : ∀ k, k ≤ n → (shapeL xs m k).flatten = xs.take (k * m) := fun k hk => by
    induction k with
    | zero => simp [shapeL]
    | succ k ih =>
      rw [shapeL_succ, List.flatten_append, ih (by omega)]
      simp only [List.flatten_cons, List.flatten_nil, List.append_nil]
      rw [Nat.succ_mul, List.take_add]
  rw [key n (Nat.le_refl _), List.take_of_length_le (by omega)]
theorem shapeL_row (xs : List Int) (n m r : Nat) (h : xs.length = n * m) (hr : r < n) : ((shapeL xs m n).getD r []).length = m := by
  rw [shapeL_at _ _ _ _ hr]
  refine cut_len xs m _ ?_
  rw [h]
  have := Nat.mul_le_mul_right m (show r + 1 ≤ n from hr)
  rw [Nat.succ_mul] at this
  exact this
end Go.Proofs.YtaeenedjmakelaaDoor
