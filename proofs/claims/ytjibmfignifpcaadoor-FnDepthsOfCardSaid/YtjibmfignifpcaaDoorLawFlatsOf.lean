/- The law FnFlatsOf returns true. -/
import Derived.Test.YtjibmfignifpcaaDoorFlatsOf
import Derived.Test.YtjibmfignifpcaaDoorDraws
import Derived.Test.YtjibmfignifpcaaDoorEqualRows
namespace Go.Proofs.YtjibmfignifpcaaDoor
open Go.RowKit

theorem shapeL_flat (xs : List Int) (n m : Nat) (h : xs.length = n * m) : (shapeL xs m n).flatten = xs := by
  have key : ∀ k, k ≤ n → (shapeL xs m k).flatten = xs.take (k * m) := fun k hk => by
    induction k with
    | zero => simp [shapeL]
    | succ k ih =>
      rw [shapeL_succ, List.flatten_append, ih (by omega)]
      simp only [List.flatten_cons, List.flatten_nil, List.append_nil]
      rw [Nat.succ_mul, List.take_add]
  rw [key n (Nat.le_refl _), List.take_of_length_le (by omega)]
theorem shapeL_row (xs : List Int) (n m r : Nat) (h : xs.length = n * m) (hr : r < n) : ((shapeL xs m n).getD r []).length = m := by
  rw [shapeL_at _ _ _ _ hr]
  refine cut_len xs m _ ?_
  rw [h]
  have := Nat.mul_le_mul_right m (show r + 1 ≤ n from hr)
  rw [Nat.succ_mul] at this
  exact this
/-- The cells beside a cell of a grid, as AroundOf hands them back. -/
theorem aroundOfL_in {h : List (List Int)} {n m I : Nat} (hg : vGrid h = true) (en : h.length = n) (em : (h.getD 0 []).length = m) (hI : I < n * m) : aroundOfL h (I : Int) = aroundL n m I := by
  have hc : vCell h (I : Int) = true := by
    have e2 : ((h.length * (h.getD 0 []).length : Nat) : Int) = (h.length : Int) * (h.getD 0 []).length := by simp
    rw [vCell, hg]
    simp only [Bool.true_and, Bool.and_eq_true, decide_eq_true_eq]
    refine ⟨by omega, ?_⟩
    rw [← e2, en, em]
    omega
  rw [aroundOfL, hc, if_pos rfl, Int.toNat_natCast, en, em]

end Go.Proofs.YtjibmfignifpcaaDoor
