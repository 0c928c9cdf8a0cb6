/- The law FnFlatsOf returns true. -/
import Derived.Test.YtdjjimnfhfdjdaaDoorShapes2
import Derived.Test.YtdjjimnfhfdjdaaDoorFlatsOf
import Derived.Test.YtdjjimnfhfdjdaaDoorDraws
import Derived.Test.YtdjjimnfhfdjdaaDoorEqualRows
namespace Go.Proofs.YtdjjimnfhfdjdaaDoor
open Go.RowKit

/-- The cells beside a cell of a grid, as AroundOf hands them back. -/
theorem aroundOfL_in {h : List (List Int)} {n m I : Nat} (hg : vGrid h = true) (en : h.length = n) (em : (h.getD 0 []).length = m) (hI : I < n * m) : aroundOfL h (I : Int) = aroundL n m I := by
  have hc : vCell h (I : Int) = true := by
    have e2 : ((h.length * (h.getD 0 []).length : Nat) : Int) = (h.length : Int) * (h.getD 0 []).length := by simp
    rw [vCell, hg]
    simp only [Bool.true_and, Bool.and_eq_true, decide_eq_true_eq]
    refine ⟨by omega, ?_⟩
    rw [← e2, en, em]
    omega
  rw [aroundOfL, hc, if_pos rfl, Int.toNat_natCast, en, em]

end Go.Proofs.YtdjjimnfhfdjdaaDoor
