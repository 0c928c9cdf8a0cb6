/- The contracts of impl.validRows, impl.ValidGrid and impl.ValidSand. -/
import Derived.Test.YtlifjhhjkcmneaaRows
import Derived.Test.YtlifjhhjkcmneaaHeights
namespace Go.Proofs.Ytlifjhhjkcmneaa
open Go.RowKit

def vRow (xs : List Int) : Bool := decide (1 ≤ xs.length) && decide (xs.length ≤ 5) && xs.all okH
theorem vHts_five (xs : List Int) : vHts 5 xs = vRow xs := by
  unfold vHts vRow
  congr 2
  rw [Bool.eq_iff_iff, decide_eq_true_eq, decide_eq_true_eq]
  omega
def vGrid (h : List (List Int)) : Bool := decide (1 ≤ h.length) && decide (h.length ≤ 5) && h.all fun row => decide (row.length = (h.getD 0 []).length) && vRow row

/-- At least one row and at most sd, all of as many numbers, for which the same holds, in 0 up to g. -/
def vRows (sd : Nat) (g : Int) (h : List (List Int)) : Bool := decide (1 ≤ h.length) && decide (h.length ≤ sd) && h.all fun row => decide (row.length = (h.getD 0 []).length) && vNums sd g row
theorem vRows_grid (h : List (List Int)) : vRows 5 12 h = vGrid h := by
  unfold vRows vGrid
  have : ∀ row : List Int, vNums ((5 : Nat) : Int) 12 row = vRow row := fun row => vHts_five row
  simp only [this]
def vSand (h : List (List Int)) : Bool := vRows 4 9 h

end Go.Proofs.Ytlifjhhjkcmneaa
