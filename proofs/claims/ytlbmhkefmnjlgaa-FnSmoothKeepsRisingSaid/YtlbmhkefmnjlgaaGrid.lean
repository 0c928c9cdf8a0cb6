/- The contract of impl.ValidGrid. -/
import Derived.Test.YtlbmhkefmnjlgaaRows
import Derived.Test.YtlbmhkefmnjlgaaHeights
namespace Go.Proofs.Ytlbmhkefmnjlgaa
open Go.RowKit

def vRow (xs : List Int) : Bool := decide (1 ≤ xs.length) && decide (xs.length ≤ 5) && xs.all okH
theorem vHts_five (xs : List Int) : vHts 5 xs = vRow xs := by
  unfold vHts vRow
  congr 2
  rw [Bool.eq_iff_iff, decide_eq_true_eq, decide_eq_true_eq]
  omega
def vGrid (h : List (List Int)) : Bool := decide (1 ≤ h.length) && decide (h.length ≤ 5) && h.all fun row => decide (row.length = (h.getD 0 []).length) && vRow row

end Go.Proofs.Ytlbmhkefmnjlgaa
