/- The contract of laws.ascends. -/
import Derived.Test.YtdfnhodhdfhhcaaDoorRows
import Derived.Test.YtdfnhodhdfhhcaaDoorBase
namespace Go.Proofs.YtdfnhodhdfhhcaaDoor
open Go.RowKit

/-- Up to k, each one is more than the one ahead of it. -/
def ascTo (xs : List Int) (k : Nat) : Bool := (List.range k).all fun i => decide (i = 0) || decide (xs.getD (i - 1) 0 < xs.getD i 0)
def ascB (xs : List Int) : Bool := ascTo xs xs.length
theorem ascTo_succ (xs : List Int) (k : Nat) : ascTo xs (k + 1) = (ascTo xs k && (decide (k = 0) || decide (xs.getD (k - 1) 0 < xs.getD k 0))) := by
  unfold ascTo
  rw [List.range_succ, List.all_append]
  simp
theorem ascTo_le {xs : List Int} {k : Nat} (m : Nat) (hm : k ≤ m) (h : ascTo xs k = false) : ascTo xs m = false := by
  induction m with
  | zero => obtain rfl : k = 0 := by omega
            exact h
  | succ m ih =>
    by_cases e : k = m + 1
    · subst e; exact h
    · rw [ascTo_succ, ih (by omega), Bool.false_and]

end Go.Proofs.YtdfnhodhdfhhcaaDoor
