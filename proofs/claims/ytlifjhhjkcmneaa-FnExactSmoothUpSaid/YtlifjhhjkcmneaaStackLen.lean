/- How many smooth heights there are at most. -/
import Derived.Test.YtlifjhhjkcmneaaPava2
namespace Go.Proofs.Ytlifjhhjkcmneaa
theorem stackX_len (p : List Int) : (stackX p).length ≤ 1000 := by
  rw [stackX_means]
  unfold meansX
  split
  · rename_i h
    have := ((vProf_iff p).1 h).2.1
    simp
    omega
  · simp
end Go.Proofs.Ytlifjhhjkcmneaa
