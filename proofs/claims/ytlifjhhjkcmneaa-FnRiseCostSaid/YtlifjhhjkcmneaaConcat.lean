/- The contracts of slices.Grow (at nil) and slices.Concat, of whole numbers. -/
import Derived.Test.YtlifjhhjkcmneaaRowOf
import Derived.Test.YtlifjhhjkcmneaaExact
import Derived.Lib.AppendZeros
namespace Go.Proofs.Ytlifjhhjkcmneaa
open Go.RowKit

theorem zeroInts (n : Nat) : (Builtin.zeroCells (Value.int .i64 0).cells n).size = n := by
  rw [size_zeroCells]; simp [Value.cells]

end Go.Proofs.Ytlifjhhjkcmneaa
