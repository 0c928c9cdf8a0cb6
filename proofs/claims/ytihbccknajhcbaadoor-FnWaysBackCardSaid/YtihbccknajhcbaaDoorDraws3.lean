/- The contract of the draw that gives a grid and two cells. -/
import Derived.Test.YtihbccknajhcbaaDoorCellOf
import Derived.OwnWalk
namespace Go.Proofs.YtihbccknajhcbaaDoor
open Go.RowKit

/-- A drawn grid in new memory, and two cells. -/
def DrawnCells (w : World) (e : Ending) (w' : World) : Prop := ∃ v H i k, e = .returned (.tuple #[v, .int .i64 i, .int .i64 k]) ∧ RowsO 26 3 w.heap.size w'.heap.size w' v H ∧ Drawn H ∧ Grew w w'

end Go.Proofs.YtihbccknajhcbaaDoor
