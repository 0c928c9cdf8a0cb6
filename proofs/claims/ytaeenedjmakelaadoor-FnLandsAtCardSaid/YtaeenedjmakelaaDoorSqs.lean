/- The contracts of spec.squares and spec.CountsAt. -/
import Derived.Test.YtaeenedjmakelaaDoorLevel
namespace Go.Proofs.YtaeenedjmakelaaDoor
open Go.RowKit

/-- What spec counts at a cell. -/
def sqv (t x0 x1 x2 x3 : Int) (A B : Prop) [Decidable A] [Decidable B] : Int :=
  if t < x0 then 1 - (if A ∧ t < x1 then 1 else 0) - (if B ∧ t < x2 then 1 else 0) + (if A ∧ B ∧ t < x1 ∧ t < x2 ∧ t < x3 then 1 else 0) else 0
def sqT (p : List Int) (t : Int) (m N k : Nat) : Int := sqv t (p.getD k 0) (p.getD (k + 1) 0) (p.getD (k + m) 0) (p.getD (k + m + 1) 0) (k % m + 1 < m) (k + m < N)

end Go.Proofs.YtaeenedjmakelaaDoor
