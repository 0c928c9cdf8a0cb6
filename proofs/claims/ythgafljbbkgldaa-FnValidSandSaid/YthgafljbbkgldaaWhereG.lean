/- impl.cellsWhere over a function value that makes memory; the cells at the edge. -/
import Derived.Test.YthgafljbbkgldaaLevel
import Derived.Test.YthgafljbbkgldaaAroundOf
namespace Go.Proofs.Ythgafljbbkgldaa
open Go.RowKit

/-- A function value (function fk, what it captured: lb) that tells P of the cells below N, and writes into nothing that was. -/
def TellsG (fk : Nat) (lb : Array Value) (N : Nat) (P : Nat → Bool) (w : World) : Prop :=
  ∀ (I : Nat) (W : World), Grew w W → I < N → Calls Try.prog fk (#[.int .i64 I] ++ lb) W fun e w' => e = .returned (.bool (P I)) ∧ Grew W w'
end Go.Proofs.Ythgafljbbkgldaa
