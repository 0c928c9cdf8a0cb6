/- The contracts of spec.bySinking and spec.FillBySinking. -/
import Derived.Test.YtdhokofcgfolnaaDoorFillBySinking
namespace Go.Proofs.YtdhokofcgfolnaaDoor
open Go.RowKit

def LevelPost (n m N : Nat) (p : List Int) (w : World) (e : Ending) (w' : World) : Prop :=
  ∃ g c ys, e = .returned (.slice (some ⟨g, 0, none⟩) N c) ∧ IntsO 3 w.heap.size w'.heap.size w' (.slice (some ⟨g, 0, none⟩) N c) ys ∧ Level n m p ys ∧ Grew w w'
/-- What the first k cells begin with. -/
def startL (n m : Nat) (p : List Int) (k : Nat) : List Int := (List.range k).map fun i => if edgeL n m i then p.getD i 0 else 12
theorem startL_len (n m : Nat) (p : List Int) (k : Nat) : (startL n m p k).length = k := by simp [startL]
theorem startL_succ (n m : Nat) (p : List Int) (k : Nat) : startL n m p (k + 1) = startL n m p k ++ [if edgeL n m k then p.getD k 0 else 12] := by simp [startL, List.range_succ]
theorem startL_sink {n m : Nat} {p : List Int} (hp : ∀ i, i < n * m → p.getD i 0 ≤ 12) : Sink n m p (startL n m p (n * m)) :=
  sink_start (by simp [startL]) hp fun i hi => by simp [startL, hi]

end Go.Proofs.YtdhokofcgfolnaaDoor
