/- The contracts of impl.validCell and impl.nearestInside. -/
import Derived.Test.YtifldhdjopmpeaaTurns
import Derived.Test.YtifldhdjopmpeaaCode
import Derived.StillTailTactics
namespace Go.Proofs.Ytifldhdjopmpeaa
open Go.RowKit

def vCell (h : List (List Int)) (i : Int) : Bool := vGrid h && decide (0 ≤ i) && decide (i < (h.length : Int) * (h.getD 0 []).length)

/-- The nearest number in 0 .. n-1. -/
def clamp (x : Int) (n : Nat) : Int := if (n : Int) - 1 < (if x < 0 then 0 else x) then (n : Int) - 1 else (if x < 0 then 0 else x)
def NearPost (x y : Int) (n m : Nat) (w : World) (e : Ending) (w' : World) : Prop := e = .returned (.agg #[.int .i64 (clamp x n), .int .i64 (clamp y m)]) ∧ Grew w w'

theorem near_heap {W : World} {g : Nat} {z0 z1 : Value} {T : TypeId} {p q p' q' : Int} (h : W.heap[g]? = some (.cells #[z0, z1] T (0, 0))) (hp : p' = p) (hq : q' = q) :
    ((W.setCell ⟨g, 0, none⟩ (.int .i64 p)).setCell ⟨g, 1, none⟩ (.int .i64 q)).heap[g]? = some (.cells #[.int .i64 p', .int .i64 q'] T (0, 0)) := by
  subst hp; subst hq
  rw [heap_setCell_same _ _ 1 _ _ _ (heap_setCell_same _ _ 0 _ _ _ h)]
  rfl
theorem near_grew {w W : World} {p q : Value} (h : Grew w W) : Grew w ((W.setCell ⟨w.heap.size + 1, 0, none⟩ p).setCell ⟨w.heap.size + 1, 1, none⟩ q) :=
  Below.setCell (Below.setCell h (p := ⟨w.heap.size + 1, 0, none⟩) (by show _ ≤ w.heap.size + 1; omega) _) (p := ⟨w.heap.size + 1, 1, none⟩) (by show _ ≤ w.heap.size + 1; omega) _

end Go.Proofs.Ytifldhdjopmpeaa
