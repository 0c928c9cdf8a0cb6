/- What an answer is that is a slice of numbers of its own. -/
import Derived.Test.YtaeenedjmakelaaDoorAppendInts
namespace Go.Proofs.YtaeenedjmakelaaDoor
open Go.RowKit

def OwnP (xs : List Int) (w : World) (e : Ending) (w' : World) : Prop := ∃ v, e = .returned v ∧ IntsO 3 w.heap.size w'.heap.size w' v xs ∧ Grew w w'
theorem IntsO.nilO (E lo hi : Nat) (w : World) : IntsO E lo hi w (.slice none 0 0) [] := ⟨World.ownsRow_nil _ _ _ _, fun g e => by simp [Value.ownBlock] at e⟩
end Go.Proofs.YtaeenedjmakelaaDoor
