/- A walk of a drawn region under a condition that says more. -/
import Derived.OrdersHeld
import Derived.Test.YtaeenedjmakelaaDoorBase
namespace Go.Proofs.YtaeenedjmakelaaDoor
open Go.RowKit

theorem wpAnyH_monoS {P : Program} {md : Region.Mode} {ops : Array Oper} {Q : Exit → Act → World → Prop} {S S' : World → Prop} (h : ∀ w, S' w → S w) :
    ∀ {fuel : Nat} {listed : Array Bool} {a : Act} {w : World}, wpAnyH P md ops Q S' fuel listed a w → wpAnyH P md ops Q S fuel listed a w
  | 0, _, _, _, hh => hh
  | _ + 1, _, _, _, hh => ⟨hh.1, fun i hi => wpOp_mono (fun _ _ h' => ⟨h _ h'.1, wpAnyH_monoS h h'.2⟩) (hh.2 i hi)⟩
end Go.Proofs.YtaeenedjmakelaaDoor
