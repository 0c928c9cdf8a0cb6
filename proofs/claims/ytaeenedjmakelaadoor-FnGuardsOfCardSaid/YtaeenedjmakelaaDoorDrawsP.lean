/- The contracts of the draws that give one profile. -/
import Derived.Test.YtaeenedjmakelaaDoorSomeP
namespace Go.Proofs.YtaeenedjmakelaaDoor
open Go.RowKit

/-- A drawn row in new memory. -/
def DrawnProf (w : World) (e : Ending) (w' : World) : Prop := ∃ v xs, e = .returned v ∧ IntsO 3 w.heap.size w'.heap.size w' v xs ∧ DrawnP xs ∧ Grew w w'



set_option maxRecDepth 100000 in
set_option maxHeartbeats 1000000 in
theorem DrawGuardsOf_any (v : Value) (bs : List Int) (w : World) (hv : NumsV .u8 w v bs) (hb : ∀ i, i < bs.length → 0 ≤ bs.getD i 0 ∧ bs.getD i 0 ≤ 255) :
    Calls Tryd.prog 16 #[v] w (DrawnProf w) := by
  have HN := Lib.hid (newReader_any v bs w hv hb)
  clear hv hb
  go_enter Tryd.func16, Tryd.ntmps16
  go_wp2_with (fail)
  refine HN.out.mono ?_
  rintro e w1 ⟨rfl, hr⟩
  have HR := Lib.hid hr
  clear hr
  go_wp2_with (fail)
  refine (someProfile_any w w1 w.heap.size 0 HR.out (by omega)).mono ?_
  rintro e w2 ⟨v2, xs, q, rfl, hO, hd, hr2, hq, hw2⟩
  have HF : Hid (DrawnProf w (.returned v2) w2) := ⟨_, xs, rfl, hO.wide HR.out.grew.size (Nat.le_refl _), hd, hr2.grew⟩
  obtain ⟨a3, n3, c3, rfl⟩ : ∃ a n c, v2 = .slice a n c := by
    rcases hO.shape with ⟨rfl, _⟩ | ⟨g, c, rfl, _⟩ <;> exact ⟨_, _, _, rfl⟩
  clear hO hd hr2 hw2
  go_wp2
  go_ret
  exact HF.out



end Go.Proofs.YtaeenedjmakelaaDoor
