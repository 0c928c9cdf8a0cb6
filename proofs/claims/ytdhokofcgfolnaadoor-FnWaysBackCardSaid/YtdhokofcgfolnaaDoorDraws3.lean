/- The contract of the draw that gives a grid and two cells. -/
import Derived.Test.YtdhokofcgfolnaaDoorCellOf
import Derived.OwnWalk
namespace Go.Proofs.YtdhokofcgfolnaaDoor
open Go.RowKit

/-- A drawn grid in new memory, and two cells. -/
def DrawnCells (w : World) (e : Ending) (w' : World) : Prop := ∃ v H i k, e = .returned (.tuple #[v, .int .i64 i, .int .i64 k]) ∧ RowsO 27 3 w.heap.size w'.heap.size w' v H ∧ Drawn H ∧ Grew w w'

set_option maxRecDepth 100000 in
set_option maxHeartbeats 1000000 in
theorem DrawPassBetween_any (v : Value) (bs : List Int) (w : World) (hv : NumsV .u8 w v bs) (hb : ∀ i, i < bs.length → 0 ≤ bs.getD i 0 ∧ bs.getD i 0 ≤ 255) :
    Calls Tryd.prog 28 #[v] w (DrawnCells w) := by
  have HN := Lib.hid (newReader_any v bs w hv hb)
  clear hv hb
  go_enter Tryd.func28, Tryd.ntmps28
  go_wp2_with (fail)
  refine HN.out.mono ?_
  rintro e w1 ⟨rfl, hr⟩
  have HR := Lib.hid hr
  have hl1 := hr.lt
  clear hr
  go_wp2_with (fail)
  refine (someGrid_any w w1 w.heap.size 0 HR.out (by omega)).mono ?_
  rintro e w2 ⟨v2, H, q, rfl, hO, hd, hr2, hq, hw2⟩
  have HS := Lib.hid (And.intro hO (And.intro hd hr2))
  obtain ⟨a3, n3, c3, rfl⟩ : ∃ a n c, v2 = .slice a n c := by
    rcases hO.shape with ⟨rfl, _⟩ | ⟨g, c, rfl, _⟩ <;> exact ⟨_, _, _, rfl⟩
  clear hO hd hr2 hw2
  go_wp2_with (fail)
  refine (cellOf_any w w2 w.heap.size q w1.heap.size w2.heap.size _ H HS.out.2.2 (by omega) HS.out.1 HS.out.2.1).mono ?_
  rintro e w3 ⟨n, q3, rfl, hn, hr3, hq3, hw3⟩
  have H3 := Lib.hid (And.intro (HS.out.1.within hw3 (.inr (by omega))) (And.intro hr3 hw3.size))
  clear hr3 hw3
  go_wp2_with (fail)
  refine (cellOf_any w w3 w.heap.size q3 w1.heap.size w2.heap.size _ H H3.out.2.1 (by omega) H3.out.1 HS.out.2.1).mono ?_
  rintro e w4 ⟨k, q4, rfl, hk, hr4, hq4, hw4⟩
  have HF : Hid (DrawnCells w (.returned (.tuple #[.slice a3 n3 c3, .int .i64 n, .int .i64 k])) w4) :=
    ⟨_, H, n, k, rfl, (H3.out.1.within hw4 (.inr (by omega))).wide HR.out.grew.size (Nat.le_trans H3.out.2.2 hw4.size), HS.out.2.1, hr4.grew⟩
  clear hr4 hw4
  go_wp2
  go_ret3
  exact HF.out
end Go.Proofs.YtdhokofcgfolnaaDoor
