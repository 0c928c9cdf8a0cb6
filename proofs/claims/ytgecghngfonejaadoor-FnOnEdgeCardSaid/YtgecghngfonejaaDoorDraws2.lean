/- The contracts of the draws that give a grid and a cell. -/
import Derived.Test.YtgecghngfonejaaDoorCellOf
namespace Go.Proofs.YtgecghngfonejaaDoor
open Go.RowKit

/-- A drawn grid in new memory, and a cell. -/
def DrawnCell (w : World) (e : Ending) (w' : World) : Prop := ∃ v H i, e = .returned (.tuple #[v, .int .i64 i]) ∧ RowsO 26 3 w.heap.size w'.heap.size w' v H ∧ Drawn H ∧ Grew w w'

set_option maxRecDepth 100000 in
set_option maxHeartbeats 1000000 in
theorem DrawAroundOf_any (v : Value) (bs : List Int) (w : World) (hv : NumsV .u8 w v bs) (hb : ∀ i, i < bs.length → 0 ≤ bs.getD i 0 ∧ bs.getD i 0 ≤ 255) :
    Calls Tryd.prog 40 #[v] w (DrawnCell w) := by
  have HN := Lib.hid (newReader_any v bs w hv hb)
  clear hv hb
  go_enter Tryd.func40, Tryd.ntmps40
  go_wp2_with (fail)
  refine HN.out.mono ?_
  rintro e w1 ⟨rfl, hr⟩
  have HR := Lib.hid hr
  have hl1 := hr.lt
  clear hr
  go_wp2_with (fail)
  refine (someGrid_any w w1 w.heap.size 0 HR.out (by omega)).mono ?_
  rintro e w2 ⟨v2, H, q, rfl, hO, hd, hr2, hq, hw2⟩
  have HS := Lib.hid (And.intro hO (And.intro hd hr2))
  obtain ⟨a3, n3, c3, rfl⟩ : ∃ a n c, v2 = .slice a n c := by
    rcases hO.shape with ⟨rfl, _⟩ | ⟨g, c, rfl, _⟩ <;> exact ⟨_, _, _, rfl⟩
  clear hO hd hr2 hw2
  go_wp2_with (fail)
  refine (cellOf_any w w2 w.heap.size q w1.heap.size w2.heap.size _ H HS.out.2.2 (by omega) HS.out.1 HS.out.2.1).mono ?_
  rintro e w3 ⟨n, q3, rfl, hn, hr3, hq3, hw3⟩
  have HF : Hid (DrawnCell w (.returned (.tuple #[.slice a3 n3 c3, .int .i64 n])) w3) :=
    ⟨_, H, n, rfl, (HS.out.1.within hw3 (.inr (by omega))).wide HR.out.grew.size hw3.size, HS.out.2.1, hr3.grew⟩
  clear hr3 hw3
  go_wp2
  go_ret2
  exact HF.out

set_option maxRecDepth 100000 in
set_option maxHeartbeats 1000000 in
theorem DrawOnEdge_any (v : Value) (bs : List Int) (w : World) (hv : NumsV .u8 w v bs) (hb : ∀ i, i < bs.length → 0 ≤ bs.getD i 0 ∧ bs.getD i 0 ≤ 255) :
    Calls Tryd.prog 46 #[v] w (DrawnCell w) := by
  have HN := Lib.hid (newReader_any v bs w hv hb)
  clear hv hb
  go_enter Tryd.func46, Tryd.ntmps46
  go_wp2_with (fail)
  refine HN.out.mono ?_
  rintro e w1 ⟨rfl, hr⟩
  have HR := Lib.hid hr
  have hl1 := hr.lt
  clear hr
  go_wp2_with (fail)
  refine (someGrid_any w w1 w.heap.size 0 HR.out (by omega)).mono ?_
  rintro e w2 ⟨v2, H, q, rfl, hO, hd, hr2, hq, hw2⟩
  have HS := Lib.hid (And.intro hO (And.intro hd hr2))
  obtain ⟨a3, n3, c3, rfl⟩ : ∃ a n c, v2 = .slice a n c := by
    rcases hO.shape with ⟨rfl, _⟩ | ⟨g, c, rfl, _⟩ <;> exact ⟨_, _, _, rfl⟩
  clear hO hd hr2 hw2
  go_wp2_with (fail)
  refine (cellOf_any w w2 w.heap.size q w1.heap.size w2.heap.size _ H HS.out.2.2 (by omega) HS.out.1 HS.out.2.1).mono ?_
  rintro e w3 ⟨n, q3, rfl, hn, hr3, hq3, hw3⟩
  have HF : Hid (DrawnCell w (.returned (.tuple #[.slice a3 n3 c3, .int .i64 n])) w3) :=
    ⟨_, H, n, rfl, (HS.out.1.within hw3 (.inr (by omega))).wide HR.out.grew.size hw3.size, HS.out.2.1, hr3.grew⟩
  clear hr3 hw3
  go_wp2
  go_ret2
  exact HF.out

set_option maxRecDepth 100000 in
set_option maxHeartbeats 1000000 in
theorem DrawSpillOf_any (v : Value) (bs : List Int) (w : World) (hv : NumsV .u8 w v bs) (hb : ∀ i, i < bs.length → 0 ≤ bs.getD i 0 ∧ bs.getD i 0 ≤ 255) :
    Calls Tryd.prog 30 #[v] w (DrawnCell w) := by
  have HN := Lib.hid (newReader_any v bs w hv hb)
  clear hv hb
  go_enter Tryd.func30, Tryd.ntmps30
  go_wp2_with (fail)
  refine HN.out.mono ?_
  rintro e w1 ⟨rfl, hr⟩
  have HR := Lib.hid hr
  have hl1 := hr.lt
  clear hr
  go_wp2_with (fail)
  refine (someGrid_any w w1 w.heap.size 0 HR.out (by omega)).mono ?_
  rintro e w2 ⟨v2, H, q, rfl, hO, hd, hr2, hq, hw2⟩
  have HS := Lib.hid (And.intro hO (And.intro hd hr2))
  obtain ⟨a3, n3, c3, rfl⟩ : ∃ a n c, v2 = .slice a n c := by
    rcases hO.shape with ⟨rfl, _⟩ | ⟨g, c, rfl, _⟩ <;> exact ⟨_, _, _, rfl⟩
  clear hO hd hr2 hw2
  go_wp2_with (fail)
  refine (cellOf_any w w2 w.heap.size q w1.heap.size w2.heap.size _ H HS.out.2.2 (by omega) HS.out.1 HS.out.2.1).mono ?_
  rintro e w3 ⟨n, q3, rfl, hn, hr3, hq3, hw3⟩
  have HF : Hid (DrawnCell w (.returned (.tuple #[.slice a3 n3 c3, .int .i64 n])) w3) :=
    ⟨_, H, n, rfl, (HS.out.1.within hw3 (.inr (by omega))).wide HR.out.grew.size hw3.size, HS.out.2.1, hr3.grew⟩
  clear hr3 hw3
  go_wp2
  go_ret2
  exact HF.out
end Go.Proofs.YtgecghngfonejaaDoor
