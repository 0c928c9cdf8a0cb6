/- The contracts of the draws that give a grid and two cells, of the ways. -/
import Derived.Test.YtdhokofcgfolnaaDoorDraws3
namespace Go.Proofs.YtdhokofcgfolnaaDoor
open Go.RowKit

set_option maxRecDepth 100000 in
set_option maxHeartbeats 1000000 in
theorem DrawClimbBetween_any (v : Value) (bs : List Int) (w : World) (hv : NumsV .u8 w v bs) (hb : ∀ i, i < bs.length → 0 ≤ bs.getD i 0 ∧ bs.getD i 0 ≤ 255) :
    Calls Tryd.prog 15 #[v] w (DrawnCells w) := by
  have HN := Lib.hid (newReader_any v bs w hv hb)
  clear hv hb
  go_enter Tryd.func15, Tryd.ntmps15
  go_wp2_with (fail)
  refine HN.out.mono ?_
  rintro e w1 ⟨rfl, hr⟩
  have HR := Lib.hid hr
  have hl1 := hr.lt
  clear hr
  go_wp2_with (fail)
  refine (someGrid_any w w1 w.heap.size 0 HR.out (by omega)).mono ?_
  rintro e w2 ⟨v2, H, q, rfl, hO, hd, hr2, hq, hw2⟩
  have HS := Lib.hid (And.intro hO (And.intro hd hr2))
  obtain ⟨a3, n3, c3, rfl⟩ : ∃ a n c, v2 = .slice a n c := by
    rcases hO.shape with ⟨rfl, _⟩ | ⟨g, c, rfl, _⟩ <;> exact ⟨_, _, _, rfl⟩
  clear hO hd hr2 hw2
  go_wp2_with (fail)
  refine (cellOf_any w w2 w.heap.size q w1.heap.size w2.heap.size _ H HS.out.2.2 (by omega) HS.out.1 HS.out.2.1).mono ?_
  rintro e w3 ⟨n, q3, rfl, hn, hr3, hq3, hw3⟩
  have H3 := Lib.hid (And.intro (HS.out.1.within hw3 (.inr (by omega))) (And.intro hr3 hw3.size))
  clear hr3 hw3
  go_wp2_with (fail)
  refine (cellOf_any w w3 w.heap.size q3 w1.heap.size w2.heap.size _ H H3.out.2.1 (by omega) H3.out.1 HS.out.2.1).mono ?_
  rintro e w4 ⟨k, q4, rfl, hk, hr4, hq4, hw4⟩
  have HF : Hid (DrawnCells w (.returned (.tuple #[.slice a3 n3 c3, .int .i64 n, .int .i64 k])) w4) :=
    ⟨_, H, n, k, rfl, (H3.out.1.within hw4 (.inr (by omega))).wide HR.out.grew.size (Nat.le_trans H3.out.2.2 hw4.size), HS.out.2.1, hr4.grew⟩
  clear hr4 hw4
  go_wp2
  go_ret3
  exact HF.out
set_option maxRecDepth 100000 in
set_option maxHeartbeats 1000000 in
theorem DrawWayOf_any (v : Value) (bs : List Int) (w : World) (hv : NumsV .u8 w v bs) (hb : ∀ i, i < bs.length → 0 ≤ bs.getD i 0 ∧ bs.getD i 0 ≤ 255) :
    Calls Tryd.prog 40 #[v] w (DrawnCells w) := by
  have HN := Lib.hid (newReader_any v bs w hv hb)
  clear hv hb
  go_enter Tryd.func40, Tryd.ntmps40
  go_wp2_with (fail)
  refine HN.out.mono ?_
  rintro e w1 ⟨rfl, hr⟩
  have HR := Lib.hid hr
  have hl1 := hr.lt
  clear hr
  go_wp2_with (fail)
  refine (someGrid_any w w1 w.heap.size 0 HR.out (by omega)).mono ?_
  rintro e w2 ⟨v2, H, q, rfl, hO, hd, hr2, hq, hw2⟩
  have HS := Lib.hid (And.intro hO (And.intro hd hr2))
  obtain ⟨a3, n3, c3, rfl⟩ : ∃ a n c, v2 = .slice a n c := by
    rcases hO.shape with ⟨rfl, _⟩ | ⟨g, c, rfl, _⟩ <;> exact ⟨_, _, _, rfl⟩
  clear hO hd hr2 hw2
  go_wp2_with (fail)
  refine (cellOf_any w w2 w.heap.size q w1.heap.size w2.heap.size _ H HS.out.2.2 (by omega) HS.out.1 HS.out.2.1).mono ?_
  rintro e w3 ⟨n, q3, rfl, hn, hr3, hq3, hw3⟩
  have H3 := Lib.hid (And.intro (HS.out.1.within hw3 (.inr (by omega))) (And.intro hr3 hw3.size))
  clear hr3 hw3
  go_wp2_with (fail)
  refine (cellOf_any w w3 w.heap.size q3 w1.heap.size w2.heap.size _ H H3.out.2.1 (by omega) H3.out.1 HS.out.2.1).mono ?_
  rintro e w4 ⟨k, q4, rfl, hk, hr4, hq4, hw4⟩
  have HF : Hid (DrawnCells w (.returned (.tuple #[.slice a3 n3 c3, .int .i64 n, .int .i64 k])) w4) :=
    ⟨_, H, n, k, rfl, (H3.out.1.within hw4 (.inr (by omega))).wide HR.out.grew.size (Nat.le_trans H3.out.2.2 hw4.size), HS.out.2.1, hr4.grew⟩
  clear hr4 hw4
  go_wp2
  go_ret3
  exact HF.out
set_option maxRecDepth 100000 in
set_option maxHeartbeats 1000000 in
theorem DrawFewestSteps_any (v : Value) (bs : List Int) (w : World) (hv : NumsV .u8 w v bs) (hb : ∀ i, i < bs.length → 0 ≤ bs.getD i 0 ∧ bs.getD i 0 ≤ 255) :
    Calls Tryd.prog 23 #[v] w (DrawnCells w) := by
  have HN := Lib.hid (newReader_any v bs w hv hb)
  clear hv hb
  go_enter Tryd.func23, Tryd.ntmps23
  go_wp2_with (fail)
  refine HN.out.mono ?_
  rintro e w1 ⟨rfl, hr⟩
  have HR := Lib.hid hr
  have hl1 := hr.lt
  clear hr
  go_wp2_with (fail)
  refine (someGrid_any w w1 w.heap.size 0 HR.out (by omega)).mono ?_
  rintro e w2 ⟨v2, H, q, rfl, hO, hd, hr2, hq, hw2⟩
  have HS := Lib.hid (And.intro hO (And.intro hd hr2))
  obtain ⟨a3, n3, c3, rfl⟩ : ∃ a n c, v2 = .slice a n c := by
    rcases hO.shape with ⟨rfl, _⟩ | ⟨g, c, rfl, _⟩ <;> exact ⟨_, _, _, rfl⟩
  clear hO hd hr2 hw2
  go_wp2_with (fail)
  refine (cellOf_any w w2 w.heap.size q w1.heap.size w2.heap.size _ H HS.out.2.2 (by omega) HS.out.1 HS.out.2.1).mono ?_
  rintro e w3 ⟨n, q3, rfl, hn, hr3, hq3, hw3⟩
  have H3 := Lib.hid (And.intro (HS.out.1.within hw3 (.inr (by omega))) (And.intro hr3 hw3.size))
  clear hr3 hw3
  go_wp2_with (fail)
  refine (cellOf_any w w3 w.heap.size q3 w1.heap.size w2.heap.size _ H H3.out.2.1 (by omega) H3.out.1 HS.out.2.1).mono ?_
  rintro e w4 ⟨k, q4, rfl, hk, hr4, hq4, hw4⟩
  have HF : Hid (DrawnCells w (.returned (.tuple #[.slice a3 n3 c3, .int .i64 n, .int .i64 k])) w4) :=
    ⟨_, H, n, k, rfl, (H3.out.1.within hw4 (.inr (by omega))).wide HR.out.grew.size (Nat.le_trans H3.out.2.2 hw4.size), HS.out.2.1, hr4.grew⟩
  clear hr4 hw4
  go_wp2
  go_ret3
  exact HF.out
set_option maxRecDepth 100000 in
set_option maxHeartbeats 1000000 in
theorem DrawSteepBetween_any (v : Value) (bs : List Int) (w : World) (hv : NumsV .u8 w v bs) (hb : ∀ i, i < bs.length → 0 ≤ bs.getD i 0 ∧ bs.getD i 0 ≤ 255) :
    Calls Tryd.prog 25 #[v] w (DrawnCells w) := by
  have HN := Lib.hid (newReader_any v bs w hv hb)
  clear hv hb
  go_enter Tryd.func25, Tryd.ntmps25
  go_wp2_with (fail)
  refine HN.out.mono ?_
  rintro e w1 ⟨rfl, hr⟩
  have HR := Lib.hid hr
  have hl1 := hr.lt
  clear hr
  go_wp2_with (fail)
  refine (someGrid_any w w1 w.heap.size 0 HR.out (by omega)).mono ?_
  rintro e w2 ⟨v2, H, q, rfl, hO, hd, hr2, hq, hw2⟩
  have HS := Lib.hid (And.intro hO (And.intro hd hr2))
  obtain ⟨a3, n3, c3, rfl⟩ : ∃ a n c, v2 = .slice a n c := by
    rcases hO.shape with ⟨rfl, _⟩ | ⟨g, c, rfl, _⟩ <;> exact ⟨_, _, _, rfl⟩
  clear hO hd hr2 hw2
  go_wp2_with (fail)
  refine (cellOf_any w w2 w.heap.size q w1.heap.size w2.heap.size _ H HS.out.2.2 (by omega) HS.out.1 HS.out.2.1).mono ?_
  rintro e w3 ⟨n, q3, rfl, hn, hr3, hq3, hw3⟩
  have H3 := Lib.hid (And.intro (HS.out.1.within hw3 (.inr (by omega))) (And.intro hr3 hw3.size))
  clear hr3 hw3
  go_wp2_with (fail)
  refine (cellOf_any w w3 w.heap.size q3 w1.heap.size w2.heap.size _ H H3.out.2.1 (by omega) H3.out.1 HS.out.2.1).mono ?_
  rintro e w4 ⟨k, q4, rfl, hk, hr4, hq4, hw4⟩
  have HF : Hid (DrawnCells w (.returned (.tuple #[.slice a3 n3 c3, .int .i64 n, .int .i64 k])) w4) :=
    ⟨_, H, n, k, rfl, (H3.out.1.within hw4 (.inr (by omega))).wide HR.out.grew.size (Nat.le_trans H3.out.2.2 hw4.size), HS.out.2.1, hr4.grew⟩
  clear hr4 hw4
  go_wp2
  go_ret3
  exact HF.out
end Go.Proofs.YtdhokofcgfolnaaDoor
