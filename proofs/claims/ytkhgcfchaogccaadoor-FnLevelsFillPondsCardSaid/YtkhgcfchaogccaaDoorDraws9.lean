/- The contracts of the draws that give a grid, a cell and a number. -/
import Derived.Test.YtkhgcfchaogccaaDoorCellOf
import Derived.OwnWalk
namespace Go.Proofs.YtkhgcfchaogccaaDoor
open Go.RowKit

theorem litAt9 (E lo blk hi n : Nat) (w : World) (xs : List Int) (cs : Array Value) (h : cs.toList = xs.map (.int .i64)) (hb : blk = w.heap.size) (hn : n = xs.length) (hlo : lo ≤ blk) (hhi : blk < hi) (hl : xs.length ≤ maxLen) :
    IntsO E lo hi (w.alloc (.cells cs E)) (.slice (some ⟨blk, 0, none⟩) n n) xs := by
  subst hb hn
  exact (IntsO.lit E lo w xs cs h hlo hl).wide (Nat.le_refl _) hhi
/-- A drawn grid in new memory, a cell and a number. -/
def DrawnCellN (w : World) (e : Ending) (w' : World) : Prop := ∃ v H i s, e = .returned (.tuple #[v, .int .i64 i, .int .i64 s]) ∧ RowsO 28 3 w.heap.size w'.heap.size w' v H ∧ Drawn H ∧ (-1 ≤ s ∧ s ≤ 400) ∧ Grew w w'

set_option maxRecDepth 100000 in
set_option maxHeartbeats 1000000 in
theorem DrawPondAt_any (v : Value) (bs : List Int) (w : World) (hv : NumsV .u8 w v bs) (hb : ∀ i, i < bs.length → 0 ≤ bs.getD i 0 ∧ bs.getD i 0 ≤ 255) :
    Calls Tryd.prog 10 #[v] w (DrawnCellN w) := by
  have HN := Lib.hid (newReader_any v bs w hv hb)
  clear hv hb
  go_enter Tryd.func10, Tryd.ntmps10
  go_wp2_with (fail)
  refine HN.out.mono ?_
  rintro e w1 ⟨rfl, hr⟩
  have HR := Lib.hid hr
  have hl1 := hr.lt
  clear hr
  go_wp2_with (fail)
  refine (someGrid_any w w1 w.heap.size 0 HR.out (by omega)).mono ?_
  rintro e w2 ⟨v2, H, q, rfl, hO, hd, hr2, hq, hw2⟩
  have HS := Lib.hid (And.intro hO (And.intro hd hr2))
  have hs2 := hw2.size
  have hs0 : w.heap.size ≤ w1.heap.size := HR.out.grew.size
  obtain ⟨a3, n3, c3, rfl⟩ : ∃ a n c, v2 = .slice a n c := by
    rcases hO.shape with ⟨rfl, _⟩ | ⟨g, c, rfl, _⟩ <;> exact ⟨_, _, _, rfl⟩
  clear hO hd hr2 hw2
  go_wp2_with (fail)
  refine (cellOf_any w w2 w.heap.size q w1.heap.size w2.heap.size _ H HS.out.2.2 (by omega) HS.out.1 HS.out.2.1).mono ?_
  rintro e w3 ⟨n, q3, rfl, hn, hr3, hq3, hw3⟩
  have H3 := Lib.hid (And.intro (HS.out.1.within hw3 (.inr (by omega))) (And.intro hr3 hw3.size))
  have hs4 : w2.heap.size ≤ w3.heap.size := H3.out.2.2
  have HNN := Lib.hid hn
  clear hr3 hw3 hn
  go_wp2_with (fail)
  refine (one_any w _ w.heap.size q3 (w3.heap.size + 1) _ [3, 5, 2, 4, 8, 12, 0, 13, -1] (H3.out.2.1.later ((Grew.refl _).alloc _)) (by omega) (litAt9 _ _ _ _ _ _ [3, 5, 2, 4, 8, 12, 0, 13, -1] _ rfl (by simp) rfl (by omega) (by omega) (by simp [maxLen])) (by simp) (by simp)).mono ?_
  rintro e w5 ⟨x, hx, rfl, hr5, hw5⟩
  have hx' : -1 ≤ x ∧ x ≤ 400 := by
    simp at hx
    omega
  have hs5 := hw5.size
  simp at hs5
  have HF : Hid (DrawnCellN w (.returned (.tuple #[.slice a3 n3 c3, .int .i64 n, .int .i64 x])) w5) :=
    ⟨_, H, n, x, rfl, ((H3.out.1.grew ((Grew.refl _).alloc _)).within hw5 (.inr (by omega))).wide (by omega) (by omega), HS.out.2.1, hx', hr5.grew⟩
  clear hr5 hw5 hx
  go_wp2
  go_ret3
  exact HF.out
set_option maxRecDepth 100000 in
set_option maxHeartbeats 1000000 in
theorem DrawLevelFor_any (v : Value) (bs : List Int) (w : World) (hv : NumsV .u8 w v bs) (hb : ∀ i, i < bs.length → 0 ≤ bs.getD i 0 ∧ bs.getD i 0 ≤ 255) :
    Calls Tryd.prog 14 #[v] w (DrawnCellN w) := by
  have HN := Lib.hid (newReader_any v bs w hv hb)
  clear hv hb
  go_enter Tryd.func14, Tryd.ntmps14
  go_wp2_with (fail)
  refine HN.out.mono ?_
  rintro e w1 ⟨rfl, hr⟩
  have HR := Lib.hid hr
  have hl1 := hr.lt
  clear hr
  go_wp2_with (fail)
  refine (someGrid_any w w1 w.heap.size 0 HR.out (by omega)).mono ?_
  rintro e w2 ⟨v2, H, q, rfl, hO, hd, hr2, hq, hw2⟩
  have HS := Lib.hid (And.intro hO (And.intro hd hr2))
  have hs2 := hw2.size
  have hs0 : w.heap.size ≤ w1.heap.size := HR.out.grew.size
  obtain ⟨a3, n3, c3, rfl⟩ : ∃ a n c, v2 = .slice a n c := by
    rcases hO.shape with ⟨rfl, _⟩ | ⟨g, c, rfl, _⟩ <;> exact ⟨_, _, _, rfl⟩
  clear hO hd hr2 hw2
  go_wp2_with (fail)
  refine (cellOf_any w w2 w.heap.size q w1.heap.size w2.heap.size _ H HS.out.2.2 (by omega) HS.out.1 HS.out.2.1).mono ?_
  rintro e w3 ⟨n, q3, rfl, hn, hr3, hq3, hw3⟩
  have H3 := Lib.hid (And.intro (HS.out.1.within hw3 (.inr (by omega))) (And.intro hr3 hw3.size))
  have hs4 : w2.heap.size ≤ w3.heap.size := H3.out.2.2
  have HNN := Lib.hid hn
  clear hr3 hw3 hn
  go_wp2_with (fail)
  refine (one_any w _ w.heap.size q3 (w3.heap.size + 1) _ [5, 1, 10, 0, 20, 50, 400, -1] (H3.out.2.1.later ((Grew.refl _).alloc _)) (by omega) (litAt9 _ _ _ _ _ _ [5, 1, 10, 0, 20, 50, 400, -1] _ rfl (by simp) rfl (by omega) (by omega) (by simp [maxLen])) (by simp) (by simp)).mono ?_
  rintro e w5 ⟨x, hx, rfl, hr5, hw5⟩
  have hx' : -1 ≤ x ∧ x ≤ 400 := by
    simp at hx
    omega
  have hs5 := hw5.size
  simp at hs5
  have HF : Hid (DrawnCellN w (.returned (.tuple #[.slice a3 n3 c3, .int .i64 n, .int .i64 x])) w5) :=
    ⟨_, H, n, x, rfl, ((H3.out.1.grew ((Grew.refl _).alloc _)).within hw5 (.inr (by omega))).wide (by omega) (by omega), HS.out.2.1, hx', hr5.grew⟩
  clear hr5 hw5 hx
  go_wp2
  go_ret3
  exact HF.out
end Go.Proofs.YtkhgcfchaogccaaDoor
