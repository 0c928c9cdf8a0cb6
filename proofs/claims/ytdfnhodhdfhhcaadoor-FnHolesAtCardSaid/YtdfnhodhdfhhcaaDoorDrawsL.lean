/- The contracts of the draws that give a grid and a level. -/
import Derived.Test.YtdfnhodhdfhhcaaDoorSomeG
import Derived.Test.YtdfnhodhdfhhcaaDoorSomeP
namespace Go.Proofs.YtdfnhodhdfhhcaaDoor
open Go.RowKit

/-- A drawn grid in new memory, and a level. -/
def DrawnLevel (w : World) (e : Ending) (w' : World) : Prop := ∃ v H i, e = .returned (.tuple #[v, .int .i64 i]) ∧ RowsO 29 3 w.heap.size w'.heap.size w' v H ∧ Drawn H ∧ (-2 ≤ i ∧ i ≤ 13) ∧ Grew w w'

set_option maxRecDepth 100000 in
set_option maxHeartbeats 1000000 in
theorem DrawLandsAt_any (v : Value) (bs : List Int) (w : World) (hv : NumsV .u8 w v bs) (hb : ∀ i, i < bs.length → 0 ≤ bs.getD i 0 ∧ bs.getD i 0 ≤ 255) :
    Calls Tryd.prog 17 #[v] w (DrawnLevel w) := by
  have HN := Lib.hid (newReader_any v bs w hv hb)
  clear hv hb
  go_enter Tryd.func17, Tryd.ntmps17
  go_wp2_with (fail)
  refine HN.out.mono ?_
  rintro e w1 ⟨rfl, hr⟩
  have HR := Lib.hid hr
  have hl1 := hr.lt
  clear hr
  go_wp2_with (fail)
  refine (someGrid_any w w1 w.heap.size 0 HR.out (by omega)).mono ?_
  rintro e w2 ⟨v2, H, q, rfl, hO, hd, hr2, hq, hw2⟩
  have HS := Lib.hid (And.intro hO (And.intro hd hr2))
  have hs2 := hw2.size
  have hs0 : w.heap.size ≤ w1.heap.size := HR.out.grew.size
  have hq9 : q ≤ 90000 := by omega
  obtain ⟨a3, n3, c3, rfl⟩ : ∃ a n c, v2 = .slice a n c := by
    rcases hO.shape with ⟨rfl, _⟩ | ⟨g, c, rfl, _⟩ <;> exact ⟨_, _, _, rfl⟩
  clear hO hd hr2 hw2 hq
  go_wp2_with (fail)
  refine (one_any w _ w.heap.size q (w2.heap.size + 1) _ [2, 1, 3, 0, 4, 6, -1, 12, 13, -2] (HS.out.2.2.later ((Grew.refl _).alloc _)) (by omega) (IntsO.litAt _ _ _ _ _ _ [2, 1, 3, 0, 4, 6, -1, 12, 13, -2] _ rfl (by simp) rfl (by omega) (by omega) (by simp [maxLen])) (by simp) (by simp)).mono ?_
  rintro e w3 ⟨x, hx, rfl, hr3, hw3⟩
  have hx' : -2 ≤ x ∧ x ≤ 13 := by
    simp at hx
    omega
  have hs3 := hw3.size
  simp at hs3
  have HF : Hid (DrawnLevel w (.returned (.tuple #[.slice a3 n3 c3, .int .i64 x])) w3) :=
    ⟨_, H, x, rfl, ((HS.out.1.grew ((Grew.refl _).alloc _)).within hw3 (.inr (by omega))).wide (by omega) (by omega), HS.out.2.1, hx', hr3.grew⟩
  clear hr3 hw3 hx
  go_wp2
  go_ret2
  exact HF.out

set_option maxRecDepth 100000 in
set_option maxHeartbeats 1000000 in
theorem DrawPondsAt_any (v : Value) (bs : List Int) (w : World) (hv : NumsV .u8 w v bs) (hb : ∀ i, i < bs.length → 0 ≤ bs.getD i 0 ∧ bs.getD i 0 ≤ 255) :
    Calls Tryd.prog 22 #[v] w (DrawnLevel w) := by
  have HN := Lib.hid (newReader_any v bs w hv hb)
  clear hv hb
  go_enter Tryd.func22, Tryd.ntmps22
  go_wp2_with (fail)
  refine HN.out.mono ?_
  rintro e w1 ⟨rfl, hr⟩
  have HR := Lib.hid hr
  have hl1 := hr.lt
  clear hr
  go_wp2_with (fail)
  refine (someGrid_any w w1 w.heap.size 0 HR.out (by omega)).mono ?_
  rintro e w2 ⟨v2, H, q, rfl, hO, hd, hr2, hq, hw2⟩
  have HS := Lib.hid (And.intro hO (And.intro hd hr2))
  have hs2 := hw2.size
  have hs0 : w.heap.size ≤ w1.heap.size := HR.out.grew.size
  have hq9 : q ≤ 90000 := by omega
  obtain ⟨a3, n3, c3, rfl⟩ : ∃ a n c, v2 = .slice a n c := by
    rcases hO.shape with ⟨rfl, _⟩ | ⟨g, c, rfl, _⟩ <;> exact ⟨_, _, _, rfl⟩
  clear hO hd hr2 hw2 hq
  go_wp2_with (fail)
  refine (one_any w _ w.heap.size q (w2.heap.size + 1) _ [2, 1, 3, 0, 4, 6, -1, 12, 13, -2] (HS.out.2.2.later ((Grew.refl _).alloc _)) (by omega) (IntsO.litAt _ _ _ _ _ _ [2, 1, 3, 0, 4, 6, -1, 12, 13, -2] _ rfl (by simp) rfl (by omega) (by omega) (by simp [maxLen])) (by simp) (by simp)).mono ?_
  rintro e w3 ⟨x, hx, rfl, hr3, hw3⟩
  have hx' : -2 ≤ x ∧ x ≤ 13 := by
    simp at hx
    omega
  have hs3 := hw3.size
  simp at hs3
  have HF : Hid (DrawnLevel w (.returned (.tuple #[.slice a3 n3 c3, .int .i64 x])) w3) :=
    ⟨_, H, x, rfl, ((HS.out.1.grew ((Grew.refl _).alloc _)).within hw3 (.inr (by omega))).wide (by omega) (by omega), HS.out.2.1, hx', hr3.grew⟩
  clear hr3 hw3 hx
  go_wp2
  go_ret2
  exact HF.out

set_option maxRecDepth 100000 in
set_option maxHeartbeats 1000000 in
theorem DrawHolesAt_any (v : Value) (bs : List Int) (w : World) (hv : NumsV .u8 w v bs) (hb : ∀ i, i < bs.length → 0 ≤ bs.getD i 0 ∧ bs.getD i 0 ≤ 255) :
    Calls Tryd.prog 25 #[v] w (DrawnLevel w) := by
  have HN := Lib.hid (newReader_any v bs w hv hb)
  clear hv hb
  go_enter Tryd.func25, Tryd.ntmps25
  go_wp2_with (fail)
  refine HN.out.mono ?_
  rintro e w1 ⟨rfl, hr⟩
  have HR := Lib.hid hr
  have hl1 := hr.lt
  clear hr
  go_wp2_with (fail)
  refine (someGrid_any w w1 w.heap.size 0 HR.out (by omega)).mono ?_
  rintro e w2 ⟨v2, H, q, rfl, hO, hd, hr2, hq, hw2⟩
  have HS := Lib.hid (And.intro hO (And.intro hd hr2))
  have hs2 := hw2.size
  have hs0 : w.heap.size ≤ w1.heap.size := HR.out.grew.size
  have hq9 : q ≤ 90000 := by omega
  obtain ⟨a3, n3, c3, rfl⟩ : ∃ a n c, v2 = .slice a n c := by
    rcases hO.shape with ⟨rfl, _⟩ | ⟨g, c, rfl, _⟩ <;> exact ⟨_, _, _, rfl⟩
  clear hO hd hr2 hw2 hq
  go_wp2_with (fail)
  refine (one_any w _ w.heap.size q (w2.heap.size + 1) _ [2, 1, 3, 0, 4, 6, -1, 12, 13, -2] (HS.out.2.2.later ((Grew.refl _).alloc _)) (by omega) (IntsO.litAt _ _ _ _ _ _ [2, 1, 3, 0, 4, 6, -1, 12, 13, -2] _ rfl (by simp) rfl (by omega) (by omega) (by simp [maxLen])) (by simp) (by simp)).mono ?_
  rintro e w3 ⟨x, hx, rfl, hr3, hw3⟩
  have hx' : -2 ≤ x ∧ x ≤ 13 := by
    simp at hx
    omega
  have hs3 := hw3.size
  simp at hs3
  have HF : Hid (DrawnLevel w (.returned (.tuple #[.slice a3 n3 c3, .int .i64 x])) w3) :=
    ⟨_, H, x, rfl, ((HS.out.1.grew ((Grew.refl _).alloc _)).within hw3 (.inr (by omega))).wide (by omega) (by omega), HS.out.2.1, hx', hr3.grew⟩
  clear hr3 hw3 hx
  go_wp2
  go_ret2
  exact HF.out



set_option maxRecDepth 100000 in
set_option maxHeartbeats 1000000 in
theorem DrawRimAt_any (v : Value) (bs : List Int) (w : World) (hv : NumsV .u8 w v bs) (hb : ∀ i, i < bs.length → 0 ≤ bs.getD i 0 ∧ bs.getD i 0 ≤ 255) :
    Calls Tryd.prog 10 #[v] w (DrawnLevel w) := by
  have HN := Lib.hid (newReader_any v bs w hv hb)
  clear hv hb
  go_enter Tryd.func10, Tryd.ntmps10
  go_wp2_with (fail)
  refine HN.out.mono ?_
  rintro e w1 ⟨rfl, hr⟩
  have HR := Lib.hid hr
  have hl1 := hr.lt
  clear hr
  go_wp2_with (fail)
  refine (someGrid_any w w1 w.heap.size 0 HR.out (by omega)).mono ?_
  rintro e w2 ⟨v2, H, q, rfl, hO, hd, hr2, hq, hw2⟩
  have HS := Lib.hid (And.intro hO (And.intro hd hr2))
  have hs2 := hw2.size
  have hs0 : w.heap.size ≤ w1.heap.size := HR.out.grew.size
  have hq9 : q ≤ 90000 := by omega
  obtain ⟨a3, n3, c3, rfl⟩ : ∃ a n c, v2 = .slice a n c := by
    rcases hO.shape with ⟨rfl, _⟩ | ⟨g, c, rfl, _⟩ <;> exact ⟨_, _, _, rfl⟩
  clear hO hd hr2 hw2 hq
  go_wp2_with (fail)
  refine (one_any w _ w.heap.size q (w2.heap.size + 1) _ [2, 1, 3, 0, 4, 6, -1, 12, 13, -2] (HS.out.2.2.later ((Grew.refl _).alloc _)) (by omega) (IntsO.litAt _ _ _ _ _ _ [2, 1, 3, 0, 4, 6, -1, 12, 13, -2] _ rfl (by simp) rfl (by omega) (by omega) (by simp [maxLen])) (by simp) (by simp)).mono ?_
  rintro e w3 ⟨x, hx, rfl, hr3, hw3⟩
  have hx' : -2 ≤ x ∧ x ≤ 13 := by
    simp at hx
    omega
  have hs3 := hw3.size
  simp at hs3
  have HF : Hid (DrawnLevel w (.returned (.tuple #[.slice a3 n3 c3, .int .i64 x])) w3) :=
    ⟨_, H, x, rfl, ((HS.out.1.grew ((Grew.refl _).alloc _)).within hw3 (.inr (by omega))).wide (by omega) (by omega), HS.out.2.1, hx', hr3.grew⟩
  clear hr3 hw3 hx
  go_wp2
  go_ret2
  exact HF.out
end Go.Proofs.YtdfnhodhdfhhcaaDoor
