/- The contracts of the draws that give a profile and a place. -/
import Derived.Test.YthljmolkicfdaaaSomeP
namespace Go.Proofs.Ythljmolkicfdaaa
open Go.RowKit

/-- A drawn row in new memory, and a place. -/
def DrawnPlace (w : World) (e : Ending) (w' : World) : Prop := ∃ v xs i, e = .returned (.tuple #[v, .int .i64 i]) ∧ IntsO 3 w.heap.size w'.heap.size w' v xs ∧ DrawnP xs ∧ (-1 ≤ i ∧ i ≤ 9) ∧ Grew w w'

set_option maxRecDepth 100000 in
set_option maxHeartbeats 1000000 in
theorem DrawSeenFrom_any (v : Value) (bs : List Int) (w : World) (hv : NumsV .u8 w v bs) (hb : ∀ i, i < bs.length → 0 ≤ bs.getD i 0 ∧ bs.getD i 0 ≤ 255) :
    Calls Try.prog 25 #[v] w (DrawnPlace w) := by
  have HN := Lib.hid (newReader_any v bs w hv hb)
  clear hv hb
  go_enter Try.func25, Try.ntmps25
  go_wp2_with (fail)
  refine HN.out.mono ?_
  rintro e w1 ⟨rfl, hr⟩
  have HR := Lib.hid hr
  have hl1 := hr.lt
  clear hr
  go_wp2_with (fail)
  refine (someProfile_any w w1 w.heap.size 0 HR.out (by omega)).mono ?_
  rintro e w2 ⟨v2, xs, q, rfl, hO, hd, hr2, hq, hw2⟩
  have HS := Lib.hid (And.intro hO (And.intro hd hr2))
  have h9 := hd.1
  have hq20 : q ≤ 20 := by omega
  have hs2 := hw2.size
  have hs0 : w.heap.size ≤ w1.heap.size := HR.out.grew.size
  obtain ⟨a3, n3, c3, rfl, hn3⟩ : ∃ a n c, v2 = .slice a n c ∧ n = xs.length := by
    rcases hO.shape with ⟨rfl, rfl⟩ | ⟨g, c, rfl, _⟩
    · exact ⟨_, _, _, rfl, rfl⟩
    · exact ⟨_, _, _, rfl, rfl⟩
  obtain rfl := hn3
  clear hO hd hr2 hw2 hq
  go_wp2_with (fail)
  refine (pick_any w w2 w.heap.size q (xs.length : Int) HS.out.2.2 (by omega) (by omega)).mono ?_
  rintro e w3 ⟨x1, rfl, hx1, hy1, hr3, hw3⟩
  have hx1' : x1 ≤ 9 := by omega
  have hs3 := hw3.size
  have HF1 : Hid (Rdr w w3 w.heap.size (q + 1) ∧ IntsO 3 w1.heap.size w3.heap.size w3 (.slice a3 xs.length c3) xs) := ⟨hr3, (HS.out.1.within hw3 (.inr (by omega))).wide (Nat.le_refl _) (by omega)⟩
  clear hr3 hw3 hy1
  go_wp2_with (fail)
  refine (pick_any w w3 w.heap.size (q + 1) (xs.length : Int) HF1.out.1 (by omega) (by omega)).mono ?_
  rintro e w4 ⟨x2, rfl, hx2, hy2, hr4, hw4⟩
  have hx2' : x2 ≤ 9 := by omega
  have hs4 := hw4.size
  have HF2 : Hid (Rdr w w4 w.heap.size (q + 2) ∧ IntsO 3 w1.heap.size w4.heap.size w4 (.slice a3 xs.length c3) xs) := ⟨hr4, (HF1.out.2.within hw4 (.inr (by omega))).wide (Nat.le_refl _) (by omega)⟩
  clear hr4 hw4 hy2
  go_wp2_with (fail)
  refine (one_any w _ w.heap.size (q + 2) (w4.heap.size + 1) _ [x1, x2, 0, (xs.length : Int) - 1, xs.length, -1] (HF2.out.1.later ((Grew.refl _).alloc _)) (by omega) (IntsO.litAt _ _ _ _ _ _ [x1, x2, 0, (xs.length : Int) - 1, xs.length, -1] _ rfl (by simp) rfl (by omega) (by omega) (by simp [maxLen])) (by simp) (by simp)).mono ?_
  rintro e w5 ⟨x, hx, rfl, hr5, hw5⟩
  have hx' : -1 ≤ x ∧ x ≤ 9 := by
    simp at hx
    omega
  have hs5 := hw5.size
  simp at hs5
  have HF : Hid (DrawnPlace w (.returned (.tuple #[.slice a3 xs.length c3, .int .i64 x])) w5) :=
    ⟨_, xs, x, rfl, ((HF2.out.2.grew ((Grew.refl _).alloc _)).within hw5 (.inr (by omega))).wide (by omega) (by omega), HS.out.2.1, hx', hr5.grew⟩
  clear hr5 hw5 hx
  go_wp2
  go_ret2
  exact HF.out

set_option maxRecDepth 100000 in
set_option maxHeartbeats 1000000 in
theorem DrawFurthestOf_any (v : Value) (bs : List Int) (w : World) (hv : NumsV .u8 w v bs) (hb : ∀ i, i < bs.length → 0 ≤ bs.getD i 0 ∧ bs.getD i 0 ≤ 255) :
    Calls Try.prog 18 #[v] w (DrawnPlace w) := by
  have HN := Lib.hid (newReader_any v bs w hv hb)
  clear hv hb
  go_enter Try.func18, Try.ntmps18
  go_wp2_with (fail)
  refine HN.out.mono ?_
  rintro e w1 ⟨rfl, hr⟩
  have HR := Lib.hid hr
  have hl1 := hr.lt
  clear hr
  go_wp2_with (fail)
  refine (someProfile_any w w1 w.heap.size 0 HR.out (by omega)).mono ?_
  rintro e w2 ⟨v2, xs, q, rfl, hO, hd, hr2, hq, hw2⟩
  have HS := Lib.hid (And.intro hO (And.intro hd hr2))
  have h9 := hd.1
  have hq20 : q ≤ 20 := by omega
  have hs2 := hw2.size
  have hs0 : w.heap.size ≤ w1.heap.size := HR.out.grew.size
  obtain ⟨a3, n3, c3, rfl, hn3⟩ : ∃ a n c, v2 = .slice a n c ∧ n = xs.length := by
    rcases hO.shape with ⟨rfl, rfl⟩ | ⟨g, c, rfl, _⟩
    · exact ⟨_, _, _, rfl, rfl⟩
    · exact ⟨_, _, _, rfl, rfl⟩
  obtain rfl := hn3
  clear hO hd hr2 hw2 hq
  go_wp2_with (fail)
  refine (pick_any w w2 w.heap.size q (xs.length : Int) HS.out.2.2 (by omega) (by omega)).mono ?_
  rintro e w3 ⟨x1, rfl, hx1, hy1, hr3, hw3⟩
  have hx1' : x1 ≤ 9 := by omega
  have hs3 := hw3.size
  have HF1 : Hid (Rdr w w3 w.heap.size (q + 1) ∧ IntsO 3 w1.heap.size w3.heap.size w3 (.slice a3 xs.length c3) xs) := ⟨hr3, (HS.out.1.within hw3 (.inr (by omega))).wide (Nat.le_refl _) (by omega)⟩
  clear hr3 hw3 hy1
  go_wp2_with (fail)
  refine (pick_any w w3 w.heap.size (q + 1) (xs.length : Int) HF1.out.1 (by omega) (by omega)).mono ?_
  rintro e w4 ⟨x2, rfl, hx2, hy2, hr4, hw4⟩
  have hx2' : x2 ≤ 9 := by omega
  have hs4 := hw4.size
  have HF2 : Hid (Rdr w w4 w.heap.size (q + 2) ∧ IntsO 3 w1.heap.size w4.heap.size w4 (.slice a3 xs.length c3) xs) := ⟨hr4, (HF1.out.2.within hw4 (.inr (by omega))).wide (Nat.le_refl _) (by omega)⟩
  clear hr4 hw4 hy2
  go_wp2_with (fail)
  refine (one_any w _ w.heap.size (q + 2) (w4.heap.size + 1) _ [x1, x2, 0, (xs.length : Int) - 1, xs.length, -1] (HF2.out.1.later ((Grew.refl _).alloc _)) (by omega) (IntsO.litAt _ _ _ _ _ _ [x1, x2, 0, (xs.length : Int) - 1, xs.length, -1] _ rfl (by simp) rfl (by omega) (by omega) (by simp [maxLen])) (by simp) (by simp)).mono ?_
  rintro e w5 ⟨x, hx, rfl, hr5, hw5⟩
  have hx' : -1 ≤ x ∧ x ≤ 9 := by
    simp at hx
    omega
  have hs5 := hw5.size
  simp at hs5
  have HF : Hid (DrawnPlace w (.returned (.tuple #[.slice a3 xs.length c3, .int .i64 x])) w5) :=
    ⟨_, xs, x, rfl, ((HF2.out.2.grew ((Grew.refl _).alloc _)).within hw5 (.inr (by omega))).wide (by omega) (by omega), HS.out.2.1, hx', hr5.grew⟩
  clear hr5 hw5 hx
  go_wp2
  go_ret2
  exact HF.out
end Go.Proofs.Ythljmolkicfdaaa
