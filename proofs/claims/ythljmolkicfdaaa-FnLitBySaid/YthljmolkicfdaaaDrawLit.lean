/- The contract of spec.DrawLitBy. -/
import Derived.Test.YthljmolkicfdaaaSomeP
import Derived.OwnWalk
namespace Go.Proofs.Ythljmolkicfdaaa
open Go.RowKit

/-- A drawn row in new memory, and two numbers. -/
def DrawnLit (w : World) (e : Ending) (w' : World) : Prop := ∃ v xs i k, e = .returned (.tuple #[v, .int .i64 i, .int .i64 k]) ∧ IntsO 3 w.heap.size w'.heap.size w' v xs ∧ DrawnP xs ∧ ((-1 ≤ i ∧ i ≤ 13) ∧ 0 ≤ k ∧ k ≤ 10) ∧ Grew w w'

set_option maxRecDepth 100000 in
set_option maxHeartbeats 1000000 in
theorem DrawLitBy_any (v : Value) (bs : List Int) (w : World) (hv : NumsV .u8 w v bs) (hb : ∀ i, i < bs.length → 0 ≤ bs.getD i 0 ∧ bs.getD i 0 ≤ 255) :
    Calls Try.prog 21 #[v] w (DrawnLit w) := by
  have HN := Lib.hid (newReader_any v bs w hv hb)
  clear hv hb
  go_enter Try.func21, Try.ntmps21
  go_wp2_with (fail)
  refine HN.out.mono ?_
  rintro e w1 ⟨rfl, hr⟩
  have HR := Lib.hid hr
  have hl1 := hr.lt
  clear hr
  go_wp2_with (fail)
  refine (someProfile_any w w1 w.heap.size 0 HR.out (by omega)).mono ?_
  rintro e w2 ⟨v2, xs, q, rfl, hO, hd, hr2, hq, hw2⟩
  have HS := Lib.hid (And.intro hO (And.intro hd hr2))
  have h9 := hd.1
  have hq20 : q ≤ 20 := by omega
  have hs2 := hw2.size
  have hs0 : w.heap.size ≤ w1.heap.size := HR.out.grew.size
  obtain ⟨a3, n3, c3, rfl⟩ : ∃ a n c, v2 = .slice a n c := by
    rcases hO.shape with ⟨rfl, rfl⟩ | ⟨g, c, rfl, _⟩
    · exact ⟨_, _, _, rfl⟩
    · exact ⟨_, _, _, rfl⟩
  clear hO hd hr2 hw2 hq
  go_wp2_with (fail)
  refine (one_any w _ w.heap.size q (w2.heap.size + 1) _ [1, 2, 0, 3, 12, 13, -1] (HS.out.2.2.later ((Grew.refl _).alloc _)) (by omega) (IntsO.litAt _ _ _ _ _ _ [1, 2, 0, 3, 12, 13, -1] _ rfl (by simp) rfl (by omega) (by omega) (by simp [maxLen])) (by simp) (by simp)).mono ?_
  rintro e w5 ⟨x, hx, rfl, hr5, hw5⟩
  have hx' : -1 ≤ x ∧ x ≤ 13 := by
    simp at hx
    omega
  have hs5 := hw5.size
  simp at hs5
  have HF5 : Hid (Rdr w w5 w.heap.size (q + 1) ∧ IntsO 3 w1.heap.size w5.heap.size w5 (.slice a3 n3 c3) xs) := ⟨hr5, ((HS.out.1.grew ((Grew.refl _).alloc _)).within hw5 (.inr (by omega))).wide (Nat.le_refl _) (by omega)⟩
  clear hr5 hw5 hx
  go_wp2_with (fail)
  refine (one_any w _ w.heap.size (q + 1) (w5.heap.size + 1) _ [1, 2, 3, 9, 0, 10] (HF5.out.1.later ((Grew.refl _).alloc _)) (by omega) (IntsO.litAt _ _ _ _ _ _ [1, 2, 3, 9, 0, 10] _ rfl (by simp) rfl (by omega) (by omega) (by simp [maxLen])) (by simp) (by simp)).mono ?_
  rintro e w6 ⟨y, hy, rfl, hr6, hw6⟩
  have hy' : 0 ≤ y ∧ y ≤ 10 := by
    simp at hy
    omega
  have hs6 := hw6.size
  simp at hs6
  have HF : Hid (DrawnLit w (.returned (.tuple #[.slice a3 n3 c3, .int .i64 x, .int .i64 y])) w6) :=
    ⟨_, xs, x, y, rfl, ((HF5.out.2.grew ((Grew.refl _).alloc _)).within hw6 (.inr (by omega))).wide (by omega) (by omega), HS.out.2.1, ⟨hx', hy'⟩, hr6.grew⟩
  clear hr6 hw6 hy
  go_wp2
  go_ret3
  exact HF.out
end Go.Proofs.Ythljmolkicfdaaa
