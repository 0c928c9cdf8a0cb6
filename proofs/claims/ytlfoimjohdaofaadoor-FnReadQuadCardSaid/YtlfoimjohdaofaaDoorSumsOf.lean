/- The contracts of impl.noughts and impl.SumsOf. -/
import Derived.Test.YtlfoimjohdaofaaDoorInRows
import Derived.Test.YtlfoimjohdaofaaDoorExact
import Derived.Test.YtlfoimjohdaofaaDoorSumM
import Derived.StillTailTactics
namespace Go.Proofs.YtlfoimjohdaofaaDoor
open Go.RowKit

theorem RowsO.own {T E lo hi : Nat} {w : World} {v : Value} {H : List (List Int)} (h : RowsO T E lo hi w v H) : RowsO T E lo w.heap.size w v H := by
  obtain ⟨V, h1, h2, h3, h4⟩ := h
  exact ⟨V, h1, fun g e => (World.ownsRow.lt h1 g e).2, fun r hr => ⟨(h3 r hr).1, fun g e => (World.ownsRow.lt (h3 r hr).1 g e).2⟩, h4⟩
set_option maxRecDepth 100000 in
set_option maxHeartbeats 1000000 in
theorem noughts_any (n m : Nat) (w : World) (hn6 : n ≤ 6) (hm : 1 ≤ m) (hm6 : m ≤ 6) :
    Calls Tryd.prog 45 #[.int .i64 n, .int .i64 m] w (NewRows w (tabR n m fun _ _ => 0)) := by
  obtain ⟨N, eN⟩ : ∃ N, n * m = N := ⟨_, rfl⟩
  have hN36 : N ≤ 36 := by rw [← eN]; exact Nat.mul_le_mul hn6 hm6
  have hw : IntKind.i64.wrap ((n : Int) * (m : Int)) = (N : Int) := by rw [← Int.natCast_mul, eN]; exact IntWalk.i64_in _ (by omega)
  have HZ := Lib.hid (shapeL_zero n m)
  have HN := Lib.hid eN
  rw [eN] at HZ
  clear eN
  go_enter Tryd.func45, Tryd.ntmps45
  go_wp2_with (at_make; refine wpList_make_ints rfl (.tmp 7) (.tmp 7) 28 rfl Tryd.underlying28 Tryd.infoI rfl rfl rfl rfl (by omega) ?_; intro w1 hO1 hg1 hs1)
  have H1 := Lib.hid (And.intro hO1 hg1)
  clear hO1 hg1 hw
  refine (inRows6_own H1.out.1 hn6 hm hm6 HN.out).mono ?_
  rw [HZ.out]
  rintro e w2 ⟨v2, rfl, hO2, hg2⟩
  have H2 : Hid (RowsO 28 3 w.heap.size w2.heap.size w2 v2 (tabR n m fun _ _ => 0) ∧ Grew w w2) := ⟨hO2.wide (by omega) (Nat.le_refl _), H1.out.2.trans hg2⟩
  obtain ⟨a2, c2, rfl⟩ := hO2.sh
  clear hO2 hg2
  go_wp2
  go_ret
  exact ⟨_, rfl, H2.out⟩

/-- The sums of all cells above and ahead; nothing if it is no grid. -/
def sumsX (h : List (List Int)) : List (List Int) := if vGrid h = true then sumsL h (h.getD 0 []).length else []
theorem total_le (h : List (List Int)) (B : Nat) (hB : ∀ r, r < h.length → (h.getD r []).length ≤ B) : total h ≤ h.length * B := by
  have : ∀ k, k ≤ h.length → total (h.take k) ≤ k * B := fun k => by
    induction k with
    | zero => intro _; simp [total]
    | succ k ih =>
      intro hk
      have h1 := ih (by omega)
      have h2 := hB k (by omega)
      rw [total_snoc h k (by omega), Nat.succ_mul]
      omega
  have := this h.length (Nat.le_refl _)
  rwa [List.take_length] at this
theorem tabR_total (n m : Nat) (f : Nat → Nat → Int) : total (tabR n m f) ≤ n * m := by
  have := total_le (tabR n m f) m (fun r hr => by rw [tabR_len] at hr; rw [tabR_rowlen n m f r hr]; exact Nat.le_refl _)
  rwa [tabR_len] at this
theorem sumsX_total (h : List (List Int)) : total (sumsX h) ≤ 1000000 := by
  unfold sumsX
  split
  · rename_i hp
    have G := Grid.of hp
    have h1 := G.n5
    have h2 := G.m5
    refine Nat.le_trans (tabR_total _ _ _) (Nat.le_trans (Nat.mul_le_mul (show h.length + 1 ≤ 6 by omega) (show (h.getD 0 []).length + 1 ≤ 6 by omega)) (by decide))
  · simp [total]
end Go.Proofs.YtlfoimjohdaofaaDoor
