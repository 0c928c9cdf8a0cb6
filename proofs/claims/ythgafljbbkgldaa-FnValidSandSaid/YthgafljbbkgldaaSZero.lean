/- The contracts of spec.filled and spec.ZeroSand. -/
import Derived.Test.YthgafljbbkgldaaSSandJ
namespace Go.Proofs.Ythgafljbbkgldaa
open Go.RowKit

theorem shapeL_rep (n m : Nat) (y : Int) : shapeL (List.replicate (n * m) y) m n = List.replicate n (List.replicate m y) := by
  apply List.ext_getElem
  · rw [shapeL_len, List.length_replicate]
  · intro r h1 h2
    rw [List.length_replicate] at h2
    have := shapeL_at (List.replicate (n * m) y) m n r h2
    rw [List.getD_eq_getElem?_getD, List.getElem?_eq_getElem h1, Option.getD_some] at this
    rw [this, List.getElem_replicate, List.drop_replicate, List.take_replicate]
    congr 1
    have := Nat.mul_le_mul_right m (show r + 1 ≤ n from h2)
    rw [Nat.succ_mul] at this
    omega
set_option maxRecDepth 100000 in
set_option maxHeartbeats 2000000 in
theorem filled_any (n m : Nat) (y : Int) (w : World) (hn : n ≤ 5) (hm : m ≤ 5) :
    Calls Try.prog 23 #[.int .i64 n, .int .i64 m, .int .i64 y] w (NewRows w (List.replicate n (List.replicate m y))) := by
  go_enter Try.func23, Try.ntmps23
  go_wp2_with (fail)
  have H0 : Hid (RowsO 34 3 w.heap.size (w.alloc (.cells #[] 34)).heap.size (w.alloc (.cells #[] 34)) (.slice (some ⟨w.heap.size, 0, none⟩) 0 0) [] ∧ Grew w (w.alloc (.cells #[] 34))) :=
    ⟨by simpa using RowsO.lit0 34 3 w.heap.size w (Nat.le_refl _), (Grew.refl w).alloc _⟩
  go_loopg [7, 8] n (fun gk v i wr => ∃ (k g c' : Nat), v = .slice (some ⟨g, 0, none⟩) k c' ∧ i = .int .i64 (k : Int) ∧ k ≤ n ∧ n ≤ gk + k ∧ Hid (RowsO 34 3 w.heap.size wr.heap.size wr v (List.replicate k (List.replicate m y)) ∧ Grew w wr))
  case atStart => exact ⟨0, _, _, rfl, rfl, Nat.zero_le _, Nat.le_refl _, H0.out⟩
  case round =>
    obtain ⟨k, g, c', rfl, rfl, hk1, hk2, HI⟩ := hrel
    clear H0
    by_cases hlt : k < n
    · obtain ⟨wo, rfl⟩ : ∃ wo : World, wo = wr := ⟨_, rfl⟩
      obtain ⟨gn, rfl⟩ : ∃ gn : Nat, gn = gk := ⟨_, rfl⟩
      have hsw := HI.out.2.size
      have hki : (k : Int) < n := by omega
      go_wp2_with (fail)
      have H0 : Hid (IntsO 3 wo.heap.size (wo.alloc (.cells #[] 3)).heap.size (wo.alloc (.cells #[] 3)) (.slice (some ⟨wo.heap.size, 0, none⟩) 0 0) [] ∧ Grew wo (wo.alloc (.cells #[] 3))) :=
        ⟨by simpa using IntsO.lit 3 wo.heap.size wo [] #[] rfl (Nat.le_refl _) (by decide), (Grew.refl wo).alloc _⟩
      go_loopg [9, 10] m (fun gk v i wi => ∃ (j g' c' : Nat), v = .slice (some ⟨g', 0, none⟩) j c' ∧ i = .int .i64 (j : Int) ∧ j ≤ m ∧ m ≤ gk + j ∧ Hid (IntsO 3 wo.heap.size wi.heap.size wi v (List.replicate j y) ∧ Grew wo wi))
      case atStart => exact ⟨0, _, _, rfl, rfl, Nat.zero_le _, Nat.le_refl _, H0.out⟩
      case round =>
        obtain ⟨j, g', c2, rfl, rfl, hj1, hj2, HX⟩ := hrel
        clear H0
        by_cases hltx : j < m
        · have hji : (j : Int) < m := by omega
          go_wp2_with (at_builtin; refine wpList_append_int rfl (.tmp 23) (.tmp 25) 34 rfl Try.underlying34 Try.infoI rfl rfl (by simp) HX.out.1 (by simp; omega) HX.out.2.size ?_; intro g5 c5 w5 hO5 hW5 hS5)
          have HF : Hid (IntsO 3 wo.heap.size w5.heap.size w5 (.slice (some ⟨g5, 0, none⟩) (j + 1) c5) (List.replicate (j + 1) y) ∧ Grew wo w5) := by
            rw [List.replicate_succ']
            simp only [List.length_replicate] at hO5
            exact ⟨hO5, hW5.grew HX.out.2 (Nat.le_refl _)⟩
          clear hO5 hW5
          go_wp2
          go_roundg (gk - 1)
          case measure => omega
          case rel => exact ⟨j + 1, g5, c5, by simp, by go_num, by omega, by omega, HF.out⟩
        · obtain rfl : j = m := by omega
          have hn' : ¬ (j : Int) < j := by omega
          go_wp2_with (at_builtin; refine wpList_append_row rfl (.tmp 27) (.tmp 29) 23 rfl (by decide) Try.underlying23 Try.infoIs rfl rfl (by simp) (HI.out.1.grew HX.out.2) HX.out.1 (by simp; omega) (by have := HX.out.2.size; omega) hsw ?_; intro g5 c5 w5 hO5 hW5 hS5)
          have HF : Hid (RowsO 34 3 w.heap.size w5.heap.size w5 (.slice (some ⟨g5, 0, none⟩) (k + 1) c5) (List.replicate (k + 1) (List.replicate j y)) ∧ Grew w w5) := by
            rw [List.replicate_succ']
            simp only [List.length_replicate] at hO5
            exact ⟨hO5, hW5.grew (HI.out.2.trans HX.out.2) (Nat.le_refl _)⟩
          clear hO5 hW5
          go_wp2
          go_roundg (gn - 1)
          case measure => omega
          case rel => exact ⟨k + 1, g5, c5, by simp, by go_num, by omega, by omega, HF.out⟩
    · obtain rfl : k = n := by omega
      go_wp2
      go_ret
      exact ⟨_, rfl, HI.out⟩

end Go.Proofs.Ythgafljbbkgldaa
