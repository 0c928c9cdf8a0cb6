/- The contract of spec.shaped: a list cut into rows. -/
import Derived.Test.YtlfoimjohdaofaaDoorRowOf
namespace Go.Proofs.YtlfoimjohdaofaaDoor
open Go.RowKit

/-- The first k rows of m. -/
def shapeL (xs : List Int) (m k : Nat) : List (List Int) := (List.range k).map fun r => (xs.drop (r * m)).take m
theorem shapeL_len (xs : List Int) (m k : Nat) : (shapeL xs m k).length = k := by simp [shapeL]
theorem shapeL_succ (xs : List Int) (m k : Nat) : shapeL xs m (k + 1) = shapeL xs m k ++ [(xs.drop (k * m)).take m] := by simp [shapeL, List.range_succ]
theorem shapeL_at (xs : List Int) (m k r : Nat) (h : r < k) : (shapeL xs m k).getD r [] = (xs.drop (r * m)).take m := by simp [shapeL, h]
theorem cut_len (xs : List Int) (m I : Nat) (h : I + m ≤ xs.length) : ((xs.drop I).take m).length = m := by simp; omega
theorem cut_at (xs : List Int) (m I i : Nat) (h : i < m) : ((xs.drop I).take m).getD i 0 = xs.getD (I + i) 0 := by
  simp [h]

set_option maxRecDepth 100000 in
set_option maxHeartbeats 1000000 in
theorem shaped_any (v : Value) (xs : List Int) (n m : Nat) (w : World) (hv : IntsV w v xs) (hl : xs.length = n * m) (hn5 : n ≤ 5) (hm1 : 1 ≤ m) (hm5 : m ≤ 5) :
    Calls Tryd.prog 33 #[v, .int .i64 m] w (NewRows w (shapeL xs m n)) := by
  obtain ⟨a, b, o, c, rfl, ⟨hlc, hcb⟩, ha, HC⟩ := hv.shape
  have hN : n * m ≤ 25 := Nat.mul_le_mul hn5 hm5
  have HA := Lib.hid ha
  obtain ⟨N, eN⟩ : ∃ N, xs.length = N := ⟨_, rfl⟩
  have HL := Lib.hid (And.intro hl eN)
  have hN2 : N ≤ 25 := by omega
  rw [eN] at hlc HA ⊢
  clear hv ha hl eN hN
  go_enter Tryd.func33, Tryd.ntmps33
  go_wp2_with (fail)
  have H0 : Hid (RowsO 28 3 w.heap.size (w.alloc (.cells #[] 28)).heap.size (w.alloc (.cells #[] 28)) (.slice (some ⟨w.heap.size, 0, none⟩) 0 0) [] ∧ Grew w (w.alloc (.cells #[] 28))) :=
    ⟨by simpa using RowsO.lit0 28 3 w.heap.size w (Nat.le_refl _), (Grew.refl w).alloc _⟩
  go_loopg [5, 6] n (fun gk v i wr => ∃ k I g c', v = .slice (some ⟨g, 0, none⟩) k c' ∧ i = .int .i64 ((I : Nat) : Int) ∧ I = k * m ∧ k ≤ n ∧ n ≤ gk + k ∧
    Hid (RowsO 28 3 w.heap.size wr.heap.size wr v (shapeL xs m k) ∧ Grew w wr))
  case atStart => exact ⟨0, 0, _, _, rfl, rfl, by simp, Nat.zero_le _, by omega, H0⟩
  case round =>
    obtain ⟨k, I, g, c', rfl, rfl, hI, hk1, hk2, HI⟩ := hrel
    clear H0
    have hNm : N = n * m := by rw [← HL.out.2, HL.out.1]
    by_cases hlt : k < n
    · have hIm : I + m ≤ N := by
        have := Nat.mul_le_mul_right m (show k + 1 ≤ n from hlt)
        rw [Nat.succ_mul] at this
        omega
      have hwr : IntKind.i64.wrap ((I : Int) + (m : Int)) = (I : Int) + (m : Int) := by rw [IntKind.wrap_i64]; omega
      have hsl : (I : Int) + (m : Int) ≤ c := by omega
      obtain rfl := HA.out (by omega)
      obtain ⟨ys, eys⟩ : ∃ ys, (xs.drop I).take m = ys := ⟨_, rfl⟩
      have hyl : ys.length = m := by rw [← eys]; exact cut_len xs m I (by rw [HL.out.2]; exact hIm)
      have HR : Hid (∀ i, i < ys.length → (wr.alloc (.cells #[] 3)).cell? ⟨b, o + I + i, none⟩ = some (.int .i64 (ys.getD i 0))) := by
        refine Lib.hid fun i hi => ?_
        rw [hyl] at hi
        rw [← eys, cut_at xs m I i hi, Nat.add_assoc]
        exact ((Grew.refl wr).alloc _).cell (HI.out.2.cell (HC.out (I + i) (by rw [HL.out.2]; omega)))
      have HY : Hid (shapeL xs m k ++ [ys] = shapeL xs m (k + 1)) := Lib.hid (by rw [shapeL_succ, ← eys, hI])
      have H1 : Hid (IntsO 3 wr.heap.size (wr.alloc (.cells #[] 3)).heap.size (wr.alloc (.cells #[] 3)) (.slice (some ⟨wr.heap.size, 0, none⟩) 0 0) []) :=
        Lib.hid (by simpa using IntsO.lit 3 wr.heap.size wr [] #[] rfl (Nat.le_refl _) (by decide))
      have HL1 : Hid (0 < ys.length ∧ ([] : List Int).length + ys.length ≤ 17592186044416 ∧ wr.heap.size ≤ (wr.alloc (.cells #[] 3)).heap.size) := Lib.hid ⟨by omega, by simp; omega, by simp⟩
      have HYL := Lib.hid hyl
      have HYI : Hid (ys.length = I + m - I) := Lib.hid (by omega)
      have hsz := HI.out.2.size
      have hlt2 : (I : Int) < N := by omega
      have hci : ¬ c = I := by omega
      have hci2 : ¬ c - I = 0 := by omega
      have HSL := Lib.hid (shapeL_len xs m k)
      have HNX : Hid ((I + m : Nat) = (k + 1) * m) := Lib.hid (by rw [Nat.succ_mul, hI])
      clear hI hNm eys hyl
      go_wp2_with (first
        | (at_builtin; go_loud (refine wpList_append_ints rfl (.tmp 16) (.tmp 22) 28 rfl Tryd.underlying28 Tryd.infoI rfl (by rw [HYI.out]; rfl) HR.out H1.out HL1.out.1 HL1.out.2.1 HL1.out.2.2 ?_; intro g5 c5 w5 hO5 hW5; simp only [List.length_nil, Nat.zero_add, List.nil_append, HYL.out] at hO5 ⊢; have HO := Lib.hid (And.intro hO5 (hW5.grew ((Grew.refl wr).alloc _) (Nat.le_refl _))); clear hO5 hW5))
        | (at_builtin; refine wpList_append_row rfl (.tmp 15) (.tmp 24) 23 rfl (by decide) Tryd.underlying23 Tryd.infoIs rfl rfl rfl (HI.out.1.grew HO.out.2) HO.out.1 (by rw [HSL.out]; omega) (by have := HO.out.2.size; omega) hsz ?_; rw [HSL.out]; intro g6 c6 w6 hO6 hW6 hS6))
      trace_state
      have HF : Hid (RowsO 28 3 w.heap.size w6.heap.size w6 (.slice (some ⟨g6, 0, none⟩) (k + 1) c6) (shapeL xs m (k + 1)) ∧ Grew w w6) :=
        Lib.hid ⟨by rw [← HY.out]; exact hO6, hW6.grew (HI.out.2.trans HO.out.2) (Nat.le_refl _)⟩
      clear hO6 hW6
      go_wp2
      go_roundg (gk - 1)
      case measure => omega
      case rel => exact ⟨k + 1, I + m, g6, c6, rfl, by go_num, HNX.out, by omega, by omega, HF.out⟩
    · obtain rfl : k = n := by omega
      have hge : ¬ (I : Int) < N := by omega
      clear hI hNm
      go_wp2
      go_ret
      exact ⟨_, rfl, HI.out.1, HI.out.2⟩
end Go.Proofs.YtlfoimjohdaofaaDoor
