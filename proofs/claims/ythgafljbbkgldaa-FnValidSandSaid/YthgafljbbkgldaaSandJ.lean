/- The contract of impl.AddSand. -/
import Derived.Test.YthgafljbbkgldaaSandI
namespace Go.Proofs.Ythgafljbbkgldaa
open Go.RowKit

/-- Two sands that can be added. -/
def addOk (a b : List (List Int)) : Bool := vSand a && vSand b && decide (a.length = b.length) && decide ((a.getD 0 []).length = (b.getD 0 []).length)
def addX (a b : List (List Int)) : List (List Int) := if addOk a b = true then shapeL (calmL a.length (a.getD 0 []).length (plusL a.flatten b.flatten)) (a.getD 0 []).length a.length else []
theorem plus_sandy {a b : List (List Int)} (h : addOk a b = true) : Sandy a.length (a.getD 0 []).length (plusL a.flatten b.flatten) ∧ a.flatten.length = a.length * (a.getD 0 []).length ∧ b.flatten.length = a.length * (a.getD 0 []).length ∧ (∀ j, j < a.length * (a.getD 0 []).length → (0 ≤ a.flatten.getD j 0 ∧ a.flatten.getD j 0 ≤ 9) ∧ 0 ≤ b.flatten.getD j 0 ∧ b.flatten.getD j 0 ≤ 9) := by
  unfold addOk at h
  simp only [Bool.and_eq_true, decide_eq_true_eq] at h
  obtain ⟨⟨⟨ha, hb⟩, hl⟩, hm⟩ := h
  obtain ⟨_, sa, na, _⟩ := sand_of ha
  obtain ⟨_, sb, nb, _⟩ := sand_of hb
  rw [← hl, ← hm] at sb nb
  refine ⟨⟨sa.box, plusL_len sa.len sb.len, fun j hj => ?_⟩, sa.len, sb.len, fun j hj => ⟨na j hj, nb j hj⟩⟩
  rw [plusL_get sa.len sb.len j hj]
  have := na j hj
  have := nb j hj
  omega
/-- The first k sums. -/
def plusK (x y : List Int) (k : Nat) : List Int := (plusL x y).take k ++ x.drop k
theorem plusK_len {N : Nat} {x y : List Int} (hx : x.length = N) (hy : y.length = N) (k : Nat) (hk : k ≤ N) : (plusK x y k).length = N := by
  have := plusL_len hx hy
  simp [plusK, hx, this]
  omega
theorem plusK_succ {N : Nat} {x y : List Int} (hx : x.length = N) (hy : y.length = N) (k : Nat) (hk : k < N) : plusK x y (k + 1) = (plusK x y k).set k (x.getD k 0 + y.getD k 0) := by
  have hp := plusL_len hx hy
  apply List.ext_getElem
  · rw [plusK_len hx hy _ (by omega), List.length_set, plusK_len hx hy _ (by omega)]
  · intro i h1 h2
    rw [List.getElem_set]
    have h3 : i < N := by rwa [plusK_len hx hy _ (by omega)] at h1
    by_cases e : k = i
    · subst e
      rw [if_pos rfl]
      have := plusL_get hx hy k hk
      simp only [plusK]
      rw [List.getElem_append_left (by simp; omega), List.getElem_take]
      rw [← this]
      simp [hp, hk]
    · rw [if_neg e]
      simp only [plusK]
      by_cases hlt : i < k
      · rw [List.getElem_append_left (by simp; omega), List.getElem_append_left (by simp; omega), List.getElem_take, List.getElem_take]
      · rw [List.getElem_append_right (by simp; omega), List.getElem_append_right (by simp; omega), List.getElem_drop, List.getElem_drop]
        congr 1
        simp only [List.length_take, hp]
        omega
theorem plusK_at {N : Nat} {x y : List Int} (hx : x.length = N) (hy : y.length = N) (k : Nat) (hk : k < N) : (plusK x y k).getD k 0 = x.getD k 0 := by
  have hp := plusL_len hx hy
  simp only [plusK, List.getD_eq_getElem?_getD]
  rw [List.getElem?_append_right (by simp; omega), List.getElem?_drop]
  congr 2
  simp only [List.length_take, hp]
  omega
theorem plusK_all {N : Nat} {x y : List Int} (hx : x.length = N) (hy : y.length = N) : plusK x y N = plusL x y := by
  have hp := plusL_len hx hy
  unfold plusK
  rw [List.take_of_length_le (by omega), List.drop_of_length_le (by omega), List.append_nil]

end Go.Proofs.Ythgafljbbkgldaa
