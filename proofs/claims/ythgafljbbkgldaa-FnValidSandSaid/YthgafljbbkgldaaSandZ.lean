/- The contract of impl.ZeroSand. -/
import Derived.Test.YthgafljbbkgldaaSandI
import Derived.Test.YthgafljbbkgldaaRepeat
import Derived.Lib.MinMax
namespace Go.Proofs.Ythgafljbbkgldaa
open Go.RowKit

/-- Rows of sand are sand. -/
theorem vSand_shape {n m : Nat} {x : List Int} (hb : Box n m) (hl : x.length = n * m) (hx : ∀ j, j < n * m → 0 ≤ x.getD j 0 ∧ x.getD j 0 ≤ 9) : vSand (shapeL x m n) = true := by
  have hrow : ∀ r, r < n → ((shapeL x m n).getD r []).length = m := fun r hr => shapeL_row _ _ _ _ hl hr
  have h0 := hrow 0 hb.1.1
  unfold vSand vRows
  rw [Bool.and_eq_true, Bool.and_eq_true, decide_eq_true_eq, decide_eq_true_eq, h0, shapeL_len]
  refine ⟨hb.1, all_of_get [] fun r hr => ?_⟩
  rw [shapeL_len] at hr
  rw [Bool.and_eq_true, decide_eq_true_eq]
  refine ⟨hrow r hr, ?_⟩
  unfold vNums
  rw [Bool.and_eq_true, Bool.and_eq_true, decide_eq_true_eq, decide_eq_true_eq, hrow r hr]
  refine ⟨⟨hb.2.1, by have := hb.2.2; omega⟩, all_of_get 0 fun c hc => ?_⟩
  rw [hrow r hr] at hc
  rw [shapeL_at _ _ _ _ hr, cut_at _ _ _ _ hc]
  have hlt : r * m + c < n * m := by
    have := Nat.mul_le_mul_right m (show r + 1 ≤ n from hr)
    rw [Nat.succ_mul] at this
    omega
  have := hx _ hlt
  simp [okN] at this ⊢
  omega
theorem shape_first {n m : Nat} {x : List Int} (hb : Box n m) (hl : x.length = n * m) : ((shapeL x m n).getD 0 []).length = m := shapeL_row _ _ _ _ hl hb.1.1
theorem calmX_shape {n m : Nat} {x : List Int} (hb : Box n m) (hl : x.length = n * m) (hx : ∀ j, j < n * m → 0 ≤ x.getD j 0 ∧ x.getD j 0 ≤ 9) : calmX (shapeL x m n) = shapeL (calmL n m x) m n := by
  rw [calmX, if_pos (vSand_shape hb hl hx), shape_first hb hl, shapeL_len, shapeL_flat _ _ _ hl]
theorem shapeL_put {n m : Nat} {z : List Int} {k j : Nat} (hk : k < n) (hj : j < m) (v : Int) : (shapeL z m n).set k (((shapeL z m n).getD k []).set j v) = shapeL (z.set (k * m + j) v) m n := by
  apply List.ext_getElem
  · rw [List.length_set, shapeL_len, shapeL_len]
  · intro r h1 h2
    rw [shapeL_len] at h2
    have hg : ∀ z : List Int, ∀ h : r < (shapeL z m n).length, (shapeL z m n)[r] = (z.drop (r * m)).take m := fun z h => by
      have := shapeL_at z m n r h2
      simpa [h] using this
    rw [List.getElem_set, hg _ (by rw [shapeL_len]; exact h2), hg, shapeL_at _ _ _ _ hk]
    have hrm : r * m + m ≤ n * m := by
      have := Nat.mul_le_mul_right m (show r + 1 ≤ n from h2)
      rw [Nat.succ_mul] at this
      exact this
    apply List.ext_getElem
    · split <;> simp
      · next e => subst e; simp
    · intro i h3 h4
      have hi : i < m := by simp at h4; omega
      rw [List.getElem_take, List.getElem_drop, List.getElem_set]
      by_cases e : k = r
      · subst e
        simp only [if_true, List.getElem_set, List.getElem_take, List.getElem_drop]
        by_cases e2 : j = i
        · subst e2; simp
        · simp [e2]
      · simp only [e, if_false, List.getElem_take, List.getElem_drop]
        have e3 : ¬ k * m + j = r * m + i := by
          intro he
          have h5 : (k * m + j) / m = k := by rw [Nat.mul_comm, Nat.mul_add_div (by omega), Nat.div_eq_of_lt hj]; rfl
          have h6 : (r * m + i) / m = r := by rw [Nat.mul_comm, Nat.mul_add_div (by omega), Nat.div_eq_of_lt hi]; rfl
          rw [he, h6] at h5
          exact e h5.symm
        simp [e3]
/-- The first k differences. -/
def lessK (x y : List Int) (k : Nat) : List Int := (List.zipWith (· - ·) x y).take k ++ x.drop k
theorem lessK_len {N : Nat} {x y : List Int} (hx : x.length = N) (hy : y.length = N) (k : Nat) (hk : k ≤ N) : (lessK x y k).length = N := by
  simp [lessK, hx, hy]
  omega
theorem lessK_succ {N : Nat} {x y : List Int} (hx : x.length = N) (hy : y.length = N) (k : Nat) (hk : k < N) : lessK x y (k + 1) = (lessK x y k).set k (x.getD k 0 - y.getD k 0) := by
  apply List.ext_getElem
  · rw [lessK_len hx hy _ (by omega), List.length_set, lessK_len hx hy _ (by omega)]
  · intro i h1 h2
    rw [List.getElem_set]
    have h3 : i < N := by rwa [lessK_len hx hy _ (by omega)] at h1
    by_cases e : k = i
    · subst e
      rw [if_pos rfl]
      simp only [lessK]
      rw [List.getElem_append_left (by simp; omega), List.getElem_take, List.getElem_zipWith]
      simp [hx, hy, hk]
    · rw [if_neg e]
      simp only [lessK]
      by_cases hlt : i < k
      · rw [List.getElem_append_left (by simp; omega), List.getElem_append_left (by simp; omega), List.getElem_take, List.getElem_take]
      · rw [List.getElem_append_right (by simp; omega), List.getElem_append_right (by simp; omega), List.getElem_drop, List.getElem_drop]
        congr 1
        simp only [List.length_take, List.length_zipWith, hx, hy]
        omega
theorem lessK_at {N : Nat} {x y : List Int} (hx : x.length = N) (hy : y.length = N) (k : Nat) (hk : k < N) : (lessK x y k).getD k 0 = x.getD k 0 := by
  simp only [lessK, List.getD_eq_getElem?_getD]
  rw [List.getElem?_append_right (by simp; omega), List.getElem?_drop]
  congr 2
  simp only [List.length_take, List.length_zipWith, hx, hy]
  omega
theorem lessK_all {N : Nat} {x y : List Int} (hx : x.length = N) (hy : y.length = N) : lessK x y N = List.zipWith (· - ·) x y := by
  unfold lessK
  rw [List.take_of_length_le (by simp; omega), List.drop_of_length_le (by omega), List.append_nil]

/-- What ZeroSand answers. -/
def zeroX (r c : Int) : List (List Int) := if 1 ≤ r ∧ r ≤ 4 ∧ 1 ≤ c ∧ c ≤ 4 then shapeL (zeroL r.toNat c.toNat) c.toNat r.toNat else []
theorem six_sandy {n m : Nat} (hb : Box n m) : Sandy n m (List.replicate (n * m) 6) ∧ ∀ j, j < n * m → 0 ≤ (List.replicate (n * m) (6 : Int)).getD j 0 ∧ (List.replicate (n * m) (6 : Int)).getD j 0 ≤ 9 := by
  have : ∀ j, j < n * m → (List.replicate (n * m) (6 : Int)).getD j 0 = 6 := fun j hj => by simp [List.getD_eq_getElem?_getD, hj]
  exact ⟨⟨hb, by simp, fun j hj => by rw [this j hj]; omega⟩, fun j hj => by rw [this j hj]; omega⟩
theorem rest_sandy {n m : Nat} (hb : Box n m) : Sandy n m (restL n m) ∧ ∀ j, j < n * m → 0 ≤ (restL n m).getD j 0 ∧ (restL n m).getD j 0 ≤ 9 := by
  obtain ⟨h1, h2, _⟩ := zero_facts hb
  exact ⟨⟨hb, h1, fun j hj => by have := h2 j hj; omega⟩, fun j hj => by have := h2 j hj; omega⟩

end Go.Proofs.Ythgafljbbkgldaa
