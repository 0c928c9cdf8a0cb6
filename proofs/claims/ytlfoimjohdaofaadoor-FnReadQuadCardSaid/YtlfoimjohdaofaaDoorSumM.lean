/- Sums of parts of a grid, as lists. -/
import Derived.Test.YtlfoimjohdaofaaDoorSumTo
import Derived.Test.YtlfoimjohdaofaaDoorTurns
import Derived.Test.YtlfoimjohdaofaaDoorShaped
namespace Go.Proofs.YtlfoimjohdaofaaDoor
open Go.RowKit

theorem sumTo_splitS (f : Nat → Int) (a : Nat) : ∀ b, sumTo f (a + b) = sumTo f a + sumTo (fun i => f (a + i)) b
  | 0 => by simp [sumTo]
  | b + 1 => by rw [← Nat.add_assoc, sumTo, sumTo, sumTo_splitS f a b]; omega
/-- A table of n rows of m numbers. -/
def tabR (n m : Nat) (f : Nat → Nat → Int) : List (List Int) := (List.range n).map fun i => (List.range m).map (f i)
theorem tabR_len (n m : Nat) (f : Nat → Nat → Int) : (tabR n m f).length = n := by simp [tabR]
theorem tabR_row (n m : Nat) (f : Nat → Nat → Int) (i : Nat) (h : i < n) : (tabR n m f).getD i [] = (List.range m).map (f i) := by simp [tabR, h]
theorem tabR_rowlen (n m : Nat) (f : Nat → Nat → Int) (i : Nat) (h : i < n) : ((tabR n m f).getD i []).length = m := by rw [tabR_row n m f i h]; simp
theorem tabR_at (n m : Nat) (f : Nat → Nat → Int) (i j : Nat) (h : i < n) (k : j < m) : ((tabR n m f).getD i []).getD j 0 = f i j := by rw [tabR_row n m f i h]; simp [k]
theorem tabR_congr {n m : Nat} {f g : Nat → Nat → Int} (h : ∀ i j, i < n → j < m → f i j = g i j) : tabR n m f = tabR n m g := by
  unfold tabR
  refine List.map_congr_left fun i hi => List.map_congr_left fun j hj => ?_
  exact h i j (List.mem_range.1 hi) (List.mem_range.1 hj)
theorem tabR_set (n m : Nat) (f : Nat → Nat → Int) (i j : Nat) (x : Int) (h : i < n) : (tabR n m f).set i (((tabR n m f).getD i []).set j x) = tabR n m (fun a b => if a = i ∧ b = j then x else f a b) := by
  rw [tabR_row n m f i h]
  apply List.ext_getElem
  · simp [tabR]
  · intro a h1 h2
    simp only [tabR, List.getElem_set, List.getElem_map, List.getElem_range]
    split
    · rename_i e
      subst e
      apply List.ext_getElem
      · simp
      · intro b k1 k2
        simp only [List.getElem_set, List.getElem_map, List.getElem_range]
        by_cases e : j = b
        · subst e; simp
        · rw [if_neg e, if_neg (fun h => e h.2.symm)]
    · rename_i e
      refine List.map_congr_left fun b _ => ?_
      rw [if_neg (fun h => e h.1.symm)]
theorem shapeL_zero (n m : Nat) : shapeL (List.replicate (n * m) 0) m n = tabR n m (fun _ _ => 0) := by
  unfold shapeL tabR
  refine List.map_congr_left fun i hi => ?_
  have hi' := List.mem_range.1 hi
  have hm := Nat.mul_le_mul_right m (show i + 1 ≤ n from hi')
  rw [Nat.succ_mul] at hm
  apply List.ext_getElem
  · simp; omega
  · intro b k1 k2
    simp
/-- Rows of one length, as a table. -/
theorem tabR_self {h : List (List Int)} {m : Nat} (hl : ∀ r, r < h.length → (h.getD r []).length = m) : tabR h.length m (fun i j => (h.getD i []).getD j 0) = h := by
  apply List.ext_getElem
  · simp [tabR]
  · intro i h1 h2
    have e : h.getD i [] = h[i] := by simp [h2]
    have hl' := hl i h2
    rw [e] at hl'
    simp only [tabR, List.getElem_map, List.getElem_range]
    apply List.ext_getElem
    · simp [hl']
    · intro j k1 k2
      simp [h2, k2]
theorem tabR_flip (n m : Nat) (hn : 1 ≤ n) (f : Nat → Nat → Int) : flipL (tabR n m f) = tabR m n (fun i j => f j i) := by
  unfold flipL
  rw [tabR_row n m f 0 hn]
  simp [tabR]
  intro a ha b _
  simp [ha]
/-- A number of a grid. -/
def cellS (h : List (List Int)) (i j : Nat) : Int := (h.getD i []).getD j 0
/-- The sum of the first c numbers of the first r rows. -/
def preS (h : List (List Int)) (r c : Nat) : Int := sumTo (fun i => sumTo (cellS h i) c) r
/-- The sum of a part. -/
def partS (h : List (List Int)) (t l b r : Nat) : Int := sumTo (fun i => sumTo (fun j => cellS h (t + i) (l + j)) (r - l)) (b - t)
theorem preS_row (h : List (List Int)) (c : Nat) : preS h 0 c = 0 := rfl
theorem preS_col (h : List (List Int)) (r : Nat) : preS h r 0 = 0 := by
  unfold preS
  exact (sumTo_congr fun _ _ => rfl).trans (sumTo_zero r)
theorem preS_down (h : List (List Int)) (r c : Nat) : preS h (r + 1) c = preS h r c + sumTo (cellS h r) c := rfl
theorem preS_next (h : List (List Int)) (r c : Nat) : preS h (r + 1) (c + 1) = preS h r (c + 1) + preS h (r + 1) c - preS h r c + cellS h r c := by
  rw [preS_down, preS_down h r c, sumTo]; omega
theorem part_pre (h : List (List Int)) (t l b r : Nat) (htb : t ≤ b) (hlr : l ≤ r) : preS h b r - preS h b l - preS h t r + preS h t l = partS h t l b r := by
  have e : ∀ c, preS h b c - preS h t c = sumTo (fun i => sumTo (cellS h (t + i)) c) (b - t) := fun c => by
    have := sumTo_splitS (fun i => sumTo (cellS h i) c) t (b - t)
    rw [show t + (b - t) = b by omega] at this
    unfold preS
    rw [this]; omega
  have e1 := e r
  have e2 := e l
  have e3 : partS h t l b r = sumTo (fun i => sumTo (cellS h (t + i)) r - sumTo (cellS h (t + i)) l) (b - t) := by
    unfold partS
    refine sumTo_congr fun i _ => ?_
    have := sumTo_splitS (cellS h (t + i)) l (r - l)
    rw [show l + (r - l) = r by omega] at this
    rw [this]; omega
  rw [sumTo_sub] at e3
  omega
theorem preS_bd {h : List (List Int)} {m : Nat} (G : Grid h m) (r c : Nat) (hr : r ≤ h.length) (hc : c ≤ m) : 0 ≤ preS h r c ∧ preS h r c ≤ 300 := by
  have h1 : ∀ i, i < r → 0 ≤ sumTo (cellS h i) c ∧ sumTo (cellS h i) c ≤ 60 := fun i hi => by
    have := sumTo_bd (f := cellS h i) 0 12 (k := c) fun j hj => G.num i (by omega) j (by omega)
    have := G.m5
    omega
  have := sumTo_bd (f := fun i => sumTo (cellS h i) c) 0 60 (k := r) h1
  have := G.n5
  unfold preS
  omega
theorem partS_bd {h : List (List Int)} {m : Nat} (G : Grid h m) (t l b r : Nat) (hb : b ≤ h.length) (hr : r ≤ m) : 0 ≤ partS h t l b r ∧ partS h t l b r ≤ 300 := by
  have h1 : ∀ i, i < b - t → 0 ≤ sumTo (fun j => cellS h (t + i) (l + j)) (r - l) ∧ sumTo (fun j => cellS h (t + i) (l + j)) (r - l) ≤ 60 := fun i hi => by
    have := sumTo_bd (f := fun j => cellS h (t + i) (l + j)) 0 12 (k := r - l) fun j hj => G.num (t + i) (by omega) (l + j) (by omega)
    have := G.m5
    omega
  have := sumTo_bd (f := fun i => sumTo (fun j => cellS h (t + i) (l + j)) (r - l)) 0 60 (k := b - t) h1
  have := G.n5
  unfold partS
  omega
/-- The sums of all cells above and ahead. -/
def sumsL (h : List (List Int)) (m : Nat) : List (List Int) := tabR (h.length + 1) (m + 1) (preS h)
/-- As far as row r, and the numbers up to c of the row behind. -/
def midS (h : List (List Int)) (r c : Nat) (i j : Nat) : Int := if i ≤ r ∨ (i = r + 1 ∧ j ≤ c) then preS h i j else 0
theorem midS_zero (h : List (List Int)) (n m : Nat) : tabR n m (midS h 0 0) = tabR n m (fun _ _ => 0) := tabR_congr fun i j _ _ => by
  unfold midS
  split
  · rename_i e
    rcases e with e | ⟨_, e⟩
    · obtain rfl : i = 0 := by omega
      exact preS_row h j
    · obtain rfl : j = 0 := by omega
      exact preS_col h i
  · rfl
theorem midS_next (h : List (List Int)) (n m r : Nat) : tabR n (m + 1) (midS h r m) = tabR n (m + 1) (midS h (r + 1) 0) := tabR_congr fun i j _ hj => by
  unfold midS
  by_cases h1 : i ≤ r
  · rw [if_pos (.inl h1), if_pos (.inl (by omega))]
  · by_cases h2 : i = r + 1
    · rw [if_pos (.inr ⟨h2, by omega⟩), if_pos (.inl (by omega))]
    · rw [if_neg (by omega)]
      by_cases h3 : i = r + 1 + 1 ∧ j ≤ 0
      · rw [if_pos (.inr h3)]
        obtain rfl : j = 0 := by omega
        exact (preS_col h i).symm
      · rw [if_neg (by omega)]
theorem midS_end (h : List (List Int)) (n m c : Nat) : tabR (n + 1) m (midS h n c) = tabR (n + 1) m (preS h) := tabR_congr fun i j hi _ => by
  unfold midS
  rw [if_pos (.inl (by omega))]
theorem midS_set (h : List (List Int)) (n m r c : Nat) (hr : r + 1 < n) (x : Int) (hx : x = preS h (r + 1) (c + 1)) : (tabR n m (midS h r c)).set (r + 1) (((tabR n m (midS h r c)).getD (r + 1) []).set (c + 1) x) = tabR n m (midS h r (c + 1)) := by
  rw [tabR_set _ _ _ _ _ _ hr]
  refine tabR_congr fun i j _ _ => ?_
  by_cases e : i = r + 1 ∧ j = c + 1
  · rw [if_pos e, hx, e.1, e.2]
    unfold midS
    rw [if_pos (.inr ⟨rfl, Nat.le_refl _⟩)]
  · rw [if_neg e]
    unfold midS
    by_cases h1 : i ≤ r ∨ (i = r + 1 ∧ j ≤ c)
    · rw [if_pos h1, if_pos (by omega)]
    · rw [if_neg h1, if_neg (by omega)]
end Go.Proofs.YtlfoimjohdaofaaDoor
