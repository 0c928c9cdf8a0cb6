/- How far water rises in a pit, as lists: the least rise of a way to a cell to which water comes earlier. -/
import Derived.Test.YtaeenedjmakelaaDoorWays
import Derived.Test.YtaeenedjmakelaaDoorEnds4
namespace Go.Proofs.YtaeenedjmakelaaDoor
open Go.RowKit

/-- Water that rises comes to x before i. -/
def ahead (p : List Int) (x i : Nat) : Bool := decide (p.getD x 0 < p.getD i 0) || (decide (p.getD x 0 = p.getD i 0) && decide (x < i))
theorem ahead_iff {p : List Int} {x i : Nat} : ahead p x i = true ↔ p.getD x 0 < p.getD i 0 ∨ p.getD x 0 = p.getD i 0 ∧ x < i := by simp [ahead]
/-- The rises to the cells before k that are ahead of i. -/
noncomputable def riseL (n m : Nat) (p : List Int) (i : Nat) : Nat → List Int
  | 0 => []
  | k + 1 => if ahead p k i then riseL n m p i k ++ [passN n m p i k - p.getD i 0] else riseL n m p i k
theorem riseL_yes {n m i k : Nat} {p : List Int} (h : ahead p k i = true) : riseL n m p i (k + 1) = riseL n m p i k ++ [passN n m p i k - p.getD i 0] := by rw [riseL, if_pos h]
theorem riseL_no {n m i k : Nat} {p : List Int} (h : ahead p k i = false) : riseL n m p i (k + 1) = riseL n m p i k := by rw [riseL, if_neg (by rw [h]; simp)]
theorem riseL_le (n m : Nat) (p : List Int) (i : Nat) : ∀ k, (riseL n m p i k).length ≤ k
  | 0 => Nat.le_refl _
  | k + 1 => by
    have := riseL_le n m p i k
    rw [riseL]
    split
    · simp only [List.length_append, List.length_singleton]; omega
    · omega
/-- The least of the first k + 1. -/
def minU (xs : List Int) : Nat → Int
  | 0 => xs.getD 0 0
  | k + 1 => min (minU xs k) (xs.getD (k + 1) 0)
theorem minU_ext {xs ys : List Int} : ∀ k, (∀ j, j ≤ k → xs.getD j 0 = ys.getD j 0) → minU xs k = minU ys k
  | 0, h => h 0 (Nat.le_refl _)
  | k + 1, h => by rw [minU, minU, minU_ext k fun j hj => h j (by omega), h (k + 1) (Nat.le_refl _)]
/-- The least rise so far; -1: none. -/
noncomputable def bestU (n m : Nat) (p : List Int) (i : Nat) : Nat → Int
  | 0 => -1
  | k + 1 => if ahead p k i then (if bestU n m p i k < 0 ∨ passN n m p i k - p.getD i 0 < bestU n m p i k then passN n m p i k - p.getD i 0 else bestU n m p i k) else bestU n m p i k
theorem bestU_no {n m i k : Nat} {p : List Int} (h : ahead p k i = false) : bestU n m p i (k + 1) = bestU n m p i k := by rw [bestU, if_neg (by rw [h]; simp)]
theorem bestU_yes {n m i k : Nat} {p : List Int} (h : ahead p k i = true) (h2 : bestU n m p i k < 0 ∨ passN n m p i k - p.getD i 0 < bestU n m p i k) : bestU n m p i (k + 1) = passN n m p i k - p.getD i 0 := by rw [bestU, if_pos h, if_pos h2]
theorem bestU_keep {n m i k : Nat} {p : List Int} (h : ahead p k i = true) (h2 : ¬ (bestU n m p i k < 0 ∨ passN n m p i k - p.getD i 0 < bestU n m p i k)) : bestU n m p i (k + 1) = bestU n m p i k := by rw [bestU, if_pos h, if_neg h2]
section
variable {n m : Nat} {p : List Int} (hn : n ≤ 5) (hm : m ≤ 5) (hp : ∀ i, i < n * m → 0 ≤ p.getD i 0 ∧ p.getD i 0 ≤ 12)
include hn hm hp
theorem bestU_ok {i : Nat} (hi : i < n * m) : ∀ k, k ≤ n * m → (bestU n m p i k = -1 ∧ ∀ x, x < k → ahead p x i = false) ∨
    ((∃ x, x < k ∧ ahead p x i = true ∧ bestU n m p i k = passN n m p i x - p.getD i 0) ∧ 0 ≤ bestU n m p i k ∧ ∀ x, x < k → ahead p x i = true → bestU n m p i k ≤ passN n m p i x - p.getD i 0)
  | 0, _ => .inl ⟨rfl, fun _ h => absurd h (Nat.not_lt_zero _)⟩
  | k + 1, hk => by
    have ih := bestU_ok hi k (by omega)
    cases ha : ahead p k i with
    | false =>
      rw [bestU_no ha]
      rcases ih with ⟨h1, h2⟩ | ⟨⟨x, h1, h2, h3⟩, h0, h4⟩
      · refine .inl ⟨h1, fun x hx => ?_⟩
        by_cases e : x = k
        · subst e; exact ha
        · exact h2 x (by omega)
      · refine .inr ⟨⟨x, by omega, h2, h3⟩, h0, fun y hy hay => ?_⟩
        by_cases e : y = k
        · subst e; rw [ha] at hay; cases hay
        · exact h4 y (by omega) hay
    | true =>
      have h0 := (passN_ge hn hm hp hi (k := k) (by omega)).1
      by_cases h2 : bestU n m p i k < 0 ∨ passN n m p i k - p.getD i 0 < bestU n m p i k
      · rw [bestU_yes ha h2]
        refine .inr ⟨⟨k, by omega, ha, rfl⟩, by omega, fun y hy hay => ?_⟩
        by_cases e : y = k
        · subst e; exact Int.le_refl _
        · rcases ih with ⟨h1, h3⟩ | ⟨_, h5, h4⟩
          · rw [h3 y (by omega)] at hay; cases hay
          · have := h4 y (by omega) hay
            omega
      · rw [bestU_keep ha h2]
        rcases ih with ⟨h1, h3⟩ | ⟨⟨x, h1, h3, h4⟩, h5, h6⟩
        · omega
        · refine .inr ⟨⟨x, by omega, h3, h4⟩, h5, fun y hy hay => ?_⟩
          by_cases e : y = k
          · subst e; omega
          · exact h6 y (by omega) hay
/-- The least of the rises. -/
theorem bestU_min {i : Nat} (hi : i < n * m) : ∀ k, k ≤ n * m → bestU n m p i k = if (riseL n m p i k).length = 0 then -1 else minU (riseL n m p i k) ((riseL n m p i k).length - 1)
  | 0, _ => rfl
  | k + 1, hk => by
    have ih := bestU_min hi k (by omega)
    have h0 := (passN_ge hn hm hp hi (k := k) (by omega)).1
    cases ha : ahead p k i with
    | false => rw [bestU_no ha, riseL_no ha]; exact ih
    | true =>
      rw [riseL_yes ha]
      have hok := bestU_ok hn hm hp hi k (by omega)
      obtain ⟨xs, ex⟩ : ∃ xs, riseL n m p i k = xs := ⟨_, rfl⟩
      obtain ⟨q, eq⟩ : ∃ q, passN n m p i k - p.getD i 0 = q := ⟨_, rfl⟩
      rw [ex] at ih ⊢
      rw [eq]
      have hl : (xs ++ [q]).length = xs.length + 1 := by simp
      rw [if_neg (by omega), hl, Nat.add_sub_cancel]
      by_cases hx : xs.length = 0
      · rw [if_pos hx] at ih
        rw [bestU_yes ha (.inl (by omega)), eq, hx]
        have : xs = [] := List.eq_nil_of_length_eq_zero hx
        subst this
        rfl
      · rw [if_neg hx] at ih
        obtain ⟨t, et⟩ : ∃ t, xs.length = t + 1 := ⟨xs.length - 1, by omega⟩
        rw [et, Nat.add_sub_cancel] at ih
        rw [et, minU, minU_ext (ys := xs) t (fun j hj => by rw [List.getD_eq_getElem?_getD, List.getElem?_append_left (by omega), ← List.getD_eq_getElem?_getD]), ← ih]
        have e2 : (xs ++ [q]).getD (t + 1) 0 = q := by rw [← et]; simp
        rw [e2]
        by_cases h2 : bestU n m p i k < 0 ∨ q < bestU n m p i k
        · rw [bestU_yes ha (by rw [eq]; exact h2), eq]
          rcases hok with ⟨h1, h3⟩ | ⟨_, h5, _⟩
          · exfalso
            have : ∀ k, (∀ x, x < k → ahead p x i = false) → riseL n m p i k = [] := fun k => by
              induction k with
              | zero => intro _; rfl
              | succ k ih => intro h; rw [riseL_no (h k (by omega)), ih fun x hx => h x (by omega)]
            rw [this k h3] at ex
            subst ex
            simp at hx
          · omega
        · rw [bestU_keep ha (by rw [eq]; exact h2)]
          omega
end
/-- How far water rises in a pit. -/
noncomputable def keepN (n m : Nat) (p : List Int) (i : Nat) : Int := bestU n m p i (n * m)
noncomputable def keepsL (h : List (List Int)) : List Int := (pitsL h).map fun i => keepN h.length (h.getD 0 []).length h.flatten i.toNat
theorem keepsL_no {h : List (List Int)} (hg : vGrid h = false) : keepsL h = [] := by unfold keepsL pitsL; rw [endsL_no hg]; rfl
theorem keepsL_le (h : List (List Int)) : (keepsL h).length ≤ 1000000 := by unfold keepsL; rw [List.length_map]; exact pitsL_le h
/-- What the pits are. -/
theorem pitsL_mem {h : List (List Int)} (hg : vGrid h = true) : ∀ x, x ∈ pitsL h → ∃ i : Nat, x = i ∧ i < h.length * (h.getD 0 []).length := by
  intro x hx
  unfold pitsL endsL at hx
  rw [if_pos hg] at hx
  obtain ⟨i, h1, h2, _⟩ := mem_keptL.1 hx
  exact ⟨i, h1, h2⟩
theorem map_take_next {α β : Type} (f : α → β) {xs : List α} {k : Nat} (d : α) (hk : k < xs.length) : (xs.take (k + 1)).map f = (xs.take k).map f ++ [f (xs.getD k d)] := by
  rw [List.take_succ_eq_append_getElem hk, List.map_append]
  simp [hk]
end Go.Proofs.YtaeenedjmakelaaDoor
