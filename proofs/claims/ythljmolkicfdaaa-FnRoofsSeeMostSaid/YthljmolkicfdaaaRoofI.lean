/- What roofs are: each is seen from the next one, and the lines between them fall more and more. -/
import Derived.Test.YthljmolkicfdaaaRoofM
namespace Go.Proofs.Ythljmolkicfdaaa
open Go.RowKit

/-- Below a line over b and k, which lies below that over a and k. -/
theorem line_below {s u v α β γ : Int} (hs : 0 ≤ s) (_hu : 0 ≤ u) (hv : 0 ≤ v) (huv : 0 < u + v) (h1 : (γ - α) * (u + v) ≤ (β - α) * u) (h2 : α * (s + u + v) ≤ β * s) : γ * (s + u + v) ≤ β * (s + u) := by
  have k1 : (γ - α) * (u + v) * (s + u + v) ≤ (β - α) * u * (s + u + v) := Int.mul_le_mul_of_nonneg_right h1 (by omega)
  have k2 : α * (s + u + v) * v ≤ β * s * v := Int.mul_le_mul_of_nonneg_right h2 hv
  have k3 : (u + v) * (γ * (s + u + v)) ≤ (u + v) * (β * (s + u)) := by
    simp only [Int.mul_add, Int.mul_sub, Int.mul_comm, Int.mul_left_comm] at k1 k2 ⊢
    omega
  exact Int.le_of_mul_le_mul_left k3 huv

/-- Consecutive ones ascend, see each other, and bend down. -/
structure Roof (p : List Int) (r : List Nat) : Prop where
  first : r.getD 0 0 = 0
  asc : ∀ j, j + 1 < r.length → r.getD j 0 < r.getD (j + 1) 0
  sees : ∀ j, j + 1 < r.length → Sees p (r.getD j 0) (r.getD (j + 1) 0)
  bend : ∀ j, j + 2 < r.length → bendB p (r.getD j 0) (r.getD (j + 1) 0) (r.getD (j + 2) 0) = true
theorem sees_pop {p : List Int} {a b k : Nat} (hab : a < b) (hbk : b < k) (h1 : Sees p a b) (h2 : Sees p b k) (h3 : bendB p a b k = false) : Sees p a k := by
  have h3' : (p.getD b 0 - p.getD a 0) * ((k : Int) - a) ≤ (p.getD k 0 - p.getD a 0) * ((b : Int) - a) := by
    have := of_decide_eq_false h3
    omega
  intro x hx1 hx2
  by_cases hxb : x < b
  · exact slope_trans (d := (b : Int) - a) (by omega) (by omega) (by omega) (h1 x hx1 hxb) h3' (by omega) (by omega)
  · by_cases e : x = b
    · rw [e]; exact h3'
    · have h := h2 x (by omega) hx2
      have := line_below (s := (b : Int) - a) (u := (x : Int) - b) (v := (k : Int) - x) (α := p.getD b 0 - p.getD a 0) (β := p.getD k 0 - p.getD a 0) (γ := p.getD x 0 - p.getD a 0) (by omega) (by omega) (by omega) (by omega)
        (by rw [show (x : Int) - b + ((k : Int) - x) = (k : Int) - b by omega, show p.getD x 0 - p.getD a 0 - (p.getD b 0 - p.getD a 0) = p.getD x 0 - p.getD b 0 by omega, show p.getD k 0 - p.getD a 0 - (p.getD b 0 - p.getD a 0) = p.getD k 0 - p.getD b 0 by omega]; exact h)
        (by rw [show (b : Int) - a + ((x : Int) - b) + ((k : Int) - x) = (k : Int) - a by omega]; exact h3')
      rwa [show (b : Int) - a + ((x : Int) - b) + ((k : Int) - x) = (k : Int) - a by omega, show (b : Int) - a + ((x : Int) - b) = (x : Int) - a by omega] at this
theorem getD_take {r : List Nat} {m j : Nat} (h : j < m) : (r.take m).getD j 0 = r.getD j 0 := by
  simp [List.getD_eq_getElem?_getD, h]

/-- What stays sees the new place. -/
theorem pop_sees {p : List Int} {k : Nat} {r : List Nat} (hr : Roof p r) (hlt : ∀ j, j < r.length → r.getD j 0 < k) : ∀ m, 1 ≤ m → m ≤ r.length → Sees p (r.getD (m - 1) 0) k →
    1 ≤ popTo p k r m ∧ popTo p k r m ≤ m ∧ Sees p (r.getD (popTo p k r m - 1) 0) k ∧ (2 ≤ popTo p k r m → bendB p (r.getD (popTo p k r m - 2) 0) (r.getD (popTo p k r m - 1) 0) k = true)
  | 0, h, _, _ => absurd h (by omega)
  | 1, _, _, h => ⟨Nat.le_refl _, Nat.le_refl _, h, fun h2 => absurd h2 (by simp [popTo])⟩
  | m + 2, _, hm, h => by
    simp only [popTo]
    by_cases hb : bendB p (r.getD m 0) (r.getD (m + 1) 0) k = true
    · rw [if_pos hb]
      exact ⟨by omega, Nat.le_refl _, h, fun _ => hb⟩
    · rw [if_neg hb]
      have hb' : bendB p (r.getD m 0) (r.getD (m + 1) 0) k = false := by simpa using hb
      have := pop_sees hr hlt (m + 1) (by omega) (by omega) (sees_pop (hr.asc m (by omega)) (hlt (m + 1) (by omega)) (hr.sees m (by omega)) h hb')
      exact ⟨this.1, by omega, this.2.2.1, this.2.2.2⟩

theorem roofTo_roof (p : List Int) : ∀ k, 1 ≤ k → Roof p (roofTo p k) ∧ 1 ≤ (roofTo p k).length ∧ (roofTo p k).getD ((roofTo p k).length - 1) 0 = k - 1
  | 0, h => absurd h (by omega)
  | 1, _ => by
    have e : roofTo p 1 = [0] := by simp [roofTo]
    rw [e]
    exact ⟨⟨rfl, fun j hj => by simp at hj, fun j hj => by simp at hj, fun j hj => by simp at hj⟩, by simp, by simp⟩
  | k + 2, _ => by
    obtain ⟨hr, h1, hlast⟩ := roofTo_roof p (k + 1) (by omega)
    have hlt := (roofTo_lt p (k + 1)).2
    have hstep : roofTo p (k + 2) = (roofTo p (k + 1)).take (popTo p (k + 1) (roofTo p (k + 1)) (roofTo p (k + 1)).length) ++ [k + 1] := rfl
    obtain ⟨r, er⟩ : ∃ r, roofTo p (k + 1) = r := ⟨_, rfl⟩
    rw [er] at hr h1 hlast hlt hstep
    rw [hstep]
    obtain ⟨q1, q2, q3, q4⟩ := pop_sees hr hlt r.length h1 (Nat.le_refl _) (by
      rw [hlast]; intro x h2 h3; omega)
    obtain ⟨m, em⟩ : ∃ m, popTo p (k + 1) r r.length = m := ⟨_, rfl⟩
    rw [em] at q1 q2 q3 q4 ⊢
    have hl : (r.take m).length = m := by simp; omega
    have hL : (r.take m ++ [k + 1]).length = m + 1 := by simp; omega
    have a1 : ∀ j, j < m → (r.take m ++ [k + 1]).getD j 0 = r.getD j 0 := fun j hj => by rw [getD_append_l _ _ _ _ (by omega), getD_take hj]
    have a2 : (r.take m ++ [k + 1]).getD m 0 = k + 1 := by
      have := getD_append_r (r.take m) (k + 1) 0
      rwa [hl] at this
    refine ⟨⟨?_, fun j hj => ?_, fun j hj => ?_, fun j hj => ?_⟩, by omega, ?_⟩
    · rw [a1 0 (by omega)]; exact hr.first
    · rw [hL] at hj
      by_cases e : j + 1 = m
      · rw [a1 j (by omega), e, a2]; exact hlt j (by omega)
      · rw [a1 j (by omega), a1 (j + 1) (by omega)]; exact hr.asc j (by omega)
    · rw [hL] at hj
      by_cases e : j + 1 = m
      · rw [a1 j (by omega), e, a2, show j = m - 1 by omega]; exact q3
      · rw [a1 j (by omega), a1 (j + 1) (by omega)]; exact hr.sees j (by omega)
    · rw [hL] at hj
      by_cases e : j + 2 = m
      · rw [a1 j (by omega), a1 (j + 1) (by omega), e, a2, show j = m - 2 by omega, show m - 2 + 1 = m - 1 by omega]; exact q4 (by omega)
      · rw [a1 j (by omega), a1 (j + 1) (by omega), a1 (j + 2) (by omega)]; exact hr.bend j (by omega)
    · rw [hL, show m + 1 - 1 = m by omega, a2]; omega

/-- Nothing is higher than the higher end of its line. -/
theorem sees_low {p : List Int} {a b x : Nat} (h : Sees p a b) (h1 : a < x) (h2 : x < b) : p.getD x 0 ≤ max (p.getD a 0) (p.getD b 0) := by
  have h3 := h x h1 h2
  by_cases hc : p.getD x 0 ≤ p.getD a 0
  · omega
  · by_cases hd : p.getD x 0 ≤ p.getD b 0
    · omega
    · exfalso
      by_cases hba : p.getD b 0 ≤ p.getD a 0
      · have k1 : 0 < (p.getD x 0 - p.getD a 0) * ((b : Int) - a) := Int.mul_pos (by omega) (by omega)
        have k2 : (p.getD b 0 - p.getD a 0) * ((x : Int) - a) ≤ 0 := Int.mul_nonpos_of_nonpos_of_nonneg (by omega) (by omega)
        omega
      · have k1 : (p.getD b 0 - p.getD a 0) * ((x : Int) - a) ≤ (p.getD b 0 - p.getD a 0) * ((b : Int) - a) := Int.mul_le_mul_of_nonneg_left (by omega) (by omega)
        have k2 : (p.getD b 0 - p.getD a 0) * ((b : Int) - a) < (p.getD x 0 - p.getD a 0) * ((b : Int) - a) := Int.mul_lt_mul_of_pos_right (by omega) (by omega)
        omega
/-- Each place stands under a line of the roof. -/
theorem roof_over {p : List Int} {r : List Nat} (hr : Roof p r) : ∀ m, m < r.length → ∀ x, x ≤ r.getD m 0 → ∃ j, j ≤ m ∧ p.getD x 0 ≤ p.getD (r.getD j 0) 0
  | 0, hm, x, hx => by
    rw [hr.first] at hx
    exact ⟨0, Nat.le_refl _, by rw [hr.first, show x = 0 by omega]; exact Int.le_refl _⟩
  | m + 1, hm, x, hx => by
    by_cases hle : x ≤ r.getD m 0
    · obtain ⟨j, h1, h2⟩ := roof_over hr m (by omega) x hle
      exact ⟨j, by omega, h2⟩
    · by_cases e : x = r.getD (m + 1) 0
      · exact ⟨m + 1, Nat.le_refl _, by rw [e]; exact Int.le_refl _⟩
      · have := sees_low (hr.sees m hm) (x := x) (by omega) (by omega)
        by_cases h : p.getD x 0 ≤ p.getD (r.getD m 0) 0
        · exact ⟨m, by omega, h⟩
        · exact ⟨m + 1, Nat.le_refl _, by omega⟩
/-- The furthest that is seen is no nearer than one that is seen. -/
theorem fur_ge {p : List Int} {a b : Nat} (hab : a < b) (hb : b < p.length) (h : Sees p a b) : b ≤ furL p a := by
  by_cases hc : b ≤ furL p a
  · exact hc
  · have := (furL_sees p a (by omega)).2.2.2 b (by omega) hb
    rw [show min a b = a by omega, show max a b = b by omega, (seesB_iff p a b).2 h] at this
    cases this
end Go.Proofs.Ythljmolkicfdaaa
