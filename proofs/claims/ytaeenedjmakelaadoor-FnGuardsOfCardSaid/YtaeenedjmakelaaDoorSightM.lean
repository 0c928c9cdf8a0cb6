/- What is seen of a profile, as lists. -/
import Derived.Test.YtaeenedjmakelaaDoorTilt
import Derived.Test.YtaeenedjmakelaaDoorProf
namespace Go.Proofs.YtaeenedjmakelaaDoor
open Go.RowKit

/-- No place between a and b is above the line between them. -/
def Sees (p : List Int) (a b : Nat) : Prop := ∀ x, a < x → x < b → (p.getD x 0 - p.getD a 0) * ((b : Int) - a) ≤ (p.getD b 0 - p.getD a 0) * ((x : Int) - a)
def seesB (p : List Int) (a b : Nat) : Bool := (List.range b).all fun x => !decide (a < x) || decide ((p.getD x 0 - p.getD a 0) * ((b : Int) - a) ≤ (p.getD b 0 - p.getD a 0) * ((x : Int) - a))
theorem seesB_iff (p : List Int) (a b : Nat) : seesB p a b = true ↔ Sees p a b := by
  simp only [seesB, Sees, List.all_eq_true, List.mem_range, Bool.or_eq_true, Bool.not_eq_true', decide_eq_false_iff_not, decide_eq_true_eq]
  constructor
  · intro h x h1 h2
    rcases h x h2 with h3 | h3
    · exact absurd h1 h3
    · exact h3
  · intro h x h2
    by_cases h1 : a < x
    · exact .inr (h x h1 h2)
    · exact .inl h1
theorem seesB_false {p : List Int} {a b x : Nat} (h1 : a < x) (h2 : x < b) (h : (p.getD b 0 - p.getD a 0) * ((x : Int) - a) < (p.getD x 0 - p.getD a 0) * ((b : Int) - a)) : seesB p a b = false := by
  cases hb : seesB p a b with
  | false => rfl
  | true => have := (seesB_iff p a b).1 hb x h1 h2; omega
/-- What is seen from place i. -/
def seenL (p : List Int) (i : Nat) : List Bool := (List.range p.length).map fun k => seesB p (min i k) (max i k)
theorem seenL_len (p : List Int) (i : Nat) : (seenL p i).length = p.length := by simp [seenL]
theorem seenL_at (p : List Int) (i k : Nat) (h : k < p.length) : (seenL p i).getD k false = seesB p (min i k) (max i k) := by simp [seenL, h]

/-- A cut. -/
def cutL (p : List Int) (a n : Nat) : List Int := (p.drop a).take n
theorem cutL_len (p : List Int) (a n : Nat) (h : a + n ≤ p.length) : (cutL p a n).length = n := by simp [cutL]; omega
theorem cutL_at (p : List Int) (a n j : Nat) (hj : j < n) : (cutL p a n).getD j 0 = p.getD (a + j) 0 := by
  simp [cutL, List.getD_eq_getElem?_getD, hj, List.getElem?_drop]

/-- The greatest number. -/
def maxOf (xs : List Int) : Int := xs.foldl max (xs.getD 0 0)
theorem foldl_max (xs : List Int) (m : Int) : m ≤ xs.foldl max m ∧ (∀ x ∈ xs, x ≤ xs.foldl max m) ∧ (xs.foldl max m = m ∨ xs.foldl max m ∈ xs) := by
  induction xs generalizing m with
  | nil => exact ⟨Int.le_refl _, fun x hx => by simp at hx, .inl rfl⟩
  | cons y ys ih =>
    obtain ⟨h1, h2, h3⟩ := ih (max m y)
    simp only [List.foldl_cons]
    refine ⟨by omega, fun x hx => ?_, ?_⟩
    · rcases List.mem_cons.1 hx with rfl | hx
      · omega
      · exact h2 x hx
    · rcases h3 with h3 | h3
      · by_cases h : m ≤ y
        · exact .inr (by rw [h3, show max m y = y by omega]; exact List.mem_cons_self)
        · exact .inl (by rw [h3]; omega)
      · exact .inr (List.mem_cons_of_mem _ h3)
theorem isMax_eq {xs : List Int} {m : Int} (h : IsMax xs m) : m = maxOf xs := by
  obtain ⟨⟨i, hi, ei⟩, hall⟩ := h
  obtain ⟨h1, h2, h3⟩ := foldl_max xs (xs.getD 0 0)
  have hm : m ∈ xs := by
    have : xs.getD i 0 = xs[i] := by simp [hi]
    rw [← ei, this]; exact List.getElem_mem hi
  have le1 : m ≤ maxOf xs := h2 m hm
  have le2 : maxOf xs ≤ m := by
    rcases h3 with h3 | h3
    · unfold maxOf; rw [h3]; exact hall 0 (by omega)
    · obtain ⟨j, hj, ej⟩ := List.getElem_of_mem h3
      have := hall j hj
      unfold maxOf
      rw [← ej]
      simpa [hj] using this
  omega
theorem maxOf_isMax {xs : List Int} (h : 1 ≤ xs.length) : IsMax xs (maxOf xs) := by
  obtain ⟨h1, h2, h3⟩ := foldl_max xs (xs.getD 0 0)
  constructor
  · rcases h3 with h3 | h3
    · exact ⟨0, h, h3.symm⟩
    · obtain ⟨j, hj, ej⟩ := List.getElem_of_mem h3
      exact ⟨j, hj, by unfold maxOf; rw [← ej]; simp [hj]⟩
  · intro i hi
    have : xs.getD i 0 ∈ xs := by
      have : xs.getD i 0 = xs[i] := by simp [hi]
      rw [this]; exact List.getElem_mem hi
    exact h2 _ this

/-- The greatest of a tilted cut is its first exactly if the ends see each other. -/
theorem tilt_sees (p : List Int) (a b : Nat) (hab : a ≤ b) (hb : b < p.length) :
    decide (maxOf (tiltL (cutL p a (b - a + 1)) (p.getD b 0 - p.getD a 0) ((b : Int) - a)) = (tiltL (cutL p a (b - a + 1)) (p.getD b 0 - p.getD a 0) ((b : Int) - a)).getD 0 0) = seesB p a b := by
  have hl : (cutL p a (b - a + 1)).length = b - a + 1 := cutL_len _ _ _ (by omega)
  have hL : (tiltL (cutL p a (b - a + 1)) (p.getD b 0 - p.getD a 0) ((b : Int) - a)).length = b - a + 1 := by rw [tiltL_len, hl]
  have hat : ∀ j, j < b - a + 1 → (tiltL (cutL p a (b - a + 1)) (p.getD b 0 - p.getD a 0) ((b : Int) - a)).getD j 0 = p.getD (a + j) 0 * ((b : Int) - a) - (p.getD b 0 - p.getD a 0) * j := fun j hj => by
    rw [tiltL_at _ _ _ _ (by omega), cutL_at _ _ _ _ hj]
  obtain ⟨⟨i, hi, ei⟩, hall⟩ := maxOf_isMax (xs := tiltL (cutL p a (b - a + 1)) (p.getD b 0 - p.getD a 0) ((b : Int) - a)) (by omega)
  rw [hL] at hi
  rw [Bool.eq_iff_iff, decide_eq_true_eq, seesB_iff]
  have h0 := (hat 0 (by omega)).trans (show p.getD (a + 0) 0 * ((b : Int) - a) - (p.getD b 0 - p.getD a 0) * ((0 : Nat) : Int) = p.getD a 0 * ((b : Int) - a) by
    rw [show a + 0 = a from rfl, Int.natCast_zero, Int.mul_zero, Int.sub_zero])
  constructor
  · intro h x h1 h2
    have hx := hall (x - a) (by omega)
    rw [h, hat (x - a) (by omega), h0, show a + (x - a) = x by omega, show ((x - a : Nat) : Int) = (x : Int) - a by omega] at hx
    rw [Int.sub_mul]
    omega
  · intro h
    have hle : p.getD (a + i) 0 * ((b : Int) - a) - (p.getD b 0 - p.getD a 0) * i ≤ p.getD a 0 * ((b : Int) - a) := by
      by_cases e0 : i = 0
      · subst e0; simp
      · by_cases e1 : i = b - a
        · rw [show a + i = b by omega, show (i : Int) = (b : Int) - a by omega, Int.sub_mul]; omega
        · have := h (a + i) (by omega) (by omega)
          rw [show ((a + i : Nat) : Int) - a = i by omega, Int.sub_mul] at this
          omega
    have h00 := hall 0 (by omega)
    rw [h0] at h00 ⊢
    rw [hat i (by omega)] at ei
    omega
end Go.Proofs.YtaeenedjmakelaaDoor
