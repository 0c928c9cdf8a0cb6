/- Towards Euler's formula for sets of cells (FnLandsAt): sets as Nat → Bool, the two chains, and that pieces are no more than cells. -/
import Derived.Test.YtaeenedjmakelaaDoorPeakS
namespace Go.Proofs.YtaeenedjmakelaaDoor
open Go.RowKit

/-- A set with one more. -/
def put1 (B : Nat → Bool) (x : Nat) : Nat → Bool := fun i => decide (i = x) || B i
/-- The first k of a set. -/
def firstB (S : Nat → Bool) (k : Nat) : Nat → Bool := fun i => decide (i < k) && S i
/-- A set and the first k of all. -/
def withB (S : Nat → Bool) (k : Nat) : Nat → Bool := fun i => decide (i < k) || S i
theorem firstB_next (S : Nat → Bool) (k : Nat) : firstB S (k + 1) = if S k = true then put1 (firstB S k) k else firstB S k := by
  by_cases h : S k = true
  · rw [if_pos h]
    funext i
    unfold firstB put1
    by_cases e : i = k
    · subst e; simp [h]
    · have : decide (i < k + 1) = decide (i < k) := by rw [Bool.eq_iff_iff, decide_eq_true_eq, decide_eq_true_eq]; omega
      simp [e, this]
  · rw [if_neg h]
    funext i
    unfold firstB
    by_cases e : i = k
    · subst e; simp [h]
    · have : decide (i < k + 1) = decide (i < k) := by rw [Bool.eq_iff_iff, decide_eq_true_eq, decide_eq_true_eq]; omega
      rw [this]
theorem withB_next (S : Nat → Bool) (k : Nat) : withB S (k + 1) = if S k = true then withB S k else put1 (withB S k) k := by
  by_cases h : S k = true
  · rw [if_pos h]
    funext i
    unfold withB
    by_cases e : i = k
    · subst e; simp [h]
    · have : decide (i < k + 1) = decide (i < k) := by rw [Bool.eq_iff_iff, decide_eq_true_eq, decide_eq_true_eq]; omega
      rw [this]
  · rw [if_neg h]
    funext i
    unfold withB put1
    by_cases e : i = k
    · subst e; simp
    · have : decide (i < k + 1) = decide (i < k) := by rw [Bool.eq_iff_iff, decide_eq_true_eq, decide_eq_true_eq]; omega
      simp [e, this]
/-- What never grows when a cell is added behind all that are in the set is at most what it was at none. -/
theorem chain_first {D : (Nat → Bool) → Int} {N : Nat} (hD : ∀ B x, x < N → (∀ y, x ≤ y → B y = false) → D (put1 B x) ≤ D B) (S : Nat → Bool) : ∀ k, k ≤ N → D (firstB S k) ≤ D (firstB S 0)
  | 0, _ => Int.le_refl _
  | k + 1, hk => by
    have ih := chain_first hD S k (by omega)
    rw [firstB_next]
    by_cases h : S k = true
    · rw [if_pos h]
      have := hD (firstB S k) k (by omega) fun y hy => by unfold firstB; simp; omega
      omega
    · rw [if_neg h]; exact ih
/-- What never grows when the first missing cell is added is at least what it is at all. -/
theorem chain_with {D : (Nat → Bool) → Int} {N : Nat} (hD : ∀ B x, x < N → (∀ y, y < x → B y = true) → B x = false → D (put1 B x) ≤ D B) (S : Nat → Bool) : ∀ k, k ≤ N → D (withB S k) ≤ D (withB S 0)
  | 0, _ => Int.le_refl _
  | k + 1, hk => by
    have ih := chain_with hD S k (by omega)
    rw [withB_next]
    by_cases h : S k = true
    · rw [if_pos h]; exact ih
    · rw [if_neg h]
      have := hD (withB S k) k (by omega) (fun y hy => by unfold withB; simp [hy]) (by unfold withB; simp; cases e : S k <;> simp_all)
      omega
/-- There are no more pieces than cells. -/
theorem cnt_le_cells (N : Nat) (T : Nat → Nat → Bool) (B : Nat → Bool) : ∀ k, cntT N T B k ≤ sumTo (fun i => if B i = true then 1 else 0) k
  | 0 => Int.le_refl _
  | k + 1 => by
    have ih := cnt_le_cells N T B k
    rw [sumTo]
    by_cases h : LeadT N T B k
    · rw [cntT_yes h, if_pos h.1]; omega
    · rw [cntT_no h]; split <;> omega
end Go.Proofs.YtaeenedjmakelaaDoor
