/- The contracts of spec.inRange, spec.validGrid and spec.ValidGrid. -/
import Derived.Test.YthgafljbbkgldaaDoorGrid
namespace Go.Proofs.YthgafljbbkgldaaDoor
open Go.RowKit

theorem vGrid_ends (h : List (List Int)) : vGrid h = (h.all (fun row => decide (row.length = (h.getD 0 []).length) && row.all okH) && inR h.length 1 5 && inR (h.getD 0 []).length 1 5) := by
  unfold vGrid
  by_cases h0 : 1 ≤ h.length ∧ h.length ≤ 5
  · obtain ⟨a, b⟩ := h0
    have e1 : inR h.length 1 5 = true := by simp [inR]; omega
    rw [e1]
    simp only [a, b, decide_true, Bool.true_and, Bool.and_true]
    cases hr : inR (h.getD 0 []).length 1 5 with
    | true =>
      rw [Bool.and_true]
      have hr' : 1 ≤ (h.getD 0 []).length ∧ (h.getD 0 []).length ≤ 5 := by
        simp only [inR, Bool.and_eq_true, decide_eq_true_eq] at hr; omega
      congr 1
      funext row
      by_cases hl : row.length = (h.getD 0 []).length
      · simp only [hl, decide_true, Bool.true_and, vRow, hr'.1, hr'.2]
      · have : decide (row.length = (h.getD 0 []).length) = false := by simp only [hl, decide_false]
        rw [this, Bool.false_and, Bool.false_and]
    | false =>
      rw [Bool.and_false]
      refine all_false _ h [] 0 (by omega) ?_
      have : vRow (h.getD 0 []) = false := by
        have : ¬ (1 ≤ (h.getD 0 []).length ∧ (h.getD 0 []).length ≤ 5) := by
          intro hh
          simp only [inR, Bool.and_eq_false_iff, decide_eq_false_iff_not] at hr
          omega
        unfold vRow
        by_cases h1 : 1 ≤ (h.getD 0 []).length
        · have h2 : ¬ (h.getD 0 []).length ≤ 5 := fun x => this ⟨h1, x⟩
          simp only [h2, decide_false, Bool.and_false, Bool.false_and]
        · simp only [h1, decide_false, Bool.false_and]
      rw [this, Bool.and_false]
  · have e1 : inR h.length 1 5 = false := by
      cases hq : inR h.length 1 5 with
      | false => rfl
      | true => simp only [inR, Bool.and_eq_true, decide_eq_true_eq] at hq; omega
    rw [e1]
    by_cases h1 : 1 ≤ h.length
    · have h2 : ¬ h.length ≤ 5 := fun x => h0 ⟨h1, x⟩
      simp [h2]
    · simp [h1]

end Go.Proofs.YthgafljbbkgldaaDoor
