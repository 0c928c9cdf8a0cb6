/- Lengths of what is seen and lit. -/
import Derived.Test.YthljmolkicfdaaaLit
namespace Go.Proofs.Ythljmolkicfdaaa
theorem seenX_len9 (p : List Int) (i : Int) : (seenX p i).length ≤ 1000 := by
  unfold seenX
  by_cases h : vProf p = true ∧ 0 ≤ i ∧ i < p.length
  · rw [if_pos h, seenL_len]; have := (vProf_len h.1).2; omega
  · rw [if_neg h]; simp
theorem litX_len9 (p : List Int) (up ac : Int) : (litX p up ac).length ≤ 1000 := by
  unfold litX
  cases h : litOk p up ac with
  | true =>
    rw [if_pos rfl, litL_len]
    simp only [litOk, Bool.and_eq_true] at h
    have := (vProf_len h.1.1).2
    omega
  | false => simp
end Go.Proofs.Ythljmolkicfdaaa
