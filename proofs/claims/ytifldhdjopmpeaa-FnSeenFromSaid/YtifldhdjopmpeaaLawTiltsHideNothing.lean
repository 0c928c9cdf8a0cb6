/- The law FnTiltsHideNothing returns true. -/
import Derived.Test.YtifldhdjopmpeaaSeen
import Derived.Test.YtifldhdjopmpeaaDrawsP2
import Derived.Test.YtifldhdjopmpeaaEqualB
namespace Go.Proofs.Ytifldhdjopmpeaa
open Go.RowKit

theorem seenX_ok {p : List Int} {i : Int} (h : (seenX p i).length ≠ 0) : (vProf p = true ∧ 0 ≤ i ∧ i < p.length) ∧ seenX p i = seenL p i.toNat := by
  unfold seenX at h ⊢
  by_cases hok : vProf p = true ∧ 0 ≤ i ∧ i < p.length
  · rw [if_pos hok]; exact ⟨hok, rfl⟩
  · rw [if_neg hok] at h; exact absurd rfl h

theorem dec_self (X : List Bool) : decide (X = X) = true := by simp
/-- Each height as much greater as its place. -/
def risen (p : List Int) : List Int := (List.range p.length).map fun k => p.getD k 0 + (k : Int)
theorem risen_len (p : List Int) : (risen p).length = p.length := by simp [risen]
theorem risen_at (p : List Int) (k : Nat) (h : k < p.length) : (risen p).getD k 0 = p.getD k 0 + k := by simp [risen, h]
theorem sees_risen (p : List Int) (a b : Nat) (hb : b < p.length) : seesB (risen p) a b = seesB p a b := by
  rw [Bool.eq_iff_iff, seesB_iff, seesB_iff]
  by_cases hab : a ≤ b
  · have key : ∀ x, a < x → x < b → ((p.getD x 0 + (x : Int) - (p.getD a 0 + a)) * ((b : Int) - a) ≤ (p.getD b 0 + (b : Int) - (p.getD a 0 + a)) * ((x : Int) - a) ↔ (p.getD x 0 - p.getD a 0) * ((b : Int) - a) ≤ (p.getD b 0 - p.getD a 0) * ((x : Int) - a)) := by
      intro x _ _
      have e1 : (p.getD x 0 + (x : Int) - (p.getD a 0 + a)) * ((b : Int) - a) = (p.getD x 0 - p.getD a 0) * ((b : Int) - a) + ((x : Int) - a) * ((b : Int) - a) := by
        rw [← Int.add_mul]; congr 1; omega
      have e2 : (p.getD b 0 + (b : Int) - (p.getD a 0 + a)) * ((x : Int) - a) = (p.getD b 0 - p.getD a 0) * ((x : Int) - a) + ((x : Int) - a) * ((b : Int) - a) := by
        rw [Int.mul_comm ((x : Int) - a) ((b : Int) - a), ← Int.add_mul]; congr 1; omega
      rw [e1, e2]
      omega
    constructor
    · intro h x h1 h2
      have := h x h1 h2
      rw [risen_at p x (by omega), risen_at p a (by omega), risen_at p b hb] at this
      exact (key x h1 h2).1 this
    · intro h x h1 h2
      rw [risen_at p x (by omega), risen_at p a (by omega), risen_at p b hb]
      exact (key x h1 h2).2 (h x h1 h2)
  · exact ⟨fun _ x h1 h2 => by omega, fun _ x h1 h2 => by omega⟩
theorem seen_risen (p : List Int) (n : Nat) (hn : n < p.length) : seenL (risen p) n = seenL p n := by
  unfold seenL
  rw [risen_len]
  refine List.map_congr_left fun k hk => sees_risen p _ _ ?_
  have := List.mem_range.1 hk
  omega

end Go.Proofs.Ytifldhdjopmpeaa
