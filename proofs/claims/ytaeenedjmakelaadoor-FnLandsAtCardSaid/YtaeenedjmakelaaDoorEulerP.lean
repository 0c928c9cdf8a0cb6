/- Towards Euler's formula for sets of cells (FnLandsAt): the parity of a closed path around a cell that is not on it. -/
import Derived.Test.YtaeenedjmakelaaDoorPeakS
namespace Go.Proofs.YtaeenedjmakelaaDoor

/-- Two cells with a side in common. -/
def sideOf (b1 b2 c1 c2 : Int) : Prop := (b1 = c1 ∧ (b2 = c2 + 1 ∨ c2 = b2 + 1)) ∨ (b2 = c2 ∧ (b1 = c1 + 1 ∨ c1 = b1 + 1))
/-- A step between the rows R and R + 1 in a column beyond C. -/
def crossB (R C b1 b2 c1 c2 : Int) : Bool := decide (b2 = c2 ∧ C < b2 ∧ ((b1 = R ∧ c1 = R + 1) ∨ (c1 = R ∧ b1 = R + 1)))
def rightB (R C b1 b2 : Int) : Bool := decide (b1 = R ∧ C < b2)
/-- A path of cells of P, and for each row and column the parity of its steps that cross. -/
inductive Wk (P : Int → Int → Prop) (a1 a2 : Int) : Int → Int → (Int → Int → Bool) → Prop
  | refl : P a1 a2 → Wk P a1 a2 a1 a2 fun _ _ => false
  | step {b1 b2 c1 c2 : Int} {w : Int → Int → Bool} : Wk P a1 a2 b1 b2 w → P c1 c2 → sideOf b1 b2 c1 c2 → Wk P a1 a2 c1 c2 fun R C => w R C ^^ crossB R C b1 b2 c1 c2
theorem Wk.last {P : Int → Int → Prop} {a1 a2 b1 b2 : Int} {w : Int → Int → Bool} (h : Wk P a1 a2 b1 b2 w) : P b1 b2 := by
  cases h with
  | refl h => exact h
  | step _ h _ => exact h
theorem cross_right {R C b1 b2 c1 c2 : Int} (hb : ¬ (b1 = R ∧ b2 = C)) (hc : ¬ (c1 = R ∧ c2 = C)) (h : sideOf b1 b2 c1 c2) : (crossB R C b1 b2 c1 c2 ^^ crossB (R - 1) C b1 b2 c1 c2) = (rightB R C b1 b2 ^^ rightB R C c1 c2) := by
  unfold sideOf at h
  cases h1 : crossB R C b1 b2 c1 c2 <;> cases h2 : crossB (R - 1) C b1 b2 c1 c2 <;> cases h3 : rightB R C b1 b2 <;> cases h4 : rightB R C c1 c2 <;>
    simp only [crossB, rightB, decide_eq_true_eq, decide_eq_false_iff_not] at h1 h2 h3 h4 <;> first | rfl | (exfalso; omega)
/-- The steps above and below a row, beyond a cell that is not on the path. -/
theorem Wk.row {P : Int → Int → Prop} {a1 a2 b1 b2 R C : Int} {w : Int → Int → Bool} (h : Wk P a1 a2 b1 b2 w) (hz : ¬ P R C) : (w R C ^^ w (R - 1) C) = (rightB R C a1 a2 ^^ rightB R C b1 b2) := by
  induction h with
  | refl _ => simp
  | @step b1 b2 c1 c2 w hw hc hs ih =>
    have hb := hw.last
    have e := cross_right (R := R) (C := C) (fun h => hz (by rw [← h.1, ← h.2]; exact hb)) (fun h => hz (by rw [← h.1, ← h.2]; exact hc)) hs
    revert ih e
    show (w R C ^^ w (R - 1) C) = _ → _ → ((w R C ^^ crossB R C b1 b2 c1 c2) ^^ (w (R - 1) C ^^ crossB (R - 1) C b1 b2 c1 c2)) = _
    cases w R C <;> cases w (R - 1) C <;> cases crossB R C b1 b2 c1 c2 <;> cases crossB (R - 1) C b1 b2 c1 c2 <;> cases rightB R C a1 a2 <;> cases rightB R C b1 b2 <;> cases rightB R C c1 c2 <;> simp
/-- Beyond the next column the same steps cross, if one of the two cells between is not on the path. -/
theorem Wk.col {P : Int → Int → Prop} {a1 a2 b1 b2 R C : Int} {w : Int → Int → Bool} (h : Wk P a1 a2 b1 b2 w) (hz : ¬ P R (C + 1) ∨ ¬ P (R + 1) (C + 1)) : w R C = w R (C + 1) := by
  induction h with
  | refl _ => rfl
  | @step b1 b2 c1 c2 w hw hc hs ih =>
    have hb := hw.last
    have e : crossB R C b1 b2 c1 c2 = crossB R (C + 1) b1 b2 c1 c2 := by
      cases h1 : crossB R C b1 b2 c1 c2 <;> cases h2 : crossB R (C + 1) b1 b2 c1 c2 <;> simp only [crossB, decide_eq_true_eq, decide_eq_false_iff_not] at h1 h2 <;> first | rfl | skip
      · exfalso; omega
      · exfalso
        have e2 : b2 = C + 1 := by omega
        have e3 : c2 = C + 1 := by omega
        rcases h1.2.2 with ⟨x, y⟩ | ⟨x, y⟩
        · rw [x, e2] at hb
          rw [y, e3] at hc
          exact hz.elim (fun h => h hb) (fun h => h hc)
        · rw [x, e3] at hc
          rw [y, e2] at hb
          exact hz.elim (fun h => h hc) (fun h => h hb)
    show (w R C ^^ _) = (w R (C + 1) ^^ _)
    rw [ih, e]
/-- Cells that are not on a closed path and have a side or a corner in common lie on the same side of it. -/
theorem Wk.same {P : Int → Int → Prop} {a1 a2 R C R' C' : Int} {w : Int → Int → Bool} (h : Wk P a1 a2 a1 a2 w) (hz : ¬ P R C) (hz' : ¬ P R' C') (h1 : R ≤ R' + 1 ∧ R' ≤ R + 1) (h2 : C ≤ C' + 1 ∧ C' ≤ C + 1) : w R C = w R' C' := by
  have rowR : ∀ R C, ¬ P R C → w R C = w (R - 1) C := fun R C hz => by
    have := h.row hz
    revert this
    cases w R C <;> cases w (R - 1) C <;> cases rightB R C a1 a2 <;> simp
  have flat : ∀ R C C', ¬ P R C → ¬ P R C' → C ≤ C' + 1 → C' ≤ C + 1 → w R C = w R C' := fun R C C' hz hz' g1 g2 => by
    rcases (show C' = C ∨ C' = C + 1 ∨ C = C' + 1 by omega) with rfl | rfl | rfl
    · rfl
    · exact h.col (.inl hz')
    · exact (h.col (.inl hz)).symm
  have down : ∀ R C C', ¬ P R C → ¬ P (R + 1) C' → C ≤ C' + 1 → C' ≤ C + 1 → w R C = w (R + 1) C' := fun R C C' hz hz' g1 g2 => by
    have e := rowR (R + 1) C' hz'
    rw [show R + 1 - 1 = R by omega] at e
    rw [e]
    rcases (show C' = C ∨ C' = C + 1 ∨ C = C' + 1 by omega) with rfl | rfl | rfl
    · rfl
    · exact h.col (.inr hz')
    · exact (h.col (.inl hz)).symm
  rcases (show R' = R ∨ R' = R + 1 ∨ R = R' + 1 by omega) with rfl | rfl | rfl
  · exact flat R' C C' hz hz' h2.1 h2.2
  · exact down R C C' hz hz' h2.1 h2.2
  · exact (down R' C' C hz' hz h2.2 h2.1).symm
end Go.Proofs.YtaeenedjmakelaaDoor
