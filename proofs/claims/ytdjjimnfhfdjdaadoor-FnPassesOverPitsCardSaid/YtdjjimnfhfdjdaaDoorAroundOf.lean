/- The contracts of AroundOf and OnEdge, of impl and of spec. -/
import Derived.Test.YtdjjimnfhfdjdaaDoorAround
import Derived.Test.YtdjjimnfhfdjdaaDoorSGrid
namespace Go.Proofs.YtdjjimnfhfdjdaaDoor
open Go.RowKit

def aroundOfL (h : List (List Int)) (i : Int) : List Int := if vCell h i then aroundL h.length (h.getD 0 []).length i.toNat else []
def edgeB (h : List (List Int)) (i : Int) : Bool := vCell h i && decide ((aroundL h.length (h.getD 0 []).length i.toNat).length < 4)
theorem vCell_yes {h : List (List Int)} {i : Int} (hc : vCell h i = true) : vGrid h = true ∧ 0 ≤ i ∧ i.toNat < h.length * (h.getD 0 []).length ∧ i < ((h.length * (h.getD 0 []).length : Nat) : Int) := by
  simp only [vCell, Bool.and_eq_true, decide_eq_true_eq] at hc
  have e : ((h.length * (h.getD 0 []).length : Nat) : Int) = (h.length : Int) * (h.getD 0 []).length := by simp
  refine ⟨hc.1.1, hc.1.2, by omega, by omega⟩
theorem OwnI.shape {w : World} {xs : List Int} {e : Ending} {w' : World} (h : OwnI w xs e w') : ∃ a c, e = .returned (.slice a xs.length c) ∧ IntsO 3 w.heap.size w'.heap.size w' (.slice a xs.length c) xs ∧ Grew w w' := h

theorem inR_cell {h : List (List Int)} {i : Int} (hg : vGrid h = true) : inR i 0 (((h.length * (h.getD 0 []).length : Nat) : Int) - 1) = vCell h i := by
  rw [vCell, hg, inR, Bool.true_and]
  congr 1
  have e : ((h.length * (h.getD 0 []).length : Nat) : Int) = (h.length : Int) * (h.getD 0 []).length := by simp
  rw [Bool.eq_iff_iff, decide_eq_true_eq, decide_eq_true_eq]
  omega
theorem vCell_no {h : List (List Int)} {i : Int} (hg : vGrid h = false) : vCell h i = false := by rw [vCell, hg]; rfl
theorem cells_le {h : List (List Int)} (hg : vGrid h = true) : h.length * (h.getD 0 []).length ≤ 25 := by
  have G := Grid.of hg
  have := Nat.mul_le_mul G.n5 G.m5
  exact this



end Go.Proofs.YtdjjimnfhfdjdaaDoor
