/- The contract of impl.Burns. -/
import Derived.Test.YthgafljbbkgldaaBurnI
import Derived.Test.YthgafljbbkgldaaSSandV
namespace Go.Proofs.Ythgafljbbkgldaa
open Go.RowKit

theorem getD_mem0 (l : List Int) (i : Nat) (h : i < l.length) : l.getD i 0 ∈ l := by
  rw [List.getD_eq_getElem?_getD, List.getElem?_eq_getElem h]
  exact List.getElem_mem h
/-- What it is to be sand. -/
theorem sand_of {h : List (List Int)} (hv : vSand h = true) : Shp h (h.getD 0 []).length ∧ Sandy h.length (h.getD 0 []).length h.flatten ∧ (∀ j, j < h.length * (h.getD 0 []).length → 0 ≤ h.flatten.getD j 0 ∧ h.flatten.getD j 0 ≤ 9) ∧ vGrid h = true := by
  have hg : vGrid h = true := by
    rw [← vRows_grid]
    unfold vSand vRows at hv
    unfold vRows
    rw [Bool.and_eq_true, Bool.and_eq_true, decide_eq_true_eq, decide_eq_true_eq, List.all_eq_true] at hv ⊢
    refine ⟨⟨hv.1.1, by omega⟩, fun row hr => ?_⟩
    have := hv.2 row hr
    unfold vNums at this ⊢
    simp only [Bool.and_eq_true, decide_eq_true_eq, List.all_eq_true] at this ⊢
    refine ⟨this.1, ⟨this.2.1.1, by omega⟩, fun y hy => ?_⟩
    have := this.2.2 y hy
    simp [okN] at this ⊢
    omega
  have G := Grid.of hg
  unfold vSand vRows at hv
  rw [Bool.and_eq_true, Bool.and_eq_true, decide_eq_true_eq, decide_eq_true_eq, List.all_eq_true] at hv
  have hrow : ∀ r, r < h.length → (h.getD r []).length ≤ 4 ∧ ∀ y ∈ h.getD r [], 0 ≤ y ∧ y ≤ 9 := fun r hr => by
    have hm : h.getD r [] ∈ h := by
      rw [List.getD_eq_getElem?_getD, List.getElem?_eq_getElem hr]
      exact List.getElem_mem hr
    have := hv.2 _ hm
    unfold vNums at this
    simp only [Bool.and_eq_true, decide_eq_true_eq, List.all_eq_true] at this
    refine ⟨by omega, fun y hy => ?_⟩
    have := this.2.2 y hy
    simpa [okN] using this
  have hnum : ∀ j, j < h.length * (h.getD 0 []).length → 0 ≤ h.flatten.getD j 0 ∧ h.flatten.getD j 0 ≤ 9 := fun j hj => by
    have hd := div_lt_of _ _ _ hj
    rw [flat_at G j hj]
    have hl := G.len _ hd
    have hm := Nat.mod_lt j (show 0 < (h.getD 0 []).length by have := G.m1; omega)
    exact (hrow _ hd).2 _ (getD_mem0 _ _ (by rw [hl]; exact hm))
  refine ⟨G.shp, ⟨⟨⟨G.n1, hv.1.2⟩, G.m1, (hrow 0 G.n1).1⟩, flat_grid_len G, fun j hj => ?_⟩, hnum, hg⟩
  have := hnum j hj
  omega
/-- Sand that burns. -/
def burnsX (h : List (List Int)) : Prop := vSand h = true ∧ burnsP h.length (h.getD 0 []).length h.flatten
def BurnsPost (h : List (List Int)) (w : World) (e : Ending) (w' : World) : Prop := ∃ B : Bool, e = .returned (.bool B) ∧ (B = true ↔ burnsX h) ∧ Grew w w'

end Go.Proofs.Ythgafljbbkgldaa
