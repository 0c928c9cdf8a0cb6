/- The contracts of AroundOf and OnEdge, of impl and of spec. -/
import Derived.Test.YtaeenedjmakelaaDoorAround
import Derived.Test.YtaeenedjmakelaaDoorSGrid
namespace Go.Proofs.YtaeenedjmakelaaDoor
open Go.RowKit

def aroundOfL (h : List (List Int)) (i : Int) : List Int := if vCell h i then aroundL h.length (h.getD 0 []).length i.toNat else []
def edgeB (h : List (List Int)) (i : Int) : Bool := vCell h i && decide ((aroundL h.length (h.getD 0 []).length i.toNat).length < 4)
theorem vCell_yes {h : List (List Int)} {i : Int} (hc : vCell h i = true) : vGrid h = true ∧ 0 ≤ i ∧ i.toNat < h.length * (h.getD 0 []).length ∧ i < ((h.length * (h.getD 0 []).length : Nat) : Int) := by
  simp only [vCell, Bool.and_eq_true, decide_eq_true_eq] at hc
  have e : ((h.length * (h.getD 0 []).length : Nat) : Int) = (h.length : Int) * (h.getD 0 []).length := by simp
  refine ⟨hc.1.1, hc.1.2, by omega, by omega⟩
theorem OwnI.shape {w : World} {xs : List Int} {e : Ending} {w' : World} (h : OwnI w xs e w') : ∃ a c, e = .returned (.slice a xs.length c) ∧ IntsO 3 w.heap.size w'.heap.size w' (.slice a xs.length c) xs ∧ Grew w w' := h

set_option maxRecDepth 100000 in
set_option maxHeartbeats 1000000 in
theorem atEdge_any (v : Value) (h : List (List Int)) (I : Nat) (w : World) (hv : RowsV w v h) (hg : vGrid h = true) (hI : I < h.length * (h.getD 0 []).length) (hS : Steps w) :
    Calls Tryd.prog 77 #[v, .int .i64 I] w fun e w' => e = .returned (.bool (decide ((aroundL h.length (h.getD 0 []).length I).length < 4))) ∧ Grew w w' := by
  have HB := Lib.hid (cellsBeside_any v h I w hv hg hI hS)
  obtain ⟨a, b, o, c, rfl, _, _, _⟩ := hv.shape
  clear hv hg hI hS
  go_enter Tryd.func77, Tryd.ntmps77
  go_wp2_with (fail)
  refine HB.out.mono ?_
  rintro e w2 ⟨a2, c2, rfl, _, hG⟩
  have HF := Lib.hid hG
  clear hG
  obtain ⟨L, eL⟩ : ∃ L, (aroundL h.length (h.getD 0 []).length I).length = L := ⟨_, rfl⟩
  rw [eL]
  have HL := Lib.hid eL
  clear eL
  by_cases h4 : L < 4
  all_goals
    go_wp2
    go_ret
    refine ⟨ret_bool ?_, HF.out⟩
    rw [HL.out]
    simp; try omega


theorem inR_cell {h : List (List Int)} {i : Int} (hg : vGrid h = true) : inR i 0 (((h.length * (h.getD 0 []).length : Nat) : Int) - 1) = vCell h i := by
  rw [vCell, hg, inR, Bool.true_and]
  congr 1
  have e : ((h.length * (h.getD 0 []).length : Nat) : Int) = (h.length : Int) * (h.getD 0 []).length := by simp
  rw [Bool.eq_iff_iff, decide_eq_true_eq, decide_eq_true_eq]
  omega
theorem vCell_no {h : List (List Int)} {i : Int} (hg : vGrid h = false) : vCell h i = false := by rw [vCell, hg]; rfl
theorem cells_le {h : List (List Int)} (hg : vGrid h = true) : h.length * (h.getD 0 []).length ≤ 25 := by
  have G := Grid.of hg
  have := Nat.mul_le_mul G.n5 G.m5
  exact this



end Go.Proofs.YtaeenedjmakelaaDoor
