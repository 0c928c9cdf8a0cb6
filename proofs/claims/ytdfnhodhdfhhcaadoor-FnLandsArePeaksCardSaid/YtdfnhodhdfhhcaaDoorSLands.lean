/- The contract of spec.LandsAt. -/
import Derived.Test.YtdfnhodhdfhhcaaDoorSPieces
import Derived.Test.YtdfnhodhdfhhcaaDoorLands
namespace Go.Proofs.YtdfnhodhdfhhcaaDoor
open Go.RowKit

theorem belX_above (p : List Int) (t : Int) : belX p t true = above p t := by
  funext i
  unfold belX
  simp
theorem touchB_no (m : Nat) : touchB m false = touchS m := by
  funext i k
  rfl
set_option maxRecDepth 100000 in
set_option maxHeartbeats 1000000 in
theorem SLandsAt_any (v : Value) (h : List (List Int)) (t : Int) (w : World) (hv : RowsV w v h) :
    Calls Tryd.prog 19 #[v, .int .i64 t] w fun e w' => e = .returned (.int .i64 (landsX h t)) ∧ Grew w w' := by
  have HV := Lib.hid (validTop_any v h t w hv)
  have HR := Lib.hid hv
  obtain ⟨a, b, o, c, rfl, _, _, _⟩ := hv.shape
  clear hv
  unfold landsX
  cases hp : vLevel h t with
  | false =>
    have HP := Lib.hid hp
    clear hp
    go_enter Tryd.func19, Tryd.ntmps19
    go_wp2_with (fail)
    refine HV.out.mono ?_
    rw [HP.out]
    rintro e w1 ⟨rfl, hg1⟩
    have HG1 := Lib.hid hg1
    clear hg1
    go_wp2
    go_ret
    exact ⟨ret_int (by simp), HG1.out⟩
  | true =>
    have HP := Lib.hid (And.intro hp (vLevel_grid hp))
    clear hp
    go_enter Tryd.func19, Tryd.ntmps19
    go_wp2_with (fail)
    refine HV.out.mono ?_
    rw [HP.out.1]
    rintro e w1 ⟨rfl, hg1⟩
    have HG1 := Lib.hid hg1
    clear hg1
    go_wp2_with (fail)
    refine (spieces_any _ h t true false _ (HR.out.grew HG1.out) HP.out.2).mono ?_
    rw [belX_above, touchB_no]
    obtain ⟨K, eK⟩ : ∃ K, cntT (h.length * (h.getD 0 []).length) (touchS (h.getD 0 []).length) (above h.flatten t) (h.length * (h.getD 0 []).length) = K := ⟨_, rfl⟩
    rw [eK]
    rintro e w2 ⟨rfl, hg2⟩
    have HG2 := Lib.hid (HG1.out.trans hg2)
    have HK := Lib.hid eK
    clear hg2 eK
    go_wp2
    go_ret
    exact ⟨ret_int HK.out.symm, HG2.out⟩
end Go.Proofs.YtdfnhodhdfhhcaaDoor
