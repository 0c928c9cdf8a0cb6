/- The law FnWaterFlowsOnWater returns true. -/
import Derived.Test.YtgecghngfonejaaDoorSFlow
import Derived.Test.YtgecghngfonejaaDoorAtMost
import Derived.Test.YtgecghngfonejaaDoorDraws
import Derived.Test.YtgecghngfonejaaDoorEqualRows
namespace Go.Proofs.YtgecghngfonejaaDoor
open Go.RowKit

/-- Water runs over filled ground as it runs over the ground. -/
theorem flow_on_water {h : List (List Int)} (hg : vGrid h = true) : flowL (fillL h) = flowL h := by
  obtain ⟨f1, f2, f3⟩ := fill_grid hg
  have hv : vGrid (fillL h) = true := f1.to
  obtain ⟨_, _, g3⟩ := fill_grid hv
  rw [fillL_idem hg] at g3
  have em : ((fillL h).getD 0 []).length = (h.getD 0 []).length := f1.len 0 (by have := f1.n1; omega)
  rw [f2, em] at g3
  have et : tgtsL (fillL h) = tgtsL h := by rw [tgtsL, tgtsL, f2, em, ← g3, f3]
  rw [flowL, flowL, if_pos hg, if_pos hv, et, f2, em]

set_option maxRecDepth 100000 in
set_option maxHeartbeats 4000000 in
theorem FnWaterFlowsOnWater_any (v : Value) (bs : List Int) (w : World) (hv : NumsV .u8 w v bs) (hb : ∀ i, i < bs.length → 0 ≤ bs.getD i 0 ∧ bs.getD i 0 ≤ 255) (hS : Steps w) :
    Calls Tryd.prog 6 #[v] w fun e w' => e = .returned (.bool true) ∧ Grew w w' := by
  have HD := Lib.hid (DrawFlowOf_any v bs w hv hb)
  have HS := Lib.hid hS
  obtain ⟨a, b, o, c, rfl, ⟨hlc, hcb⟩, _, _⟩ := hv.shape
  clear hv hb hS
  by_cases hbig : 1048576 < bs.length
  · go_enter Tryd.func6, Tryd.ntmps6
    go_wp2
    go_ret
    exact ⟨rfl, Grew.refl _⟩
  · go_enter Tryd.func6, Tryd.ntmps6
    go_wp2_with (fail)
    refine HD.out.mono ?_
    rintro e w1 ⟨v1, H, rfl, hO, hd, hg1⟩
    have HV := Lib.hid (And.intro hO.toV hg1)
    obtain ⟨a1, c1, rfl⟩ := hO.sh
    obtain ⟨M, eM⟩ : ∃ M, flowL H = M := ⟨_, rfl⟩
    have HM := Lib.hid eM
    clear hO hd hg1 HD
    go_wp2_with (fail)
    refine (FlowOf_any _ H _ HV.out.1 (HS.out.grew HV.out.2)).mono ?_
    rw [eM]
    rintro e w2 ⟨v2, rfl, hO2, hg2⟩
    obtain ⟨a2, c2, rfl⟩ := hO2.sh
    have H2 := Lib.hid (And.intro hO2.toV hg2)
    clear hO2 hg2
    go_wp2_with (fail)
    refine (SFlowOf_any _ H _ (HV.out.1.grew H2.out.2)).mono ?_
    rw [eM]
    rintro e w3 ⟨v3, rfl, hO3, hg3⟩
    obtain ⟨a3, c3, rfl⟩ := hO3.sh
    have H3 : Hid (RowsV w3 (.slice a2 M.length c2) M ∧ RowsV w3 (.slice a3 M.length c3) M ∧ RowsV w3 (.slice a1 H.length c1) H ∧ Grew w w3) :=
      Lib.hid ⟨H2.out.1.grew hg3, hO3.toV, HV.out.1.grew (H2.out.2.trans hg3), HV.out.2.trans (H2.out.2.trans hg3)⟩
    clear hO3 hg3 H2 HV eM
    go_wp2_with (fail)
    refine (equalRows_any _ _ M M _ H3.out.1 H3.out.2.1).mono ?_
    rw [decide_eq_true (rfl : M = M)]
    rintro e w4 ⟨rfl, hq4⟩
    have hg4 := quiet_grew hq4
    have H4 : Hid (RowsV w4 (.slice a1 H.length c1) H ∧ Grew w w4) :=
      Lib.hid ⟨H3.out.2.2.1.grew hg4, H3.out.2.2.2.trans hg4⟩
    clear hq4 hg4 H3
    go_wp2_with (fail)
    refine (FlowOf_any _ H _ H4.out.1 (HS.out.grew H4.out.2)).mono ?_
    rw [HM.out]
    rintro e w5 ⟨v5, rfl, hO5, hg5⟩
    obtain ⟨a5, c5, rfl⟩ := hO5.sh
    have H5 : Hid (RowsV w5 (.slice a5 M.length c5) M ∧ RowsV w5 (.slice a1 H.length c1) H ∧ Grew w w5) :=
      Lib.hid ⟨hO5.toV, H4.out.1.grew hg5, H4.out.2.trans hg5⟩
    clear hO5 hg5 H4
    cases hvg : vGrid H with
    | false =>
      have eM0 : M = [] := by rw [← HM.out, flowL_no hvg]
      have ht : ((M.length : Int) == 0) = true := by simp [eM0]
      clear hvg eM0
      go_wp2
      go_ret
      exact ⟨rfl, H5.out.2.2⟩
    | true =>
      have HE := Lib.hid (flow_on_water hvg)
      have hM1 : 0 < M.length := by
        rw [← HM.out, flowL, if_pos hvg, shapeL_len]
        exact (Grid.of hvg).n1
      have ht : ((M.length : Int) == 0) = false := beq_eq_false_iff_ne.2 (by omega)
      clear hvg hM1
      go_wp2_with (fail)
      refine (FillByQueue_any _ H _ H5.out.2.1 (HS.out.grew H5.out.2.2)).mono ?_
      obtain ⟨F, eF⟩ : ∃ F, fillL H = F := ⟨_, rfl⟩
      rw [eF] at HE ⊢
      rintro e w6 ⟨v6, rfl, hO6, hg6⟩
      obtain ⟨a6, c6, rfl⟩ := hO6.sh
      have H6 : Hid (RowsV w6 (.slice a6 F.length c6) F ∧ RowsV w6 (.slice a5 M.length c5) M ∧ Grew w w6) :=
        Lib.hid ⟨hO6.toV, H5.out.1.grew hg6, H5.out.2.2.trans hg6⟩
      clear hO6 hg6 H5 eF
      go_wp2_with (fail)
      refine (FlowOf_any _ F _ H6.out.1 (HS.out.grew H6.out.2.2)).mono ?_
      rw [HE.out, HM.out]
      rintro e w7 ⟨v7, rfl, hO7, hg7⟩
      obtain ⟨a7, c7, rfl⟩ := hO7.sh
      have H7 : Hid (RowsV w7 (.slice a7 M.length c7) M ∧ RowsV w7 (.slice a5 M.length c5) M ∧ Grew w w7) :=
        Lib.hid ⟨hO7.toV, H6.out.2.1.grew hg7, H6.out.2.2.trans hg7⟩
      clear hO7 hg7 H6
      go_wp2_with (fail)
      refine (equalRows_any _ _ M M _ H7.out.1 H7.out.2.1).mono ?_
      rw [decide_eq_true (rfl : M = M)]
      rintro e w8 ⟨rfl, hq8⟩
      have H8 := Lib.hid (quiet_grew hq8)
      clear hq8
      go_wp2
      go_ret
      exact ⟨rfl, H7.out.2.2.trans H8.out⟩
end Go.Proofs.YtgecghngfonejaaDoor
