/- The law FnFillBySinking returns true. -/
import Derived.Test.YthjnfkphlildaaaDoorWaterTurns
import Derived.Test.YthjnfkphlildaaaDoorSBySinking
import Derived.Test.YthjnfkphlildaaaDoorFlipped
import Derived.Test.YthjnfkphlildaaaDoorDraws
import Derived.Test.YthjnfkphlildaaaDoorEqualRows
namespace Go.Proofs.YthjnfkphlildaaaDoor
open Go.RowKit

set_option maxRecDepth 100000 in
set_option maxHeartbeats 4000000 in
theorem FnFillBySinking_any (v : Value) (bs : List Int) (w : World) (hv : NumsV .u8 w v bs) (hb : ∀ i, i < bs.length → 0 ≤ bs.getD i 0 ∧ bs.getD i 0 ≤ 255) (hS : Steps w) :
    Calls Tryd.prog 5 #[v] w fun e w' => e = .returned (.bool true) ∧ Grew w w' := by
  have HD := Lib.hid (DrawFillBySinking_any v bs w hv hb)
  have HS := Lib.hid hS
  obtain ⟨a, b, o, c, rfl, ⟨hlc, hcb⟩, _, _⟩ := hv.shape
  clear hv hb hS
  by_cases hbig : 1048576 < bs.length
  · go_enter Tryd.func5, Tryd.ntmps5
    go_wp2
    go_ret
    exact ⟨rfl, Grew.refl _⟩
  · go_enter Tryd.func5, Tryd.ntmps5
    go_wp2_with (fail)
    refine HD.out.mono ?_
    rintro e w1 ⟨v1, H, rfl, hO, hd, hg1⟩
    have HV := Lib.hid (And.intro hO.toV hg1)
    obtain ⟨a1, c1, rfl⟩ := hO.sh
    obtain ⟨M, eM⟩ : ∃ M, fillL H = M := ⟨_, rfl⟩
    have HM := Lib.hid eM
    clear hO hd hg1 HD
    go_wp2_with (fail)
    refine (FillBySinking_any _ H _ HV.out.1 (HS.out.grew HV.out.2)).mono ?_
    rw [eM]
    rintro e w2 ⟨v2, rfl, hO2, hg2⟩
    obtain ⟨a2, c2, rfl⟩ := hO2.sh
    have H2 := Lib.hid (And.intro hO2.toV hg2)
    clear hO2 hg2
    go_wp2_with (fail)
    refine (SFillBySinking_any _ H _ (HV.out.1.grew H2.out.2)).mono ?_
    rw [eM]
    rintro e w3 ⟨v3, rfl, hO3, hg3⟩
    obtain ⟨a3, c3, rfl⟩ := hO3.sh
    have H3 : Hid (RowsV w3 (.slice a2 M.length c2) M ∧ RowsV w3 (.slice a3 M.length c3) M ∧ RowsV w3 (.slice a1 H.length c1) H ∧ Grew w w3) :=
      Lib.hid ⟨H2.out.1.grew hg3, hO3.toV, HV.out.1.grew (H2.out.2.trans hg3), HV.out.2.trans (H2.out.2.trans hg3)⟩
    clear hO3 hg3 H2 HV eM
    go_wp2_with (fail)
    refine (equalRows_any _ _ M M _ H3.out.1 H3.out.2.1).mono ?_
    rw [decide_eq_true (rfl : M = M)]
    rintro e w4 ⟨rfl, hq4⟩
    have hg4 := quiet_grew hq4
    have H4 : Hid (RowsV w4 (.slice a2 M.length c2) M ∧ RowsV w4 (.slice a1 H.length c1) H ∧ Grew w w4) :=
      Lib.hid ⟨H3.out.1.grew hg4, H3.out.2.2.1.grew hg4, H3.out.2.2.2.trans hg4⟩
    clear hq4 hg4 H3
    cases hvg : vGrid H with
    | false =>
      have eM0 : M = [] := by rw [← HM.out, fillL_no hvg]
      have ht : ((M.length : Int) == 0) = true := by simp [eM0]
      clear hvg eM0
      go_wp2_with (fail)
      refine (SFillBySinking_any _ H _ H4.out.2.1).mono ?_
      rw [HM.out]
      rintro e w5 ⟨v5, rfl, hO5, hg5⟩
      obtain ⟨a5, c5, rfl⟩ := hO5.sh
      have H5 := Lib.hid (And.intro hO5.toV hg5)
      clear hO5 hg5
      go_wp2_with (fail)
      refine (equalRows_any _ _ M M _ (H4.out.1.grew H5.out.2) H5.out.1).mono ?_
      rw [decide_eq_true (rfl : M = M)]
      rintro e w6 ⟨rfl, hq6⟩
      have H6 := Lib.hid (quiet_grew hq6)
      clear hq6
      go_wp2
      go_ret
      exact ⟨rfl, H4.out.2.2.trans (H5.out.2.trans H6.out)⟩
    | true =>
      have G := Grid.of hvg
      obtain ⟨A, hML, _⟩ := fill_grid hvg
      rw [HM.out] at A hML
      have hvm := A.to
      have hn1 := G.n1
      have ht : ((M.length : Int) == 0) = false := beq_eq_false_iff_ne.2 (by omega)
      obtain ⟨FM, eFM⟩ : ∃ FM, flipL M = FM := ⟨_, rfl⟩
      obtain ⟨FH, eFH⟩ : ∃ FH, flipL H = FH := ⟨_, rfl⟩
      have hFF : fillL FH = FM := by rw [← eFH, fillL_flip hvg, HM.out, eFM]
      obtain ⟨RM, eRM⟩ : ∃ RM, raisedL M = RM := ⟨_, rfl⟩
      obtain ⟨RH, eRH⟩ : ∃ RH, raisedL H = RH := ⟨_, rfl⟩
      have HRF : Hid (vGrid RH = true → fillL RH = RM) := Lib.hid fun hr => by
        rw [← eRH] at hr ⊢
        rw [fillL_raised hvg hr, HM.out, eRM]
      have HRH : Hid (Calls Tryd.prog 29 #[.slice a1 H.length c1, .int .i64 1] w4 (NewRows w4 RH)) := Lib.hid (by
        rw [← eRH]; exact raisedBy_any _ H w4 H4.out.2.1 hvg)
      have HRM : Hid (∀ W, Grew w4 W → Calls Tryd.prog 29 #[.slice a2 M.length c2, .int .i64 1] W (NewRows W RM)) := Lib.hid fun W hW => by
        rw [← eRM]; exact raisedBy_any _ M W (H4.out.1.grew hW) hvm
      have HFH : Hid (∀ W, Grew w4 W → Calls Tryd.prog 30 #[.slice a1 H.length c1] W (NewRows W FH)) := Lib.hid fun W hW => by
        rw [← eFH]; exact flipped_any _ H W (H4.out.2.1.grew hW) hvg
      have HFM : Hid (∀ W, Grew w4 W → Calls Tryd.prog 30 #[.slice a2 M.length c2] W (NewRows W FM)) := Lib.hid fun W hW => by
        rw [← eFM]; exact flipped_any _ M W (H4.out.1.grew hW) hvm
      have HFF := Lib.hid hFF
      have HGG := Lib.hid H4.out.2.2
      clear hvg G A hML hvm hn1 eFM eFH hFF eRM eRH HM
      go_wp2_with (fail)
      refine HRH.out.mono ?_
      rintro e w5 ⟨v5, rfl, hO5, hg5⟩
      obtain ⟨a5, c5, rfl⟩ := hO5.sh
      have H5 := Lib.hid (And.intro hO5.toV hg5)
      clear hO5 hg5
      have HVG := Lib.hid (ValidGrid_any _ RH _ H5.out.1)
      cases hvr : vGrid RH with
      | false =>
        have HVG2 := HVG.out
        rw [hvr] at HVG2
        have HVG3 := Lib.hid HVG2
        clear hvr HVG2 HVG
        go_wp2_with (fail)
        refine HVG3.out.mono ?_
        rintro e w6 ⟨rfl, rfl⟩
        go_wp2_with (fail)
        refine (HFH.out _ H5.out.2).mono ?_
        rintro e w7 ⟨v7, rfl, hO7, hg7⟩
        obtain ⟨a7, c7, rfl⟩ := hO7.sh
        have H7 := Lib.hid (And.intro hO7.toV (H5.out.2.trans hg7))
        clear hO7 hg7
        go_wp2_with (fail)
        refine (FillBySinking_any _ FH _ H7.out.1 (HS.out.grew (HGG.out.trans H7.out.2))).mono ?_
        rw [HFF.out]
        rintro e w8 ⟨v8, rfl, hO8, hg8⟩
        obtain ⟨a8, c8, rfl⟩ := hO8.sh
        have H8 := Lib.hid (And.intro hO8.toV (H7.out.2.trans hg8))
        clear hO8 hg8
        go_wp2_with (fail)
        refine (HFM.out _ H8.out.2).mono ?_
        rintro e w9 ⟨v9, rfl, hO9, hg9⟩
        obtain ⟨a9, c9, rfl⟩ := hO9.sh
        have H9 := Lib.hid (And.intro (H8.out.1.grew hg9) (And.intro hO9.toV (H8.out.2.trans hg9)))
        clear hO9 hg9
        go_wp2_with (fail)
        refine (equalRows_any _ _ FM FM _ H9.out.1 H9.out.2.1).mono ?_
        rw [decide_eq_true (rfl : FM = FM)]
        rintro e w10 ⟨rfl, hq10⟩
        have H10 := Lib.hid (quiet_grew hq10)
        clear hq10
        go_wp2
        go_ret
        exact ⟨rfl, HGG.out.trans (H9.out.2.2.trans H10.out)⟩
      | true =>
        have HVG2 := HVG.out
        rw [hvr] at HVG2
        have HVG3 := Lib.hid HVG2
        have HRF2 := Lib.hid (HRF.out hvr)
        clear hvr HVG2 HVG HRF
        go_wp2_with (fail)
        refine HVG3.out.mono ?_
        rintro e w6 ⟨rfl, rfl⟩
        go_wp2_with (fail)
        refine (FillBySinking_any _ RH _ H5.out.1 (HS.out.grew (HGG.out.trans H5.out.2))).mono ?_
        rw [HRF2.out]
        rintro e w11 ⟨v11, rfl, hO11, hg11⟩
        obtain ⟨a11, c11, rfl⟩ := hO11.sh
        have H11 := Lib.hid (And.intro hO11.toV (H5.out.2.trans hg11))
        clear hO11 hg11
        go_wp2_with (fail)
        refine (HRM.out _ H11.out.2).mono ?_
        rintro e w12 ⟨v12, rfl, hO12, hg12⟩
        obtain ⟨a12, c12, rfl⟩ := hO12.sh
        have H12 := Lib.hid (And.intro (H11.out.1.grew hg12) (And.intro hO12.toV (H11.out.2.trans hg12)))
        clear hO12 hg12
        go_wp2_with (fail)
        refine (equalRows_any _ _ RM RM _ H12.out.1 H12.out.2.1).mono ?_
        rw [decide_eq_true (rfl : RM = RM)]
        rintro e w13 ⟨rfl, hq13⟩
        have H13 := Lib.hid (H12.out.2.2.trans (quiet_grew hq13))
        clear hq13
        go_wp2_with (fail)
        refine (HFH.out _ H13.out).mono ?_
        rintro e w7 ⟨v7, rfl, hO7, hg7⟩
        obtain ⟨a7, c7, rfl⟩ := hO7.sh
        have H7 := Lib.hid (And.intro hO7.toV (H13.out.trans hg7))
        clear hO7 hg7
        go_wp2_with (fail)
        refine (FillBySinking_any _ FH _ H7.out.1 (HS.out.grew (HGG.out.trans H7.out.2))).mono ?_
        rw [HFF.out]
        rintro e w8 ⟨v8, rfl, hO8, hg8⟩
        obtain ⟨a8, c8, rfl⟩ := hO8.sh
        have H8 := Lib.hid (And.intro hO8.toV (H7.out.2.trans hg8))
        clear hO8 hg8
        go_wp2_with (fail)
        refine (HFM.out _ H8.out.2).mono ?_
        rintro e w9 ⟨v9, rfl, hO9, hg9⟩
        obtain ⟨a9, c9, rfl⟩ := hO9.sh
        have H9 := Lib.hid (And.intro (H8.out.1.grew hg9) (And.intro hO9.toV (H8.out.2.trans hg9)))
        clear hO9 hg9
        go_wp2_with (fail)
        refine (equalRows_any _ _ FM FM _ H9.out.1 H9.out.2.1).mono ?_
        rw [decide_eq_true (rfl : FM = FM)]
        rintro e w10 ⟨rfl, hq10⟩
        have H10 := Lib.hid (quiet_grew hq10)
        clear hq10
        go_wp2
        go_ret
        exact ⟨rfl, HGG.out.trans (H9.out.2.2.trans H10.out)⟩
end Go.Proofs.YthjnfkphlildaaaDoor
