/- The law FnStandsOf returns true. -/
import Derived.Test.YthlanmnjkonbjaaDoorStands
import Derived.Test.YthlanmnjkonbjaaDoorLawPeaksOf
import Derived.Test.YthlanmnjkonbjaaDoorUnder
namespace Go.Proofs.YthlanmnjkonbjaaDoor
open Go.RowKit

set_option maxRecDepth 100000 in
set_option maxHeartbeats 4000000 in
theorem FnStandsOf_any (v : Value) (bs : List Int) (w : World) (hv : NumsV .u8 w v bs) (hb : ∀ i, i < bs.length → 0 ≤ bs.getD i 0 ∧ bs.getD i 0 ≤ 255) (hS : Steps w) :
    Calls Tryd.prog 8 #[v] w fun e w' => e = .returned (.bool true) ∧ Grew w w' := by
  have HD := Lib.hid (DrawStandsOf_any v bs w hv hb)
  have HS := Lib.hid hS
  obtain ⟨a, b, o, c, rfl, ⟨hlc, hcb⟩, _, _⟩ := hv.shape
  clear hv hb hS
  by_cases hbig : 1048576 < bs.length
  · go_enter Tryd.func8, Tryd.ntmps8
    go_wp2
    go_ret
    exact ⟨rfl, Grew.refl _⟩
  · go_enter Tryd.func8, Tryd.ntmps8
    go_wp2_with (fail)
    refine HD.out.mono ?_
    rintro e w1 ⟨v1, H, rfl, hO, hd, hg1⟩
    have HV := Lib.hid (And.intro hO.toV hg1)
    obtain ⟨a1, c1, rfl⟩ := hO.sh
    obtain ⟨M, eM⟩ : ∃ M, standsL H = M := ⟨_, rfl⟩
    have HM := Lib.hid eM
    clear hO hd hg1 HD
    go_wp2_with (fail)
    refine (StandsOf_any _ H _ HV.out.1 (HS.out.grew HV.out.2)).mono ?_
    rw [eM]
    rintro e w2 ho2
    obtain ⟨a2, c2, rfl, hO2, hg2⟩ := ho2.shape
    have H2 := Lib.hid (And.intro hO2.toV hg2)
    clear hO2 hg2 ho2
    go_wp2_with (fail)
    refine (SStandsOf_any _ H _ (HV.out.1.grew H2.out.2)).mono ?_
    rw [eM]
    rintro e w3 ho3
    obtain ⟨a3, c3, rfl, hO3, hg3⟩ := ho3.shape
    have H3 : Hid (IntsV w3 (.slice a2 M.length c2) M ∧ IntsV w3 (.slice a3 M.length c3) M ∧ RowsV w3 (.slice a1 H.length c1) H ∧ Grew w w3) :=
      Lib.hid ⟨H2.out.1.grew hg3, hO3.toV, HV.out.1.grew (H2.out.2.trans hg3), HV.out.2.trans (H2.out.2.trans hg3)⟩
    clear hO3 hg3 ho3 H2 HV eM
    go_wp2_with (fail)
    refine (equalInts_any _ _ M M _ H3.out.1 H3.out.2.1).mono ?_
    rw [decide_eq_true (rfl : M = M)]
    rintro e w4 ⟨rfl, hq4⟩
    have hg4 := quiet_grew hq4
    have H4 : Hid (IntsV w4 (.slice a2 M.length c2) M ∧ RowsV w4 (.slice a1 H.length c1) H ∧ Grew w w4) :=
      Lib.hid ⟨H3.out.1.grew hg4, H3.out.2.2.1.grew hg4, H3.out.2.2.2.trans hg4⟩
    clear hq4 hg4 H3
    have HVG := Lib.hid (ValidGrid_any _ H _ H4.out.2.1)
    cases hvg : vGrid H with
    | false =>
      have HVG2 := HVG.out
      rw [hvg] at HVG2
      have HVG3 := Lib.hid HVG2
      clear hvg HVG2 HVG
      go_wp2_with (fail)
      refine HVG3.out.mono ?_
      rintro e w5 ⟨rfl, rfl⟩
      go_wp2_with (fail)
      refine (SStandsOf_any _ H _ H4.out.2.1).mono ?_
      rw [HM.out]
      rintro e w5 ho5
      obtain ⟨a5, c5, rfl, hO5, hg5⟩ := ho5.shape
      have H5 := Lib.hid (And.intro hO5.toV hg5)
      clear hO5 hg5 ho5
      go_wp2_with (fail)
      refine (equalInts_any _ _ M M _ (H4.out.1.grew H5.out.2) H5.out.1).mono ?_
      rw [decide_eq_true (rfl : M = M)]
      rintro e w6 ⟨rfl, hq6⟩
      have H6 := Lib.hid (quiet_grew hq6)
      clear hq6
      go_wp2
      go_ret
      exact ⟨rfl, H4.out.2.2.trans (H5.out.2.trans H6.out)⟩
    | true =>
      have HVG2 := HVG.out
      rw [hvg] at HVG2
      have HVG3 := Lib.hid HVG2
      have hMk : M = keepsL (underL H) := by rw [← HM.out, standsL, if_pos hvg]
      have hMl : M.length = (peaksL H).length := by rw [hMk, keepsL, List.length_map, pits_under hvg]
      have HUN := Lib.hid fun W (hW : Grew w4 W) => under_any _ H W (H4.out.2.1.grew hW) hvg
      have HKE : Hid (∀ v W, RowsV W v (underL H) → Grew w4 W → Calls Tryd.prog 36 #[v] W (OwnI W M)) := Lib.hid fun v W h hW => by
        have := KeepsOf_any v (underL H) W h (HS.out.grew (H4.out.2.2.trans hW))
        rwa [← hMk] at this
      have HPE := Lib.hid fun W (hW : Grew w4 W) => PeaksOf_any _ H W (H4.out.2.1.grew hW) (HS.out.grew (H4.out.2.2.trans hW))
      obtain ⟨U, eU⟩ : ∃ U, underL H = U := ⟨_, rfl⟩
      obtain ⟨P, eP⟩ : ∃ P, peaksL H = P := ⟨_, rfl⟩
      rw [eU] at HUN HKE
      rw [eP] at HPE hMl
      have HML := Lib.hid hMl
      have HMV := Lib.hid H4.out.1
      obtain ⟨ln, eln⟩ : ∃ ln, M.length = ln := ⟨_, rfl⟩
      have HEL := Lib.hid eln
      rw [eln] at HMV ⊢
      have hgg := Lib.hid H4.out.2.2
      clear hvg HVG HVG2 hMk hMl eU eP eln HM H4
      go_wp2_with (fail)
      refine HVG3.out.mono ?_
      rintro e w5 ⟨rfl, rfl⟩
      go_wp2_with (fail)
      refine (HUN.out _ (Grew.refl _)).mono ?_
      rintro e w6 ⟨v6, rfl, hO6, hg6⟩
      obtain ⟨a6, c6, rfl⟩ := hO6.sh
      have H6 := Lib.hid (And.intro hO6.toV hg6)
      clear hO6 hg6
      go_wp2_with (fail)
      refine (HKE.out _ _ H6.out.1 H6.out.2).mono ?_
      rintro e w7 ho7
      obtain ⟨a7, c7, rfl, hO7, hg7⟩ := ho7.shape
      rw [HEL.out] at hO7 ⊢
      have H7 : Hid (IntsV w7 (.slice a7 ln c7) M ∧ IntsV w7 (.slice a2 ln c2) M ∧ Grew w4 w7) := Lib.hid ⟨hO7.toV, NumsV.grew HMV.out (H6.out.2.trans hg7), H6.out.2.trans hg7⟩
      clear hO7 hg7 ho7
      go_wp2_with (fail)
      refine (equalInts_any _ _ M M _ H7.out.1 H7.out.2.1).mono ?_
      rw [decide_eq_true (rfl : M = M)]
      rintro e w8 ⟨rfl, hq8⟩
      have H8 := Lib.hid (H7.out.2.2.trans (quiet_grew hq8))
      clear hq8
      go_wp2_with (fail)
      refine (HPE.out _ H8.out).mono ?_
      rintro e w9 ho9
      obtain ⟨a9, c9, rfl, _, hg9⟩ := ho9.shape
      have hPl : P.length = ln := by rw [← HML.out]; exact HEL.out
      rw [hPl]
      have H9 := Lib.hid (hgg.out.trans (H8.out.trans hg9))
      clear hg9 ho9 hPl
      go_wp2
      go_ret
      exact ⟨ret_bool (by simp), H9.out⟩
end Go.Proofs.YthlanmnjkonbjaaDoor
