/- The law FnLevelFor returns true. -/
import Derived.Test.YtkhgcfchaogccaaDoorPondLaw
import Derived.Test.YtkhgcfchaogccaaDoorSPondA
import Derived.Test.YtkhgcfchaogccaaDoorDraws9
import Derived.Test.YtkhgcfchaogccaaDoorRowOf
namespace Go.Proofs.YtkhgcfchaogccaaDoor
open Go.RowKit

set_option maxRecDepth 100000 in
set_option maxHeartbeats 4000000 in
theorem FnLevelFor_any (v : Value) (bs : List Int) (w : World) (hv : NumsV .u8 w v bs) (hb : ∀ i, i < bs.length → 0 ≤ bs.getD i 0 ∧ bs.getD i 0 ≤ 255) (hS : Steps w) :
    Calls Tryd.prog 4 #[v] w fun e w' => e = .returned (.bool true) ∧ Grew w w' := by
  have HD := Lib.hid (DrawLevelFor_any v bs w hv hb)
  have HS := Lib.hid hS
  obtain ⟨a, b, o, c, rfl, ⟨hlc, hcb⟩, _, _⟩ := hv.shape
  clear hv hb hS
  by_cases hbig : 1048576 < bs.length
  · go_enter Tryd.func4, Tryd.ntmps4
    go_wp2
    go_ret
    exact ⟨rfl, Grew.refl _⟩
  · go_enter Tryd.func4, Tryd.ntmps4
    go_wp2_with (fail)
    refine HD.out.mono ?_
    rintro e w1 ⟨v1, H, i, s, rfl, hO, hd, hs, hg1⟩
    have HV := Lib.hid (And.intro hO.toV (And.intro hg1 (HS.out.grew hg1)))
    obtain ⟨a3, n3, c3, rfl⟩ : ∃ a n c, v1 = .slice a n c := by
      rcases hO.shape with ⟨rfl, _⟩ | ⟨g, c, rfl, _⟩ <;> exact ⟨_, _, _, rfl⟩
    clear hO hd hg1 HD
    have HPI := Lib.hid fun (t : Int) W hW => PondAt_any _ H i t W (HV.out.1.grew hW) (HV.out.2.2.grew hW)
    have HPS := Lib.hid fun (t : Int) W hW => SPondAt_any _ H i t W (HV.out.1.grew hW)
    have HLI := Lib.hid fun (t : Int) W hW => LevelFor_any _ H i t W (HV.out.1.grew hW) (HV.out.2.2.grew hW)
    have HLS := Lib.hid fun (t : Int) W hW => SLevelFor_any _ H i t W (HV.out.1.grew hW)
    obtain ⟨U, eU⟩ : ∃ U, levelX H i s = U := ⟨_, rfl⟩
    have HU := Lib.hid eU
    clear eU
    have huu : (U != U) = false := by simp
    go_wp2_with (fail)
    refine (HLI.out s _ (Grew.refl _)).mono ?_
    rw [HU.out]
    rintro e w2 ⟨rfl, hg2⟩
    have H2 := Lib.hid hg2
    clear hg2
    go_wp2_with (fail)
    refine (HLS.out s _ H2.out).mono ?_
    rw [HU.out]
    rintro e w3 ⟨rfl, hg3⟩
    have H3 := Lib.hid (H2.out.trans hg3)
    clear hg3
    by_cases hn : U < 0
    · have hue : (U == U) = true := by simp
      go_wp2_with (fail)
      refine (HLS.out s _ H3.out).mono ?_
      rw [HU.out]
      rintro e w4 ⟨rfl, hg4⟩
      have H4 := Lib.hid (H3.out.trans hg4)
      clear hg4
      go_wp2
      go_ret
      exact ⟨rfl, HV.out.2.1.trans H4.out⟩
    · have hy := level_yes (h := H) (i := i) (c := s) (by rw [HU.out]; exact hn)
      have hlaw := level_law hy.1 hy.2
      rw [HU.out] at hlaw
      obtain ⟨l1, l2, hok, l4, l5⟩ := hlaw
      have l5' := l5 (U + 1) (by omega)
      obtain ⟨A, eA⟩ : ∃ A, pondAX H i U = A := ⟨_, rfl⟩
      obtain ⟨B, eB⟩ : ∃ B, pondBX H i U = B := ⟨_, rfl⟩
      obtain ⟨A2, eA2⟩ : ∃ A2, pondAX H i (U + 1) = A2 := ⟨_, rfl⟩
      obtain ⟨B2, eB2⟩ : ∃ B2, pondBX H i (U + 1) = B2 := ⟨_, rfl⟩
      rw [eB] at l4
      rw [eB2] at l5'
      have HAB := Lib.hid (And.intro eA (And.intro eB (And.intro eA2 eB2)))
      have HL5 := Lib.hid l5'
      have q1 : IntKind.i64.wrap (U + 1) = U + 1 := wrap_p _ (by omega) (by omega)
      clear hy hok l5 l5' eA eB eA2 eB2
      go_wp2_with (fail)
      refine (HPI.out U _ H3.out).mono ?_
      rw [HAB.out.1, HAB.out.2.1]
      rintro e w4 ⟨rfl, hg4⟩
      have H4 := Lib.hid (H3.out.trans hg4)
      clear hg4
      go_wp2_with (fail)
      refine (HPI.out (U + 1) _ H4.out).mono ?_
      rw [HAB.out.2.2.1, HAB.out.2.2.2]
      rintro e w5 ⟨rfl, hg5⟩
      have H5 := Lib.hid (H4.out.trans hg5)
      clear hg5
      by_cases h12 : U = 12
      · have h12b : (U == 12) = true := by simp [h12]
        clear h12
        go_wp2
        go_ret
        exact ⟨rfl, HV.out.2.1.trans H5.out⟩
      · have h12b : (U == 12) = false := beq_eq_false_iff_ne.2 h12
        have hu := HL5.out (by omega)
        clear h12
        go_wp2
        go_ret
        exact ⟨rfl, HV.out.2.1.trans H5.out⟩
end Go.Proofs.YtkhgcfchaogccaaDoor
