/- The law FnLevelsFillPonds returns true. -/
import Derived.Test.YtkhgcfchaogccaaDoorPondLaw
import Derived.Test.YtkhgcfchaogccaaDoorSPondA
import Derived.Test.YtkhgcfchaogccaaDoorDraws9
import Derived.Test.YtkhgcfchaogccaaDoorRowOf
namespace Go.Proofs.YtkhgcfchaogccaaDoor
open Go.RowKit

set_option maxRecDepth 100000 in
set_option maxHeartbeats 4000000 in
theorem FnLevelsFillPonds_any (v : Value) (bs : List Int) (w : World) (hv : NumsV .u8 w v bs) (hb : ∀ i, i < bs.length → 0 ≤ bs.getD i 0 ∧ bs.getD i 0 ≤ 255) (hS : Steps w) :
    Calls Tryd.prog 5 #[v] w fun e w' => e = .returned (.bool true) ∧ Grew w w' := by
  have HD := Lib.hid (DrawPondAt_any v bs w hv hb)
  have HS := Lib.hid hS
  obtain ⟨a, b, o, c, rfl, ⟨hlc, hcb⟩, _, _⟩ := hv.shape
  clear hv hb hS
  by_cases hbig : 1048576 < bs.length
  · go_enter Tryd.func5, Tryd.ntmps5
    go_wp2
    go_ret
    exact ⟨rfl, Grew.refl _⟩
  · go_enter Tryd.func5, Tryd.ntmps5
    go_wp2_with (fail)
    refine HD.out.mono ?_
    rintro e w1 ⟨v1, H, i, s, rfl, hO, hd, hs, hg1⟩
    have HV := Lib.hid (And.intro hO.toV (And.intro hg1 (HS.out.grew hg1)))
    obtain ⟨a3, n3, c3, rfl⟩ : ∃ a n c, v1 = .slice a n c := by
      rcases hO.shape with ⟨rfl, _⟩ | ⟨g, c, rfl, _⟩ <;> exact ⟨_, _, _, rfl⟩
    clear hO hd hg1 HD
    have HPI := Lib.hid fun (t : Int) W hW => PondAt_any _ H i t W (HV.out.1.grew hW) (HV.out.2.2.grew hW)
    have HPS := Lib.hid fun (t : Int) W hW => SPondAt_any _ H i t W (HV.out.1.grew hW)
    have HLI := Lib.hid fun (t : Int) W hW => LevelFor_any _ H i t W (HV.out.1.grew hW) (HV.out.2.2.grew hW)
    have HLS := Lib.hid fun (t : Int) W hW => SLevelFor_any _ H i t W (HV.out.1.grew hW)
    obtain ⟨X, eX⟩ : ∃ X, pondAX H i s = X := ⟨_, rfl⟩
    obtain ⟨Y, eY⟩ : ∃ Y, pondBX H i s = Y := ⟨_, rfl⟩
    have HX := Lib.hid (And.intro eX eY)
    clear eX eY
    have hxx : (X != X) = false := by simp
    have hyy : (Y != Y) = false := by simp
    go_wp2_with (fail)
    refine (HPI.out s _ (Grew.refl _)).mono ?_
    rw [HX.out.1, HX.out.2]
    rintro e w2 ⟨rfl, hg2⟩
    have H2 := Lib.hid hg2
    clear hg2
    go_wp2_with (fail)
    refine (HPS.out s _ H2.out).mono ?_
    rw [HX.out.1, HX.out.2]
    rintro e w3 ⟨rfl, hg3⟩
    have H3 := Lib.hid (H2.out.trans hg3)
    clear hg3
    go_wp2_with (fail)
    refine (HPI.out s _ H3.out).mono ?_
    rw [HX.out.1, HX.out.2]
    rintro e w4 ⟨rfl, hg4⟩
    have H4 := Lib.hid (H3.out.trans hg4)
    clear hg4
    by_cases hn : Y < 0
    · go_wp2
      go_ret
      exact ⟨rfl, HV.out.2.1.trans H4.out⟩
    · have hok : pondOk H i s = true := by
        refine Classical.byContradiction fun h => hn ?_
        rw [← HX.out.2]
        exact pondBX_neg.2 h
      have hlaw := fills_law hok
      rw [HX.out.2] at hlaw
      obtain ⟨U, eU⟩ : ∃ U, levelX H i Y = U := ⟨_, rfl⟩
      rw [eU] at hlaw
      obtain ⟨A, eA⟩ : ∃ A, pondAX H i U = A := ⟨_, rfl⟩
      have HU := Lib.hid (And.intro eU (And.intro eA hlaw.2))
      have hsU := hlaw.1
      have hyy2 : (Y == Y) = true := by simp
      clear hok hlaw eU eA
      go_wp2_with (fail)
      refine (HLI.out Y _ H4.out).mono ?_
      rw [HU.out.1]
      rintro e w5 ⟨rfl, hg5⟩
      have H5 := Lib.hid (H4.out.trans hg5)
      clear hg5
      go_wp2_with (fail)
      refine (HPI.out U _ H5.out).mono ?_
      rw [HU.out.2.1, HU.out.2.2]
      rintro e w6 ⟨rfl, hg6⟩
      have H6 := Lib.hid (H5.out.trans hg6)
      clear hg6
      go_wp2
      go_ret
      exact ⟨rfl, HV.out.2.1.trans H6.out⟩
end Go.Proofs.YtkhgcfchaogccaaDoor
