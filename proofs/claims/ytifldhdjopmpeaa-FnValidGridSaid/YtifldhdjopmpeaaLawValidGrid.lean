/- The law FnValidGrid returns true. -/
import Derived.Test.YtifldhdjopmpeaaSGrid
import Derived.Test.YtifldhdjopmpeaaDraws
import Derived.Test.YtifldhdjopmpeaaFlipped
import Derived.Test.YtifldhdjopmpeaaUnder
namespace Go.Proofs.Ytifldhdjopmpeaa
open Go.RowKit

set_option maxRecDepth 100000 in
set_option maxHeartbeats 1000000 in
theorem FnValidGrid_any (v : Value) (bs : List Int) (w : World) (hv : NumsV .u8 w v bs) (hb : ∀ i, i < bs.length → 0 ≤ bs.getD i 0 ∧ bs.getD i 0 ≤ 255) :
    Calls Try.prog 3 #[v] w fun e w' => e = .returned (.bool true) ∧ Grew w w' := by
  have HD := Lib.hid (DrawValidGrid_any v bs w hv hb)
  obtain ⟨a, b, o, c, rfl, ⟨hlc, hcb⟩, _, _⟩ := hv.shape
  clear hv hb
  by_cases hbig : 1048576 < bs.length
  · go_enter Try.func3, Try.ntmps3
    go_wp2
    go_ret
    exact ⟨rfl, Grew.refl _⟩
  · go_enter Try.func3, Try.ntmps3
    go_wp2_with (fail)
    refine HD.out.mono ?_
    rintro e w1 ⟨v1, H, rfl, hO, hd, hg1⟩
    have hV := hO.toV
    have HV := Lib.hid (And.intro hV hg1)
    obtain ⟨a3, n3, c3, rfl⟩ : ∃ a n c, v1 = .slice a n c := by
      rcases hO.shape with ⟨rfl, _⟩ | ⟨g, c, rfl, _⟩ <;> exact ⟨_, _, _, rfl⟩
    clear hO hd hV hg1 HD
    go_wp2_with (fail)
    refine (ValidGrid_any _ H _ HV.out.1).mono ?_
    rintro e w2 ⟨rfl, rfl⟩
    cases hvg : vGrid H with
    | false =>
      have HVG := Lib.hid hvg
      clear hvg
      go_wp2_with (fail)
      refine (SValidGrid_any _ H _ HV.out.1).mono ?_
      rw [HVG.out]
      rintro e w3 ⟨rfl, hg3⟩
      have HG3 := Lib.hid hg3
      clear hg3
      go_wp2_with (fail)
      refine (SValidGrid_any _ H _ (HV.out.1.grew HG3.out)).mono ?_
      rw [HVG.out]
      rintro e w4 ⟨rfl, hg4⟩
      have HG4 := Lib.hid hg4
      clear hg4
      go_wp2
      go_ret
      exact ⟨rfl, HV.out.2.trans (HG3.out.trans HG4.out)⟩
    | true =>
      have HVG := Lib.hid hvg
      clear hvg
      go_wp2_with (fail)
      refine (SValidGrid_any _ H _ HV.out.1).mono ?_
      rw [HVG.out]
      rintro e w3 ⟨rfl, hg3⟩
      have HG3 := Lib.hid hg3
      clear hg3
      go_wp2_with (fail)
      refine (flipped_any _ H _ (HV.out.1.grew HG3.out) HVG.out).mono ?_
      rintro e w4 ⟨v4, rfl, hO4, hg4⟩
      have HF4 := Lib.hid (And.intro hO4 hg4)
      clear hO4 hg4
      go_wp2_with (fail)
      refine (ValidGrid_any _ (flipL H) _ HF4.out.1.toV).mono ?_
      rw [(flip_grid (Grid.of HVG.out)).to]
      rintro e w5 ⟨rfl, rfl⟩
      go_wp2_with (fail)
      refine (under_any _ H _ (HV.out.1.grew (HG3.out.trans HF4.out.2)) HVG.out).mono ?_
      rintro e w6 ⟨v6, rfl, hO6, hg6⟩
      have HF6 := Lib.hid (And.intro hO6 hg6)
      clear hO6 hg6
      go_wp2_with (fail)
      refine (ValidGrid_any _ (underL H) _ HF6.out.1.toV).mono ?_
      rw [(under_grid (Grid.of HVG.out)).to]
      rintro e w7 ⟨rfl, rfl⟩
      go_wp2
      go_ret
      exact ⟨rfl, HV.out.2.trans (HG3.out.trans (HF4.out.2.trans HF6.out.2))⟩
end Go.Proofs.Ytifldhdjopmpeaa
