/- The law FnValidProfile returns true. -/
import Derived.Test.YtifldhdjopmpeaaProf
import Derived.Test.YtifldhdjopmpeaaDrawsP
import Derived.Test.YtifldhdjopmpeaaBackw
namespace Go.Proofs.Ytifldhdjopmpeaa
open Go.RowKit

theorem vProf_reverse (xs : List Int) : vProf xs.reverse = vProf xs := by
  simp [vProf, vHts]

set_option maxRecDepth 100000 in
set_option maxHeartbeats 1000000 in
theorem FnValidProfile_any (v : Value) (bs : List Int) (w : World) (hv : NumsV .u8 w v bs) (hb : ∀ i, i < bs.length → 0 ≤ bs.getD i 0 ∧ bs.getD i 0 ≤ 255) :
    Calls Try.prog 10 #[v] w fun e w' => e = .returned (.bool true) ∧ Grew w w' := by
  have HD := Lib.hid (DrawValidProfile_any v bs w hv hb)
  obtain ⟨a, b, o, c, rfl, ⟨hlc, hcb⟩, _, _⟩ := hv.shape
  clear hv hb
  by_cases hbig : 1048576 < bs.length
  · go_enter Try.func10, Try.ntmps10
    go_wp2
    go_ret
    exact ⟨rfl, Grew.refl _⟩
  · go_enter Try.func10, Try.ntmps10
    go_wp2_with (fail)
    refine HD.out.mono ?_
    rintro e w1 ⟨v1, xs, rfl, hO, hd, hg1⟩
    have HV := Lib.hid (And.intro hO.toV hg1)
    have h9 := hd.1
    obtain ⟨a3, n3, c3, rfl⟩ : ∃ a n c, v1 = .slice a n c := by
      rcases hO.shape with ⟨rfl, _⟩ | ⟨g, c, rfl, _⟩ <;> exact ⟨_, _, _, rfl⟩
    clear hO hd hg1 HD
    go_wp2_with (fail)
    refine (ValidProfile_any _ xs _ HV.out.1).mono ?_
    rintro e w2 ⟨rfl, rfl⟩
    cases hvg : vProf xs with
    | false =>
      have HVG := Lib.hid hvg
      clear hvg
      go_wp2_with (fail)
      refine (SValidProfile_any _ xs _ HV.out.1).mono ?_
      rw [HVG.out]
      rintro e w3 ⟨rfl, rfl⟩
      go_wp2_with (fail)
      refine (SValidProfile_any _ xs _ HV.out.1).mono ?_
      rw [HVG.out]
      rintro e w4 ⟨rfl, rfl⟩
      go_wp2
      go_ret
      exact ⟨rfl, HV.out.2⟩
    | true =>
      have HVG := Lib.hid hvg
      clear hvg
      go_wp2_with (fail)
      refine (SValidProfile_any _ xs _ HV.out.1).mono ?_
      rw [HVG.out]
      rintro e w3 ⟨rfl, rfl⟩
      go_wp2_with (fail)
      refine (backwards_any _ xs _ HV.out.1 (by omega)).mono ?_
      rintro e w4 ⟨v4, rfl, hO4, hg4⟩
      have HF4 := Lib.hid (And.intro hO4.toV hg4)
      clear hO4 hg4
      go_wp2_with (fail)
      refine (ValidProfile_any _ xs.reverse _ HF4.out.1).mono ?_
      rw [vProf_reverse, HVG.out]
      rintro e w5 ⟨rfl, rfl⟩
      go_wp2
      go_ret
      exact ⟨rfl, HV.out.2.trans HF4.out.2⟩
end Go.Proofs.Ytifldhdjopmpeaa
