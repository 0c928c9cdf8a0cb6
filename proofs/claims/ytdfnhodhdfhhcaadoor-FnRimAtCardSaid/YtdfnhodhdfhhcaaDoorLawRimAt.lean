/- The law FnRimAt returns true. -/
import Derived.Test.YtdfnhodhdfhhcaaDoorRimS
import Derived.Test.YtdfnhodhdfhhcaaDoorDrawsL
import Derived.Test.YtdfnhodhdfhhcaaDoorRowOf
namespace Go.Proofs.YtdfnhodhdfhhcaaDoor
open Go.RowKit

set_option maxRecDepth 100000 in
set_option maxHeartbeats 4000000 in
theorem FnRimAt_any (v : Value) (bs : List Int) (w : World) (hv : NumsV .u8 w v bs) (hb : ∀ i, i < bs.length → 0 ≤ bs.getD i 0 ∧ bs.getD i 0 ≤ 255) (hS : Steps w) :
    Calls Tryd.prog 3 #[v] w fun e w' => e = .returned (.bool true) ∧ Grew w w' := by
  have HD := Lib.hid (DrawRimAt_any v bs w hv hb)
  have HS := Lib.hid hS
  obtain ⟨a, b, o, c, rfl, ⟨hlc, hcb⟩, _, _⟩ := hv.shape
  clear hv hb hS
  by_cases hbig : 1048576 < bs.length
  · go_enter Tryd.func3, Tryd.ntmps3
    go_wp2
    go_ret
    exact ⟨rfl, Grew.refl _⟩
  · go_enter Tryd.func3, Tryd.ntmps3
    go_wp2_with (fail)
    refine HD.out.mono ?_
    rintro e w1 ⟨v1, h, t, rfl, hO, hd, ht, hg1⟩
    have HV := Lib.hid (And.intro hO.toV hg1)
    have HS1 : Hid (Steps w1) := Lib.hid (HS.out.grew hg1)
    obtain ⟨a3, c3, rfl⟩ := hO.sh
    obtain ⟨X, eX⟩ : ∃ X, rimX h t = X := ⟨_, rfl⟩
    have HX := Lib.hid eX
    clear hO hd hg1 HD eX
    go_wp2_with (fail)
    (with_reducible refine (RimAt_any _ h t _ HV.out.1 HS1.out).mono ?_)
    rw [HX.out]
    rintro e w2 ⟨rfl, hg2⟩
    have HG2 := Lib.hid hg2
    clear hg2
    go_wp2_with (fail)
    (with_reducible refine (SRimAt_any _ h t _ (HV.out.1.grew HG2.out)).mono ?_)
    rw [HX.out]
    rintro e w3 ⟨rfl, hg3⟩
    have HG3 := Lib.hid (HG2.out.trans hg3)
    clear hg3
    have exx : (X != X) = false := by simp
    cases hp : vLevel h t with
    | false =>
      have hX : X = -1 := by rw [← HX.out]; unfold rimX; rw [hp]; rfl
      subst hX
      clear hp
      go_wp2_with (fail)
      (with_reducible refine (SRimAt_any _ h t _ (HV.out.1.grew HG3.out)).mono ?_)
      rw [HX.out]
      rintro e w4 ⟨rfl, hg4⟩
      have HG4 := Lib.hid (HV.out.2.trans (HG3.out.trans hg4))
      clear hg4
      go_wp2
      go_ret
      exact ⟨rfl, HG4.out⟩
    | true =>
      have hg := vLevel_grid hp
      have G := Grid.of hg
      have hN := flat_grid_len G
      have hx : X = rimL h.flatten t h.length (h.getD 0 []).length (h.length * (h.getD 0 []).length) := by rw [← HX.out]; unfold rimX; rw [if_pos hp, hN]
      obtain ⟨A, eA⟩ : ∃ A, areaX h t = A := ⟨_, rfl⟩
      have hA : A = areaL h.flatten t := by rw [← eA]; unfold areaX; rw [if_pos hp]
      obtain ⟨f1, f2, f3, f4, f5, f6⟩ := rim_area t G.n5 G.m5 hN
      rw [← hx] at f3 f4 f5 f6
      rw [← hA] at f1 f2 f5 f6
      have HA := Lib.hid eA
      have hX0 : ¬ X < 0 := by omega
      have hX100 : X ≤ 100 := by omega
      have hq : X * X ≤ 100 * 100 := Int.mul_le_mul hX100 hX100 f3 (by decide)
      have hq0 : 0 ≤ X * X := Int.mul_nonneg f3 f3
      obtain ⟨Q, eQ⟩ : ∃ Q, X * X = Q := ⟨_, rfl⟩
      rw [eQ] at hq hq0 f6
      have hm : X.tmod 2 = 0 := by rw [Int.tmod_eq_emod_of_nonneg f3]; exact f4
      have w1' : IntKind.i64.wrap (X * X) = Q := by rw [eQ]; exact IntWalk.i64_in _ (by omega)
      have w2' : IntKind.i64.wrap (4 * A) = 4 * A := IntWalk.i64_in _ (by omega)
      have w3' : IntKind.i64.wrap (16 * A) = 16 * A := IntWalk.i64_in _ (by omega)
      clear hx hA hN eA hg hp ht G
      go_wp2_with (fail)
      (with_reducible refine (AreaAt_any _ h t _ (HV.out.1.grew HG3.out)).mono ?_)
      rw [HA.out]
      rintro e w4 ⟨rfl, hg4⟩
      have HG4 := Lib.hid (HV.out.2.trans (HG3.out.trans hg4))
      clear hg4
      have d1 : decide (X ≤ 4 * A) = true := decide_eq_true f5
      have d2 : decide (16 * A ≤ Q) = true := decide_eq_true f6
      go_wp2
      go_ret
      exact ⟨rfl, HG4.out⟩
end Go.Proofs.YtdfnhodhdfhhcaaDoor
