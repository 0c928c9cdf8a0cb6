/- The law FnOnEdge returns true. -/
import Derived.Test.YtgecghngfonejaaDoorAroundOf
import Derived.Test.YtgecghngfonejaaDoorRowOf
import Derived.Test.YtgecghngfonejaaDoorDraws2
namespace Go.Proofs.YtgecghngfonejaaDoor
open Go.RowKit

/-- What the number of cells beside says of a cell of the grid. -/
theorem edge_around {h : List (List Int)} {i : Int} (hg : vGrid h = true) (h0 : 0 ≤ i) (h1 : i < (h.flatten.length : Int)) : edgeB h i = decide ((aroundOfL h i).length < 4) := by
  have G := Grid.of hg
  have hc : vCell h i = true := by
    rw [flat_grid_len G] at h1
    have e2 : ((h.length * (h.getD 0 []).length : Nat) : Int) = (h.length : Int) * (h.getD 0 []).length := by simp
    rw [vCell, hg]
    simp only [Bool.true_and, Bool.and_eq_true, decide_eq_true_eq]
    exact ⟨h0, by rw [← e2]; exact h1⟩
  rw [edgeB, aroundOfL, hc, if_pos rfl, Bool.true_and]

set_option maxRecDepth 100000 in
set_option maxHeartbeats 2000000 in
theorem FnOnEdge_any (v : Value) (bs : List Int) (w : World) (hv : NumsV .u8 w v bs) (hb : ∀ i, i < bs.length → 0 ≤ bs.getD i 0 ∧ bs.getD i 0 ≤ 255) (hS : Steps w) :
    Calls Tryd.prog 11 #[v] w fun e w' => e = .returned (.bool true) ∧ Grew w w' := by
  have HD := Lib.hid (DrawOnEdge_any v bs w hv hb)
  have HS := Lib.hid hS
  obtain ⟨a, b, o, c, rfl, ⟨hlc, hcb⟩, _, _⟩ := hv.shape
  clear hv hb hS
  by_cases hbig : 1048576 < bs.length
  · go_enter Tryd.func11, Tryd.ntmps11
    go_wp2
    go_ret
    exact ⟨rfl, Grew.refl _⟩
  · go_enter Tryd.func11, Tryd.ntmps11
    go_wp2_with (fail)
    refine HD.out.mono ?_
    rintro e w1 ⟨v1, H, i, rfl, hO, hd, hg1⟩
    have HV := Lib.hid (And.intro hO.toV hg1)
    obtain ⟨a3, n3, c3, rfl⟩ : ∃ a n c, v1 = .slice a n c := by
      rcases hO.shape with ⟨rfl, _⟩ | ⟨g, c, rfl, _⟩ <;> exact ⟨_, _, _, rfl⟩
    clear hO hd hg1 HD
    obtain ⟨eb, eeb⟩ : ∃ eb, edgeB H i = eb := ⟨_, rfl⟩
    have HEB := Lib.hid eeb
    clear eeb
    go_wp2_with (fail)
    refine (OnEdge_any _ H i _ HV.out.1 (HS.out.grew HV.out.2)).mono ?_
    rw [HEB.out]
    rintro e w2 ⟨rfl, hg2⟩
    have H2 := Lib.hid (And.intro (HV.out.1.grew hg2) (HV.out.2.trans hg2))
    clear hg2 HV
    go_wp2_with (fail)
    refine (SOnEdge_any _ H i _ H2.out.1).mono ?_
    rw [HEB.out]
    rintro e w3 ⟨rfl, hg3⟩
    have H3 := Lib.hid (And.intro (H2.out.1.grew hg3) (H2.out.2.trans hg3))
    clear hg3 H2
    cases hgb : vGrid H
    · have HGB := Lib.hid hgb
      clear hgb
      cases eb
      all_goals
        go_wp2_with (fail)
        refine (ValidGrid_any _ H _ H3.out.1).mono ?_
        rw [HGB.out]
        rintro e w4 ⟨rfl, rfl⟩
        go_wp2_with (fail)
        refine (SOnEdge_any _ H i _ H3.out.1).mono ?_
        rw [HEB.out]
        rintro e w9 ⟨rfl, hg9⟩
        have H9 := Lib.hid (H3.out.2.trans hg9)
        clear hg9
        go_wp2
        go_ret
        exact ⟨rfl, H9.out⟩
    · have HGB := Lib.hid hgb
      have G := Grid.of hgb
      have HR : Hid (H.length ≤ 1000 ∧ ∀ r, r < H.length → 1 ≤ (H.getD r []).length ∧ (H.getD r []).length ≤ 1000) :=
        Lib.hid ⟨Nat.le_trans G.n5 (by decide), fun r hr => by have := G.len r hr; have := G.m1; have := G.m5; omega⟩
      obtain ⟨xs, exs⟩ : ∃ xs, H.flatten = xs := ⟨_, rfl⟩
      have HXS := Lib.hid exs
      have hxl : xs.length ≤ 25 := by rw [← exs, flat_grid_len G]; exact Nat.mul_le_mul G.n5 G.m5
      clear hgb G exs
      by_cases hi0 : i < 0
      · cases eb
        all_goals
          go_wp2_with (fail)
          refine (ValidGrid_any _ H _ H3.out.1).mono ?_
          rw [HGB.out]
          rintro e w4 ⟨rfl, rfl⟩
          go_wp2_with (fail)
          refine (SOnEdge_any _ H i _ H3.out.1).mono ?_
          rw [HEB.out]
          rintro e w9 ⟨rfl, hg9⟩
          have H9 := Lib.hid (H3.out.2.trans hg9)
          clear hg9
          go_wp2
          go_ret
          exact ⟨rfl, H9.out⟩
      · by_cases hix : (xs.length : Int) ≤ i
        · cases eb
          all_goals
            go_wp2_with (fail)
            refine (ValidGrid_any _ H _ H3.out.1).mono ?_
            rw [HGB.out]
            rintro e w4 ⟨rfl, rfl⟩
            go_wp2_with (fail)
            refine (rowOf_any _ H _ H3.out.1 HR.out.1 HR.out.2).mono ?_
            rw [HXS.out]
            rintro e w5 ⟨g5, c5, rfl, _, hg5⟩
            have H5 := Lib.hid (And.intro (H3.out.1.grew hg5) (H3.out.2.trans hg5))
            clear hg5
            go_wp2_with (fail)
            refine (SOnEdge_any _ H i _ H5.out.1).mono ?_
            rw [HEB.out]
            rintro e w9 ⟨rfl, hg9⟩
            have H9 := Lib.hid (H5.out.2.trans hg9)
            clear hg9
            go_wp2
            go_ret
            exact ⟨rfl, H9.out⟩
        · have HEA := Lib.hid (edge_around HGB.out (i := i) (by omega) (by rw [HXS.out]; omega))
          obtain ⟨ys, eys⟩ : ∃ ys, aroundOfL H i = ys := ⟨_, rfl⟩
          have HYS := Lib.hid eys
          clear eys
          have hd : decide (ys.length < 4) = eb := by rw [← HYS.out, ← HEA.out, HEB.out]
          have HDY := Lib.hid hd
          clear hd
          cases eb
          all_goals
            go_wp2_with (fail)
            refine (ValidGrid_any _ H _ H3.out.1).mono ?_
            rw [HGB.out]
            rintro e w4 ⟨rfl, rfl⟩
            go_wp2_with (fail)
            refine (rowOf_any _ H _ H3.out.1 HR.out.1 HR.out.2).mono ?_
            rw [HXS.out]
            rintro e w5 ⟨g5, c5, rfl, _, hg5⟩
            have H5 := Lib.hid (And.intro (H3.out.1.grew hg5) (H3.out.2.trans hg5))
            clear hg5
            go_wp2_with (fail)
            refine (AroundOf_any _ H i _ H5.out.1 (HS.out.grew H5.out.2)).mono ?_
            rw [HYS.out]
            rintro e w6 ⟨a6, c6, rfl, hO6, hg6⟩
            have H6 := Lib.hid (H5.out.2.trans hg6)
            have hyl := HDY.out
            clear hO6 hg6
            simp only [decide_eq_true_eq, decide_eq_false_iff_not] at hyl
            go_wp2
            go_ret
            exact ⟨ret_bool (by simp; omega), H6.out⟩
end Go.Proofs.YtgecghngfonejaaDoor
