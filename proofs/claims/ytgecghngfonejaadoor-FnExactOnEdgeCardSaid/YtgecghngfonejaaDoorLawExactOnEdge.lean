/- The law FnExactOnEdge returns true. -/
import Derived.Test.YtgecghngfonejaaDoorAroundOf
import Derived.Test.YtgecghngfonejaaDoorCopies
import Derived.Test.YtgecghngfonejaaDoorEq
namespace Go.Proofs.YtgecghngfonejaaDoor
open Go.RowKit

set_option maxRecDepth 100000 in
set_option maxHeartbeats 1000000 in
theorem FnExactOnEdge_any (v : Value) (h : List (List Int)) (i : Int) (w : World) (hv : RowsV w v h) (_hi : -9223372036854775808 ≤ i ∧ i ≤ 9223372036854775807) (hS : Steps w) :
    Calls Tryd.prog 13 #[v, .int .i64 i] w fun e w' => e = .returned (.bool true) ∧ Grew w w' := by
  have HV := Lib.hid hv
  have HS0 := Lib.hid hS
  obtain ⟨a, b, o, c, rfl, _, _, _⟩ := hv.shape
  clear hv hS
  go_enter Tryd.func13, Tryd.ntmps13
  go_wp2_with (fail)
  refine (szIntSS_any _ h 1048576 w HV.out (by omega) (by omega)).mono ?_
  rintro e w1 ⟨n, rfl, hn, rfl⟩
  by_cases hneg : n < 0
  · clear hn
    go_wp2
    go_ret
    exact ⟨rfl, Grew.refl _⟩
  · have HS := Lib.hid (sz_small2 (h := h) (by omega))
    clear hn
    go_wp2_with (fail)
    refine (toIntSS_any _ h _ HV.out HS.out.1 HS.out.2).mono ?_
    rintro e w2 ⟨g2, c2, rfl, hO2, hg2⟩
    have H2 := Lib.hid (And.intro hO2.toV hg2)
    clear hO2 hg2
    go_wp2_with (fail)
    refine (SOnEdge_any _ h i _ H2.out.1).mono ?_
    rintro e w3 ⟨rfl, hg3⟩
    have H3 := Lib.hid (H2.out.2.trans hg3)
    clear hg3
    go_wp2_with (fail)
    refine (toIntSS_any _ h _ (HV.out.grew H3.out) HS.out.1 HS.out.2).mono ?_
    rintro e w4 ⟨g4, c4, rfl, hO4, hg4⟩
    have H4 := Lib.hid (And.intro hO4.toV (H3.out.trans hg4))
    clear hO4 hg4
    go_wp2_with (fail)
    refine (OnEdge_any _ h i _ H4.out.1 (HS0.out.grew H4.out.2)).mono ?_
    rintro e w5 ⟨rfl, hg5⟩
    have H5 := Lib.hid (And.intro (H4.out.1.grew hg5) (H4.out.2.trans hg5))
    clear hg5
    cases hb : edgeB h i
    all_goals
      clear hb
      go_wp2_with (fail)
      refine (toIntSS_any _ h _ (HV.out.grew H5.out.2) HS.out.1 HS.out.2).mono ?_
      rintro e w6 ⟨g6, c6, rfl, hO6, hg6⟩
      have H6 := Lib.hid (And.intro hO6.toV hg6)
      clear hO6 hg6
      go_wp2_with (fail)
      refine (eqIntSS_any _ _ h h _ (H5.out.1.grew H6.out.2) H6.out.1).mono ?_
      rw [decide_eq_true (rfl : h = h)]
      rintro e w7 ⟨rfl, hq⟩
      have H7 := Lib.hid (quiet_grew hq)
      clear hq
      go_wp2
      go_ret
      exact ⟨rfl, H5.out.2.trans (H6.out.2.trans H7.out)⟩
end Go.Proofs.YtgecghngfonejaaDoor
