/- The law FnExactValidGrid returns true. -/
import Derived.Test.YtifldhdjopmpeaaSGrid
import Derived.Test.YtifldhdjopmpeaaCopies
import Derived.Test.YtifldhdjopmpeaaEq
namespace Go.Proofs.Ytifldhdjopmpeaa
open Go.RowKit

/-- What the size check lets by. -/
theorem sz_small {h : List (List Int)} (hn : 0 ≤ (1048576 : Int) - h.length - total h) : h.length ≤ 1048576 ∧ ∀ r, r < h.length → (h.getD r []).length ≤ 1048576 :=
  ⟨by omega, fun r hr => by have := row_le_total h r hr; omega⟩

set_option maxRecDepth 100000 in
set_option maxHeartbeats 1000000 in
theorem FnExactValidGrid_any (v : Value) (h : List (List Int)) (w : World) (hv : RowsV w v h) :
    Calls Try.prog 7 #[v] w fun e w' => e = .returned (.bool true) ∧ Grew w w' := by
  have HV := Lib.hid hv
  obtain ⟨a, b, o, c, rfl, _, _, _⟩ := hv.shape
  clear hv
  go_enter Try.func7, Try.ntmps7
  go_wp2_with (fail)
  refine (szIntSS_any _ h 1048576 w HV.out (by omega) (by omega)).mono ?_
  rintro e w1 ⟨n, rfl, hn, rfl⟩
  by_cases hneg : n < 0
  · clear hn
    go_wp2
    go_ret
    exact ⟨rfl, Grew.refl _⟩
  · have HS := Lib.hid (sz_small (h := h) (by omega))
    clear hn
    go_wp2_with (fail)
    refine (toIntSS_any _ h _ HV.out HS.out.1 HS.out.2).mono ?_
    rintro e w2 ⟨g2, c2, rfl, hO2, hg2⟩
    have H2 := Lib.hid (And.intro hO2.toV hg2)
    clear hO2 hg2
    go_wp2_with (fail)
    refine (SValidGrid_any _ h _ H2.out.1).mono ?_
    rintro e w3 ⟨rfl, hg3⟩
    have H3 := Lib.hid (H2.out.2.trans hg3)
    clear hg3
    go_wp2_with (fail)
    refine (toIntSS_any _ h _ (HV.out.grew H3.out) HS.out.1 HS.out.2).mono ?_
    rintro e w4 ⟨g4, c4, rfl, hO4, hg4⟩
    have H4 := Lib.hid (And.intro hO4.toV (H3.out.trans hg4))
    clear hO4 hg4
    go_wp2_with (fail)
    refine (ValidGrid_any _ h _ H4.out.1).mono ?_
    rintro e w5 ⟨rfl, rfl⟩
    cases hb : vGrid h
    all_goals
      clear hb
      go_wp2_with (fail)
      refine (toIntSS_any _ h _ (HV.out.grew H4.out.2) HS.out.1 HS.out.2).mono ?_
      rintro e w6 ⟨g6, c6, rfl, hO6, hg6⟩
      have H6 := Lib.hid (And.intro hO6.toV hg6)
      clear hO6 hg6
      go_wp2_with (fail)
      refine (eqIntSS_any _ _ h h _ (H4.out.1.grew H6.out.2) H6.out.1).mono ?_
      rintro e w7 ⟨rfl, hq⟩
      have H7 := Lib.hid (quiet_grew hq)
      clear hq
      go_wp2
      go_ret
      exact ⟨rfl, H4.out.2.trans (H6.out.2.trans H7.out)⟩
end Go.Proofs.Ytifldhdjopmpeaa
