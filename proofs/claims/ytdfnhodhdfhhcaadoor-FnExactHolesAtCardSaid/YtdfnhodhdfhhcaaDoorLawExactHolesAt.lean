/- The law FnExactHolesAt returns true. -/
import Derived.Test.YtdfnhodhdfhhcaaDoorMark
import Derived.Test.YtdfnhodhdfhhcaaDoorCopies
import Derived.Test.YtdfnhodhdfhhcaaDoorEq
import Derived.Test.YtdfnhodhdfhhcaaDoorExact
import Derived.Test.YtdfnhodhdfhhcaaDoorBase
import Derived.Test.YtdfnhodhdfhhcaaDoorHoles
namespace Go.Proofs.YtdfnhodhdfhhcaaDoor
open Go.RowKit

set_option maxRecDepth 100000 in
set_option maxHeartbeats 4000000 in
theorem FnExactHolesAt_any (v : Value) (h : List (List Int)) (i : Int) (w : World) (hv : RowsV w v h) (_hi : -9223372036854775808 ≤ i ∧ i ≤ 9223372036854775807) (hS : Tc.Steps w) :
    Calls Tryd.prog 8 #[v, .int .i64 i] w fun e w' => e = .returned (.bool true) ∧ Grew w w' := by
  have HV := Lib.hid hv
  have HS0 := Lib.hid hS
  obtain ⟨M, eM⟩ : ∃ M, holesX h i = M := ⟨_, rfl⟩
  have HI : ∀ (v : Value) (W : World), RowsV W v h → Grew w W → Calls Tryd.prog 20 #[v, .int .i64 i] W (fun e w' => e = .returned (.int .i64 M) ∧ Grew W w') := fun v W a b => by
    have := HolesAt_any v h i W a (hS.grew b)
    rwa [eM] at this
  have HP : ∀ (v : Value) (W : World), RowsV W v h → Calls Tryd.prog 26 #[v, .int .i64 i] W (fun e w' => e = .returned (.int .i64 M) ∧ Grew W w') := fun v W a => by
    have := SHolesAt_any v h i W a
    rwa [eM] at this
  have HI' := Lib.hid HI
  have HP' := Lib.hid HP
  clear HI HP eM
  obtain ⟨a, b, o, c, rfl, _, _, _⟩ := hv.shape
  clear hv hS
  go_enter Tryd.func8, Tryd.ntmps8
  go_wp2_with (fail)
  refine (szIntSS_any _ h 1048576 w HV.out (by omega) (by omega)).mono ?_
  rintro e w1 ⟨n, rfl, hn, rfl⟩
  by_cases hneg : n < 0
  · clear hn
    go_wp2
    go_ret
    exact ⟨rfl, Grew.refl _⟩
  · have HS := Lib.hid (sz_small2 (h := h) (by omega))
    have HT : Hid (total h ≤ 1048576) := Lib.hid (by omega)
    clear hn
    go_wp2_with (fail)
    refine (toIntSS_any _ h _ HV.out HS.out.1 HS.out.2).mono ?_
    rintro e w2 ⟨g2, c2, rfl, hO2, hg2⟩
    have H2 := Lib.hid (And.intro hO2.toV hg2)
    clear hO2 hg2
    go_wp2_with (fail)
    refine (HP'.out _ _ H2.out.1).mono ?_
    rintro e w3 ⟨rfl, hg3⟩
    have H3 := Lib.hid (H2.out.2.trans hg3)
    clear hg3
    go_wp2_with (fail)
    refine (toIntSS_any _ h _ (HV.out.grew H3.out) HS.out.1 HS.out.2).mono ?_
    rintro e w4 ⟨g4, c4, rfl, hO4, hg4⟩
    have H4 := Lib.hid (And.intro hO4 hg4)
    clear hO4 hg4
    go_wp2_with (fail)
    refine (HI'.out _ _ H4.out.1.toV (H3.out.trans H4.out.2)).mono ?_
    rintro e w5 ⟨rfl, hg5⟩
    have H5 := Lib.hid (And.intro (H4.out.1.grew hg5).toV (H3.out.trans (H4.out.2.trans hg5)))
    clear hg5 H3 H4
    have ebb : (M != M) = false := by simp
    go_wp2_with (fail)
    refine (toIntSS_any _ h _ (HV.out.grew H5.out.2) HS.out.1 HS.out.2).mono ?_
    rintro e w7 ⟨g7, c7, rfl, hO7, hg7⟩
    have H7 := Lib.hid (And.intro hO7.toV hg7)
    clear hO7 hg7
    go_wp2_with (fail)
    refine (eqIntSS_any _ _ h h _ (H5.out.1.grew H7.out.2) H7.out.1).mono ?_
    rw [decide_eq_true (rfl : h = h)]
    rintro e w8 ⟨rfl, hq⟩
    have hg8 := H5.out.2.trans (H7.out.2.trans (quiet_grew hq))
    have H8 := Lib.hid hg8
    clear hq hg8 H5 H7
    go_wp2
    go_ret
    exact ⟨rfl, H8.out⟩
end Go.Proofs.YtdfnhodhdfhhcaaDoor
