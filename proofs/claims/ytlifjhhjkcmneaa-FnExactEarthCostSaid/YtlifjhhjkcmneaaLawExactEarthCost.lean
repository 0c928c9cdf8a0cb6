/- The law FnExactEarthCost returns true. -/
import Derived.Test.YtlifjhhjkcmneaaEq
import Derived.Test.YtlifjhhjkcmneaaEarthC
namespace Go.Proofs.Ytlifjhhjkcmneaa
open Go.RowKit

set_option maxRecDepth 100000 in
set_option maxHeartbeats 4000000 in
theorem FnExactEarthCost_any (v u : Value) (p q : List Int) (w : World) (hv : IntsV w v p) (hu : IntsV w u q) :
    Calls Try.prog 15 #[v, u] w fun e w' => e = .returned (.bool true) ∧ Grew w w' := by
  have HV := Lib.hid hv
  have HU := Lib.hid hu
  obtain ⟨M, eM⟩ : ∃ M, earthX p q = M := ⟨_, rfl⟩
  have HI : ∀ (v u : Value) (W : World), IntsV W v p → IntsV W u q → Calls Try.prog 36 #[v, u] W (fun e w' => e = .returned (.int .i64 M) ∧ Grew W w') := fun v u W a b => by
    have := EarthCost_any v u p q W a b
    rwa [eM] at this
  have HP : ∀ (v u : Value) (W : World), IntsV W v p → IntsV W u q → Calls Try.prog 37 #[v, u] W (fun e w' => e = .returned (.int .i64 M) ∧ Grew W w') := fun v u W a b => by
    have := SEarthCost_any v u p q W a b
    rwa [eM] at this
  have HI' := Lib.hid HI
  have HP' := Lib.hid HP
  clear HI HP eM
  obtain ⟨a, b, o, c, rfl, _, _, _⟩ := hv.shape
  obtain ⟨a2, b2, o2, c2, rfl, _, _, _⟩ := hu.shape
  clear hv hu
  by_cases hbig : 1048576 < p.length
  · go_enter Try.func15, Try.ntmps15
    go_wp2
    go_ret
    exact ⟨rfl, Grew.refl _⟩
  · have hs : p.length ≤ 17592186044416 := by omega
    by_cases hbig2 : 1048576 < q.length
    · go_enter Try.func15, Try.ntmps15
      go_wp2
      go_ret
      exact ⟨rfl, Grew.refl _⟩
    · have hs2 : q.length ≤ 17592186044416 := by omega
      go_enter Try.func15, Try.ntmps15
      go_wp2_with (fail)
      refine (toIntS_any _ p _ HV.out hs).mono ?_
      rintro e w1 ⟨v1, rfl, hO1, hg1, hz1, g1, c1, rfl⟩
      have H1 := Lib.hid (And.intro hO1.toV hg1)
      clear hO1 hg1 hz1
      go_wp2_with (fail)
      refine (toIntS_any _ q _ (HU.out.grew H1.out.2) hs2).mono ?_
      rintro e w3 ⟨v3, rfl, hO3, hg3, hz3, g3, c3, rfl⟩
      have H3 := Lib.hid (And.intro hO3.toV (And.intro (H1.out.2.trans hg3) (H1.out.1.grew hg3)))
      clear hO3 hg3 hz3
      go_wp2_with (fail)
      refine (HP'.out _ _ _ H3.out.2.2 H3.out.1).mono ?_
      rintro e w4 ⟨rfl, hg4⟩
      have H4 := Lib.hid (H3.out.2.1.trans hg4)
      clear hg4
      go_wp2_with (fail)
      refine (toIntS_any _ p _ (HV.out.grew H4.out) hs).mono ?_
      rintro e w5 ⟨v5, rfl, hO5, hg5, hz5, g5, c5, rfl⟩
      have H5 := Lib.hid (And.intro hO5.toV (H4.out.trans hg5))
      clear hO5 hg5 hz5
      go_wp2_with (fail)
      refine (toIntS_any _ q _ (HU.out.grew H5.out.2) hs2).mono ?_
      rintro e w6 ⟨v6, rfl, hO6, hg6, hz6, g6, c6, rfl⟩
      have H6 := Lib.hid (And.intro hO6.toV (And.intro (H5.out.2.trans hg6) (H5.out.1.grew hg6)))
      clear hO6 hg6 hz6
      go_wp2_with (fail)
      refine (HI'.out _ _ _ H6.out.2.2 H6.out.1).mono ?_
      rintro e w7 ⟨rfl, hg7⟩
      have H7 := Lib.hid (And.intro (H6.out.2.1.trans hg7) (And.intro (H6.out.2.2.grew hg7) (H6.out.1.grew hg7)))
      clear hg7
      have ebb : (M != M) = false := by simp
      go_wp2_with (fail)
      refine (toIntS_any _ p _ (HV.out.grew H7.out.1) hs).mono ?_
      rintro e w8 ⟨v8, rfl, hO8, hg8, hz8, g8, c8, rfl⟩
      have H8 := Lib.hid (And.intro hO8.toV hg8)
      clear hO8 hg8 hz8
      go_wp2_with (fail)
      refine (eqIntS_any _ _ p p _ (H7.out.2.1.grew H8.out.2) H8.out.1).mono ?_
      rw [decide_eq_true (rfl : p = p)]
      rintro e w9 ⟨rfl, hq⟩
      have H9 := Lib.hid (H8.out.2.trans (quiet_grew hq))
      clear hq
      go_wp2_with (fail)
      refine (toIntS_any _ q _ (HU.out.grew (H7.out.1.trans H9.out)) hs2).mono ?_
      rintro e w10 ⟨v10, rfl, hO10, hg10, hz10, g10, c10, rfl⟩
      have H10 := Lib.hid (And.intro hO10.toV hg10)
      clear hO10 hg10 hz10
      go_wp2_with (fail)
      refine (eqIntS_any _ _ q q _ (H7.out.2.2.grew (H9.out.trans H10.out.2)) H10.out.1).mono ?_
      rw [decide_eq_true (rfl : q = q)]
      rintro e w11 ⟨rfl, hq⟩
      have H11 := Lib.hid (quiet_grew hq)
      clear hq
      go_wp2
      go_ret
      exact ⟨rfl, H7.out.1.trans (H9.out.trans (H10.out.2.trans H11.out))⟩
end Go.Proofs.Ytlifjhhjkcmneaa
