/- The law FnExactFurthestOf returns true. -/
import Derived.Test.YthljmolkicfdaaaExact
import Derived.Test.YthljmolkicfdaaaEq
import Derived.Test.YthljmolkicfdaaaFurthest
namespace Go.Proofs.Ythljmolkicfdaaa
open Go.RowKit

set_option maxRecDepth 100000 in
set_option maxHeartbeats 4000000 in
theorem FnExactFurthestOf_any (v : Value) (p : List Int) (i : Int) (w : World) (hv : IntsV w v p) (_hi : -9223372036854775808 ≤ i ∧ i ≤ 9223372036854775807) :
    Calls Try.prog 11 #[v, .int .i64 i] w fun e w' => e = .returned (.bool true) ∧ Grew w w' := by
  have HV := Lib.hid hv
  obtain ⟨M, eM⟩ : ∃ M, furX p i = M := ⟨_, rfl⟩
  have HI : ∀ (v : Value) (W : World), IntsV W v p → Calls Try.prog 19 #[v, .int .i64 i] W (fun e w' => e = .returned (.int .i64 M) ∧ Grew W w') := fun v W a => by
    have := FurthestOf_any v p i W a
    rwa [eM] at this
  have HP : ∀ (v : Value) (W : World), IntsV W v p → Calls Try.prog 20 #[v, .int .i64 i] W (fun e w' => e = .returned (.int .i64 M) ∧ Grew W w') := fun v W a => by
    have := SFurthestOf_any v p i W a
    rwa [eM] at this
  have HI' := Lib.hid HI
  have HP' := Lib.hid HP
  clear HI HP eM
  obtain ⟨a, b, o, c, rfl, _, _, _⟩ := hv.shape
  clear hv
  by_cases hbig : 1048576 < p.length
  · go_enter Try.func11, Try.ntmps11
    go_wp2
    go_ret
    exact ⟨rfl, Grew.refl _⟩
  · have hs : p.length ≤ 17592186044416 := by omega
    go_enter Try.func11, Try.ntmps11
    go_wp2_with (fail)
    refine (toIntS_any _ p _ HV.out hs).mono ?_
    rintro e w2 ⟨v2, rfl, hO2, hg2, hz2, g2, c2, rfl⟩
    have H2 := Lib.hid (And.intro hO2.toV hg2)
    clear hO2 hg2 hz2
    go_wp2_with (fail)
    refine (HP'.out _ _ H2.out.1).mono ?_
    rintro e w3 ⟨rfl, hg3⟩
    have H3 := Lib.hid (H2.out.2.trans hg3)
    clear hg3
    go_wp2_with (fail)
    refine (toIntS_any _ p _ (HV.out.grew H3.out) hs).mono ?_
    rintro e w4 ⟨v4, rfl, hO4, hg4, hz4, g4, c4, rfl⟩
    have H4 := Lib.hid (And.intro hO4.toV (H3.out.trans hg4))
    clear hO4 hg4 hz4
    go_wp2_with (fail)
    refine (HI'.out _ _ H4.out.1).mono ?_
    rintro e w5 ⟨rfl, hg5⟩
    have H5 := Lib.hid (And.intro (H4.out.1.grew hg5) (H4.out.2.trans hg5))
    clear hg5
    have ebb : (M != M) = false := by simp
    go_wp2_with (fail)
    refine (toIntS_any _ p _ (HV.out.grew H5.out.2) hs).mono ?_
    rintro e w6 ⟨v6, rfl, hO6, hg6, hz6, g6, c6, rfl⟩
    have H6 := Lib.hid (And.intro hO6.toV hg6)
    clear hO6 hg6 hz6
    go_wp2_with (fail)
    refine (eqIntS_any _ _ p p _ (H5.out.1.grew H6.out.2) H6.out.1).mono ?_
    rw [decide_eq_true (rfl : p = p)]
    rintro e w7 ⟨rfl, hq⟩
    have H7 := Lib.hid (quiet_grew hq)
    clear hq
    go_wp2
    go_ret
    exact ⟨rfl, H5.out.2.trans (H6.out.2.trans H7.out)⟩
end Go.Proofs.Ythljmolkicfdaaa
