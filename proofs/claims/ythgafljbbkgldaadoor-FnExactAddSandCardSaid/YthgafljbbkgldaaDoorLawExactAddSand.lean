/- The law FnExactAddSand returns true. -/
import Derived.Test.YthgafljbbkgldaaDoorMark
import Derived.Test.YthgafljbbkgldaaDoorCopies
import Derived.Test.YthgafljbbkgldaaDoorEq
import Derived.Test.YthgafljbbkgldaaDoorExact
import Derived.Test.YthgafljbbkgldaaDoorSandX
namespace Go.Proofs.YthgafljbbkgldaaDoor
open Go.RowKit

/-- What the law holds: the model's answer, both arguments, the answer. -/
structure ExTwo (w W : World) (s1 s2 s3 s4 s5 : Nat) (vM vA vB vG : Value) (M A B G : List (List Int)) : Prop where
  m : RowsO 27 3 s1 s2 W vM M
  a : RowsO 27 3 s2 s3 W vA A
  b : RowsO 27 3 s3 s4 W vB B
  g : RowsO 27 3 s4 s5 W vG G
  grew : Grew w W
  le : w.heap.size ≤ s1 ∧ s1 ≤ s2 ∧ s2 ≤ s3 ∧ s3 ≤ s4 ∧ s4 ≤ s5
theorem ExTwo.later {w W W' : World} {s1 s2 s3 s4 s5 : Nat} {vM vA vB vG : Value} {M A B G : List (List Int)} (h : ExTwo w W s1 s2 s3 s4 s5 vM vA vB vG M A B G) (hg : Grew W W') : ExTwo w W' s1 s2 s3 s4 s5 vM vA vB vG M A B G := ⟨h.m.grew hg, h.a.grew hg, h.b.grew hg, h.g.grew hg, h.grew.trans hg, h.le⟩
theorem ExTwo.markA {w W W' : World} {s1 s2 s3 s4 s5 : Nat} {vM vA vB vG : Value} {M A B G A' : List (List Int)} (h : ExTwo w W s1 s2 s3 s4 s5 vM vA vB vG M A B G) (hm : RowsO 27 3 s2 s3 W' vA A') (hw : Within s2 s3 W W') : ExTwo w W' s1 s2 s3 s4 s5 vM vA vB vG M A' B G :=
  ⟨h.m.within hw (.inl (Nat.le_refl _)), hm, h.b.within hw (.inr (Nat.le_refl _)), h.g.within hw (.inr h.le.2.2.2.1), Within.grew h.grew hw (by have := h.le; omega), h.le⟩
theorem ExTwo.markB {w W W' : World} {s1 s2 s3 s4 s5 : Nat} {vM vA vB vG : Value} {M A B G B' : List (List Int)} (h : ExTwo w W s1 s2 s3 s4 s5 vM vA vB vG M A B G) (hm : RowsO 27 3 s3 s4 W' vB B') (hw : Within s3 s4 W W') : ExTwo w W' s1 s2 s3 s4 s5 vM vA vB vG M A B' G :=
  ⟨h.m.within hw (.inl (by have := h.le; omega)), h.a.within hw (.inl (Nat.le_refl _)), hm, h.g.within hw (.inr (Nat.le_refl _)), Within.grew h.grew hw (by have := h.le; omega), h.le⟩
theorem ExTwo.markG {w W W' : World} {s1 s2 s3 s4 s5 : Nat} {vM vA vB vG : Value} {M A B G G' : List (List Int)} (h : ExTwo w W s1 s2 s3 s4 s5 vM vA vB vG M A B G) (hm : RowsO 27 3 s4 s5 W' vG G') (hw : Within s4 s5 W W') : ExTwo w W' s1 s2 s3 s4 s5 vM vA vB vG M A B G' :=
  ⟨h.m.within hw (.inl (by have := h.le; omega)), h.a.within hw (.inl (by have := h.le; omega)), h.b.within hw (.inl (Nat.le_refl _)), hm, Within.grew h.grew hw (by have := h.le; omega), h.le⟩

set_option maxRecDepth 100000 in
set_option maxHeartbeats 8000000 in
theorem FnExactAddSand_any (va vb : Value) (x y : List (List Int)) (w : World) (hva : RowsV w va x) (hvb : RowsV w vb y) (hS : Steps w) :
    Calls Tryd.prog 14 #[va, vb] w fun e w' => e = .returned (.bool true) ∧ Grew w w' := by
  have HVA := Lib.hid hva
  have HVB := Lib.hid hvb
  have HS0 := Lib.hid hS
  have HTT0 := addX_total x y
  obtain ⟨M, eM⟩ : ∃ M, addX x y = M := ⟨_, rfl⟩
  have HI : ∀ (u v : Value) (W : World), RowsV W u x → RowsV W v y → Grew w W → Calls Tryd.prog 31 #[u, v] W (NewRows W M) := fun u v W a b c => by
    have := AddSand_any u v x y W a b (hS.grew c)
    rwa [eM] at this
  have HP : ∀ (u v : Value) (W : World), RowsV W u x → RowsV W v y → Calls Tryd.prog 32 #[u, v] W (NewRows W M) := fun u v W a b => by
    have := SAddSand_any u v x y W a b
    rwa [eM] at this
  have HI' := Lib.hid HI
  have HP' := Lib.hid HP
  rw [eM] at HTT0
  have HTT := Lib.hid HTT0
  clear HTT0 HI HP eM
  obtain ⟨a, b, o, c, rfl, _, _, _⟩ := hva.shape
  obtain ⟨a', b', o', c', rfl, _, _, _⟩ := hvb.shape
  clear hva hvb hS
  go_enter Tryd.func14, Tryd.ntmps14
  go_wp2_with (fail)
  refine (szIntSS_any _ x 1048576 w HVA.out (by omega) (by omega)).mono ?_
  rintro e w1 ⟨n, rfl, hn, rfl⟩
  by_cases hneg : n < 0
  · clear hn
    go_wp2
    go_ret
    exact ⟨rfl, Grew.refl _⟩
  · have HSX := Lib.hid (sz_small2 (h := x) (by omega))
    have HTX : Hid (total x ≤ 1048576) := Lib.hid (by omega)
    have hn2 : n ≤ 1048576 := by omega
    clear hn
    go_wp2_with (fail)
    refine (szIntSS_any _ y n w HVB.out (by omega) (by omega)).mono ?_
    rintro e w1 ⟨n2, rfl, hn3, rfl⟩
    by_cases hneg2 : n2 < 0
    · clear hn3
      go_wp2
      go_ret
      exact ⟨rfl, Grew.refl _⟩
    · have HSY := Lib.hid (sz_small2 (h := y) (by omega))
      have HTY : Hid (total y ≤ 1048576) := Lib.hid (by omega)
      clear hn3 hn2
      go_wp2_with (fail)
      refine (toIntSS_any _ x _ HVA.out HSX.out.1 HSX.out.2).mono ?_
      rintro e w2 ⟨g2, c2, rfl, hO2, hg2⟩
      have H2 := Lib.hid (And.intro hO2.toV hg2)
      clear hO2 hg2
      go_wp2_with (fail)
      refine (toIntSS_any _ y _ (HVB.out.grew H2.out.2) HSY.out.1 HSY.out.2).mono ?_
      rintro e w3 ⟨g3, c3, rfl, hO3, hg3⟩
      have H3 := Lib.hid (And.intro (H2.out.1.grew hg3) (And.intro hO3.toV (H2.out.2.trans hg3)))
      clear hO3 hg3 H2
      go_wp2_with (fail)
      refine (HP'.out _ _ _ H3.out.1 H3.out.2.1).mono ?_
      rintro e w4 ⟨v4, rfl, hO4, hg4⟩
      obtain ⟨a4, c4, rfl⟩ := hO4.sh
      have H4 := Lib.hid (And.intro hO4 (H3.out.2.2.trans hg4))
      have hs4 := Lib.hid (And.intro H3.out.2.2.size hg4.size)
      clear hO4 hg4 H3
      go_wp2_with (fail)
      refine (toIntSS_any _ x _ (HVA.out.grew H4.out.2) HSX.out.1 HSX.out.2).mono ?_
      rintro e w5 ⟨g5, c5, rfl, hO5, hg5⟩
      have H5 := Lib.hid (And.intro (H4.out.1.grew hg5) (And.intro hO5 (H4.out.2.trans hg5)))
      have hs5 := Lib.hid hg5.size
      clear hO5 hg5 H4
      go_wp2_with (fail)
      refine (toIntSS_any _ y _ (HVB.out.grew H5.out.2.2) HSY.out.1 HSY.out.2).mono ?_
      rintro e w6 ⟨g6, c6, rfl, hO6, hg6⟩
      have H6 := Lib.hid (And.intro (H5.out.1.grew hg6) (And.intro (H5.out.2.1.grew hg6) (And.intro hO6 (H5.out.2.2.trans hg6))))
      have hs6 := Lib.hid hg6.size
      clear hO6 hg6 H5
      go_wp2_with (fail)
      refine (HI'.out _ _ _ H6.out.2.1.toV H6.out.2.2.1.toV H6.out.2.2.2).mono ?_
      rintro e w7 ⟨v7, rfl, hO7, hg7⟩
      obtain ⟨a7, c7, rfl⟩ := hO7.sh
      have H7 : Hid (ExTwo w w7 w3.heap.size w4.heap.size w5.heap.size w6.heap.size w7.heap.size (.slice a4 M.length c4) (.slice (some ⟨g5, 0, none⟩) x.length c5) (.slice (some ⟨g6, 0, none⟩) y.length c6) (.slice a7 M.length c7) M x y M) :=
        Lib.hid ⟨H6.out.1.grew hg7, H6.out.2.1.grew hg7, H6.out.2.2.1.grew hg7, hO7, H6.out.2.2.2.trans hg7, hs4.out.1, hs4.out.2, hs5.out, hs6.out, hg7.size⟩
      clear hO7 hg7 H6 hs4 hs5 hs6
      go_wp2_with (fail)
      refine (eqIntSS_any _ _ M M _ H7.out.g.toV H7.out.m.toV).mono ?_
      rw [decide_eq_true (rfl : M = M)]
      rintro e w8 ⟨rfl, hq⟩
      have H8 := Lib.hid (H7.out.later (quiet_grew hq))
      clear hq H7
      go_wp2_with (fail)
      refine (toIntSS_any _ x _ (HVA.out.grew H8.out.grew) HSX.out.1 HSX.out.2).mono ?_
      rintro e w9 ⟨g9, c9, rfl, hO9, hg9⟩
      have H9 := Lib.hid (And.intro (H8.out.later hg9) hO9.toV)
      clear hO9 hg9 H8
      go_wp2_with (fail)
      refine (eqIntSS_any _ _ x x _ H9.out.1.a.toV H9.out.2).mono ?_
      rw [decide_eq_true (rfl : x = x)]
      rintro e w10 ⟨rfl, hq⟩
      have H10 := Lib.hid (H9.out.1.later (quiet_grew hq))
      clear hq H9
      go_wp2_with (fail)
      refine (toIntSS_any _ y _ (HVB.out.grew H10.out.grew) HSY.out.1 HSY.out.2).mono ?_
      rintro e w11 ⟨g11, c11, rfl, hO11, hg11⟩
      have H11 := Lib.hid (And.intro (H10.out.later hg11) hO11.toV)
      clear hO11 hg11 H10
      go_wp2_with (fail)
      refine (eqIntSS_any _ _ y y _ H11.out.1.b.toV H11.out.2).mono ?_
      rw [decide_eq_true (rfl : y = y)]
      rintro e w12 ⟨rfl, hq⟩
      have H12 := Lib.hid (H11.out.1.later (quiet_grew hq))
      clear hq H11
      go_wp2_with (fail)
      refine (markIntSS_any _ _ _ x 1 _ H12.out.a (by decide) (by have := HTX.out; omega)).mono ?_
      rintro e w13 ⟨rfl, hm13, hw13⟩
      have H13 := Lib.hid (H12.out.markA hm13 hw13)
      clear hm13 hw13 H12
      go_wp2_with (fail)
      refine (markIntSS_any _ _ _ y (1 + total x) _ H13.out.b (by omega) (by have := HTX.out; have := HTY.out; omega)).mono ?_
      rintro e w14 ⟨rfl, hm14, hw14⟩
      have H14 := Lib.hid (H13.out.markB hm14 hw14)
      have e14 : ¬ (1 + total x + total y : Int) < 0 := by omega
      clear hm14 hw14 H13
      go_wp2_with (fail)
      refine (eqIntSS_any _ _ M M _ H14.out.g.toV H14.out.m.toV).mono ?_
      rw [decide_eq_true (rfl : M = M)]
      rintro e w15 ⟨rfl, hq⟩
      have H15 := Lib.hid (H14.out.later (quiet_grew hq))
      clear hq H14
      go_wp2_with (fail)
      refine (markIntSS_any _ _ _ M 1 _ H15.out.g (by decide) (by have := HTT.out; omega)).mono ?_
      rintro e w16 ⟨rfl, hm16, hw16⟩
      have H16 := Lib.hid (H15.out.markG hm16 hw16)
      clear hm16 hw16 H15
      go_wp2_with (fail)
      refine (heldIntSS_any _ M 1 _ H16.out.g.toV (by decide) (by have := HTT.out; omega)).mono ?_
      rintro e w17 ⟨rfl, rfl⟩
      have e17 : ¬ (1 + (total M : Int)) < 0 := by omega
      go_wp2_with (fail)
      refine (toIntSS_any _ x _ (HVA.out.grew H16.out.grew) HSX.out.1 HSX.out.2).mono ?_
      rintro e w18 ⟨g18, c18, rfl, hO18, hg18⟩
      have H18 := Lib.hid (And.intro (H16.out.later hg18) hO18.toV)
      clear hO18 hg18 H16
      go_wp2_with (fail)
      refine (toIntSS_any _ y _ (HVB.out.grew H18.out.1.grew) HSY.out.1 HSY.out.2).mono ?_
      rintro e w19 ⟨g19, c19, rfl, hO19, hg19⟩
      have H19 := Lib.hid (And.intro (H18.out.1.later hg19) (And.intro (H18.out.2.grew hg19) hO19.toV))
      clear hO19 hg19 H18
      go_wp2_with (fail)
      refine (HI'.out _ _ _ H19.out.2.1 H19.out.2.2 H19.out.1.grew).mono ?_
      rintro e w20 ⟨v20, rfl, hO20, hg20⟩
      obtain ⟨a20, c20, rfl⟩ := hO20.sh
      have H20 := Lib.hid (And.intro (H19.out.1.later hg20) hO20.toV)
      clear hO20 hg20 H19
      go_wp2_with (fail)
      refine (eqIntSS_any _ _ M M _ H20.out.2 H20.out.1.m.toV).mono ?_
      rw [decide_eq_true (rfl : M = M)]
      rintro e w21 ⟨rfl, hq⟩
      have H21 := Lib.hid (H20.out.1.later (quiet_grew hq))
      clear hq H20
      go_wp2_with (fail)
      refine (heldIntSS_any _ M 1 _ H21.out.g.toV (by decide) (by have := HTT.out; omega)).mono ?_
      rintro e w22 ⟨rfl, rfl⟩
      go_wp2
      go_ret
      exact ⟨rfl, H21.out.grew⟩
end Go.Proofs.YthgafljbbkgldaaDoor
