/- The law FnExactEarthMoves returns true. -/
import Derived.Test.YtlifjhhjkcmneaaEq
import Derived.Test.YtlifjhhjkcmneaaMark
import Derived.Test.YtlifjhhjkcmneaaSMoves
namespace Go.Proofs.Ytlifjhhjkcmneaa
open Go.RowKit

theorem moves_total : ∀ (f : Nat) (s : List Int), total (movesL f s) ≤ 3 * f
  | 0, _ => Nat.le_refl _
  | f + 1, s => by
    rw [movesL]
    split
    · have := moves_total f (moved s)
      simp only [total, List.map_cons, List.sum_cons, List.length_cons, List.length_nil] at this ⊢
      omega
    · exact Nat.zero_le _
theorem movesX_total (p q : List Int) : total (movesX p q) ≤ 1000 := by
  unfold movesX
  split
  · have := moves_total 9 (surL p q); omega
  · exact Nat.zero_le _

section
variable (w : World) (n2 n3 n4 n5 n6 : Nat) (v3 v4 v5 v6 : Value) (M : List (List Int)) (p q : List Int)
def MvS (W : World) : Prop := (RowsO 23 3 n2 n3 W v3 M ∧ IntsO 3 n3 n4 W v4 p ∧ IntsO 3 n4 n5 W v5 q ∧ RowsO 23 3 n5 n6 W v6 M) ∧ Grew w W ∧ w.heap.size ≤ n2 ∧ n2 ≤ n3 ∧ n3 ≤ n4 ∧ n4 ≤ n5 ∧ n5 ≤ n6
end
theorem MvS.grew {w : World} {n2 n3 n4 n5 n6 : Nat} {v3 v4 v5 v6 : Value} {M : List (List Int)} {p q : List Int} {W W' : World} (h : MvS w n2 n3 n4 n5 n6 v3 v4 v5 v6 M p q W) (hg : Grew W W') : MvS w n2 n3 n4 n5 n6 v3 v4 v5 v6 M p q W' :=
  ⟨⟨h.1.1.grew hg, h.1.2.1.grew hg, h.1.2.2.1.grew hg, h.1.2.2.2.grew hg⟩, h.2.1.trans hg, h.2.2⟩

set_option maxRecDepth 100000 in
set_option maxHeartbeats 4000000 in
theorem FnExactEarthMoves_any (v u : Value) (p q : List Int) (w : World) (hv : IntsV w v p) (hu : IntsV w u q) :
    Calls Try.prog 16 #[v, u] w fun e w' => e = .returned (.bool true) ∧ Grew w w' := by
  have HV := Lib.hid hv
  have HU := Lib.hid hu
  have htot := movesX_total p q
  obtain ⟨M, eM⟩ : ∃ M, movesX p q = M := ⟨_, rfl⟩
  have HI : ∀ (v u : Value) (W : World), IntsV W v p → IntsV W u q → Calls Try.prog 38 #[v, u] W (NewRows W M) := fun v u W a b => by
    have := EarthMoves_any v u p q W a b
    rwa [eM] at this
  have HP : ∀ (v u : Value) (W : World), IntsV W v p → IntsV W u q → Calls Try.prog 42 #[v, u] W (NewRows W M) := fun v u W a b => by
    have := SEarthMoves_any v u p q W a b
    rwa [eM] at this
  rw [eM] at htot
  have HI' := Lib.hid HI
  have HP' := Lib.hid HP
  have HTT := Lib.hid htot
  clear HI HP eM htot
  obtain ⟨a, b, o, c, rfl, _, _, _⟩ := hv.shape
  obtain ⟨a2, b2, o2, c2, rfl, _, _, _⟩ := hu.shape
  clear hv hu
  by_cases hbig : 1048576 < p.length
  · go_enter Try.func16, Try.ntmps16
    go_wp2
    go_ret
    exact ⟨rfl, Grew.refl _⟩
  · have hs : p.length ≤ 17592186044416 := by omega
    by_cases hbig2 : 1048576 < q.length
    · go_enter Try.func16, Try.ntmps16
      go_wp2
      go_ret
      exact ⟨rfl, Grew.refl _⟩
    · have hs2 : q.length ≤ 17592186044416 := by omega
      go_enter Try.func16, Try.ntmps16
      go_wp2_with (fail)
      refine (toIntS_any _ p _ HV.out hs).mono ?_
      rintro e w1 ⟨v1, rfl, hO1, hg1, hz1, g1, c1, rfl⟩
      have H1 := Lib.hid (And.intro hO1.toV hg1)
      clear hO1 hg1 hz1
      go_wp2_with (fail)
      refine (toIntS_any _ q _ (HU.out.grew H1.out.2) hs2).mono ?_
      rintro e w2 ⟨v2, rfl, hO2, hg2, hz2, g2, c2, rfl⟩
      have H2 := Lib.hid (And.intro hO2.toV (And.intro (H1.out.2.trans hg2) (H1.out.1.grew hg2)))
      clear hO2 hg2 hz2
      go_wp2_with (fail)
      refine (HP'.out _ _ _ H2.out.2.2 H2.out.1).mono ?_
      rintro e w3 ⟨v3, rfl, hO3, hg3⟩
      obtain ⟨a3, c3, rfl⟩ := hO3.sh
      have H3 := Lib.hid (And.intro hO3 (And.intro (H2.out.2.1.trans hg3) (And.intro H2.out.2.1.size hg3.size)))
      clear hO3 hg3
      go_wp2_with (fail)
      refine (toIntS_any _ p _ (HV.out.grew H3.out.2.1) hs).mono ?_
      rintro e w4 ⟨v4, rfl, hO4, hg4, hz4, g4, c4, rfl⟩
      have H4 := Lib.hid (And.intro hO4 (And.intro (H3.out.2.1.trans hg4) hg4))
      clear hO4 hg4 hz4
      go_wp2_with (fail)
      refine (toIntS_any _ q _ (HU.out.grew H4.out.2.1) hs2).mono ?_
      rintro e w5 ⟨v5, rfl, hO5, hg5, hz5, g5, c5, rfl⟩
      have H5 := Lib.hid (And.intro hO5 (And.intro (H4.out.2.1.trans hg5) hg5))
      clear hO5 hg5 hz5
      go_wp2_with (fail)
      refine (HI'.out _ _ _ (H4.out.1.grew H5.out.2.2).toV H5.out.1.toV).mono ?_
      rintro e w6 ⟨v6, rfl, hO6, hg6⟩
      obtain ⟨a6, c6, rfl⟩ := hO6.sh
      have HA : Hid (MvS w w2.heap.size w3.heap.size w4.heap.size w5.heap.size w6.heap.size (.slice a3 M.length c3) (.slice (some ⟨g4, 0, none⟩) p.length c4) (.slice (some ⟨g5, 0, none⟩) q.length c5) (.slice a6 M.length c6) M p q w6) :=
        ⟨⟨H3.out.1.grew (H4.out.2.2.trans (H5.out.2.2.trans hg6)), H4.out.1.grew (H5.out.2.2.trans hg6), H5.out.1.grew hg6, hO6⟩, H5.out.2.1.trans hg6, H3.out.2.2.1, H3.out.2.2.2, H4.out.2.2.size, H5.out.2.2.size, hg6.size⟩
      clear hO6 hg6 H1 H2 H3 H4 H5
      go_wp2_with (fail)
      refine (eqIntSS_any _ _ M M _ HA.out.1.2.2.2.toV HA.out.1.1.toV).mono ?_
      rw [decide_eq_true (rfl : M = M)]
      rintro e w7 ⟨rfl, hq⟩
      have HB := Lib.hid (HA.out.grew (quiet_grew hq))
      clear hq HA
      go_wp2_with (fail)
      refine (toIntS_any _ p _ (HV.out.grew HB.out.2.1) hs).mono ?_
      rintro e w8 ⟨v8, rfl, hO8, hg8, hz8, g8, c8, rfl⟩
      have H8 := Lib.hid (And.intro hO8.toV hg8)
      clear hO8 hg8 hz8
      go_wp2_with (fail)
      refine (eqIntS_any _ _ p p _ (HB.out.1.2.1.toV.grew H8.out.2) H8.out.1).mono ?_
      rw [decide_eq_true (rfl : p = p)]
      rintro e w9 ⟨rfl, hq⟩
      have HC := Lib.hid (HB.out.grew (H8.out.2.trans (quiet_grew hq)))
      clear hq H8 HB
      go_wp2_with (fail)
      refine (toIntS_any _ q _ (HU.out.grew HC.out.2.1) hs2).mono ?_
      rintro e w10 ⟨v10, rfl, hO10, hg10, hz10, g10, c10, rfl⟩
      have H10 := Lib.hid (And.intro hO10.toV hg10)
      clear hO10 hg10 hz10
      go_wp2_with (fail)
      refine (eqIntS_any _ _ q q _ (HC.out.1.2.2.1.toV.grew H10.out.2) H10.out.1).mono ?_
      rw [decide_eq_true (rfl : q = q)]
      rintro e w11 ⟨rfl, hq⟩
      have HD := Lib.hid (HC.out.grew (H10.out.2.trans (quiet_grew hq)))
      clear hq H10 HC
      go_wp2_with (fail)
      refine (markIntS_any w3.heap.size w4.heap.size _ p 1 _ HD.out.1.2.1 (by decide) (by omega)).mono ?_
      rintro e w12 ⟨rfl, _, hw12⟩
      have HE : Hid ((RowsO 23 3 w2.heap.size w3.heap.size w12 (.slice a3 M.length c3) M ∧ IntsO 3 w4.heap.size w5.heap.size w12 (.slice (some ⟨g5, 0, none⟩) q.length c5) q ∧ RowsO 23 3 w5.heap.size w6.heap.size w12 (.slice a6 M.length c6) M) ∧ Grew w w12 ∧ w.heap.size ≤ w2.heap.size ∧ w2.heap.size ≤ w3.heap.size ∧ w3.heap.size ≤ w4.heap.size ∧ w4.heap.size ≤ w5.heap.size ∧ w5.heap.size ≤ w6.heap.size) := by
        obtain ⟨⟨k1, k2, k3, k4⟩, k5, k6, k7, k8, k9, k10⟩ := HD.out
        exact ⟨⟨k1.within hw12 (.inl (Nat.le_refl _)), k3.within hw12 (.inr (Nat.le_refl _)), k4.within hw12 (.inr (by omega))⟩, Within.grew k5 hw12 (by omega), k6, k7, k8, k9, k10⟩
      clear hw12 HD
      go_wp2_with (fail)
      refine (markIntS_any w4.heap.size w5.heap.size _ q (1 + (p.length : Int)) _ HE.out.1.2.1 (by omega) (by omega)).mono ?_
      rintro e w13 ⟨rfl, _, hw13⟩
      have HF : Hid ((RowsO 23 3 w2.heap.size w3.heap.size w13 (.slice a3 M.length c3) M ∧ RowsO 23 3 w5.heap.size w6.heap.size w13 (.slice a6 M.length c6) M) ∧ Grew w w13 ∧ w.heap.size ≤ w2.heap.size ∧ w2.heap.size ≤ w3.heap.size ∧ w3.heap.size ≤ w4.heap.size ∧ w4.heap.size ≤ w5.heap.size ∧ w5.heap.size ≤ w6.heap.size) := by
        obtain ⟨⟨k1, k3, k4⟩, k5, k6, k7, k8, k9, k10⟩ := HE.out
        exact ⟨⟨k1.within hw13 (.inl (by omega)), k4.within hw13 (.inr (Nat.le_refl _))⟩, Within.grew k5 hw13 (by omega), k6, k7, k8, k9, k10⟩
      clear hw13 HE
      have e9 : ¬ (1 + (p.length : Int) + (q.length : Int)) < 0 := by omega
      go_wp2_with (fail)
      refine (eqIntSS_any _ _ M M _ HF.out.1.2.toV HF.out.1.1.toV).mono ?_
      rw [decide_eq_true (rfl : M = M)]
      rintro e w14 ⟨rfl, hq⟩
      have HG : Hid ((RowsO 23 3 w2.heap.size w3.heap.size w14 (.slice a3 M.length c3) M ∧ RowsO 23 3 w5.heap.size w6.heap.size w14 (.slice a6 M.length c6) M) ∧ Grew w w14 ∧ w.heap.size ≤ w2.heap.size ∧ w2.heap.size ≤ w3.heap.size ∧ w3.heap.size ≤ w4.heap.size ∧ w4.heap.size ≤ w5.heap.size ∧ w5.heap.size ≤ w6.heap.size) :=
        ⟨⟨HF.out.1.1.grew (quiet_grew hq), HF.out.1.2.grew (quiet_grew hq)⟩, HF.out.2.1.trans (quiet_grew hq), HF.out.2.2⟩
      clear hq HF
      go_wp2_with (fail)
      refine (markIntSS_any w5.heap.size w6.heap.size _ M 1 _ HG.out.1.2 (by decide) (by have := HTT.out; omega)).mono ?_
      rintro e w15 ⟨rfl, hm15, hw15⟩
      have HH : Hid (RowsO 23 3 w2.heap.size w3.heap.size w15 (.slice a3 M.length c3) M ∧ RowsO 23 3 w5.heap.size w6.heap.size w15 (.slice a6 M.length c6) (markL 1 M) ∧ Grew w w15) := by
        obtain ⟨⟨k1, k4⟩, k5, k6, k7, k8, k9, k10⟩ := HG.out
        exact ⟨k1.within hw15 (.inl (by omega)), hm15, Within.grew k5 hw15 (by omega)⟩
      clear hm15 hw15 HG
      go_wp2_with (fail)
      refine (heldIntSS_any _ M 1 _ HH.out.2.1.toV (by decide) (by have := HTT.out; omega)).mono ?_
      rintro e w16 ⟨rfl, rfl⟩
      have e12 : ¬ (1 + (total M : Int)) < 0 := by omega
      go_wp2_with (fail)
      refine (toIntS_any _ p _ (HV.out.grew HH.out.2.2) hs).mono ?_
      rintro e w17 ⟨v17, rfl, hO17, hg17, hz17, g17, c17, rfl⟩
      have H17 := Lib.hid (And.intro hO17.toV hg17)
      clear hO17 hg17 hz17
      go_wp2_with (fail)
      refine (toIntS_any _ q _ (HU.out.grew (HH.out.2.2.trans H17.out.2)) hs2).mono ?_
      rintro e w18 ⟨v18, rfl, hO18, hg18, hz18, g18, c18, rfl⟩
      have H18 := Lib.hid (And.intro hO18.toV (And.intro (H17.out.1.grew hg18) (H17.out.2.trans hg18)))
      clear hO18 hg18 hz18 H17
      go_wp2_with (fail)
      refine (HI'.out _ _ _ H18.out.2.1 H18.out.1).mono ?_
      rintro e w19 ⟨v19, rfl, hw19, hg19⟩
      obtain ⟨a19, c19, rfl⟩ := hw19.sh
      have hgt := H18.out.2.2.trans hg19
      have H19 : Hid (RowsV w19 (.slice a19 M.length c19) M ∧ RowsV w19 (.slice a3 M.length c3) M ∧ RowsV w19 (.slice a6 M.length c6) (markL 1 M) ∧ Grew w w19) :=
        ⟨hw19.toV, (HH.out.1.grew hgt).toV, (HH.out.2.1.grew hgt).toV, HH.out.2.2.trans hgt⟩
      clear hw19 hg19 hgt HH H18
      go_wp2_with (fail)
      refine (eqIntSS_any _ _ M M _ H19.out.1 H19.out.2.1).mono ?_
      rw [decide_eq_true (rfl : M = M)]
      rintro e w20 ⟨rfl, hq⟩
      have hg20 := quiet_grew hq
      have H20 := Lib.hid (And.intro (H19.out.2.2.1.grew hg20) (H19.out.2.2.2.trans hg20))
      clear hq hg20 H19
      go_wp2_with (fail)
      refine (heldIntSS_any _ M 1 _ H20.out.1 (by decide) (by have := HTT.out; omega)).mono ?_
      rintro e w21 ⟨rfl, rfl⟩
      go_wp2
      go_ret
      exact ⟨rfl, H20.out.2⟩
end Go.Proofs.Ytlifjhhjkcmneaa
