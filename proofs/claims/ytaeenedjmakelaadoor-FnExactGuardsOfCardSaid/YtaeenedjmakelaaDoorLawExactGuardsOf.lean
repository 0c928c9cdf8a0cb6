/- The law FnExactGuardsOf returns true. -/
import Derived.Test.YtaeenedjmakelaaDoorExact
import Derived.Test.YtaeenedjmakelaaDoorEq
import Derived.Test.YtaeenedjmakelaaDoorMark
import Derived.Test.YtaeenedjmakelaaDoorSGuard
import Derived.Test.YtaeenedjmakelaaDoorGuardI
namespace Go.Proofs.YtaeenedjmakelaaDoor
open Go.RowKit

theorem guardsX_len (p : List Int) : (guardsX p).length ≤ 1000 := by
  unfold guardsX
  split
  · have := memTo_len (fewTo p (2 ^ p.length - 1)) 9
    exact Nat.le_trans this (by decide)
  · simp
set_option maxRecDepth 100000 in
set_option maxHeartbeats 4000000 in
theorem FnExactGuardsOf_any (v : Value) (p : List Int)  (w : World) (hv : IntsV w v p) (hD : Deb w) :
    Calls Tryd.prog 3 #[v] w fun e w' => e = .returned (.bool true) ∧ Grew w w' := by
  have HV := Lib.hid hv
  have HD := Lib.hid hD
  clear hD
  have HTT0 := guardsX_len p
  obtain ⟨M, eM⟩ : ∃ M, guardsX p = M := ⟨_, rfl⟩
  have HI : ∀ (v : Value) (W : World), IntsV W v p → Deb W → Calls Tryd.prog 12 #[v] W (OwnP M W) := fun v W a d => by
    have := GuardsOf_any v p W a d
    rwa [eM] at this
  have HP : ∀ (v : Value) (W : World), IntsV W v p → Calls Tryd.prog 10 #[v] W (OwnP M W) := fun v W a => by
    have := SGuardsOf_any v p W a
    rwa [eM] at this
  have HI' := Lib.hid HI
  have HP' := Lib.hid HP
  rw [eM] at HTT0
  have HTT := Lib.hid HTT0
  clear HTT0
  clear HI HP eM
  obtain ⟨a, b, o, c, rfl, _, _, _⟩ := hv.shape
  clear hv
  by_cases hbig : 1048576 < p.length
  · go_enter Tryd.func3, Tryd.ntmps3
    go_wp2
    go_ret
    exact ⟨rfl, Grew.refl _⟩
  · have hs : p.length ≤ 17592186044416 := by omega
    go_enter Tryd.func3, Tryd.ntmps3
    go_wp2_with (fail)
    refine (toIntS_any _ p _ HV.out hs).mono ?_
    rintro e w2 ⟨v2, rfl, hO2, hg2, hz2, g2, c2, rfl⟩
    have H2 := Lib.hid (And.intro hO2.toV hg2)
    clear hO2 hg2 hz2
    go_wp2_with (fail)
    refine (HP'.out _ _ H2.out.1).mono ?_
    rintro e w3 ⟨v3, rfl, hw3, hg3⟩
    obtain ⟨a3, c3, rfl⟩ := hw3.sh
    have H3 := Lib.hid (And.intro hw3 (H2.out.2.trans hg3))
    clear hw3 hg3
    go_wp2_with (fail)
    refine (toIntS_any _ p _ (HV.out.grew H3.out.2) hs).mono ?_
    rintro e w4 ⟨v4, rfl, hO4, hg4, hz4, g4, c4, rfl⟩
    have H4 := Lib.hid (And.intro hO4 hg4)
    clear hO4 hg4 hz4
    go_wp2_with (fail)
    refine (HI'.out _ _ H4.out.1.toV (HD.out.grew (H3.out.2.trans H4.out.2))).mono ?_
    rintro e w5 ⟨v5, rfl, hw5, hg5⟩
    obtain ⟨a5, c5, rfl⟩ := hw5.sh
    have H5 : Hid (IntsO 3 w2.heap.size w3.heap.size w5 (.slice a3 M.length c3) M ∧ IntsO 3 w3.heap.size w4.heap.size w5 (.slice (some ⟨g4, 0, none⟩) p.length c4) p ∧ IntsO 3 w4.heap.size w5.heap.size w5 (.slice a5 M.length c5) M ∧ Grew w w5 ∧ (w.heap.size ≤ w3.heap.size ∧ w3.heap.size ≤ w4.heap.size ∧ w4.heap.size ≤ w5.heap.size)) :=
      Lib.hid ⟨H3.out.1.grew (H4.out.2.trans hg5), H4.out.1.grew hg5, hw5, H3.out.2.trans (H4.out.2.trans hg5), H3.out.2.size, H4.out.2.size, hg5.size⟩
    clear hw5 hg5 H2 H3 H4
    go_wp2_with (fail)
    refine (eqIntS_any _ _ M M _ H5.out.2.2.1.toV H5.out.1.toV).mono ?_
    rw [decide_eq_true (rfl : M = M)]
    rintro e w6 ⟨rfl, hq⟩
    have hg6 := quiet_grew hq
    have H6 : Hid (IntsO 3 w2.heap.size w3.heap.size w6 (.slice a3 M.length c3) M ∧ IntsO 3 w3.heap.size w4.heap.size w6 (.slice (some ⟨g4, 0, none⟩) p.length c4) p ∧ IntsO 3 w4.heap.size w5.heap.size w6 (.slice a5 M.length c5) M ∧ Grew w w6 ∧ (w.heap.size ≤ w3.heap.size ∧ w3.heap.size ≤ w4.heap.size ∧ w4.heap.size ≤ w5.heap.size)) :=
      Lib.hid ⟨H5.out.1.grew hg6, H5.out.2.1.grew hg6, H5.out.2.2.1.grew hg6, H5.out.2.2.2.1.trans hg6, H5.out.2.2.2.2⟩
    clear hq hg6 H5
    go_wp2_with (fail)
    refine (toIntS_any _ p _ (HV.out.grew H6.out.2.2.2.1) hs).mono ?_
    rintro e w7 ⟨v7, rfl, hO7, hg7, hz7, g7, c7, rfl⟩
    have H7 := Lib.hid (And.intro hO7.toV hg7)
    clear hO7 hg7 hz7
    go_wp2_with (fail)
    refine (eqIntS_any _ _ p p _ (H6.out.2.1.toV.grew H7.out.2) H7.out.1).mono ?_
    rw [decide_eq_true (rfl : p = p)]
    rintro e w8 ⟨rfl, hq⟩
    have hg8 := H7.out.2.trans (quiet_grew hq)
    have H8 : Hid (IntsO 3 w2.heap.size w3.heap.size w8 (.slice a3 M.length c3) M ∧ IntsO 3 w3.heap.size w4.heap.size w8 (.slice (some ⟨g4, 0, none⟩) p.length c4) p ∧ IntsO 3 w4.heap.size w5.heap.size w8 (.slice a5 M.length c5) M ∧ Grew w w8 ∧ (w.heap.size ≤ w3.heap.size ∧ w3.heap.size ≤ w4.heap.size ∧ w4.heap.size ≤ w5.heap.size)) :=
      Lib.hid ⟨H6.out.1.grew hg8, H6.out.2.1.grew hg8, H6.out.2.2.1.grew hg8, H6.out.2.2.2.1.trans hg8, H6.out.2.2.2.2⟩
    clear hq hg8 H6 H7
    go_wp2_with (fail)
    refine (markIntS_any w3.heap.size w4.heap.size _ p 1 _ H8.out.2.1 (by decide) (by omega)).mono ?_
    rintro e w9 ⟨rfl, hm9, hw9⟩
    have H9 : Hid (IntsO 3 w2.heap.size w3.heap.size w9 (.slice a3 M.length c3) M ∧ IntsO 3 w4.heap.size w5.heap.size w9 (.slice a5 M.length c5) M ∧ Grew w w9 ∧ (w.heap.size ≤ w3.heap.size ∧ w3.heap.size ≤ w4.heap.size ∧ w4.heap.size ≤ w5.heap.size)) :=
      Lib.hid ⟨H8.out.1.within hw9 (.inl (Nat.le_refl _)), H8.out.2.2.1.within hw9 (.inr (Nat.le_refl _)), Within.grew H8.out.2.2.2.1 hw9 H8.out.2.2.2.2.1, H8.out.2.2.2.2⟩
    clear hm9 hw9 H8
    have e9 : ¬ (1 + (p.length : Int)) < 0 := by omega
    go_wp2_with (fail)
    refine (eqIntS_any _ _ M M _ H9.out.2.1.toV H9.out.1.toV).mono ?_
    rw [decide_eq_true (rfl : M = M)]
    rintro e w10 ⟨rfl, hq⟩
    have hg10 := quiet_grew hq
    have H10 : Hid (IntsO 3 w2.heap.size w3.heap.size w10 (.slice a3 M.length c3) M ∧ IntsO 3 w4.heap.size w5.heap.size w10 (.slice a5 M.length c5) M ∧ Grew w w10 ∧ (w.heap.size ≤ w3.heap.size ∧ w3.heap.size ≤ w4.heap.size ∧ w4.heap.size ≤ w5.heap.size)) :=
      Lib.hid ⟨H9.out.1.grew hg10, H9.out.2.1.grew hg10, H9.out.2.2.1.trans hg10, H9.out.2.2.2⟩
    clear hq hg10 H9
    go_wp2_with (fail)
    refine (markIntS_any w4.heap.size w5.heap.size _ M 1 _ H10.out.2.1 (by decide) (by have := HTT.out; omega)).mono ?_
    rintro e w11 ⟨rfl, hm11, hw11⟩
    have H11 : Hid (IntsO 3 w2.heap.size w3.heap.size w11 (.slice a3 M.length c3) M ∧ IntsO 3 w4.heap.size w5.heap.size w11 (.slice a5 M.length c5) (seqL 1 M.length) ∧ Grew w w11) :=
      Lib.hid ⟨H10.out.1.within hw11 (.inl H10.out.2.2.2.2.1), hm11, Within.grew H10.out.2.2.1 hw11 (Nat.le_trans H10.out.2.2.2.1 H10.out.2.2.2.2.1)⟩
    clear hm11 hw11 H10
    go_wp2_with (fail)
    refine (heldIntS_any _ M.length 1 _ H11.out.2.1.toV (by decide) (by have := HTT.out; omega)).mono ?_
    rintro e w12 ⟨rfl, rfl⟩
    have e12 : ¬ (1 + (M.length : Int)) < 0 := by omega
    go_wp2_with (fail)
    refine (toIntS_any _ p _ (HV.out.grew H11.out.2.2) hs).mono ?_
    rintro e w13 ⟨v13, rfl, hO13, hg13, hz13, g13, c13, rfl⟩
    have H13 := Lib.hid (And.intro hO13.toV hg13)
    clear hO13 hg13 hz13
    go_wp2_with (fail)
    refine (HI'.out _ _ H13.out.1 (HD.out.grew (H11.out.2.2.trans H13.out.2))).mono ?_
    rintro e w14 ⟨v14, rfl, hw14, hg14⟩
    obtain ⟨a14, c14, rfl⟩ := hw14.sh
    have hgt := H13.out.2.trans hg14
    have H14 : Hid (IntsV w14 (.slice a14 M.length c14) M ∧ IntsV w14 (.slice a3 M.length c3) M ∧ IntsV w14 (.slice a5 M.length c5) (seqL 1 M.length) ∧ Grew w w14) :=
      Lib.hid ⟨hw14.toV, (H11.out.1.grew hgt).toV, (H11.out.2.1.grew hgt).toV, H11.out.2.2.trans hgt⟩
    clear hw14 hg14 hgt H11 H13
    go_wp2_with (fail)
    refine (eqIntS_any _ _ M M _ H14.out.1 H14.out.2.1).mono ?_
    rw [decide_eq_true (rfl : M = M)]
    rintro e w15 ⟨rfl, hq⟩
    have hg15 := quiet_grew hq
    have H15 := Lib.hid (And.intro (H14.out.2.2.1.grew hg15) (H14.out.2.2.2.trans hg15))
    clear hq hg15 H14
    go_wp2_with (fail)
    refine (heldIntS_any _ M.length 1 _ H15.out.1 (by decide) (by have := HTT.out; omega)).mono ?_
    rintro e w16 ⟨rfl, rfl⟩
    go_wp2
    go_ret
    exact ⟨rfl, H15.out.2⟩
end Go.Proofs.YtaeenedjmakelaaDoor
