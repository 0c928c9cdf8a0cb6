/- FnCalmLast: for every input the law returns true, and the input reads as it did, where the table of steps reads as the program's text lays it; tied to that text. Its conditions: that one listed variable, tied. -/
import Derived.Test.YthgafljbbkgldaaDoorEqualInts
import Derived.Test.YthgafljbbkgldaaDoorSandL
import Derived.Test.YthgafljbbkgldaaDoorDraws10
import Derived.Test.YthgafljbbkgldaaDoorRowOf
import Derived.Test.YthgafljbbkgldaaDoorTotal
import Derived.Test.YthgafljbbkgldaaDoorCameRows
import Derived.Test.YthgafljbbkgldaaDoorTied
import Derived.Test.YthgafljbbkgldaaDoorWords
import Derived.Test.YthgafljbbkgldaaDoorTie
import Derived.Test.YthgafljbbkgldaaDoorCards
import Derived.SevenTiedAt
/- The contract of laws.equalRows. -/
namespace Go.Proofs.YthgafljbbkgldaaDoor
open Go.RowKit

set_option maxRecDepth 100000 in
set_option maxHeartbeats 1000000 in
theorem equalRows_any (v1 v2 : Value) (xs ys : List (List Int)) (w : World) (hv1 : RowsV w v1 xs) (hv2 : RowsV w v2 ys) :
    Calls Tryd.prog 19 #[v1, v2] w (QuietBool (decide (xs = ys)) w) := by
  obtain ⟨a, b, o, c, rfl, ⟨hlc, hcb⟩, ha, HC⟩ := hv1.shape
  obtain ⟨a2, b2, o2, c2, rfl, ⟨hlc2, hcb2⟩, ha2, HC2⟩ := hv2.shape
  have HA := Lib.hid ha
  have HA2 := Lib.hid ha2
  clear hv1 hv2 ha ha2
  by_cases hl : xs.length = ys.length
  · have hn : ((xs.length : Int) != (ys.length : Int)) = false := by simp [hl]
    have HL := Lib.hid hl
    clear hl
    go_enter Tryd.func19, Tryd.ntmps19
    go_wp2
    clear hn
    go_loopw [5] (fun i wr => ∃ k : Nat, k ≤ xs.length ∧ i = .int .i64 k ∧ Hid (xs.take k = ys.take k ∧ ∃ n, wr = w.drewN n)) (fun i _ => xs.length - (intOf i).toNat)
    case atStart => exact ⟨0, Nat.zero_le _, rfl, rfl, 0, rfl⟩
    case round =>
      obtain ⟨k, hk, rfl, HI⟩ := hrel
      have HW := Lib.hid (quiet_grew HI.out.2)
      by_cases hlt : k < xs.length
      · have hlt2 : k < ys.length := by have := HL.out; omega
        obtain rfl := HA.out (by omega)
        obtain rfl := HA2.out (by omega)
        obtain ⟨u1, hc1', hu1⟩ := HC.out k hlt
        obtain ⟨u2, hc2', hu2⟩ := HC2.out k hlt2
        have hc1 := HW.out.cell hc1'
        have hc2 := HW.out.cell hc2'
        obtain ⟨x, ex⟩ : ∃ x, xs.getD k [] = x := ⟨_, rfl⟩
        obtain ⟨y, ey⟩ : ∃ y, ys.getD k [] = y := ⟨_, rfl⟩
        rw [ex] at hu1
        rw [ey] at hu2
        have HK : Hid (∀ m, Calls Tryd.prog 50 #[u1, u2] (wr.drewN m) fun e w' => e = .returned (.bool (decide (x = y))) ∧ ∃ k, w' = (wr.drewN m).drewN k) := fun m => equalInts_any u1 u2 x y _ (hu1.grew (HW.out.drewN m)) (hu2.grew (HW.out.drewN m))
        obtain ⟨a3, b3, o3, c3, rfl, _, _, _⟩ := hu1.shape
        obtain ⟨a4, b4, o4, c4, rfl, _, _, _⟩ := hu2.shape
        have HE := Lib.hid (And.intro ex ey)
        have r1 : (k : Int) < xs.length := by omega
        have r2 : (k : Int) < ys.length := by omega
        have r3 : (0 : Int) ≤ k := by omega
        clear ex ey hu1 hu2 hc1' hc2'
        by_cases hxy : x = y
        · have HK2 := HK.out
          have e : decide (x = y) = true := by simp [hxy]
          rw [e] at HK2
          have HK3 := Lib.hid HK2
          have HXY := Lib.hid hxy
          clear hxy HK2 HK e
          go_wp2
          go_quiet ((go_at_call 50; exact Calls.quiet_of (HK3.out _)))
          go_wp2
          go_roundw
          case rel => exact ⟨k + 1, by omega, by go_num, take_eq_snoc [] hlt hlt2 HI.out.1 (by rw [HE.out.1, HE.out.2, HXY.out]), quiet_step HI.out.2 _⟩
          case measure => simp [intOf]; omega
        · have HK2 := HK.out
          have e : decide (x = y) = false := by simp [hxy]
          rw [e] at HK2
          have HK3 := Lib.hid HK2
          have HXY := Lib.hid hxy
          clear hxy HK2 HK e
          go_wp2
          go_quiet ((go_at_call 50; exact Calls.quiet_of (HK3.out _)))
          go_wp2
          go_ret
          refine ⟨ret_bool ?_, quiet_step HI.out.2 _⟩
          have : xs ≠ ys := fun e => HXY.out (by rw [← HE.out.1, ← HE.out.2, e])
          simp [this]
      · go_wp2
        go_ret
        refine ⟨ret_bool ?_, HI.out.2⟩
        have := HI.out.1
        rw [List.take_of_length_le (by omega), List.take_of_length_le (by have := HL.out; omega)] at this
        simp [this]
  · have hn : ((xs.length : Int) != (ys.length : Int)) = true := by simp; omega
    have HL := Lib.hid hl
    clear hl
    go_enter Tryd.func19, Tryd.ntmps19
    go_wp2
    go_ret
    refine ⟨ret_bool ?_, 0, rfl⟩
    have : xs ≠ ys := fun e => HL.out (by rw [e])
    simp [this]
end Go.Proofs.YthgafljbbkgldaaDoor
/- The law FnCalmLast returns true. -/
namespace Go.Proofs.YthgafljbbkgldaaDoor
open Go.RowKit

set_option maxRecDepth 100000 in
set_option maxHeartbeats 8000000 in
theorem FnCalmLast_any (v : Value) (bs : List Int) (w : World) (hv : NumsV .u8 w v bs) (hb : ∀ i, i < bs.length → 0 ≤ bs.getD i 0 ∧ bs.getD i 0 ≤ 255) (hS : Steps w) :
    Calls Tryd.prog 4 #[v] w fun e w' => e = .returned (.bool true) ∧ Grew w w' := by
  have HD := Lib.hid (DrawCalmLast_any v bs w hv hb)
  have HS := Lib.hid hS
  obtain ⟨a, b, o, c, rfl, ⟨hlc, hcb⟩, _, _⟩ := hv.shape
  clear hv hb hS
  by_cases hbig : 1048576 < bs.length
  · go_enter Tryd.func4, Tryd.ntmps4
    go_wp2
    go_ret
    exact ⟨rfl, Grew.refl _⟩
  · go_enter Tryd.func4, Tryd.ntmps4
    go_wp2_with (fail)
    refine HD.out.mono ?_
    rintro e w0 ⟨v0, H, rfl, hO0, hg0⟩
    obtain ⟨a0, c0, rfl⟩ := hO0.sh
    have H0 : Hid (Grew w w0 ∧ RowsV w0 (.slice a0 H.length c0) H) := Lib.hid ⟨hg0, hO0.toV⟩
    clear hO0 hg0 HD
    obtain ⟨M, eM⟩ : ∃ M, calmX H = M := ⟨_, rfl⟩
    have HM := Lib.hid eM
    have HCI : Hid (∀ (v : Value) (W : World), RowsV W v H → Grew w W → Calls Tryd.prog 22 #[v] W (NewRows W M)) := Lib.hid fun v W hv hW => by
      have := CalmLast_any v _ W hv (HS.out.grew hW)
      rwa [HM.out] at this
    have HCS : Hid (∀ (v : Value) (W : World), RowsV W v H → Grew w W → Calls Tryd.prog 25 #[v] W (NewRows W M)) := Lib.hid fun v W hv hW => by
      have := SCalmLast_any v _ W hv
      rwa [HM.out] at this
    clear eM
    go_wp2_with (fail)
    refine (HCI.out _ _ (H0.out.2) (H0.out.1)).mono ?_
    rintro e w1 ⟨v1, rfl, hO1, hg1⟩
    obtain ⟨a1, c1, rfl⟩ := hO1.sh
    have H1 : Hid (Grew w w1 ∧ RowsV w1 (.slice a0 H.length c0) H ∧ RowsV w1 (.slice a1 M.length c1) M) := Lib.hid ⟨H0.out.1.trans hg1, (H0.out.2).grew hg1, hO1.toV⟩
    clear hO1 hg1 H0
    go_wp2_with (fail)
    refine (HCS.out _ _ (H1.out.2.1) (H1.out.1)).mono ?_
    rintro e w2 ⟨v2, rfl, hO2, hg2⟩
    obtain ⟨a2, c2, rfl⟩ := hO2.sh
    have H2 : Hid (Grew w w2 ∧ RowsV w2 (.slice a0 H.length c0) H ∧ RowsV w2 (.slice a1 M.length c1) M ∧ RowsV w2 (.slice a2 M.length c2) M) := Lib.hid ⟨H1.out.1.trans hg2, (H1.out.2.1).grew hg2, (H1.out.2.2).grew hg2, hO2.toV⟩
    clear hO2 hg2 H1
    go_wp2_with (fail)
    refine (equalRows_any _ _ M M _ (H2.out.2.2.1) (H2.out.2.2.2)).mono ?_
    rw [decide_eq_true (rfl : M = M)]
    rintro e w3 ⟨rfl, hq3⟩
    have hg3 := quiet_grew hq3
    have H3 : Hid (Grew w w3 ∧ RowsV w3 (.slice a0 H.length c0) H ∧ RowsV w3 (.slice a1 M.length c1) M ∧ RowsV w3 (.slice a2 M.length c2) M) := Lib.hid ⟨H2.out.1.trans hg3, (H2.out.2.1).grew hg3, (H2.out.2.2.1).grew hg3, (H2.out.2.2.2).grew hg3⟩
    clear hq3 hg3 H2
    by_cases hz : M.length = 0
    · have hzb : ((M.length : Int) == 0) = true := by simp [hz]
      clear hz
      go_wp2_with (fail)
      refine (HCS.out _ _ (H3.out.2.1) (H3.out.1)).mono ?_
      rintro e w4 ⟨v4, rfl, hO4, hg4⟩
      obtain ⟨a4, c4, rfl⟩ := hO4.sh
      have H4 : Hid (Grew w w4 ∧ RowsV w4 (.slice a0 H.length c0) H ∧ RowsV w4 (.slice a1 M.length c1) M ∧ RowsV w4 (.slice a2 M.length c2) M ∧ RowsV w4 (.slice a4 M.length c4) M) := Lib.hid ⟨H3.out.1.trans hg4, (H3.out.2.1).grew hg4, (H3.out.2.2.1).grew hg4, (H3.out.2.2.2).grew hg4, hO4.toV⟩
      clear hO4 hg4 H3
      go_wp2_with (fail)
      refine (equalRows_any _ _ M M _ (H4.out.2.2.1) (H4.out.2.2.2.2)).mono ?_
      rw [decide_eq_true (rfl : M = M)]
      rintro e w5 ⟨rfl, hq5⟩
      have hg5 := quiet_grew hq5
      have H5 : Hid (Grew w w5 ∧ RowsV w5 (.slice a0 H.length c0) H ∧ RowsV w5 (.slice a1 M.length c1) M ∧ RowsV w5 (.slice a2 M.length c2) M ∧ RowsV w5 (.slice a4 M.length c4) M) := Lib.hid ⟨H4.out.1.trans hg5, (H4.out.2.1).grew hg5, (H4.out.2.2.1).grew hg5, (H4.out.2.2.2.1).grew hg5, (H4.out.2.2.2.2).grew hg5⟩
      clear hq5 hg5 H4
      go_wp2
      go_ret
      exact ⟨rfl, H5.out.1⟩
    · have hzb : ((M.length : Int) == 0) = false := beq_eq_false_iff_ne.2 (by omega)
      have hs := sand_yes (h := H) (by rw [HM.out]; exact hz)
      obtain ⟨_, sd, num, hg⟩ := sand_of hs
      have hgm : vGrid M = true := by
        rw [← HM.out, calmX_yes hs]
        exact (shape_grid sd.box sd.calm_len sd.calm9).to
      have hct := calm_twice hs
      rw [HM.out] at hct
      have hN16 : H.length * (H.getD 0 []).length ≤ 16 := Nat.mul_le_mul sd.box.1.2 sd.box.2.2
      have hML : M.flatten.length = H.length * (H.getD 0 []).length ∧ ∀ j, j < M.flatten.length → -1000 ≤ M.flatten.getD j 0 ∧ M.flatten.getD j 0 ≤ 1000 := by
        rw [← HM.out, calmX_yes hs, shapeL_flat _ _ _ sd.calm_len, sd.calm_len]
        exact ⟨rfl, fun j hj => by have := sd.calm_num j hj; omega⟩
      have hHL : H.flatten.length = H.length * (H.getD 0 []).length ∧ ∀ j, j < H.flatten.length → -1000 ≤ H.flatten.getD j 0 ∧ H.flatten.getD j 0 ≤ 1000 := by
        rw [sd.len]
        exact ⟨rfl, fun j hj => by have := num j hj; omega⟩
      have hle : sumTo (fun i => M.flatten.getD i 0) M.flatten.length ≤ sumTo (fun i => H.flatten.getD i 0) H.flatten.length := by
        rw [hML.1, hHL.1, ← HM.out, calmX_yes hs, shapeL_flat _ _ _ sd.calm_len]
        exact calm_less sd
      have Gm := Grid.of hgm
      have Gh := Grid.of hg
      have HRM : Hid (∀ (v : Value) (W : World), RowsV W v M → Calls Tryd.prog 21 #[v] W (FlatPost W M.flatten)) := Lib.hid fun v W hv => rowOf_any v M W hv (Nat.le_trans Gm.n5 (by decide)) (fun r hr => by have := Gm.len r hr; have := Gm.m1; have := Gm.m5; omega)
      have HRH : Hid (∀ (v : Value) (W : World), RowsV W v H → Calls Tryd.prog 21 #[v] W (FlatPost W H.flatten)) := Lib.hid fun v W hv => rowOf_any v H W hv (Nat.le_trans Gh.n5 (by decide)) (fun r hr => by have := Gh.len r hr; have := Gh.m1; have := Gh.m5; omega)
      have HTM : Hid (∀ (v : Value) (W : World), IntsV W v M.flatten → Calls Tryd.prog 26 #[v] W fun e w' => e = .returned (.int .i64 (sumTo (fun i => M.flatten.getD i 0) M.flatten.length)) ∧ W = w') := Lib.hid fun v W hv => totalOf_any v _ W hv (by rw [hML.1]; omega) hML.2
      have HTH : Hid (∀ (v : Value) (W : World), IntsV W v H.flatten → Calls Tryd.prog 26 #[v] W fun e w' => e = .returned (.int .i64 (sumTo (fun i => H.flatten.getD i 0) H.flatten.length)) ∧ W = w') := Lib.hid fun v W hv => totalOf_any v _ W hv (by rw [hHL.1]; omega) hHL.2
      have HCT : Hid (∀ (v : Value) (W : World), RowsV W v M → Grew w W → Calls Tryd.prog 22 #[v] W (NewRows W M)) := Lib.hid fun v W hv hW => by
        have := CalmLast_any v _ W hv (HS.out.grew hW)
        rwa [hct.2] at this
      obtain ⟨ml, eml⟩ : ∃ ml, M.flatten = ml := ⟨_, rfl⟩
      rw [eml] at HRM HTM hle
      obtain ⟨hl, ehl⟩ : ∃ hl, H.flatten = hl := ⟨_, rfl⟩
      rw [ehl] at HRH HTH hle
      obtain ⟨tm, etm⟩ : ∃ t, sumTo (fun i => ml.getD i 0) ml.length = t := ⟨_, rfl⟩
      obtain ⟨th, eth⟩ : ∃ t, sumTo (fun i => hl.getD i 0) hl.length = t := ⟨_, rfl⟩
      rw [etm] at HTM hle
      rw [eth] at HTH hle
      clear hz hs sd num hg hgm hct hN16 hML hHL Gm Gh eml ehl etm eth
      go_wp2_with (fail)
      refine (HCT.out _ _ (H3.out.2.2.1) (H3.out.1)).mono ?_
      rintro e w4 ⟨v4, rfl, hO4, hg4⟩
      obtain ⟨a4, c4, rfl⟩ := hO4.sh
      have H4 : Hid (Grew w w4 ∧ RowsV w4 (.slice a0 H.length c0) H ∧ RowsV w4 (.slice a1 M.length c1) M ∧ RowsV w4 (.slice a2 M.length c2) M ∧ RowsV w4 (.slice a4 M.length c4) M) := Lib.hid ⟨H3.out.1.trans hg4, (H3.out.2.1).grew hg4, (H3.out.2.2.1).grew hg4, (H3.out.2.2.2).grew hg4, hO4.toV⟩
      clear hO4 hg4 H3
      go_wp2_with (fail)
      refine (equalRows_any _ _ M M _ (H4.out.2.2.2.2) (H4.out.2.2.1)).mono ?_
      rw [decide_eq_true (rfl : M = M)]
      rintro e w5 ⟨rfl, hq5⟩
      have hg5 := quiet_grew hq5
      have H5 : Hid (Grew w w5 ∧ RowsV w5 (.slice a0 H.length c0) H ∧ RowsV w5 (.slice a1 M.length c1) M ∧ RowsV w5 (.slice a2 M.length c2) M ∧ RowsV w5 (.slice a4 M.length c4) M) := Lib.hid ⟨H4.out.1.trans hg5, (H4.out.2.1).grew hg5, (H4.out.2.2.1).grew hg5, (H4.out.2.2.2.1).grew hg5, (H4.out.2.2.2.2).grew hg5⟩
      clear hq5 hg5 H4
      go_wp2_with (fail)
      refine (HRM.out _ _ (H5.out.2.2.1)).mono ?_
      rintro e w6 ⟨g6, c6, rfl, hO6, hg6⟩
      have H6 : Hid (Grew w w6 ∧ RowsV w6 (.slice a0 H.length c0) H ∧ RowsV w6 (.slice a1 M.length c1) M ∧ RowsV w6 (.slice a2 M.length c2) M ∧ RowsV w6 (.slice a4 M.length c4) M ∧ IntsV w6 (.slice (some ⟨g6, 0, none⟩) ml.length c6) ml) := Lib.hid ⟨H5.out.1.trans hg6, (H5.out.2.1).grew hg6, (H5.out.2.2.1).grew hg6, (H5.out.2.2.2.1).grew hg6, (H5.out.2.2.2.2).grew hg6, hO6.toV⟩
      clear hO6 hg6 H5
      go_wp2_with (fail)
      refine (HTM.out _ _ (H6.out.2.2.2.2.2)).mono ?_
      rintro e ws ⟨rfl, rfl⟩
      go_wp2_with (fail)
      refine (HRH.out _ _ (H6.out.2.1)).mono ?_
      rintro e w7 ⟨g7, c7, rfl, hO7, hg7⟩
      have H7 : Hid (Grew w w7 ∧ RowsV w7 (.slice a0 H.length c0) H ∧ RowsV w7 (.slice a1 M.length c1) M ∧ RowsV w7 (.slice a2 M.length c2) M ∧ RowsV w7 (.slice a4 M.length c4) M ∧ IntsV w7 (.slice (some ⟨g6, 0, none⟩) ml.length c6) ml ∧ IntsV w7 (.slice (some ⟨g7, 0, none⟩) hl.length c7) hl) := Lib.hid ⟨H6.out.1.trans hg7, (H6.out.2.1).grew hg7, (H6.out.2.2.1).grew hg7, (H6.out.2.2.2.1).grew hg7, (H6.out.2.2.2.2.1).grew hg7, (H6.out.2.2.2.2.2).grew hg7, hO7.toV⟩
      clear hO7 hg7 H6
      go_wp2_with (fail)
      refine (HTH.out _ _ (H7.out.2.2.2.2.2.2)).mono ?_
      rintro e ws ⟨rfl, rfl⟩
      go_wp2
      go_ret
      exact ⟨rfl, H7.out.1⟩
end Go.Proofs.YthgafljbbkgldaaDoor
namespace Go.Proofs.YthgafljbbkgldaaDoor.pCalmLast
open Go.RowKit Go.ChangeShapes Go.WideShapes Go.ChangeAt

set_option maxRecDepth 100000 in
theorem lifted (os : Os) (started : os.Started) (H : Type) (enc : TypeId × Value → H) :
    ReturnsInHanded {} Tryd.checked os 4 .any (fun w args => (Rows.fnCalmLastSpec.pre enc Tryd.prog Tryd.f4 [] false w args ∧ laidMetH Tryd.prog laid1 w) ∧ sizedMet enc Tryd.prog Tryd.f4 (OpenSpec.ofChange Rows.fnCalmLastSpec) false w args)
      (Rows.fnCalmLastSpec.post enc Tryd.prog Tryd.f4 false true false false) := by
  refine returnsInHanded_of_change_and (C := Tryd.checked) (X := fun w _ => laidMetH Tryd.prog laid1 w) (fun _ _ _ hh h => h.of_heap hh) Tryd.own started (by kernel_rfl) Tryd.func4
    (ChangeSpec.witness_shaped (enc := enc) (C := Tryd.checked) (os := os) (X := fun w _ => laidMetH Tryd.prog laid1 w) false (World.doorLaid Tryd.prog 400 os) #[.slice none 0 0] 8 rfl (World.shaped_of_RefB (by kernel_rfl) (by kernel_rfl)) (by kernel_rfl) (by kernel_rfl) (by kernel_rfl) (door_met os _)) ?_
  intro W base args ds gs before hval0 hW _ _ hL _
  have hval : ∀ (j : Nat) t v, Tryd.f4.params[j]? = some t → args[j]? = some v → Value.okWide Tryd.prog W .any base t v := hval0
  have hW' := hW
  obtain ⟨p, q, hA0, hV, rfl, _, _⟩ := hW
  have hA : DataW.TrodAll enc Tryd.prog W 0 (fun _ => true) true Tryd.f4.params.toList args.toList ds p := hA0
  rw [Tryd.params4] at hA hval
  obtain ⟨v0, d0, rfl, rfl, h0⟩ := trodAll_one hA
  have hV' := hV
  obtain ⟨_, _, _, _, dv, _, rfl, _⟩ := trodVars_one hV
  obtain ⟨a0, len0, cap0, rfl⟩ := okWide_slice Tryd.underlying22 (hval 0 22 v0 rfl rfl)
  have k0 := h0
  have lt0 : ∀ x ∈ p, x.block < W.heap.size := by obtain ⟨m, hm⟩ := k0; exact DataW.trod_lt m _ _ _ hm
  obtain ⟨bs0, hn0, hb0⟩ := bytes_came h0
  have HS := steps_of_laid hL
  clear hA0 hval0
  refine (FnCalmLast_any _ bs0 W hn0 hb0 HS).mono fun e W' ⟨he, bel⟩ => ?_
  subst he
  exact ⟨_, rfl, _, _, _, [], _, q, hW', trodAll_mk1 (shut_bool Tryd.underlying4 _), (trodAll_mk1 (Below.trod Tryd.laidOut (by kernel_rfl) (of_decide_eq_true (by kernel_rfl)) k0 bel lt0)), Below.trodVars Tryd.laidOut bel (by kernel_rfl) hV', Below.frame bel _, fun h => by cases h⟩

theorem row_proved : Rows.FnCalmLastSaid :=
  OpenClaim.holds_of_wide 4 Tryd.f4 rfl rfl rfl rfl rfl rfl rfl ⟨rfl, rfl, rfl, rfl, rfl⟩ rfl rfl rfl rfl rfl (by kernel_rfl) Tryd.func4
    (show joinedFacts Tryd.prog 4 Tryd.f4 Rows.fnCalmLastSpec Rows.fnCalmLastRow = true by unfold joinedFacts; rw [Tryd.makeG, Tryd.liftsG, Tryd.enterG]; kernel_rfl)
    (of_decide_eq_true (by kernel_rfl)) (by unfold Func.isWrapper; first | (rw [if_pos (by decide +kernel)]; kernel_rfl) | (rw [if_neg (by decide +kernel)]; exact ⟨rfl, rfl⟩))
    (fun os started H enc _ => lifted os started H enc)

theorem proved : Rows.FnCalmLastCardSaid :=
  Claim7.holds_tied_plain_at .later [] [.data] true Rows.fnCalmLastCard.stood.harness Rows.fnCalmLastCard.stood.looks
    row_proved (fun _ h => by cases h) (by kernel_rfl) (fun _ h => by cases h) fnCalmLast_row_tie rfl ⟨rfl, rfl⟩ (show Tryd.prog.mainIs = some (Rows.fnCalmLastCard.stood.harness.1, Rows.fnCalmLastCard.stood.harness.2.toList) from Tryd.mainG) rfl
    (fun f fn hf hfn => by
      obtain rfl : f = 4 := Option.some.inj ((show Tryd.prog.funcNamed "loop.example/wateronheights/laws.FnCalmLast" = some 4 by kernel_rfl).symm.trans hf) |>.symm
      obtain rfl : fn = Tryd.f4 := (Option.some.inj (Tryd.func4.symm.trans hfn)).symm
      exact ⟨by kernel_rfl, fun j t ht => by
        rw [Tryd.params4] at ht
        have hm : t ∈ [22] := by simpa using Array.mem_of_getElem? ht
        have hall : ([22].all fun u => !Tryd.prog.wantsStandIn u) = true := by kernel_rfl
        exact (show Tryd.prog.wantsStandIn t = false by simpa using List.all_eq_true.1 hall t hm)⟩)
    (by kernel_rfl)
#print axioms proved
end Go.Proofs.YthgafljbbkgldaaDoor.pCalmLast
