/- FnSandIsAGroup: for every input the law returns true, and the input reads as it did, where the table of steps reads as the program's text lays it; tied to that text. Its conditions: that one listed variable, tied. -/
import Derived.Test.YthgafljbbkgldaaDoorEqualInts
import Derived.Test.YthgafljbbkgldaaDoorSandG
import Derived.Test.YthgafljbbkgldaaDoorDraws10
import Derived.Test.YthgafljbbkgldaaDoorCameRows
import Derived.Test.YthgafljbbkgldaaDoorTied
import Derived.Test.YthgafljbbkgldaaDoorWords
import Derived.Test.YthgafljbbkgldaaDoorTie
import Derived.Test.YthgafljbbkgldaaDoorCards
import Derived.SevenTiedAt
/- The contract of laws.equalRows. -/
namespace Go.Proofs.YthgafljbbkgldaaDoor
open Go.RowKit

set_option maxRecDepth 100000 in
set_option maxHeartbeats 1000000 in
theorem equalRows_any (v1 v2 : Value) (xs ys : List (List Int)) (w : World) (hv1 : RowsV w v1 xs) (hv2 : RowsV w v2 ys) :
    Calls Tryd.prog 19 #[v1, v2] w (QuietBool (decide (xs = ys)) w) := by
  obtain ⟨a, b, o, c, rfl, ⟨hlc, hcb⟩, ha, HC⟩ := hv1.shape
  obtain ⟨a2, b2, o2, c2, rfl, ⟨hlc2, hcb2⟩, ha2, HC2⟩ := hv2.shape
  have HA := Lib.hid ha
  have HA2 := Lib.hid ha2
  clear hv1 hv2 ha ha2
  by_cases hl : xs.length = ys.length
  · have hn : ((xs.length : Int) != (ys.length : Int)) = false := by simp [hl]
    have HL := Lib.hid hl
    clear hl
    go_enter Tryd.func19, Tryd.ntmps19
    go_wp2
    clear hn
    go_loopw [5] (fun i wr => ∃ k : Nat, k ≤ xs.length ∧ i = .int .i64 k ∧ Hid (xs.take k = ys.take k ∧ ∃ n, wr = w.drewN n)) (fun i _ => xs.length - (intOf i).toNat)
    case atStart => exact ⟨0, Nat.zero_le _, rfl, rfl, 0, rfl⟩
    case round =>
      obtain ⟨k, hk, rfl, HI⟩ := hrel
      have HW := Lib.hid (quiet_grew HI.out.2)
      by_cases hlt : k < xs.length
      · have hlt2 : k < ys.length := by have := HL.out; omega
        obtain rfl := HA.out (by omega)
        obtain rfl := HA2.out (by omega)
        obtain ⟨u1, hc1', hu1⟩ := HC.out k hlt
        obtain ⟨u2, hc2', hu2⟩ := HC2.out k hlt2
        have hc1 := HW.out.cell hc1'
        have hc2 := HW.out.cell hc2'
        obtain ⟨x, ex⟩ : ∃ x, xs.getD k [] = x := ⟨_, rfl⟩
        obtain ⟨y, ey⟩ : ∃ y, ys.getD k [] = y := ⟨_, rfl⟩
        rw [ex] at hu1
        rw [ey] at hu2
        have HK : Hid (∀ m, Calls Tryd.prog 50 #[u1, u2] (wr.drewN m) fun e w' => e = .returned (.bool (decide (x = y))) ∧ ∃ k, w' = (wr.drewN m).drewN k) := fun m => equalInts_any u1 u2 x y _ (hu1.grew (HW.out.drewN m)) (hu2.grew (HW.out.drewN m))
        obtain ⟨a3, b3, o3, c3, rfl, _, _, _⟩ := hu1.shape
        obtain ⟨a4, b4, o4, c4, rfl, _, _, _⟩ := hu2.shape
        have HE := Lib.hid (And.intro ex ey)
        have r1 : (k : Int) < xs.length := by omega
        have r2 : (k : Int) < ys.length := by omega
        have r3 : (0 : Int) ≤ k := by omega
        clear ex ey hu1 hu2 hc1' hc2'
        by_cases hxy : x = y
        · have HK2 := HK.out
          have e : decide (x = y) = true := by simp [hxy]
          rw [e] at HK2
          have HK3 := Lib.hid HK2
          have HXY := Lib.hid hxy
          clear hxy HK2 HK e
          go_wp2
          go_quiet ((go_at_call 50; exact Calls.quiet_of (HK3.out _)))
          go_wp2
          go_roundw
          case rel => exact ⟨k + 1, by omega, by go_num, take_eq_snoc [] hlt hlt2 HI.out.1 (by rw [HE.out.1, HE.out.2, HXY.out]), quiet_step HI.out.2 _⟩
          case measure => simp [intOf]; omega
        · have HK2 := HK.out
          have e : decide (x = y) = false := by simp [hxy]
          rw [e] at HK2
          have HK3 := Lib.hid HK2
          have HXY := Lib.hid hxy
          clear hxy HK2 HK e
          go_wp2
          go_quiet ((go_at_call 50; exact Calls.quiet_of (HK3.out _)))
          go_wp2
          go_ret
          refine ⟨ret_bool ?_, quiet_step HI.out.2 _⟩
          have : xs ≠ ys := fun e => HXY.out (by rw [← HE.out.1, ← HE.out.2, e])
          simp [this]
      · go_wp2
        go_ret
        refine ⟨ret_bool ?_, HI.out.2⟩
        have := HI.out.1
        rw [List.take_of_length_le (by omega), List.take_of_length_le (by have := HL.out; omega)] at this
        simp [this]
  · have hn : ((xs.length : Int) != (ys.length : Int)) = true := by simp; omega
    have HL := Lib.hid hl
    clear hl
    go_enter Tryd.func19, Tryd.ntmps19
    go_wp2
    go_ret
    refine ⟨ret_bool ?_, 0, rfl⟩
    have : xs ≠ ys := fun e => HL.out (by rw [e])
    simp [this]
end Go.Proofs.YthgafljbbkgldaaDoor
/- The law FnSandIsAGroup returns true. -/
namespace Go.Proofs.YthgafljbbkgldaaDoor
open Go.RowKit

set_option maxRecDepth 100000 in
set_option maxHeartbeats 8000000 in
theorem FnSandIsAGroup_any (v : Value) (bs : List Int) (w : World) (hv : NumsV .u8 w v bs) (hb : ∀ i, i < bs.length → 0 ≤ bs.getD i 0 ∧ bs.getD i 0 ≤ 255) (hS : Steps w) :
    Calls Tryd.prog 9 #[v] w fun e w' => e = .returned (.bool true) ∧ Grew w w' := by
  have HD := Lib.hid (DrawAddSand_any v bs w hv hb)
  have HS := Lib.hid hS
  obtain ⟨a, b, o, c, rfl, ⟨hlc, hcb⟩, _, _⟩ := hv.shape
  clear hv hb hS
  by_cases hbig : 1048576 < bs.length
  · go_enter Tryd.func9, Tryd.ntmps9
    go_wp2
    go_ret
    exact ⟨rfl, Grew.refl _⟩
  · go_enter Tryd.func9, Tryd.ntmps9
    go_wp2_with (fail)
    refine HD.out.mono ?_
    rintro e w0 ⟨v0, u0, H, E, rfl, hO0, hP0, hg0⟩
    obtain ⟨a0, c0, rfl⟩ := hO0.sh
    obtain ⟨d0, f0, rfl⟩ := hP0.sh
    have H0 : Hid (Grew w w0 ∧ RowsV w0 (.slice a0 H.length c0) H ∧ RowsV w0 (.slice d0 E.length f0) E) := Lib.hid ⟨hg0, hO0.toV, hP0.toV⟩
    clear hO0 hP0 hg0 HD
    obtain ⟨M, eM⟩ : ∃ M, addX H E = M := ⟨_, rfl⟩
    have HM := Lib.hid eM
    have HAI : Hid (∀ (u v : Value) (W : World), RowsV W u H → RowsV W v E → Grew w W → Calls Tryd.prog 31 #[u, v] W (NewRows W M)) := Lib.hid fun u v W hu hv hW => by
      have := AddSand_any u v _ _ W hu hv (HS.out.grew hW)
      rwa [HM.out] at this
    have HAS : Hid (∀ (u v : Value) (W : World), RowsV W u H → RowsV W v E → Grew w W → Calls Tryd.prog 32 #[u, v] W (NewRows W M)) := Lib.hid fun u v W hu hv hW => by
      have := SAddSand_any u v _ _ W hu hv
      rwa [HM.out] at this
    clear eM
    go_wp2_with (fail)
    refine (HAI.out _ _ _ (H0.out.2.1) (H0.out.2.2) (H0.out.1)).mono ?_
    rintro e w1 ⟨v1, rfl, hO1, hg1⟩
    obtain ⟨a1, c1, rfl⟩ := hO1.sh
    have H1 : Hid (Grew w w1 ∧ RowsV w1 (.slice a0 H.length c0) H ∧ RowsV w1 (.slice d0 E.length f0) E ∧ RowsV w1 (.slice a1 M.length c1) M) := Lib.hid ⟨H0.out.1.trans hg1, (H0.out.2.1).grew hg1, (H0.out.2.2).grew hg1, hO1.toV⟩
    clear hO1 hg1 H0
    go_wp2_with (fail)
    refine (HAS.out _ _ _ (H1.out.2.1) (H1.out.2.2.1) (H1.out.1)).mono ?_
    rintro e w2 ⟨v2, rfl, hO2, hg2⟩
    obtain ⟨a2, c2, rfl⟩ := hO2.sh
    have H2 : Hid (Grew w w2 ∧ RowsV w2 (.slice a0 H.length c0) H ∧ RowsV w2 (.slice d0 E.length f0) E ∧ RowsV w2 (.slice a1 M.length c1) M ∧ RowsV w2 (.slice a2 M.length c2) M) := Lib.hid ⟨H1.out.1.trans hg2, (H1.out.2.1).grew hg2, (H1.out.2.2.1).grew hg2, (H1.out.2.2.2).grew hg2, hO2.toV⟩
    clear hO2 hg2 H1
    go_wp2_with (fail)
    refine (equalRows_any _ _ M M _ (H2.out.2.2.2.1) (H2.out.2.2.2.2)).mono ?_
    rw [decide_eq_true (rfl : M = M)]
    rintro e w3 ⟨rfl, hq3⟩
    have hg3 := quiet_grew hq3
    have H3 : Hid (Grew w w3 ∧ RowsV w3 (.slice a0 H.length c0) H ∧ RowsV w3 (.slice d0 E.length f0) E ∧ RowsV w3 (.slice a1 M.length c1) M ∧ RowsV w3 (.slice a2 M.length c2) M) := Lib.hid ⟨H2.out.1.trans hg3, (H2.out.2.1).grew hg3, (H2.out.2.2.1).grew hg3, (H2.out.2.2.2.1).grew hg3, (H2.out.2.2.2.2).grew hg3⟩
    clear hq3 hg3 H2
    go_wp2_with (fail)
    refine (HAI.out _ _ _ (H3.out.2.1) (H3.out.2.2.1) (H3.out.1)).mono ?_
    rintro e w4 ⟨v4, rfl, hO4, hg4⟩
    obtain ⟨a4, c4, rfl⟩ := hO4.sh
    have H4 : Hid (Grew w w4 ∧ RowsV w4 (.slice a0 H.length c0) H ∧ RowsV w4 (.slice d0 E.length f0) E ∧ RowsV w4 (.slice a4 M.length c4) M) := Lib.hid ⟨H3.out.1.trans hg4, (H3.out.2.1).grew hg4, (H3.out.2.2.1).grew hg4, hO4.toV⟩
    clear hO4 hg4 H3
    by_cases hz : M.length = 0
    · have hzb : ((M.length : Int) == 0) = true := by simp [hz]
      clear hz
      go_wp2
      go_ret
      exact ⟨rfl, H4.out.1⟩
    · have hzb : ((M.length : Int) == 0) = false := beq_eq_false_iff_ne.2 (by omega)
      have hok := add_yes (a := H) (b := E) (by rw [HM.out]; exact hz)
      have hlaw := group_law hok rfl rfl
      rw [HM.out] at hlaw
      have hsH : vSand H = true := by
        unfold addOk at hok
        simp only [Bool.and_eq_true] at hok
        exact hok.1.1.1
      obtain ⟨_, sd, num, hg⟩ := sand_of hsH
      have hn4 := sd.box.1.2
      have hm4 := sd.box.2.2
      have hn1 := sd.box.1.1
      obtain ⟨m, em⟩ : ∃ m, (H.getD 0 []).length = m := ⟨_, rfl⟩
      rw [em] at hlaw hm4
      obtain ⟨n, en⟩ : ∃ n, H.length = n := ⟨_, rfl⟩
      rw [en] at hlaw hn4 hn1
      obtain ⟨Q, eQ⟩ : ∃ X, zeroX n m = X := ⟨_, rfl⟩
      rw [eQ] at hlaw
      obtain ⟨X, eX⟩ : ∃ X, addX Q H = X := ⟨_, rfl⟩
      obtain ⟨Y, eY⟩ : ∃ X, addX Q E = X := ⟨_, rfl⟩
      rw [eX, eY] at hlaw
      obtain ⟨B, eB⟩ : ∃ B, addX X Y = B := ⟨_, rfl⟩
      rw [eB] at hlaw
      have HZR : Hid (∀ (W : World), Grew w W → Calls Tryd.prog 37 #[.int .i64 n, .int .i64 m] W (NewRows W Q)) := Lib.hid fun W hW => by
        have := ZeroSand_any n m W (by omega) (by omega) (HS.out.grew hW)
        rwa [eQ] at this
      have HQA : Hid (∀ (u v : Value) (W : World), RowsV W u Q → RowsV W v H → Grew w W → Calls Tryd.prog 31 #[u, v] W (NewRows W X)) := Lib.hid fun u v W hu hv hW => by
        have := AddSand_any u v _ _ W hu hv (HS.out.grew hW)
        rwa [eX] at this
      have HQB : Hid (∀ (u v : Value) (W : World), RowsV W u Q → RowsV W v E → Grew w W → Calls Tryd.prog 31 #[u, v] W (NewRows W Y)) := Lib.hid fun u v W hu hv hW => by
        have := AddSand_any u v _ _ W hu hv (HS.out.grew hW)
        rwa [eY] at this
      have HXY : Hid (∀ (u v : Value) (W : World), RowsV W u X → RowsV W v Y → Grew w W → Calls Tryd.prog 31 #[u, v] W (NewRows W B)) := Lib.hid fun u v W hu hv hW => by
        have := AddSand_any u v _ _ W hu hv (HS.out.grew hW)
        rwa [eB] at this
      have HQM : Hid (∀ (u v : Value) (W : World), RowsV W u Q → RowsV W v M → Grew w W → Calls Tryd.prog 31 #[u, v] W (NewRows W B)) := Lib.hid fun u v W hu hv hW => by
        have := AddSand_any u v _ _ W hu hv (HS.out.grew hW)
        rwa [hlaw.1] at this
      have HXQ : Hid (∀ (u v : Value) (W : World), RowsV W u X → RowsV W v Q → Grew w W → Calls Tryd.prog 31 #[u, v] W (NewRows W X)) := Lib.hid fun u v W hu hv hW => by
        have := AddSand_any u v _ _ W hu hv (HS.out.grew hW)
        rwa [hlaw.2.2.2] at this
      have HBX : Hid (∀ (v : Value) (W : World), RowsV W v X → Grew w W → Calls Tryd.prog 34 #[v] W fun e w' => e = .returned (.bool true) ∧ Grew W w') := Lib.hid fun v W hv hW => (Burns_any v X W hv (HS.out.grew hW)).mono fun e w' hp => by
        have := hp.told
        rwa [(burnsB_iff X).2 hlaw.2.1] at this
      have HBB : Hid (∀ (v : Value) (W : World), RowsV W v B → Grew w W → Calls Tryd.prog 34 #[v] W fun e w' => e = .returned (.bool true) ∧ Grew W w') := Lib.hid fun v W hv hW => (Burns_any v B W hv (HS.out.grew hW)).mono fun e w' hp => by
        have := hp.told
        rwa [(burnsB_iff B).2 hlaw.2.2.1] at this
      obtain ⟨aH, bH, oH, cH, eH, _, haH, HCH⟩ := (H4.out.2.1).shape
      simp only [Value.slice.injEq, true_and] at eH
      obtain ⟨rfl, rfl⟩ := eH
      obtain rfl := haH (by rw [en]; exact hn1)
      rw [en] at HCH
      obtain ⟨uH, hcu, hu⟩ := HCH.out 0 hn1
      obtain ⟨ra, rb, ro, rc, eu, _⟩ := hu.shape
      rw [em] at eu
      rw [eu, Nat.add_zero] at hcu
      have hlnH : (H.length : Int) = n := by rw [en]
      have hlnN : H.length = n := en
      have hi0 : (0 : Int) < H.length := by omega
      have hi1 : 0 < H.length := by omega
      have HEN := Lib.hid en
      clear hz hok hlaw hsH sd num hg em haH eQ eX eY eB hu eu hlnN en
      go_wp2_with (fail)
      refine (HZR.out _ (H4.out.1)).mono ?_
      rintro e w5 ⟨v5, rfl, hO5, hg5⟩
      obtain ⟨a5, c5, rfl⟩ := hO5.sh
      have H5 : Hid (Grew w w5 ∧ RowsV w5 (.slice (some ⟨bH, oH, none⟩) H.length c0) H ∧ RowsV w5 (.slice d0 E.length f0) E ∧ RowsV w5 (.slice a4 M.length c4) M ∧ RowsV w5 (.slice a5 Q.length c5) Q) := Lib.hid ⟨H4.out.1.trans hg5, (H4.out.2.1).grew hg5, (H4.out.2.2.1).grew hg5, (H4.out.2.2.2).grew hg5, hO5.toV⟩
      clear hO5 hg5 H4
      clear hcu hlnH
      go_wp2_with (fail)
      refine (HQA.out _ _ _ (H5.out.2.2.2.2) (H5.out.2.1) (H5.out.1)).mono ?_
      rintro e w6 ⟨v6, rfl, hO6, hg6⟩
      obtain ⟨a6, c6, rfl⟩ := hO6.sh
      have H6 : Hid (Grew w w6 ∧ RowsV w6 (.slice (some ⟨bH, oH, none⟩) H.length c0) H ∧ RowsV w6 (.slice d0 E.length f0) E ∧ RowsV w6 (.slice a4 M.length c4) M ∧ RowsV w6 (.slice a5 Q.length c5) Q ∧ RowsV w6 (.slice a6 X.length c6) X) := Lib.hid ⟨H5.out.1.trans hg6, (H5.out.2.1).grew hg6, (H5.out.2.2.1).grew hg6, (H5.out.2.2.2.1).grew hg6, (H5.out.2.2.2.2).grew hg6, hO6.toV⟩
      clear hO6 hg6 H5
      go_wp2_with (fail)
      refine (HQB.out _ _ _ (H6.out.2.2.2.2.1) (H6.out.2.2.1) (H6.out.1)).mono ?_
      rintro e w7 ⟨v7, rfl, hO7, hg7⟩
      obtain ⟨a7, c7, rfl⟩ := hO7.sh
      have H7 : Hid (Grew w w7 ∧ RowsV w7 (.slice (some ⟨bH, oH, none⟩) H.length c0) H ∧ RowsV w7 (.slice d0 E.length f0) E ∧ RowsV w7 (.slice a4 M.length c4) M ∧ RowsV w7 (.slice a5 Q.length c5) Q ∧ RowsV w7 (.slice a6 X.length c6) X ∧ RowsV w7 (.slice a7 Y.length c7) Y) := Lib.hid ⟨H6.out.1.trans hg7, (H6.out.2.1).grew hg7, (H6.out.2.2.1).grew hg7, (H6.out.2.2.2.1).grew hg7, (H6.out.2.2.2.2.1).grew hg7, (H6.out.2.2.2.2.2).grew hg7, hO7.toV⟩
      clear hO7 hg7 H6
      go_wp2_with (fail)
      refine (HXY.out _ _ _ (H7.out.2.2.2.2.2.1) (H7.out.2.2.2.2.2.2) (H7.out.1)).mono ?_
      rintro e w8 ⟨v8, rfl, hO8, hg8⟩
      obtain ⟨a8, c8, rfl⟩ := hO8.sh
      have H8 : Hid (Grew w w8 ∧ RowsV w8 (.slice (some ⟨bH, oH, none⟩) H.length c0) H ∧ RowsV w8 (.slice d0 E.length f0) E ∧ RowsV w8 (.slice a4 M.length c4) M ∧ RowsV w8 (.slice a5 Q.length c5) Q ∧ RowsV w8 (.slice a6 X.length c6) X ∧ RowsV w8 (.slice a7 Y.length c7) Y ∧ RowsV w8 (.slice a8 B.length c8) B) := Lib.hid ⟨H7.out.1.trans hg8, (H7.out.2.1).grew hg8, (H7.out.2.2.1).grew hg8, (H7.out.2.2.2.1).grew hg8, (H7.out.2.2.2.2.1).grew hg8, (H7.out.2.2.2.2.2.1).grew hg8, (H7.out.2.2.2.2.2.2).grew hg8, hO8.toV⟩
      clear hO8 hg8 H7
      go_wp2_with (fail)
      refine (HAI.out _ _ _ (H8.out.2.1) (H8.out.2.2.1) (H8.out.1)).mono ?_
      rintro e w9 ⟨v9, rfl, hO9, hg9⟩
      obtain ⟨a9, c9, rfl⟩ := hO9.sh
      have H9 : Hid (Grew w w9 ∧ RowsV w9 (.slice (some ⟨bH, oH, none⟩) H.length c0) H ∧ RowsV w9 (.slice d0 E.length f0) E ∧ RowsV w9 (.slice a4 M.length c4) M ∧ RowsV w9 (.slice a5 Q.length c5) Q ∧ RowsV w9 (.slice a6 X.length c6) X ∧ RowsV w9 (.slice a7 Y.length c7) Y ∧ RowsV w9 (.slice a8 B.length c8) B ∧ RowsV w9 (.slice a9 M.length c9) M) := Lib.hid ⟨H8.out.1.trans hg9, (H8.out.2.1).grew hg9, (H8.out.2.2.1).grew hg9, (H8.out.2.2.2.1).grew hg9, (H8.out.2.2.2.2.1).grew hg9, (H8.out.2.2.2.2.2.1).grew hg9, (H8.out.2.2.2.2.2.2.1).grew hg9, (H8.out.2.2.2.2.2.2.2).grew hg9, hO9.toV⟩
      clear hO9 hg9 H8
      go_wp2_with (fail)
      refine (HQM.out _ _ _ (H9.out.2.2.2.2.1) (H9.out.2.2.2.2.2.2.2.2) (H9.out.1)).mono ?_
      rintro e w10 ⟨v10, rfl, hO10, hg10⟩
      obtain ⟨a10, c10, rfl⟩ := hO10.sh
      have H10 : Hid (Grew w w10 ∧ RowsV w10 (.slice (some ⟨bH, oH, none⟩) H.length c0) H ∧ RowsV w10 (.slice d0 E.length f0) E ∧ RowsV w10 (.slice a4 M.length c4) M ∧ RowsV w10 (.slice a5 Q.length c5) Q ∧ RowsV w10 (.slice a6 X.length c6) X ∧ RowsV w10 (.slice a7 Y.length c7) Y ∧ RowsV w10 (.slice a8 B.length c8) B ∧ RowsV w10 (.slice a9 M.length c9) M ∧ RowsV w10 (.slice a10 B.length c10) B) := Lib.hid ⟨H9.out.1.trans hg10, (H9.out.2.1).grew hg10, (H9.out.2.2.1).grew hg10, (H9.out.2.2.2.1).grew hg10, (H9.out.2.2.2.2.1).grew hg10, (H9.out.2.2.2.2.2.1).grew hg10, (H9.out.2.2.2.2.2.2.1).grew hg10, (H9.out.2.2.2.2.2.2.2.1).grew hg10, (H9.out.2.2.2.2.2.2.2.2).grew hg10, hO10.toV⟩
      clear hO10 hg10 H9
      go_wp2_with (fail)
      refine (equalRows_any _ _ B B _ (H10.out.2.2.2.2.2.2.2.2.2) (H10.out.2.2.2.2.2.2.2.1)).mono ?_
      rw [decide_eq_true (rfl : B = B)]
      rintro e w11 ⟨rfl, hq11⟩
      have hg11 := quiet_grew hq11
      have H11 : Hid (Grew w w11 ∧ RowsV w11 (.slice (some ⟨bH, oH, none⟩) H.length c0) H ∧ RowsV w11 (.slice d0 E.length f0) E ∧ RowsV w11 (.slice a4 M.length c4) M ∧ RowsV w11 (.slice a5 Q.length c5) Q ∧ RowsV w11 (.slice a6 X.length c6) X ∧ RowsV w11 (.slice a7 Y.length c7) Y ∧ RowsV w11 (.slice a8 B.length c8) B ∧ RowsV w11 (.slice a9 M.length c9) M ∧ RowsV w11 (.slice a10 B.length c10) B) := Lib.hid ⟨H10.out.1.trans hg11, (H10.out.2.1).grew hg11, (H10.out.2.2.1).grew hg11, (H10.out.2.2.2.1).grew hg11, (H10.out.2.2.2.2.1).grew hg11, (H10.out.2.2.2.2.2.1).grew hg11, (H10.out.2.2.2.2.2.2.1).grew hg11, (H10.out.2.2.2.2.2.2.2.1).grew hg11, (H10.out.2.2.2.2.2.2.2.2.1).grew hg11, (H10.out.2.2.2.2.2.2.2.2.2).grew hg11⟩
      clear hq11 hg11 H10
      go_wp2_with (fail)
      refine (HBX.out _ _ (H11.out.2.2.2.2.2.1) (H11.out.1)).mono ?_
      rintro e w12 ⟨rfl, hg12⟩
      have H12 : Hid (Grew w w12 ∧ RowsV w12 (.slice (some ⟨bH, oH, none⟩) H.length c0) H ∧ RowsV w12 (.slice d0 E.length f0) E ∧ RowsV w12 (.slice a4 M.length c4) M ∧ RowsV w12 (.slice a5 Q.length c5) Q ∧ RowsV w12 (.slice a6 X.length c6) X ∧ RowsV w12 (.slice a7 Y.length c7) Y ∧ RowsV w12 (.slice a8 B.length c8) B ∧ RowsV w12 (.slice a9 M.length c9) M ∧ RowsV w12 (.slice a10 B.length c10) B) := Lib.hid ⟨H11.out.1.trans hg12, (H11.out.2.1).grew hg12, (H11.out.2.2.1).grew hg12, (H11.out.2.2.2.1).grew hg12, (H11.out.2.2.2.2.1).grew hg12, (H11.out.2.2.2.2.2.1).grew hg12, (H11.out.2.2.2.2.2.2.1).grew hg12, (H11.out.2.2.2.2.2.2.2.1).grew hg12, (H11.out.2.2.2.2.2.2.2.2.1).grew hg12, (H11.out.2.2.2.2.2.2.2.2.2).grew hg12⟩
      clear hg12 H11
      go_wp2_with (fail)
      refine (HBB.out _ _ (H12.out.2.2.2.2.2.2.2.1) (H12.out.1)).mono ?_
      rintro e w13 ⟨rfl, hg13⟩
      have H13 : Hid (Grew w w13 ∧ RowsV w13 (.slice (some ⟨bH, oH, none⟩) H.length c0) H ∧ RowsV w13 (.slice d0 E.length f0) E ∧ RowsV w13 (.slice a4 M.length c4) M ∧ RowsV w13 (.slice a5 Q.length c5) Q ∧ RowsV w13 (.slice a6 X.length c6) X ∧ RowsV w13 (.slice a7 Y.length c7) Y ∧ RowsV w13 (.slice a8 B.length c8) B ∧ RowsV w13 (.slice a9 M.length c9) M ∧ RowsV w13 (.slice a10 B.length c10) B) := Lib.hid ⟨H12.out.1.trans hg13, (H12.out.2.1).grew hg13, (H12.out.2.2.1).grew hg13, (H12.out.2.2.2.1).grew hg13, (H12.out.2.2.2.2.1).grew hg13, (H12.out.2.2.2.2.2.1).grew hg13, (H12.out.2.2.2.2.2.2.1).grew hg13, (H12.out.2.2.2.2.2.2.2.1).grew hg13, (H12.out.2.2.2.2.2.2.2.2.1).grew hg13, (H12.out.2.2.2.2.2.2.2.2.2).grew hg13⟩
      clear hg13 H12
      go_wp2_with (fail)
      refine (HXQ.out _ _ _ (H13.out.2.2.2.2.2.1) (H13.out.2.2.2.2.1) (H13.out.1)).mono ?_
      rintro e w14 ⟨v14, rfl, hO14, hg14⟩
      obtain ⟨a14, c14, rfl⟩ := hO14.sh
      have H14 : Hid (Grew w w14 ∧ RowsV w14 (.slice (some ⟨bH, oH, none⟩) H.length c0) H ∧ RowsV w14 (.slice d0 E.length f0) E ∧ RowsV w14 (.slice a4 M.length c4) M ∧ RowsV w14 (.slice a5 Q.length c5) Q ∧ RowsV w14 (.slice a6 X.length c6) X ∧ RowsV w14 (.slice a7 Y.length c7) Y ∧ RowsV w14 (.slice a8 B.length c8) B ∧ RowsV w14 (.slice a9 M.length c9) M ∧ RowsV w14 (.slice a10 B.length c10) B ∧ RowsV w14 (.slice a14 X.length c14) X) := Lib.hid ⟨H13.out.1.trans hg14, (H13.out.2.1).grew hg14, (H13.out.2.2.1).grew hg14, (H13.out.2.2.2.1).grew hg14, (H13.out.2.2.2.2.1).grew hg14, (H13.out.2.2.2.2.2.1).grew hg14, (H13.out.2.2.2.2.2.2.1).grew hg14, (H13.out.2.2.2.2.2.2.2.1).grew hg14, (H13.out.2.2.2.2.2.2.2.2.1).grew hg14, (H13.out.2.2.2.2.2.2.2.2.2).grew hg14, hO14.toV⟩
      clear hO14 hg14 H13
      go_wp2_with (fail)
      refine (equalRows_any _ _ X X _ (H14.out.2.2.2.2.2.2.2.2.2.2) (H14.out.2.2.2.2.2.1)).mono ?_
      rw [decide_eq_true (rfl : X = X)]
      rintro e w15 ⟨rfl, hq15⟩
      have hg15 := quiet_grew hq15
      have H15 : Hid (Grew w w15 ∧ RowsV w15 (.slice (some ⟨bH, oH, none⟩) H.length c0) H ∧ RowsV w15 (.slice d0 E.length f0) E ∧ RowsV w15 (.slice a4 M.length c4) M ∧ RowsV w15 (.slice a5 Q.length c5) Q ∧ RowsV w15 (.slice a6 X.length c6) X ∧ RowsV w15 (.slice a7 Y.length c7) Y ∧ RowsV w15 (.slice a8 B.length c8) B ∧ RowsV w15 (.slice a9 M.length c9) M ∧ RowsV w15 (.slice a10 B.length c10) B ∧ RowsV w15 (.slice a14 X.length c14) X) := Lib.hid ⟨H14.out.1.trans hg15, (H14.out.2.1).grew hg15, (H14.out.2.2.1).grew hg15, (H14.out.2.2.2.1).grew hg15, (H14.out.2.2.2.2.1).grew hg15, (H14.out.2.2.2.2.2.1).grew hg15, (H14.out.2.2.2.2.2.2.1).grew hg15, (H14.out.2.2.2.2.2.2.2.1).grew hg15, (H14.out.2.2.2.2.2.2.2.2.1).grew hg15, (H14.out.2.2.2.2.2.2.2.2.2.1).grew hg15, (H14.out.2.2.2.2.2.2.2.2.2.2).grew hg15⟩
      clear hq15 hg15 H14
      go_wp2
      go_ret
      exact ⟨rfl, H15.out.1⟩
end Go.Proofs.YthgafljbbkgldaaDoor
namespace Go.Proofs.YthgafljbbkgldaaDoor.pSandIsAGroup
open Go.RowKit Go.ChangeShapes Go.WideShapes Go.ChangeAt

set_option maxRecDepth 100000 in
theorem lifted (os : Os) (started : os.Started) (H : Type) (enc : TypeId × Value → H) :
    ReturnsInHanded {} Tryd.checked os 9 .any (fun w args => (Rows.fnSandIsAGroupSpec.pre enc Tryd.prog Tryd.f9 [] false w args ∧ laidMetH Tryd.prog laid1 w) ∧ sizedMet enc Tryd.prog Tryd.f9 (OpenSpec.ofChange Rows.fnSandIsAGroupSpec) false w args)
      (Rows.fnSandIsAGroupSpec.post enc Tryd.prog Tryd.f9 false true false false) := by
  refine returnsInHanded_of_change_and (C := Tryd.checked) (X := fun w _ => laidMetH Tryd.prog laid1 w) (fun _ _ _ hh h => h.of_heap hh) Tryd.own started (by kernel_rfl) Tryd.func9
    (ChangeSpec.witness_shaped (enc := enc) (C := Tryd.checked) (os := os) (X := fun w _ => laidMetH Tryd.prog laid1 w) false (World.doorLaid Tryd.prog 400 os) #[.slice none 0 0] 8 rfl (World.shaped_of_RefB (by kernel_rfl) (by kernel_rfl)) (by kernel_rfl) (by kernel_rfl) (by kernel_rfl) (door_met os _)) ?_
  intro W base args ds gs before hval0 hW _ _ hL _
  have hval : ∀ (j : Nat) t v, Tryd.f9.params[j]? = some t → args[j]? = some v → Value.okWide Tryd.prog W .any base t v := hval0
  have hW' := hW
  obtain ⟨p, q, hA0, hV, rfl, _, _⟩ := hW
  have hA : DataW.TrodAll enc Tryd.prog W 0 (fun _ => true) true Tryd.f9.params.toList args.toList ds p := hA0
  rw [Tryd.params9] at hA hval
  obtain ⟨v0, d0, rfl, rfl, h0⟩ := trodAll_one hA
  have hV' := hV
  obtain ⟨_, _, _, _, dv, _, rfl, _⟩ := trodVars_one hV
  obtain ⟨a0, len0, cap0, rfl⟩ := okWide_slice Tryd.underlying22 (hval 0 22 v0 rfl rfl)
  have k0 := h0
  have lt0 : ∀ x ∈ p, x.block < W.heap.size := by obtain ⟨m, hm⟩ := k0; exact DataW.trod_lt m _ _ _ hm
  obtain ⟨bs0, hn0, hb0⟩ := bytes_came h0
  have HS := steps_of_laid hL
  clear hA0 hval0
  refine (FnSandIsAGroup_any _ bs0 W hn0 hb0 HS).mono fun e W' ⟨he, bel⟩ => ?_
  subst he
  exact ⟨_, rfl, _, _, _, [], _, q, hW', trodAll_mk1 (shut_bool Tryd.underlying4 _), (trodAll_mk1 (Below.trod Tryd.laidOut (by kernel_rfl) (of_decide_eq_true (by kernel_rfl)) k0 bel lt0)), Below.trodVars Tryd.laidOut bel (by kernel_rfl) hV', Below.frame bel _, fun h => by cases h⟩

theorem row_proved : Rows.FnSandIsAGroupSaid :=
  OpenClaim.holds_of_wide 9 Tryd.f9 rfl rfl rfl rfl rfl rfl rfl ⟨rfl, rfl, rfl, rfl, rfl⟩ rfl rfl rfl rfl rfl (by kernel_rfl) Tryd.func9
    (show joinedFacts Tryd.prog 9 Tryd.f9 Rows.fnSandIsAGroupSpec Rows.fnSandIsAGroupRow = true by unfold joinedFacts; rw [Tryd.makeG, Tryd.liftsG, Tryd.enterG]; kernel_rfl)
    (of_decide_eq_true (by kernel_rfl)) (by unfold Func.isWrapper; first | (rw [if_pos (by decide +kernel)]; kernel_rfl) | (rw [if_neg (by decide +kernel)]; exact ⟨rfl, rfl⟩))
    (fun os started H enc _ => lifted os started H enc)

theorem proved : Rows.FnSandIsAGroupCardSaid :=
  Claim7.holds_tied_plain_at .later [] [.data] true Rows.fnSandIsAGroupCard.stood.harness Rows.fnSandIsAGroupCard.stood.looks
    row_proved (fun _ h => by cases h) (by kernel_rfl) (fun _ h => by cases h) fnSandIsAGroup_row_tie rfl ⟨rfl, rfl⟩ (show Tryd.prog.mainIs = some (Rows.fnSandIsAGroupCard.stood.harness.1, Rows.fnSandIsAGroupCard.stood.harness.2.toList) from Tryd.mainG) rfl
    (fun f fn hf hfn => by
      obtain rfl : f = 9 := Option.some.inj ((show Tryd.prog.funcNamed "loop.example/wateronheights/laws.FnSandIsAGroup" = some 9 by kernel_rfl).symm.trans hf) |>.symm
      obtain rfl : fn = Tryd.f9 := (Option.some.inj (Tryd.func9.symm.trans hfn)).symm
      exact ⟨by kernel_rfl, fun j t ht => by
        rw [Tryd.params9] at ht
        have hm : t ∈ [22] := by simpa using Array.mem_of_getElem? ht
        have hall : ([22].all fun u => !Tryd.prog.wantsStandIn u) = true := by kernel_rfl
        exact (show Tryd.prog.wantsStandIn t = false by simpa using List.all_eq_true.1 hall t hm)⟩)
    (by kernel_rfl)
#print axioms proved
end Go.Proofs.YthgafljbbkgldaaDoor.pSandIsAGroup
