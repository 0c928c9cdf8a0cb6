/- FnZeroSand: for every input the law returns true, and the input reads as it did, where the table of steps reads as the program's text lays it; tied to that text. Its conditions: that one listed variable, tied. -/
import Derived.Test.YthgafljbbkgldaaDoorEqualInts
import Derived.Test.YthgafljbbkgldaaDoorSandG
import Derived.Test.YthgafljbbkgldaaDoorDraws10
import Derived.Test.YthgafljbbkgldaaDoorCameRows
import Derived.Test.YthgafljbbkgldaaDoorTied
import Derived.Test.YthgafljbbkgldaaDoorWords
import Derived.Test.YthgafljbbkgldaaDoorTie
import Derived.Test.YthgafljbbkgldaaDoorCards
import Derived.SevenTiedAt
/- The contract of laws.equalRows. -/
namespace Go.Proofs.YthgafljbbkgldaaDoor
open Go.RowKit

set_option maxRecDepth 100000 in
set_option maxHeartbeats 1000000 in
theorem equalRows_any (v1 v2 : Value) (xs ys : List (List Int)) (w : World) (hv1 : RowsV w v1 xs) (hv2 : RowsV w v2 ys) :
    Calls Tryd.prog 19 #[v1, v2] w (QuietBool (decide (xs = ys)) w) := by
  obtain ⟨a, b, o, c, rfl, ⟨hlc, hcb⟩, ha, HC⟩ := hv1.shape
  obtain ⟨a2, b2, o2, c2, rfl, ⟨hlc2, hcb2⟩, ha2, HC2⟩ := hv2.shape
  have HA := Lib.hid ha
  have HA2 := Lib.hid ha2
  clear hv1 hv2 ha ha2
  by_cases hl : xs.length = ys.length
  · have hn : ((xs.length : Int) != (ys.length : Int)) = false := by simp [hl]
    have HL := Lib.hid hl
    clear hl
    go_enter Tryd.func19, Tryd.ntmps19
    go_wp2
    clear hn
    go_loopw [5] (fun i wr => ∃ k : Nat, k ≤ xs.length ∧ i = .int .i64 k ∧ Hid (xs.take k = ys.take k ∧ ∃ n, wr = w.drewN n)) (fun i _ => xs.length - (intOf i).toNat)
    case atStart => exact ⟨0, Nat.zero_le _, rfl, rfl, 0, rfl⟩
    case round =>
      obtain ⟨k, hk, rfl, HI⟩ := hrel
      have HW := Lib.hid (quiet_grew HI.out.2)
      by_cases hlt : k < xs.length
      · have hlt2 : k < ys.length := by have := HL.out; omega
        obtain rfl := HA.out (by omega)
        obtain rfl := HA2.out (by omega)
        obtain ⟨u1, hc1', hu1⟩ := HC.out k hlt
        obtain ⟨u2, hc2', hu2⟩ := HC2.out k hlt2
        have hc1 := HW.out.cell hc1'
        have hc2 := HW.out.cell hc2'
        obtain ⟨x, ex⟩ : ∃ x, xs.getD k [] = x := ⟨_, rfl⟩
        obtain ⟨y, ey⟩ : ∃ y, ys.getD k [] = y := ⟨_, rfl⟩
        rw [ex] at hu1
        rw [ey] at hu2
        have HK : Hid (∀ m, Calls Tryd.prog 50 #[u1, u2] (wr.drewN m) fun e w' => e = .returned (.bool (decide (x = y))) ∧ ∃ k, w' = (wr.drewN m).drewN k) := fun m => equalInts_any u1 u2 x y _ (hu1.grew (HW.out.drewN m)) (hu2.grew (HW.out.drewN m))
        obtain ⟨a3, b3, o3, c3, rfl, _, _, _⟩ := hu1.shape
        obtain ⟨a4, b4, o4, c4, rfl, _, _, _⟩ := hu2.shape
        have HE := Lib.hid (And.intro ex ey)
        have r1 : (k : Int) < xs.length := by omega
        have r2 : (k : Int) < ys.length := by omega
        have r3 : (0 : Int) ≤ k := by omega
        clear ex ey hu1 hu2 hc1' hc2'
        by_cases hxy : x = y
        · have HK2 := HK.out
          have e : decide (x = y) = true := by simp [hxy]
          rw [e] at HK2
          have HK3 := Lib.hid HK2
          have HXY := Lib.hid hxy
          clear hxy HK2 HK e
          go_wp2
          go_quiet ((go_at_call 50; exact Calls.quiet_of (HK3.out _)))
          go_wp2
          go_roundw
          case rel => exact ⟨k + 1, by omega, by go_num, take_eq_snoc [] hlt hlt2 HI.out.1 (by rw [HE.out.1, HE.out.2, HXY.out]), quiet_step HI.out.2 _⟩
          case measure => simp [intOf]; omega
        · have HK2 := HK.out
          have e : decide (x = y) = false := by simp [hxy]
          rw [e] at HK2
          have HK3 := Lib.hid HK2
          have HXY := Lib.hid hxy
          clear hxy HK2 HK e
          go_wp2
          go_quiet ((go_at_call 50; exact Calls.quiet_of (HK3.out _)))
          go_wp2
          go_ret
          refine ⟨ret_bool ?_, quiet_step HI.out.2 _⟩
          have : xs ≠ ys := fun e => HXY.out (by rw [← HE.out.1, ← HE.out.2, e])
          simp [this]
      · go_wp2
        go_ret
        refine ⟨ret_bool ?_, HI.out.2⟩
        have := HI.out.1
        rw [List.take_of_length_le (by omega), List.take_of_length_le (by have := HL.out; omega)] at this
        simp [this]
  · have hn : ((xs.length : Int) != (ys.length : Int)) = true := by simp; omega
    have HL := Lib.hid hl
    clear hl
    go_enter Tryd.func19, Tryd.ntmps19
    go_wp2
    go_ret
    refine ⟨ret_bool ?_, 0, rfl⟩
    have : xs ≠ ys := fun e => HL.out (by rw [e])
    simp [this]
end Go.Proofs.YthgafljbbkgldaaDoor
/- The law FnZeroSand returns true. -/
namespace Go.Proofs.YthgafljbbkgldaaDoor
open Go.RowKit
def fThree (_ _ : Nat) : Int := 3
theorem pat_three (n m : Nat) : patRows fThree n m = List.replicate n (List.replicate m 3) := by
  unfold patRows patRow fThree
  simp [List.map_const']
set_option maxRecDepth 100000 in
set_option maxHeartbeats 8000000 in
theorem FnZeroSand_any (v : Value) (bs : List Int) (w : World) (hv : NumsV .u8 w v bs) (hb : ∀ i, i < bs.length → 0 ≤ bs.getD i 0 ∧ bs.getD i 0 ≤ 255) (hS : Steps w) :
    Calls Tryd.prog 8 #[v] w fun e w' => e = .returned (.bool true) ∧ Grew w w' := by
  have HD := Lib.hid (DrawZeroSand_any v bs w hv hb)
  have HS := Lib.hid hS
  obtain ⟨a, b, o, c, rfl, ⟨hlc, hcb⟩, _, _⟩ := hv.shape
  clear hv hb hS
  by_cases hbig : 1048576 < bs.length
  · go_enter Tryd.func8, Tryd.ntmps8
    go_wp2
    go_ret
    exact ⟨rfl, Grew.refl _⟩
  · go_enter Tryd.func8, Tryd.ntmps8
    go_wp2_with (fail)
    refine HD.out.mono ?_
    rintro e w0 ⟨r, s, rfl, hr, hs, hg0⟩
    have H0 : Hid (Grew w w0) := Lib.hid hg0
    clear hg0 HD
    obtain ⟨Q, eQ⟩ : ∃ X, zeroX r s = X := ⟨_, rfl⟩
    have HQ := Lib.hid eQ
    have HZI : Hid (∀ (W : World), Grew w W → Calls Tryd.prog 37 #[.int .i64 r, .int .i64 s] W (NewRows W Q)) := Lib.hid fun W hW => by
      have := ZeroSand_any r s W (by omega) (by omega) (HS.out.grew hW)
      rwa [eQ] at this
    have HZS : Hid (∀ (W : World), Calls Tryd.prog 38 #[.int .i64 r, .int .i64 s] W (NewRows W Q)) := Lib.hid fun W => by
      have := SZeroSand_any r s W (by omega) (by omega)
      rwa [eQ] at this
    clear eQ
    go_wp2_with (fail)
    refine (HZI.out _ (H0.out)).mono ?_
    rintro e w1 ⟨v1, rfl, hO1, hg1⟩
    obtain ⟨a1, c1, rfl⟩ := hO1.sh
    have H1 : Hid (Grew w w1 ∧ RowsV w1 (.slice a1 Q.length c1) Q) := Lib.hid ⟨H0.out.trans hg1, hO1.toV⟩
    clear hO1 hg1 H0
    go_wp2_with (fail)
    refine (HZS.out _).mono ?_
    rintro e w2 ⟨v2, rfl, hO2, hg2⟩
    obtain ⟨a2, c2, rfl⟩ := hO2.sh
    have H2 : Hid (Grew w w2 ∧ RowsV w2 (.slice a1 Q.length c1) Q ∧ RowsV w2 (.slice a2 Q.length c2) Q) := Lib.hid ⟨H1.out.1.trans hg2, (H1.out.2).grew hg2, hO2.toV⟩
    clear hO2 hg2 H1
    go_wp2_with (fail)
    refine (equalRows_any _ _ Q Q _ (H2.out.2.1) (H2.out.2.2)).mono ?_
    rw [decide_eq_true (rfl : Q = Q)]
    rintro e w3 ⟨rfl, hq3⟩
    have hg3 := quiet_grew hq3
    have H3 : Hid (Grew w w3 ∧ RowsV w3 (.slice a1 Q.length c1) Q ∧ RowsV w3 (.slice a2 Q.length c2) Q) := Lib.hid ⟨H2.out.1.trans hg3, (H2.out.2.1).grew hg3, (H2.out.2.2).grew hg3⟩
    clear hq3 hg3 H2
    by_cases hz : Q.length = 0
    · have hzb : ((Q.length : Int) == 0) = true := by simp [hz]
      clear hz
      go_wp2_with (fail)
      refine (HZS.out _).mono ?_
      rintro e w4 ⟨v4, rfl, hO4, hg4⟩
      obtain ⟨a4, c4, rfl⟩ := hO4.sh
      have H4 : Hid (Grew w w4 ∧ RowsV w4 (.slice a1 Q.length c1) Q ∧ RowsV w4 (.slice a2 Q.length c2) Q ∧ RowsV w4 (.slice a4 Q.length c4) Q) := Lib.hid ⟨H3.out.1.trans hg4, (H3.out.2.1).grew hg4, (H3.out.2.2).grew hg4, hO4.toV⟩
      clear hO4 hg4 H3
      go_wp2_with (fail)
      refine (equalRows_any _ _ Q Q _ (H4.out.2.1) (H4.out.2.2.2)).mono ?_
      rw [decide_eq_true (rfl : Q = Q)]
      rintro e w5 ⟨rfl, hq5⟩
      have hg5 := quiet_grew hq5
      have H5 : Hid (Grew w w5 ∧ RowsV w5 (.slice a1 Q.length c1) Q ∧ RowsV w5 (.slice a2 Q.length c2) Q ∧ RowsV w5 (.slice a4 Q.length c4) Q) := Lib.hid ⟨H4.out.1.trans hg5, (H4.out.2.1).grew hg5, (H4.out.2.2.1).grew hg5, (H4.out.2.2.2).grew hg5⟩
      clear hq5 hg5 H4
      go_wp2
      go_ret
      exact ⟨rfl, H5.out.1⟩
    · have hzb : ((Q.length : Int) == 0) = false := beq_eq_false_iff_ne.2 (by omega)
      have hok : 1 ≤ r ∧ r ≤ 4 ∧ 1 ≤ s ∧ s ≤ 4 := by
        refine Classical.byContradiction fun hn => hz ?_
        rw [← HQ.out, zeroX, if_neg hn]
        rfl
      obtain ⟨n, rfl⟩ := Int.eq_ofNat_of_zero_le (show 0 ≤ r by omega)
      obtain ⟨m, rfl⟩ := Int.eq_ofNat_of_zero_le (show 0 ≤ s by omega)
      have hb : Box n m := ⟨⟨by omega, by omega⟩, by omega, by omega⟩
      have hlaw := zero_law hb
      rw [← zeroX_box hb, HQ.out, ← pat_three] at hlaw
      obtain ⟨T, eT⟩ : ∃ T, patRows fThree n m = T := ⟨_, rfl⟩
      have hn4 := hb.1.2
      have hm4 := hb.2.2
      have HQQ : Hid (∀ (u v : Value) (W : World), RowsV W u Q → RowsV W v Q → Grew w W → Calls Tryd.prog 31 #[u, v] W (NewRows W Q)) := Lib.hid fun u v W hu hv hW => by
        have := AddSand_any u v _ _ W hu hv (HS.out.grew hW)
        rwa [hlaw.2.1] at this
      have HTQ : Hid (∀ (u v : Value) (W : World), RowsV W u (patRows fThree n m) → RowsV W v Q → Grew w W → Calls Tryd.prog 31 #[u, v] W (NewRows W (patRows fThree n m))) := Lib.hid fun u v W hu hv hW => by
        have := AddSand_any u v _ _ W hu hv (HS.out.grew hW)
        rwa [hlaw.2.2.1] at this
      have HBQ : Hid (∀ (v : Value) (W : World), RowsV W v Q → Grew w W → Calls Tryd.prog 34 #[v] W fun e w' => e = .returned (.bool true) ∧ Grew W w') := Lib.hid fun v W hv hW => (Burns_any v Q W hv (HS.out.grew hW)).mono fun e w' hp => by
        have := hp.told
        rwa [(burnsB_iff Q).2 hlaw.1] at this
      have HBT : Hid (∀ (v : Value) (W : World), RowsV W v (patRows fThree n m) → Grew w W → Calls Tryd.prog 34 #[v] W fun e w' => e = .returned (.bool true) ∧ Grew W w') := Lib.hid fun v W hv hW => (Burns_any v _ W hv (HS.out.grew hW)).mono fun e w' hp => by
        have := hp.told
        rwa [(burnsB_iff _).2 hlaw.2.2.2] at this
      clear hz hok hb hlaw eT hr hs
      have HP0 : Hid (RowsO 27 3 w3.heap.size (w3.alloc (.cells #[] 27)).heap.size (w3.alloc (.cells #[] 27)) (.slice (some ⟨w3.heap.size, 0, none⟩) 0 0) [] ∧ Grew w3 (w3.alloc (.cells #[] 27))) :=
        ⟨by simpa using RowsO.lit0 27 3 w3.heap.size w3 (Nat.le_refl _), (Grew.refl _).alloc _⟩
      go_wp2_with (fail)
      go_loopg [6, 7] n (fun gk v i wr => ∃ (k g c' : Nat), v = .slice (some ⟨g, 0, none⟩) k c' ∧ i = .int .i64 (k : Int) ∧ k ≤ n ∧ n ≤ gk + k ∧ Hid (RowsO 27 3 w3.heap.size wr.heap.size wr v (patRows fThree k m) ∧ Grew w3 wr))
      case atStart => exact ⟨0, _, _, rfl, rfl, Nat.zero_le _, Nat.le_refl _, HP0.out⟩
      case round =>
        obtain ⟨k, g, c', rfl, rfl, hk1, hk2, HI⟩ := hrel
        clear HP0
        by_cases hlt : k < n
        · obtain ⟨wo, rfl⟩ : ∃ wo : World, wo = wr := ⟨_, rfl⟩
          obtain ⟨gn, rfl⟩ : ∃ gn : Nat, gn = gk := ⟨_, rfl⟩
          have hsw := HI.out.2.size
          have hki : (k : Int) < n := by omega
          go_wp2_with (fail)
          have HX0 : Hid (IntsO 3 wo.heap.size (wo.alloc (.cells #[] 3)).heap.size (wo.alloc (.cells #[] 3)) (.slice (some ⟨wo.heap.size, 0, none⟩) 0 0) [] ∧ Grew wo (wo.alloc (.cells #[] 3))) :=
            ⟨by simpa using IntsO.lit 3 wo.heap.size wo [] #[] rfl (Nat.le_refl _) (by decide), (Grew.refl wo).alloc _⟩
          go_loopg [8, 9] m (fun gk v i wi => ∃ (j g' c' : Nat), v = .slice (some ⟨g', 0, none⟩) j c' ∧ i = .int .i64 (j : Int) ∧ j ≤ m ∧ m ≤ gk + j ∧ Hid (IntsO 3 wo.heap.size wi.heap.size wi v (patRow fThree k j) ∧ Grew wo wi))
          case atStart => exact ⟨0, _, _, rfl, rfl, Nat.zero_le _, Nat.le_refl _, HX0.out⟩
          case round =>
            obtain ⟨j, g', c2, rfl, rfl, hj1, hj2, HX⟩ := hrel
            clear HX0
            by_cases hltx : j < m
            · have hji : (j : Int) < m := by omega
              have q7 : (3 : Int) = fThree k j := rfl
              have HRL := Lib.hid (patRow_len fThree k j)
              have HOX : Hid (IntsO 3 wo.heap.size wr.heap.size wr (.slice (some ⟨g', 0, none⟩) j c2) (patRow fThree k j)) := HX.out.1
              go_wp2_with (at_builtin; refine wpList_append_int rfl (.tmp 49) (.tmp 50) 27 rfl Tryd.underlying27 Tryd.infoI rfl rfl rfl HOX.out (by rw [HRL.out]; omega) HX.out.2.size ?_; intro g5 c5 w5 hO5 hW5 hS5; rw [HRL.out] at hO5 ⊢)
              have HF : Hid (IntsO 3 wo.heap.size w5.heap.size w5 (.slice (some ⟨g5, 0, none⟩) (j + 1) c5) (patRow fThree k (j + 1)) ∧ Grew wo w5) := by
                rw [patRow_succ]
                exact ⟨hO5, hW5.grew HX.out.2 (Nat.le_refl _)⟩
              clear hO5 hW5
              go_wp2
              go_roundg (gk - 1)
              case measure => omega
              case rel => exact ⟨j + 1, g5, c5, rfl, by go_num, by omega, by omega, HF.out⟩
            · obtain rfl : j = m := by omega
              have HRL := Lib.hid (patRow_len fThree k j)
              have HRS := Lib.hid (patRows_len fThree k j)
              have hnj : ¬ (j : Int) < j := by omega
              go_wp2_with (at_builtin; refine wpList_append_row rfl (.tmp 52) (.tmp 54) 23 rfl (by decide) Tryd.underlying23 Tryd.infoIs rfl rfl (by first | rfl | rw [HRL.out]) (HI.out.1.grew HX.out.2) HX.out.1 (by rw [HRS.out]; omega) (by have := HX.out.2.size; omega) hsw ?_; intro g5 c5 w5 hO5 hW5 hS5; rw [HRS.out] at hO5 ⊢)
              have HF : Hid (RowsO 27 3 w3.heap.size w5.heap.size w5 (.slice (some ⟨g5, 0, none⟩) (k + 1) c5) (patRows fThree (k + 1) j) ∧ Grew w3 w5) := by
                rw [patRows_succ]
                exact ⟨hO5, hW5.grew (HI.out.2.trans HX.out.2) (Nat.le_refl _)⟩
              clear hO5 hW5
              go_wp2
              go_roundg (gn - 1)
              case measure => omega
              case rel => exact ⟨k + 1, g5, c5, rfl, by go_num, by omega, by omega, HF.out⟩
        · obtain rfl : k = n := by omega
          have hnk : ¬ (k : Int) < k := by omega
          have Hx : Hid (Grew w wr ∧ RowsV wr (.slice a1 Q.length c1) Q ∧ RowsV wr (.slice a2 Q.length c2) Q ∧ RowsV wr (.slice (some ⟨g, 0, none⟩) k c') (patRows fThree k m)) := Lib.hid ⟨H3.out.1.trans HI.out.2, (H3.out.2.1).grew HI.out.2, (H3.out.2.2).grew HI.out.2, HI.out.1.toV⟩
          go_wp2_with (fail)
          refine (HBQ.out _ _ (Hx.out.2.1) (Hx.out.1)).mono ?_
          rintro e w4 ⟨rfl, hg4⟩
          have H4 : Hid (Grew w w4 ∧ RowsV w4 (.slice a1 Q.length c1) Q ∧ RowsV w4 (.slice a2 Q.length c2) Q ∧ RowsV w4 (.slice (some ⟨g, 0, none⟩) k c') (patRows fThree k m)) := Lib.hid ⟨Hx.out.1.trans hg4, (Hx.out.2.1).grew hg4, (Hx.out.2.2.1).grew hg4, (Hx.out.2.2.2).grew hg4⟩
          clear hg4 Hx
          go_wp2_with (fail)
          refine (HQQ.out _ _ _ (H4.out.2.1) (H4.out.2.1) (H4.out.1)).mono ?_
          rintro e w5 ⟨v5, rfl, hO5, hg5⟩
          obtain ⟨a5, c5, rfl⟩ := hO5.sh
          have H5 : Hid (Grew w w5 ∧ RowsV w5 (.slice a1 Q.length c1) Q ∧ RowsV w5 (.slice a2 Q.length c2) Q ∧ RowsV w5 (.slice (some ⟨g, 0, none⟩) k c') (patRows fThree k m) ∧ RowsV w5 (.slice a5 Q.length c5) Q) := Lib.hid ⟨H4.out.1.trans hg5, (H4.out.2.1).grew hg5, (H4.out.2.2.1).grew hg5, (H4.out.2.2.2).grew hg5, hO5.toV⟩
          clear hO5 hg5 H4
          go_wp2_with (fail)
          refine (equalRows_any _ _ Q Q _ (H5.out.2.2.2.2) (H5.out.2.1)).mono ?_
          rw [decide_eq_true (rfl : Q = Q)]
          rintro e w6 ⟨rfl, hq6⟩
          have hg6 := quiet_grew hq6
          have H6 : Hid (Grew w w6 ∧ RowsV w6 (.slice a1 Q.length c1) Q ∧ RowsV w6 (.slice a2 Q.length c2) Q ∧ RowsV w6 (.slice (some ⟨g, 0, none⟩) k c') (patRows fThree k m) ∧ RowsV w6 (.slice a5 Q.length c5) Q) := Lib.hid ⟨H5.out.1.trans hg6, (H5.out.2.1).grew hg6, (H5.out.2.2.1).grew hg6, (H5.out.2.2.2.1).grew hg6, (H5.out.2.2.2.2).grew hg6⟩
          clear hq6 hg6 H5
          go_wp2_with (fail)
          refine (HTQ.out _ _ _ (H6.out.2.2.2.1) (H6.out.2.1) (H6.out.1)).mono ?_
          rintro e w7 ⟨v7, rfl, hO7, hg7⟩
          obtain ⟨a7, c7, rfl⟩ := hO7.sh
          have H7 : Hid (Grew w w7 ∧ RowsV w7 (.slice a1 Q.length c1) Q ∧ RowsV w7 (.slice a2 Q.length c2) Q ∧ RowsV w7 (.slice (some ⟨g, 0, none⟩) k c') (patRows fThree k m) ∧ RowsV w7 (.slice a5 Q.length c5) Q ∧ RowsV w7 (.slice a7 (patRows fThree k m).length c7) (patRows fThree k m)) := Lib.hid ⟨H6.out.1.trans hg7, (H6.out.2.1).grew hg7, (H6.out.2.2.1).grew hg7, (H6.out.2.2.2.1).grew hg7, (H6.out.2.2.2.2).grew hg7, hO7.toV⟩
          clear hO7 hg7 H6
          go_wp2_with (fail)
          refine (equalRows_any _ _ (patRows fThree k m) (patRows fThree k m) _ (H7.out.2.2.2.2.2) (H7.out.2.2.2.1)).mono ?_
          rw [decide_eq_true (rfl : (patRows fThree k m) = (patRows fThree k m))]
          rintro e w8 ⟨rfl, hq8⟩
          have hg8 := quiet_grew hq8
          have H8 : Hid (Grew w w8 ∧ RowsV w8 (.slice a1 Q.length c1) Q ∧ RowsV w8 (.slice a2 Q.length c2) Q ∧ RowsV w8 (.slice (some ⟨g, 0, none⟩) k c') (patRows fThree k m) ∧ RowsV w8 (.slice a5 Q.length c5) Q ∧ RowsV w8 (.slice a7 (patRows fThree k m).length c7) (patRows fThree k m)) := Lib.hid ⟨H7.out.1.trans hg8, (H7.out.2.1).grew hg8, (H7.out.2.2.1).grew hg8, (H7.out.2.2.2.1).grew hg8, (H7.out.2.2.2.2.1).grew hg8, (H7.out.2.2.2.2.2).grew hg8⟩
          clear hq8 hg8 H7
          go_wp2_with (fail)
          refine (HBT.out _ _ (H8.out.2.2.2.1) (H8.out.1)).mono ?_
          rintro e w9 ⟨rfl, hg9⟩
          have H9 : Hid (Grew w w9 ∧ RowsV w9 (.slice a1 Q.length c1) Q ∧ RowsV w9 (.slice a2 Q.length c2) Q ∧ RowsV w9 (.slice (some ⟨g, 0, none⟩) k c') (patRows fThree k m) ∧ RowsV w9 (.slice a5 Q.length c5) Q ∧ RowsV w9 (.slice a7 (patRows fThree k m).length c7) (patRows fThree k m)) := Lib.hid ⟨H8.out.1.trans hg9, (H8.out.2.1).grew hg9, (H8.out.2.2.1).grew hg9, (H8.out.2.2.2.1).grew hg9, (H8.out.2.2.2.2.1).grew hg9, (H8.out.2.2.2.2.2).grew hg9⟩
          clear hg9 H8
          go_wp2
          go_ret
          exact ⟨rfl, H9.out.1⟩
end Go.Proofs.YthgafljbbkgldaaDoor
namespace Go.Proofs.YthgafljbbkgldaaDoor.pZeroSand
open Go.RowKit Go.ChangeShapes Go.WideShapes Go.ChangeAt

set_option maxRecDepth 100000 in
theorem lifted (os : Os) (started : os.Started) (H : Type) (enc : TypeId × Value → H) :
    ReturnsInHanded {} Tryd.checked os 8 .any (fun w args => (Rows.fnZeroSandSpec.pre enc Tryd.prog Tryd.f8 [] false w args ∧ laidMetH Tryd.prog laid1 w) ∧ sizedMet enc Tryd.prog Tryd.f8 (OpenSpec.ofChange Rows.fnZeroSandSpec) false w args)
      (Rows.fnZeroSandSpec.post enc Tryd.prog Tryd.f8 false true false false) := by
  refine returnsInHanded_of_change_and (C := Tryd.checked) (X := fun w _ => laidMetH Tryd.prog laid1 w) (fun _ _ _ hh h => h.of_heap hh) Tryd.own started (by kernel_rfl) Tryd.func8
    (ChangeSpec.witness_shaped (enc := enc) (C := Tryd.checked) (os := os) (X := fun w _ => laidMetH Tryd.prog laid1 w) false (World.doorLaid Tryd.prog 400 os) #[.slice none 0 0] 8 rfl (World.shaped_of_RefB (by kernel_rfl) (by kernel_rfl)) (by kernel_rfl) (by kernel_rfl) (by kernel_rfl) (door_met os _)) ?_
  intro W base args ds gs before hval0 hW _ _ hL _
  have hval : ∀ (j : Nat) t v, Tryd.f8.params[j]? = some t → args[j]? = some v → Value.okWide Tryd.prog W .any base t v := hval0
  have hW' := hW
  obtain ⟨p, q, hA0, hV, rfl, _, _⟩ := hW
  have hA : DataW.TrodAll enc Tryd.prog W 0 (fun _ => true) true Tryd.f8.params.toList args.toList ds p := hA0
  rw [Tryd.params8] at hA hval
  obtain ⟨v0, d0, rfl, rfl, h0⟩ := trodAll_one hA
  have hV' := hV
  obtain ⟨_, _, _, _, dv, _, rfl, _⟩ := trodVars_one hV
  obtain ⟨a0, len0, cap0, rfl⟩ := okWide_slice Tryd.underlying22 (hval 0 22 v0 rfl rfl)
  have k0 := h0
  have lt0 : ∀ x ∈ p, x.block < W.heap.size := by obtain ⟨m, hm⟩ := k0; exact DataW.trod_lt m _ _ _ hm
  obtain ⟨bs0, hn0, hb0⟩ := bytes_came h0
  have HS := steps_of_laid hL
  clear hA0 hval0
  refine (FnZeroSand_any _ bs0 W hn0 hb0 HS).mono fun e W' ⟨he, bel⟩ => ?_
  subst he
  exact ⟨_, rfl, _, _, _, [], _, q, hW', trodAll_mk1 (shut_bool Tryd.underlying4 _), (trodAll_mk1 (Below.trod Tryd.laidOut (by kernel_rfl) (of_decide_eq_true (by kernel_rfl)) k0 bel lt0)), Below.trodVars Tryd.laidOut bel (by kernel_rfl) hV', Below.frame bel _, fun h => by cases h⟩

theorem row_proved : Rows.FnZeroSandSaid :=
  OpenClaim.holds_of_wide 8 Tryd.f8 rfl rfl rfl rfl rfl rfl rfl ⟨rfl, rfl, rfl, rfl, rfl⟩ rfl rfl rfl rfl rfl (by kernel_rfl) Tryd.func8
    (show joinedFacts Tryd.prog 8 Tryd.f8 Rows.fnZeroSandSpec Rows.fnZeroSandRow = true by unfold joinedFacts; rw [Tryd.makeG, Tryd.liftsG, Tryd.enterG]; kernel_rfl)
    (of_decide_eq_true (by kernel_rfl)) (by unfold Func.isWrapper; first | (rw [if_pos (by decide +kernel)]; kernel_rfl) | (rw [if_neg (by decide +kernel)]; exact ⟨rfl, rfl⟩))
    (fun os started H enc _ => lifted os started H enc)

theorem proved : Rows.FnZeroSandCardSaid :=
  Claim7.holds_tied_plain_at .later [] [.data] true Rows.fnZeroSandCard.stood.harness Rows.fnZeroSandCard.stood.looks
    row_proved (fun _ h => by cases h) (by kernel_rfl) (fun _ h => by cases h) fnZeroSand_row_tie rfl ⟨rfl, rfl⟩ (show Tryd.prog.mainIs = some (Rows.fnZeroSandCard.stood.harness.1, Rows.fnZeroSandCard.stood.harness.2.toList) from Tryd.mainG) rfl
    (fun f fn hf hfn => by
      obtain rfl : f = 8 := Option.some.inj ((show Tryd.prog.funcNamed "loop.example/wateronheights/laws.FnZeroSand" = some 8 by kernel_rfl).symm.trans hf) |>.symm
      obtain rfl : fn = Tryd.f8 := (Option.some.inj (Tryd.func8.symm.trans hfn)).symm
      exact ⟨by kernel_rfl, fun j t ht => by
        rw [Tryd.params8] at ht
        have hm : t ∈ [22] := by simpa using Array.mem_of_getElem? ht
        have hall : ([22].all fun u => !Tryd.prog.wantsStandIn u) = true := by kernel_rfl
        exact (show Tryd.prog.wantsStandIn t = false by simpa using List.all_eq_true.1 hall t hm)⟩)
    (by kernel_rfl)
#print axioms proved
end Go.Proofs.YthgafljbbkgldaaDoor.pZeroSand
