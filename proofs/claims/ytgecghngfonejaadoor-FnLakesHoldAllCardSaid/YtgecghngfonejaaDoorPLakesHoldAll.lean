/- FnLakesHoldAll: for every input the law returns true, and the input reads as it did, where the table of steps reads as the program's text lays it; tied to that text. Its conditions: that one listed variable, tied. -/
import Derived.Test.YtgecghngfonejaaDoorEqualInts
import Derived.Test.YtgecghngfonejaaDoorLawWaterOf
import Derived.Test.YtgecghngfonejaaDoorSLakes
import Derived.Test.YtgecghngfonejaaDoorCameRows
import Derived.Test.YtgecghngfonejaaDoorTied
import Derived.Test.YtgecghngfonejaaDoorWords
import Derived.Test.YtgecghngfonejaaDoorTie
import Derived.Test.YtgecghngfonejaaDoorCards
import Derived.SevenTiedAt
/- The contract of laws.equalRows. -/
namespace Go.Proofs.YtgecghngfonejaaDoor
open Go.RowKit

set_option maxRecDepth 100000 in
set_option maxHeartbeats 1000000 in
theorem equalRows_any (v1 v2 : Value) (xs ys : List (List Int)) (w : World) (hv1 : RowsV w v1 xs) (hv2 : RowsV w v2 ys) :
    Calls Tryd.prog 23 #[v1, v2] w (QuietBool (decide (xs = ys)) w) := by
  obtain ⟨a, b, o, c, rfl, ⟨hlc, hcb⟩, ha, HC⟩ := hv1.shape
  obtain ⟨a2, b2, o2, c2, rfl, ⟨hlc2, hcb2⟩, ha2, HC2⟩ := hv2.shape
  have HA := Lib.hid ha
  have HA2 := Lib.hid ha2
  clear hv1 hv2 ha ha2
  by_cases hl : xs.length = ys.length
  · have hn : ((xs.length : Int) != (ys.length : Int)) = false := by simp [hl]
    have HL := Lib.hid hl
    clear hl
    go_enter Tryd.func23, Tryd.ntmps23
    go_wp2
    clear hn
    go_loopw [5] (fun i wr => ∃ k : Nat, k ≤ xs.length ∧ i = .int .i64 k ∧ Hid (xs.take k = ys.take k ∧ ∃ n, wr = w.drewN n)) (fun i _ => xs.length - (intOf i).toNat)
    case atStart => exact ⟨0, Nat.zero_le _, rfl, rfl, 0, rfl⟩
    case round =>
      obtain ⟨k, hk, rfl, HI⟩ := hrel
      have HW := Lib.hid (quiet_grew HI.out.2)
      by_cases hlt : k < xs.length
      · have hlt2 : k < ys.length := by have := HL.out; omega
        obtain rfl := HA.out (by omega)
        obtain rfl := HA2.out (by omega)
        obtain ⟨u1, hc1', hu1⟩ := HC.out k hlt
        obtain ⟨u2, hc2', hu2⟩ := HC2.out k hlt2
        have hc1 := HW.out.cell hc1'
        have hc2 := HW.out.cell hc2'
        obtain ⟨x, ex⟩ : ∃ x, xs.getD k [] = x := ⟨_, rfl⟩
        obtain ⟨y, ey⟩ : ∃ y, ys.getD k [] = y := ⟨_, rfl⟩
        rw [ex] at hu1
        rw [ey] at hu2
        have HK : Hid (∀ m, Calls Tryd.prog 42 #[u1, u2] (wr.drewN m) fun e w' => e = .returned (.bool (decide (x = y))) ∧ ∃ k, w' = (wr.drewN m).drewN k) := fun m => equalInts_any u1 u2 x y _ (hu1.grew (HW.out.drewN m)) (hu2.grew (HW.out.drewN m))
        obtain ⟨a3, b3, o3, c3, rfl, _, _, _⟩ := hu1.shape
        obtain ⟨a4, b4, o4, c4, rfl, _, _, _⟩ := hu2.shape
        have HE := Lib.hid (And.intro ex ey)
        have r1 : (k : Int) < xs.length := by omega
        have r2 : (k : Int) < ys.length := by omega
        have r3 : (0 : Int) ≤ k := by omega
        clear ex ey hu1 hu2 hc1' hc2'
        by_cases hxy : x = y
        · have HK2 := HK.out
          have e : decide (x = y) = true := by simp [hxy]
          rw [e] at HK2
          have HK3 := Lib.hid HK2
          have HXY := Lib.hid hxy
          clear hxy HK2 HK e
          go_wp2
          go_quiet ((go_at_call 42; exact Calls.quiet_of (HK3.out _)))
          go_wp2
          go_roundw
          case rel => exact ⟨k + 1, by omega, by go_num, take_eq_snoc [] hlt hlt2 HI.out.1 (by rw [HE.out.1, HE.out.2, HXY.out]), quiet_step HI.out.2 _⟩
          case measure => simp [intOf]; omega
        · have HK2 := HK.out
          have e : decide (x = y) = false := by simp [hxy]
          rw [e] at HK2
          have HK3 := Lib.hid HK2
          have HXY := Lib.hid hxy
          clear hxy HK2 HK e
          go_wp2
          go_quiet ((go_at_call 42; exact Calls.quiet_of (HK3.out _)))
          go_wp2
          go_ret
          refine ⟨ret_bool ?_, quiet_step HI.out.2 _⟩
          have : xs ≠ ys := fun e => HXY.out (by rw [← HE.out.1, ← HE.out.2, e])
          simp [this]
      · go_wp2
        go_ret
        refine ⟨ret_bool ?_, HI.out.2⟩
        have := HI.out.1
        rw [List.take_of_length_le (by omega), List.take_of_length_le (by have := HL.out; omega)] at this
        simp [this]
  · have hn : ((xs.length : Int) != (ys.length : Int)) = true := by simp; omega
    have HL := Lib.hid hl
    clear hl
    go_enter Tryd.func23, Tryd.ntmps23
    go_wp2
    go_ret
    refine ⟨ret_bool ?_, 0, rfl⟩
    have : xs ≠ ys := fun e => HL.out (by rw [e])
    simp [this]
end Go.Proofs.YtgecghngfonejaaDoor
/- The law FnLakesHoldAll returns true. -/
namespace Go.Proofs.YtgecghngfonejaaDoor
open Go.RowKit

theorem LakeSumF.dry {N : Nat} {p ws ds : List Int} {R : List (List Int)} (_ : LakeSumF N p ws ds R) (hp : ∀ i, i < N → 0 ≤ p.getD i 0 ∧ p.getD i 0 ≤ 12) : ∀ k, k ≤ N → 0 ≤ allS (fun i => if 0 < ds.getD i 0 then p.getD i 0 else 0) k ∧ allS (fun i => if 0 < ds.getD i 0 then p.getD i 0 else 0) k ≤ 12 * k
  | 0, _ => ⟨Int.le_refl _, Int.le_refl _⟩
  | k + 1, hk => by
    have := LakeSumF.dry ‹_› hp k (by omega)
    have := hp k (by omega)
    simp only [allS]
    split <;> omega

set_option maxRecDepth 100000 in
set_option maxHeartbeats 4000000 in
theorem FnLakesHoldAll_any (v : Value) (bs : List Int) (w : World) (hv : NumsV .u8 w v bs) (hb : ∀ i, i < bs.length → 0 ≤ bs.getD i 0 ∧ bs.getD i 0 ≤ 255) (hS : Steps w) :
    Calls Tryd.prog 5 #[v] w fun e w' => e = .returned (.bool true) ∧ Grew w w' := by
  have HD := Lib.hid (DrawLakesOf_any v bs w hv hb)
  have HS := Lib.hid hS
  obtain ⟨a, b, o, c, rfl, ⟨hlc, hcb⟩, _, _⟩ := hv.shape
  clear hv hb hS
  by_cases hbig : 1048576 < bs.length
  · go_enter Tryd.func5, Tryd.ntmps5
    go_wp2
    go_ret
    exact ⟨rfl, Grew.refl _⟩
  · go_enter Tryd.func5, Tryd.ntmps5
    go_wp2_with (fail)
    refine HD.out.mono ?_
    rintro e w1 ⟨v1, H, rfl, hO, hd, hg1⟩
    have HV := Lib.hid (And.intro hO.toV hg1)
    obtain ⟨a1, c1, rfl⟩ := hO.sh
    obtain ⟨R, eR⟩ : ∃ R, lakesL H = R := ⟨_, rfl⟩
    have HR := Lib.hid eR
    clear hO hd hg1 HD
    go_wp2_with (fail)
    refine (LakesOf_any _ H _ HV.out.1 (HS.out.grew HV.out.2)).mono ?_
    rw [eR]
    rintro e w2 ⟨v2, rfl, hO2, hg2⟩
    obtain ⟨a2, c2, rfl⟩ := hO2.sh
    have H2 := Lib.hid (And.intro hO2.toV hg2)
    clear hO2 hg2
    go_wp2_with (fail)
    refine (SLakesOf_any _ H _ (HV.out.1.grew H2.out.2)).mono ?_
    rw [eR]
    rintro e w3 ⟨v3, rfl, hO3, hg3⟩
    obtain ⟨a3, c3, rfl⟩ := hO3.sh
    have H3 : Hid (RowsV w3 (.slice a2 R.length c2) R ∧ RowsV w3 (.slice a3 R.length c3) R ∧ RowsV w3 (.slice a1 H.length c1) H ∧ Grew w w3) :=
      Lib.hid ⟨H2.out.1.grew hg3, hO3.toV, HV.out.1.grew (H2.out.2.trans hg3), HV.out.2.trans (H2.out.2.trans hg3)⟩
    clear hO3 hg3 H2 HV eR
    go_wp2_with (fail)
    refine (equalRows_any _ _ R R _ H3.out.1 H3.out.2.1).mono ?_
    rw [decide_eq_true (rfl : R = R)]
    rintro e w4 ⟨rfl, hq4⟩
    have hg4 := quiet_grew hq4
    have H4 : Hid (RowsV w4 (.slice a1 H.length c1) H ∧ Grew w w4) := Lib.hid ⟨H3.out.2.2.1.grew hg4, H3.out.2.2.2.trans hg4⟩
    clear hq4 hg4 H3
    obtain ⟨M, eM⟩ : ∃ M, waterI H = M := ⟨_, rfl⟩
    have HM := Lib.hid eM
    go_wp2_with (fail)
    refine (WaterOf_any _ H _ H4.out.1 (HS.out.grew H4.out.2)).mono ?_
    rw [eM]
    rintro e w5 ⟨rfl, hg5⟩
    have H5 := Lib.hid (And.intro (H4.out.1.grew hg5) (H4.out.2.trans hg5))
    clear hg5 H4 eM
    cases hvg : vGrid H with
    | false =>
      have eM0 : M = -1 := by rw [← HM.out, waterI, hvg]; rfl
      subst eM0
      clear hvg
      go_wp2
      go_ret
      exact ⟨rfl, H5.out.2⟩
    | true =>
      have G := Grid.of hvg
      obtain ⟨ws, LS, hds, hsm⟩ := lake_sums hvg
      have hdd := depth_small hvg
      have hgs := grid_small G
      have hMw : M = (depthL H).flatten.sum := by rw [← HM.out, waterI, if_pos hvg]
      have hpn := fun i => grid_num G i
      have hDP := fun W (hW : Grew w5 W) => DepthsOf_any _ H W (H5.out.1.grew hW) (HS.out.grew (H5.out.2.trans hW))
      have hLK := fun W (hW : Grew w5 W) => LakesOf_any _ H W (H5.out.1.grew hW) (HS.out.grew (H5.out.2.trans hW))
      have hRD := fun v W (hW : RowsV W v (depthL H)) => rowOf_any v (depthL H) W hW hdd.1 hdd.2
      have hRH := fun W (hW : Grew w5 W) => rowOf_any _ H W (H5.out.1.grew hW) hgs.1 hgs.2
      obtain ⟨N, eN⟩ : ∃ N, H.length * (H.getD 0 []).length = N := ⟨_, rfl⟩
      have hN25 : N ≤ 25 := by rw [← eN]; exact Nat.mul_le_mul G.n5 G.m5
      rw [eN] at LS hpn
      have hss := small_sum hsm
      rw [← hMw, LS.dl] at hss
      obtain ⟨D, eD⟩ : ∃ D, depthL H = D := ⟨_, rfl⟩
      rw [eD] at hRD hDP LS hMw
      have eR := HR.out
      rw [eR] at hLK LS
      obtain ⟨ds, eds⟩ : ∃ ds, D.flatten = ds := ⟨_, rfl⟩
      rw [eds] at LS hRD hMw
      obtain ⟨ps, eps⟩ : ∃ ps, H.flatten = ps := ⟨_, rfl⟩
      rw [eps] at LS hRH hpn
      have HLS := Lib.hid LS
      have HMW := Lib.hid hMw
      have HPN := Lib.hid hpn
      have HSM := Lib.hid (LS.small hN25)
      have HDR := Lib.hid (LS.dry hpn)
      have HDP := Lib.hid hDP
      have HLK := Lib.hid hLK
      have HRD := Lib.hid hRD
      have HRH := Lib.hid hRH
      have hM0 : ¬ M < 0 := by omega
      clear hvg G LS hds hsm hdd hMw hDP hLK hRD hRH eN eD eR eds eps HM hss hgs hpn
      go_wp2_with (fail)
      refine (HLK.out _ (Grew.refl _)).mono ?_
      rintro e w6 ⟨v6, rfl, hO6, hg6⟩
      obtain ⟨a6, c6, rfl⟩ := hO6.sh
      have H6 := Lib.hid (And.intro hO6.toV hg6)
      clear hO6 hg6
      go_wp2_with (fail)
      refine (HDP.out _ H6.out.2).mono ?_
      rintro e w7 ⟨v7, rfl, hO7, hg7⟩
      obtain ⟨a7, c7, rfl⟩ := hO7.sh
      have H7 := Lib.hid (And.intro hO7.toV (H6.out.2.trans hg7))
      have HV7 := Lib.hid (H6.out.1.grew hg7)
      clear hO7 hg7 H6
      go_wp2_with (fail)
      refine (HRD.out _ _ H7.out.1).mono ?_
      rintro e w8 ⟨g8, c8, rfl, hO8, hg8⟩
      rw [HLS.out.dl] at hO8 ⊢
      have H8 := Lib.hid (And.intro hO8.toV (H7.out.2.trans hg8))
      have HV8 := Lib.hid (HV7.out.grew hg8)
      clear hO8 hg8 H7 HV7
      go_wp2_with (fail)
      refine (HRH.out _ H8.out.2).mono ?_
      rintro e w9 ⟨g9, c9, rfl, hO9, hg9⟩
      rw [HLS.out.pl] at hO9 ⊢
      have H9 : Hid (IntsV w9 (.slice (some ⟨g8, 0, none⟩) N c8) ds ∧ IntsV w9 (.slice (some ⟨g9, 0, none⟩) N c9) ps ∧ RowsV w9 (.slice a6 R.length c6) R ∧ Grew w w9) := Lib.hid ⟨NumsV.grew H8.out.1 hg9, hO9.toV, HV8.out.grew hg9, H5.out.2.trans (H8.out.2.trans hg9)⟩
      obtain ⟨q, eq⟩ : ∃ q, R.length = q := ⟨_, rfl⟩
      have HEQ := Lib.hid eq
      have hqN := HLS.out.len
      rw [eq] at hqN ⊢
      obtain ⟨am, bm, om, cm, em, ⟨hlm, hcm⟩, ham, HCM⟩ := H9.out.2.2.1.shape
      rw [HEQ.out] at em hlm ham
      obtain ⟨rfl, rfl⟩ : a6 = am ∧ c6 = cm := by simpa using em
      clear hO9 hg9 H8 HV8 eq em
      go_wp2
      go_loopw [8, 9] (fun s i wr => ∃ t : Nat, ∃ y : Int, t ≤ q ∧ s = .int .i64 y ∧ i = .int .i64 t ∧ 0 ≤ y ∧ y ≤ 7500 ∧ Hid (y = holdS R t ∧ Grew w9 wr)) (fun _ i _ => q - (intOf i).toNat)
      case atStart => exact ⟨0, 0, Nat.zero_le _, rfl, rfl, Int.le_refl _, by omega, by simp [holdS], Grew.refl _⟩
      case round =>
        obtain ⟨t, y, ht, rfl, rfl, y0, y1, HI⟩ := hrel
        by_cases hlt2 : t < q
        · obtain rfl := ham (by omega)
          obtain ⟨i, c, r1, r2, r3, r4, r5, r6⟩ := HLS.out.row t (by rw [HEQ.out]; exact hlt2)
          obtain ⟨u, q1, q2⟩ := HCM.out t (by rw [HEQ.out]; exact hlt2)
          rw [r1] at q2
          obtain ⟨x, ex⟩ : ∃ x, ws.getD i 0 = x := ⟨_, rfl⟩
          rw [ex] at q2 r1 r5 r6
          obtain ⟨a3, b3, o3, c3, rfl, ⟨q3, _⟩, q4, Q5⟩ := q2.shape
          obtain rfl := q4 (by simp)
          have x1 := HI.out.2.cell (Q5.out 1 (by simp))
          have x2 := HI.out.2.cell (Q5.out 2 (by simp))
          simp at x1 x2
          have q1 := HI.out.2.cell q1
          simp only [List.length_cons, List.length_nil] at q1 q3
          have hsz := holdS_next R t (by rw [HEQ.out]; exact hlt2)
          rw [r1] at hsz
          simp only [List.getD_cons_succ, List.getD_cons_zero] at hsz
          have hsb := HSM.out (t + 1) (by rw [HEQ.out]; exact hlt2)
          have hcx0 : 0 ≤ c * x := Int.mul_nonneg r3 r5
          have hcx1 : c * x ≤ 25 * 12 := Int.mul_le_mul (by omega) r6 r5 (by omega)
          have HN : Hid (y + c * x = holdS R (t + 1) ∧ Grew w9 wr) := Lib.hid ⟨by rw [hsz, HI.out.1], HI.out.2⟩
          have hyb : 0 ≤ y + c * x ∧ y + c * x ≤ 7500 := by rw [HN.out.1]; omega
          have htq : (t : Int) < (q : Int) := by omega
          have hwr : IntKind.i64.wrap (c * x) = c * x := IntWalk.i64_in _ (by omega)
          have hwr2 : IntKind.i64.wrap (y + c * x) = y + c * x := IntWalk.i64_in _ (by omega)
          clear hsz hsb r1 q2 Q5 q4 HI ex
          go_wp2
          go_quiet (fail)
          go_wp2
          go_roundw
          case rel => exact ⟨t + 1, y + c * x, by omega, rfl, by go_num, hyb.1, hyb.2, HN.out.1, HN.out.2.drewN _⟩
          case measure => simp [intOf]; omega
        · obtain rfl : t = q := by omega
          have HY : Hid (y = holdS R R.length) := Lib.hid (by rw [HEQ.out]; exact HI.out.1)
          obtain ⟨y0', ey0⟩ : ∃ y0', y = y0' := ⟨_, rfl⟩
          rw [ey0] at HY y0 y1 ⊢
          obtain ⟨wk, ewk⟩ : ∃ wk : World, wr = wk := ⟨_, rfl⟩
          have H10 : Hid (IntsV wk (.slice (some ⟨g8, 0, none⟩) N c8) ds ∧ IntsV wk (.slice (some ⟨g9, 0, none⟩) N c9) ps ∧ Grew w wk) := by
            rw [← ewk]
            exact Lib.hid ⟨NumsV.grew H9.out.1 HI.out.2, NumsV.grew H9.out.2.1 HI.out.2, H9.out.2.2.2.trans HI.out.2⟩
          rw [ewk]
          clear HI HCM ey0 ewk
          go_wp2
          go_loopw [8, 10] (fun s i wr => ∃ k : Nat, ∃ z : Int, k ≤ N ∧ s = .int .i64 z ∧ i = .int .i64 k ∧ -300 ≤ z ∧ z ≤ 7500 ∧ Hid (z = y0' - allS (fun i => if 0 < ds.getD i 0 then ps.getD i 0 else 0) k ∧ Grew wk wr)) (fun _ i _ => N - (intOf i).toNat)
          case atStart => exact ⟨0, y0', Nat.zero_le _, rfl, rfl, by omega, y1, by simp [allS], Grew.refl _⟩
          case round =>
            obtain ⟨k, z, hk, rfl, rfl, z0, z1, HI⟩ := hrel
            by_cases hlt : k < N
            · have hc1 := HI.out.2.cell (NumsV.at H10.out.1 k (by rw [HLS.out.dl]; exact hlt))
              have hc2 := HI.out.2.cell (NumsV.at H10.out.2.1 k (by rw [HLS.out.pl]; exact hlt))
              have hxb := HPN.out k hlt
              obtain ⟨x, ex⟩ : ∃ x, ds.getD k 0 = x := ⟨_, rfl⟩
              obtain ⟨u, eu⟩ : ∃ u, ps.getD k 0 = u := ⟨_, rfl⟩
              rw [ex] at hc1
              rw [eu] at hc2 hxb
              have hkN : (k : Int) < (N : Int) := by omega
              have hbd := HDR.out (k + 1) hlt
              have hst : allS (fun i => if 0 < ds.getD i 0 then ps.getD i 0 else 0) (k + 1) = y0' - z + if 0 < x then u else 0 := by rw [allS, ex, eu]; have := HI.out.1; omega
              rw [hst] at hbd
              by_cases hx : 0 < x
              · rw [if_pos hx] at hst hbd
                have HN : Hid (z - u = y0' - allS (fun i => if 0 < ds.getD i 0 then ps.getD i 0 else 0) (k + 1) ∧ Grew wk wr) := Lib.hid ⟨by rw [hst]; omega, HI.out.2⟩
                clear hst ex eu HI
                go_wp2
                go_roundw
                case rel => exact ⟨k + 1, z - u, by omega, rfl, by go_num, by omega, by omega, HN.out⟩
                case measure => simp [intOf]; omega
              · rw [if_neg hx] at hst hbd
                have HN : Hid (z = y0' - allS (fun i => if 0 < ds.getD i 0 then ps.getD i 0 else 0) (k + 1) ∧ Grew wk wr) := Lib.hid ⟨by rw [hst]; omega, HI.out.2⟩
                clear hst ex eu HI
                go_wp2
                go_roundw
                case rel => exact ⟨k + 1, z, by omega, rfl, by go_num, by omega, by omega, HN.out⟩
                case measure => simp [intOf]; omega
            · obtain rfl : k = N := by omega
              have HZ : Hid (z = M) := Lib.hid (by
                rw [HI.out.1, HY.out, HMW.out]
                exact HLS.out.hold)
              have HGW := Lib.hid (H10.out.2.2.trans HI.out.2)
              clear HI
              obtain rfl := HZ.out
              have eb1 : (z == z) = true := by simp
              go_wp2
              go_ret
              exact ⟨ret_bool (by simp), HGW.out⟩
end Go.Proofs.YtgecghngfonejaaDoor
namespace Go.Proofs.YtgecghngfonejaaDoor.pLakesHoldAll
open Go.RowKit Go.ChangeShapes Go.WideShapes Go.ChangeAt

set_option maxRecDepth 100000 in
theorem lifted (os : Os) (started : os.Started) (H : Type) (enc : TypeId × Value → H) :
    ReturnsInHanded {} Tryd.checked os 5 .any (fun w args => (Rows.fnLakesHoldAllSpec.pre enc Tryd.prog Tryd.f5 [] false w args ∧ laidMetH Tryd.prog laid1 w) ∧ sizedMet enc Tryd.prog Tryd.f5 (OpenSpec.ofChange Rows.fnLakesHoldAllSpec) false w args)
      (Rows.fnLakesHoldAllSpec.post enc Tryd.prog Tryd.f5 false true false false) := by
  refine returnsInHanded_of_change_and (C := Tryd.checked) (X := fun w _ => laidMetH Tryd.prog laid1 w) (fun _ _ _ hh h => h.of_heap hh) Tryd.own started (by kernel_rfl) Tryd.func5
    (ChangeSpec.witness_shaped (enc := enc) (C := Tryd.checked) (os := os) (X := fun w _ => laidMetH Tryd.prog laid1 w) false (World.doorLaid Tryd.prog 400 os) #[.slice none 0 0] 8 rfl (World.shaped_of_RefB (by kernel_rfl) (by kernel_rfl)) (by kernel_rfl) (by kernel_rfl) (by kernel_rfl) (door_met os _)) ?_
  intro W base args ds gs before hval0 hW _ _ hL _
  have hval : ∀ (j : Nat) t v, Tryd.f5.params[j]? = some t → args[j]? = some v → Value.okWide Tryd.prog W .any base t v := hval0
  have hW' := hW
  obtain ⟨p, q, hA0, hV, rfl, _, _⟩ := hW
  have hA : DataW.TrodAll enc Tryd.prog W 0 (fun _ => true) true Tryd.f5.params.toList args.toList ds p := hA0
  rw [Tryd.params5] at hA hval
  obtain ⟨v0, d0, rfl, rfl, h0⟩ := trodAll_one hA
  have hV' := hV
  obtain ⟨_, _, _, _, dv, _, rfl, _⟩ := trodVars_one hV
  obtain ⟨a0, len0, cap0, rfl⟩ := okWide_slice Tryd.underlying22 (hval 0 22 v0 rfl rfl)
  have k0 := h0
  have lt0 : ∀ x ∈ p, x.block < W.heap.size := by obtain ⟨m, hm⟩ := k0; exact DataW.trod_lt m _ _ _ hm
  obtain ⟨bs0, hn0, hb0⟩ := bytes_came h0
  have HS := steps_of_laid hL
  clear hA0 hval0
  refine (FnLakesHoldAll_any _ bs0 W hn0 hb0 HS).mono fun e W' ⟨he, bel⟩ => ?_
  subst he
  exact ⟨_, rfl, _, _, _, [], _, q, hW', trodAll_mk1 (shut_bool Tryd.underlying4 _), (trodAll_mk1 (Below.trod Tryd.laidOut (by kernel_rfl) (of_decide_eq_true (by kernel_rfl)) k0 bel lt0)), Below.trodVars Tryd.laidOut bel (by kernel_rfl) hV', Below.frame bel _, fun h => by cases h⟩

theorem row_proved : Rows.FnLakesHoldAllSaid :=
  OpenClaim.holds_of_wide 5 Tryd.f5 rfl rfl rfl rfl rfl rfl rfl ⟨rfl, rfl, rfl, rfl, rfl⟩ rfl rfl rfl rfl rfl (by kernel_rfl) Tryd.func5
    (show joinedFacts Tryd.prog 5 Tryd.f5 Rows.fnLakesHoldAllSpec Rows.fnLakesHoldAllRow = true by unfold joinedFacts; rw [Tryd.makeG, Tryd.liftsG, Tryd.enterG]; kernel_rfl)
    (of_decide_eq_true (by kernel_rfl)) (by unfold Func.isWrapper; first | (rw [if_pos (by decide +kernel)]; kernel_rfl) | (rw [if_neg (by decide +kernel)]; exact ⟨rfl, rfl⟩))
    (fun os started H enc _ => lifted os started H enc)

theorem proved : Rows.FnLakesHoldAllCardSaid :=
  Claim7.holds_tied_plain_at .later [] [.data] true Rows.fnLakesHoldAllCard.stood.harness Rows.fnLakesHoldAllCard.stood.looks
    row_proved (fun _ h => by cases h) (by kernel_rfl) (fun _ h => by cases h) fnLakesHoldAll_row_tie rfl ⟨rfl, rfl⟩ (show Tryd.prog.mainIs = some (Rows.fnLakesHoldAllCard.stood.harness.1, Rows.fnLakesHoldAllCard.stood.harness.2.toList) from Tryd.mainG) rfl
    (fun f fn hf hfn => by
      obtain rfl : f = 5 := Option.some.inj ((show Tryd.prog.funcNamed "loop.example/wateronheights/laws.FnLakesHoldAll" = some 5 by kernel_rfl).symm.trans hf) |>.symm
      obtain rfl : fn = Tryd.f5 := (Option.some.inj (Tryd.func5.symm.trans hfn)).symm
      exact ⟨by kernel_rfl, fun j t ht => by
        rw [Tryd.params5] at ht
        have hm : t ∈ [22] := by simpa using Array.mem_of_getElem? ht
        have hall : ([22].all fun u => !Tryd.prog.wantsStandIn u) = true := by kernel_rfl
        exact (show Tryd.prog.wantsStandIn t = false by simpa using List.all_eq_true.1 hall t hm)⟩)
    (by kernel_rfl)
#print axioms proved
end Go.Proofs.YtgecghngfonejaaDoor.pLakesHoldAll
