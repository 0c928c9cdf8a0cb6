/- The law FnWaterOf returns true. -/
import Derived.Test.YtgecghngfonejaaDoorLakeSum
import Derived.Test.YtgecghngfonejaaDoorDraws
import Derived.Test.YtgecghngfonejaaDoorRowOf
namespace Go.Proofs.YtgecghngfonejaaDoor
open Go.RowKit

theorem allS_bound {ds : List Int} : ∀ k, 0 ≤ allS (fun i => if 0 < ds.getD i 0 then 1 else 0) k ∧ allS (fun i => if 0 < ds.getD i 0 then 1 else 0) k ≤ k
  | 0 => ⟨Int.le_refl _, Int.le_refl _⟩
  | k + 1 => by
    have := allS_bound (ds := ds) k
    simp only [allS]
    split <;> omega
theorem LakeSumF.small {N : Nat} {p ws ds : List Int} {R : List (List Int)} (H : LakeSumF N p ws ds R) (hN : N ≤ 25) : ∀ k, k ≤ R.length → 0 ≤ sizeS R k ∧ sizeS R k ≤ 25 * k ∧ 0 ≤ holdS R k ∧ holdS R k ≤ 300 * k
  | 0, _ => by simp [sizeS, holdS]
  | k + 1, hk => by
    have ih := H.small hN k (by omega)
    obtain ⟨i, c, h1, h2, h3, h4, h5, h6⟩ := H.row k (by omega)
    rw [sizeS_next _ _ (by omega), holdS_next _ _ (by omega), h1]
    simp only [List.getD_cons_succ, List.getD_cons_zero]
    have h7 : 0 ≤ c * ws.getD i 0 := Int.mul_nonneg h3 h5
    have h8 : c * ws.getD i 0 ≤ 25 * 12 := Int.mul_le_mul (by omega) h6 h5 (by omega)
    omega
theorem grid_small {h : List (List Int)} {m : Nat} (G : Grid h m) : h.length ≤ 1000 ∧ ∀ r, r < h.length → 1 ≤ (h.getD r []).length ∧ (h.getD r []).length ≤ 1000 :=
  ⟨by have := G.n5; omega, fun r hr => by have := G.len r hr; have := G.m1; have := G.m5; omega⟩
theorem depth_small {h : List (List Int)} (hg : vGrid h = true) : (depthL h).length ≤ 1000 ∧ ∀ r, r < (depthL h).length → 1 ≤ ((depthL h).getD r []).length ∧ ((depthL h).getD r []).length ≤ 1000 := by
  have G := Grid.of hg
  have W := grid_level hg
  rw [depthL_yes hg rfl rfl W]
  refine ⟨by rw [shapeL_len]; have := G.n5; omega, fun r hr => ?_⟩
  rw [shapeL_len] at hr
  rw [shapeL_row _ _ _ _ (by rw [subL_len]; exact W.len) hr]
  have := G.m1; have := G.m5; omega

set_option maxRecDepth 100000 in
set_option maxHeartbeats 4000000 in
theorem FnWaterOf_any (v : Value) (bs : List Int) (w : World) (hv : NumsV .u8 w v bs) (hb : ∀ i, i < bs.length → 0 ≤ bs.getD i 0 ∧ bs.getD i 0 ≤ 255) (hS : Steps w) :
    Calls Tryd.prog 3 #[v] w fun e w' => e = .returned (.bool true) ∧ Grew w w' := by
  have HD := Lib.hid (DrawWaterOf_any v bs w hv hb)
  have HS := Lib.hid hS
  obtain ⟨a, b, o, c, rfl, ⟨hlc, hcb⟩, _, _⟩ := hv.shape
  clear hv hb hS
  by_cases hbig : 1048576 < bs.length
  · go_enter Tryd.func3, Tryd.ntmps3
    go_wp2
    go_ret
    exact ⟨rfl, Grew.refl _⟩
  · go_enter Tryd.func3, Tryd.ntmps3
    go_wp2_with (fail)
    refine HD.out.mono ?_
    rintro e w1 ⟨v1, H, rfl, hO, hd, hg1⟩
    have HV := Lib.hid (And.intro hO.toV hg1)
    obtain ⟨a1, c1, rfl⟩ := hO.sh
    obtain ⟨M, eM⟩ : ∃ M, waterI H = M := ⟨_, rfl⟩
    have HM := Lib.hid eM
    have ebb : (M != M) = false := by simp
    clear hO hd hg1 HD
    go_wp2_with (fail)
    refine (WaterOf_any _ H _ HV.out.1 (HS.out.grew HV.out.2)).mono ?_
    rw [eM]
    rintro e w2 ⟨rfl, hg2⟩
    have H2 := Lib.hid (HV.out.2.trans hg2)
    have HV2 := Lib.hid (HV.out.1.grew hg2)
    clear hg2
    go_wp2_with (fail)
    refine (SWaterOf_any _ H _ HV2.out).mono ?_
    rw [eM]
    rintro e w3 ⟨rfl, hg3⟩
    have H3 := Lib.hid (And.intro (HV2.out.grew hg3) (H2.out.trans hg3))
    clear hg3 H2 HV2 HV eM
    cases hvg : vGrid H with
    | false =>
      have eM0 : M = -1 := by rw [← HM.out, waterI, hvg]; rfl
      subst eM0
      clear hvg
      go_wp2_with (fail)
      refine (SWaterOf_any _ H _ H3.out.1).mono ?_
      rw [HM.out]
      rintro e w5 ⟨rfl, hg5⟩
      have H5 := Lib.hid (H3.out.2.trans hg5)
      clear hg5
      go_wp2
      go_ret
      exact ⟨rfl, H5.out⟩
    | true =>
      have G := Grid.of hvg
      obtain ⟨ws, LS, hds, hsm⟩ := lake_sums hvg
      have hdd := depth_small hvg
      have hMw : M = (depthL H).flatten.sum := by rw [← HM.out, waterI, if_pos hvg]
      have hDP := fun W (hW : Grew w3 W) => DepthsOf_any _ H W (H3.out.1.grew hW) (HS.out.grew (H3.out.2.trans hW))
      have hLK := fun W (hW : Grew w3 W) => LakesOf_any _ H W (H3.out.1.grew hW) (HS.out.grew (H3.out.2.trans hW))
      have hRD := fun v W (hW : RowsV W v (depthL H)) => rowOf_any v (depthL H) W hW hdd.1 hdd.2
      obtain ⟨N, eN⟩ : ∃ N, H.length * (H.getD 0 []).length = N := ⟨_, rfl⟩
      have hN25 : N ≤ 25 := by rw [← eN]; exact Nat.mul_le_mul G.n5 G.m5
      rw [eN] at LS
      have hTT := fun v W (h : IntsV W v (depthL H).flatten) => ltotal_any v (depthL H).flatten W h (by rw [LS.dl]; omega) hsm
      rw [← hMw] at hTT
      have hss := small_sum hsm
      rw [← hMw, LS.dl] at hss
      obtain ⟨D, eD⟩ : ∃ D, depthL H = D := ⟨_, rfl⟩
      obtain ⟨R, eR⟩ : ∃ R, lakesL H = R := ⟨_, rfl⟩
      rw [eD] at hRD hTT hDP LS
      rw [eR] at hLK LS
      obtain ⟨ds, eds⟩ : ∃ ds, D.flatten = ds := ⟨_, rfl⟩
      rw [eds] at LS hRD hTT
      obtain ⟨ps, eps⟩ : ∃ ps, H.flatten = ps := ⟨_, rfl⟩
      rw [eps] at LS
      have HLS := Lib.hid LS
      have HSM := Lib.hid (LS.small hN25)
      have HDP := Lib.hid hDP
      have HLK := Lib.hid hLK
      have HRD := Lib.hid hRD
      have HTT := Lib.hid hTT
      have hM0 : ¬ M < 0 := by omega
      clear hvg G LS hds hsm hdd hMw hDP hLK hRD hTT eN eD eR eds eps HM hss
      go_wp2_with (fail)
      refine (HDP.out _ (Grew.refl _)).mono ?_
      rintro e w4 ⟨v4, rfl, hO4, hg4⟩
      obtain ⟨a4, c4, rfl⟩ := hO4.sh
      have H4 := Lib.hid (And.intro hO4.toV hg4)
      clear hO4 hg4
      go_wp2_with (fail)
      refine (HRD.out _ _ H4.out.1).mono ?_
      rintro e w5 ⟨g5, c5, rfl, hO5, hg5⟩
      rw [HLS.out.dl] at hO5 ⊢
      have H5 := Lib.hid (And.intro hO5 (H4.out.2.trans hg5))
      clear hO5 hg5 H4
      go_wp2_with (fail)
      refine (HLK.out _ H5.out.2).mono ?_
      rintro e w6 ⟨v6, rfl, hO6, hg6⟩
      obtain ⟨a6, c6, rfl⟩ := hO6.sh
      obtain ⟨q, eq⟩ : ∃ q, R.length = q := ⟨_, rfl⟩
      have HEQ := Lib.hid eq
      have hqN := HLS.out.len
      have H6 : Hid (IntsV w6 (.slice (some ⟨g5, 0, none⟩) N c5) ds ∧ RowsV w6 (.slice a6 R.length c6) R ∧ Grew w w6) := Lib.hid ⟨(H5.out.1.grew hg6).toV, hO6.toV, H3.out.2.trans (H5.out.2.trans hg6)⟩
      rw [eq] at hqN ⊢
      clear hO6 hg6 H5 eq
      go_wp2
      go_loopw [7, 8] (fun s i wr => ∃ k : Nat, ∃ z : Int, k ≤ N ∧ s = .int .i64 z ∧ i = .int .i64 k ∧ 0 ≤ z ∧ z ≤ 25 ∧ Hid (z = allS (fun i => if 0 < ds.getD i 0 then 1 else 0) k ∧ Grew w6 wr)) (fun _ i _ => N - (intOf i).toNat)
      case atStart => exact ⟨0, 0, Nat.zero_le _, rfl, rfl, Int.le_refl _, by omega, rfl, Grew.refl _⟩
      case round =>
        obtain ⟨k, z, hk, rfl, rfl, z0, z1, HI⟩ := hrel
        by_cases hlt : k < N
        · have hc1 := HI.out.2.cell (NumsV.at H6.out.1 k (by rw [HLS.out.dl]; exact hlt))
          obtain ⟨x, ex⟩ : ∃ x, ds.getD k 0 = x := ⟨_, rfl⟩
          rw [ex] at hc1
          have hkN : (k : Int) < (N : Int) := by omega
          have hbd := allS_bound (ds := ds) (k + 1)
          have hst : allS (fun i => if 0 < ds.getD i 0 then 1 else 0) (k + 1) = z + if 0 < x then 1 else 0 := by rw [allS, ← HI.out.1, ex]
          rw [hst] at hbd
          by_cases hx : 0 < x
          · rw [if_pos hx] at hst hbd
            have HN : Hid (z + 1 = allS (fun i => if 0 < ds.getD i 0 then 1 else 0) (k + 1) ∧ Grew w6 wr) := Lib.hid ⟨hst.symm, HI.out.2⟩
            clear hst ex HI
            go_wp2
            go_roundw
            case rel => exact ⟨k + 1, z + 1, by omega, rfl, by go_num, by omega, by omega, HN.out⟩
            case measure => simp [intOf]; omega
          · rw [if_neg hx] at hst hbd
            have HN : Hid (z = allS (fun i => if 0 < ds.getD i 0 then 1 else 0) (k + 1) ∧ Grew w6 wr) := Lib.hid ⟨by rw [hst]; omega, HI.out.2⟩
            clear hst ex HI
            go_wp2
            go_roundw
            case rel => exact ⟨k + 1, z, by omega, rfl, by go_num, by omega, by omega, HN.out⟩
            case measure => simp [intOf]; omega
        · obtain rfl : k = N := by omega
          have HZ : Hid (z = allS (fun i => if 0 < ds.getD i 0 then 1 else 0) k) := Lib.hid HI.out.1
          obtain ⟨zw, ezw⟩ : ∃ zw, z = zw := ⟨_, rfl⟩
          rw [ezw] at HZ z0 z1 ⊢
          obtain ⟨wk, ewk⟩ : ∃ wk : World, wr = wk := ⟨_, rfl⟩
          have H7 : Hid (IntsV wk (.slice (some ⟨g5, 0, none⟩) k c5) ds ∧ RowsV wk (.slice a6 R.length c6) R ∧ Grew w wk) := by
            rw [← ewk]
            exact Lib.hid ⟨NumsV.grew H6.out.1 HI.out.2, H6.out.2.1.grew HI.out.2, H6.out.2.2.trans HI.out.2⟩
          rw [ewk]
          clear HI ezw ewk
          obtain ⟨am, bm, om, cm, em, ⟨hlm, hcm⟩, ham, HCM⟩ := H7.out.2.1.shape
          rw [HEQ.out] at em hlm ham
          obtain ⟨rfl, rfl⟩ : a6 = am ∧ c6 = cm := by simpa using em
          go_wp2
          go_loopw [9, 10] (fun s i wr => ∃ t : Nat, ∃ y : Int, t ≤ q ∧ s = .int .i64 y ∧ i = .int .i64 t ∧ 0 ≤ y ∧ y ≤ 625 ∧ Hid (y = sizeS R t ∧ Grew wk wr)) (fun _ i _ => q - (intOf i).toNat)
          case atStart => exact ⟨0, 0, Nat.zero_le _, rfl, rfl, Int.le_refl _, by omega, by simp [sizeS], Grew.refl _⟩
          case round =>
            obtain ⟨t, y, ht, rfl, rfl, y0, y1, HI⟩ := hrel
            by_cases hlt2 : t < q
            · obtain rfl := ham (by omega)
              obtain ⟨i, c, r1, r2, r3, r4, _⟩ := HLS.out.row t (by rw [HEQ.out]; exact hlt2)
              obtain ⟨u, q1, q2⟩ := HCM.out t (by rw [HEQ.out]; exact hlt2)
              rw [r1] at q2
              obtain ⟨a3, b3, o3, c3, rfl, ⟨q3, _⟩, q4, Q5⟩ := q2.shape
              obtain rfl := q4 (by simp)
              have x1 := HI.out.2.cell (Q5.out 1 (by simp))
              simp at x1
              have q1 := HI.out.2.cell q1
              simp only [List.length_cons, List.length_nil] at q1 q3
              have hsz := sizeS_next R t (by rw [HEQ.out]; exact hlt2)
              rw [r1] at hsz
              simp only [List.getD_cons_succ, List.getD_cons_zero] at hsz
              have hsb := HSM.out (t + 1) (by rw [HEQ.out]; exact hlt2)
              have HN : Hid (y + c = sizeS R (t + 1) ∧ Grew wk wr) := Lib.hid ⟨by rw [hsz, HI.out.1], HI.out.2⟩
              have hyb : 0 ≤ y + c ∧ y + c ≤ 625 := by rw [HN.out.1]; omega
              have htq : (t : Int) < (q : Int) := by omega
              have hc3 : (1 : Int) < (3 : Int) := by omega
              clear hsz hsb r1 q2 Q5 q4 HI
              go_wp2
              go_roundw
              case rel => exact ⟨t + 1, y + c, by omega, rfl, by go_num, hyb.1, hyb.2, HN.out⟩
              case measure => simp [intOf]; omega
            · obtain rfl : t = q := by omega
              have HY : Hid (y = zw) := Lib.hid (by
                have := HLS.out.size
                rw [HEQ.out] at this
                rw [HI.out.1, this, HZ.out])
              have HT := Lib.hid (HTT.out _ wr (NumsV.grew H7.out.1 HI.out.2))
              have HGW := Lib.hid (H7.out.2.2.trans HI.out.2)
              obtain rfl := HY.out
              clear HI HCM hlm hcm ham
              have eb1 : (M == M) = true := by simp
              have eb2 : (y == y) = true := by simp
              go_wp2_with (fail)
              refine HT.out.mono ?_
              rintro e w7 ⟨rfl, rfl⟩
              go_wp2
              go_ret
              exact ⟨ret_bool (by simp), HGW.out⟩
end Go.Proofs.YtgecghngfonejaaDoor
