/- The contracts of spec.sum, laws.total, spec.flat, and of WaterOf. -/
import Derived.Test.YtgecghngfonejaaDoorSFlat
import Derived.Test.YtgecghngfonejaaDoorDepths
import Derived.Test.YtgecghngfonejaaDoorShapes2
namespace Go.Proofs.YtgecghngfonejaaDoor
open Go.RowKit

/-- Numbers from 0 up to 12. -/
def Small (xs : List Int) : Prop := ∀ i, i < xs.length → 0 ≤ xs.getD i 0 ∧ xs.getD i 0 ≤ 12
theorem sum_step (xs : List Int) (k : Nat) (h : k < xs.length) : (xs.take (k + 1)).sum = (xs.take k).sum + xs.getD k 0 := by
  rw [List.take_succ_eq_append_getElem h, List.sum_append]
  simp [h]
theorem sub_sum (ws p : List Int) (hl : ws.length = p.length) : (subL ws p).sum = ws.sum - p.sum := by
  have key : ∀ k, k ≤ ws.length → (uptoL ws p k).sum = (ws.take k).sum - (p.take k).sum := fun k hk => by
    induction k with
    | zero => simp [uptoL]
    | succ k ih =>
      rw [uptoL_succ, List.sum_append, ih (by omega), sum_step ws k (by omega), sum_step p k (by omega)]
      simp
      omega
  have := key ws.length (Nat.le_refl _)
  rwa [uptoL_all, List.take_of_length_le (Nat.le_refl _), List.take_of_length_le (by omega)] at this
theorem small_sum {xs : List Int} (h : Small xs) : 0 ≤ xs.sum ∧ xs.sum ≤ 12 * xs.length := by
  have key : ∀ k, k ≤ xs.length → 0 ≤ (xs.take k).sum ∧ (xs.take k).sum ≤ 12 * k := fun k hk => by
    induction k with
    | zero => simp
    | succ k ih =>
      have := ih (by omega)
      have := h k (by omega)
      rw [sum_step xs k (by omega)]
      omega
  have := key xs.length (Nat.le_refl _)
  rwa [List.take_of_length_le (Nat.le_refl _)] at this

set_option maxRecDepth 100000 in
set_option maxHeartbeats 1000000 in
theorem ssum_any (v : Value) (xs : List Int) (w : World) (hv : IntsV w v xs) (hl : xs.length ≤ 1000) (hb : Small xs) :
    Calls Tryd.prog 58 #[v] w fun e w' => e = .returned (.int .i64 xs.sum) ∧ w = w' := by
  obtain ⟨a, b, o, c, rfl, ⟨hlc, hcb⟩, ha, HC⟩ := hv.shape
  have HA := Lib.hid ha
  have HB := Lib.hid hb
  clear hv ha hb
  go_enter Tryd.func58, Tryd.ntmps58
  go_wp2
  go_loopw [3, 4] (fun s i wr => ∃ k : Nat, ∃ z : Int, k ≤ xs.length ∧ s = .int .i64 z ∧ i = .int .i64 k ∧ 0 ≤ z ∧ z ≤ 12000 ∧ z ≤ 12 * k ∧ Hid (z = (xs.take k).sum ∧ w = wr)) (fun _ i _ => xs.length - (intOf i).toNat)
  case atStart => exact ⟨0, 0, Nat.zero_le _, rfl, rfl, Int.le_refl _, by omega, by omega, by simp, rfl⟩
  case round =>
    obtain ⟨k, z, hk, rfl, rfl, z0, z1, z2, HI⟩ := hrel
    by_cases hlt : k < xs.length
    · obtain rfl := HA.out (by omega)
      have hc1 := HC.out k hlt
      rw [HI.out.2] at hc1
      have hx := HB.out k hlt
      have hs := sum_step xs k hlt
      obtain ⟨x, ex⟩ : ∃ x, xs.getD k 0 = x := ⟨_, rfl⟩
      rw [ex] at hc1 hx hs
      have HN : Hid (z + x = (xs.take (k + 1)).sum ∧ w = wr) := Lib.hid ⟨by rw [hs, HI.out.1], HI.out.2⟩
      obtain ⟨x0, x1⟩ := hx
      clear ex hs HI
      go_wp2
      go_roundw
      case rel => exact ⟨k + 1, z + x, by omega, rfl, by go_num, by omega, by omega, by omega, HN.out⟩
      case measure => simp [intOf]; omega
    · obtain rfl : k = xs.length := by omega
      have HE : Hid (z = xs.sum ∧ w = wr) := Lib.hid ⟨by have := HI.out.1; rwa [List.take_of_length_le (Nat.le_refl _)] at this, HI.out.2⟩
      clear HI
      go_wp2
      go_ret
      exact ⟨ret_int HE.out.1, HE.out.2⟩


set_option maxRecDepth 100000 in
set_option maxHeartbeats 1000000 in
theorem ltotal_any (v : Value) (xs : List Int) (w : World) (hv : IntsV w v xs) (hl : xs.length ≤ 1000) (hb : Small xs) :
    Calls Tryd.prog 21 #[v] w fun e w' => e = .returned (.int .i64 xs.sum) ∧ w = w' := by
  obtain ⟨a, b, o, c, rfl, ⟨hlc, hcb⟩, ha, HC⟩ := hv.shape
  have HA := Lib.hid ha
  have HB := Lib.hid hb
  clear hv ha hb
  go_enter Tryd.func21, Tryd.ntmps21
  go_wp2
  go_loopw [3, 4] (fun s i wr => ∃ k : Nat, ∃ z : Int, k ≤ xs.length ∧ s = .int .i64 z ∧ i = .int .i64 k ∧ 0 ≤ z ∧ z ≤ 12000 ∧ z ≤ 12 * k ∧ Hid (z = (xs.take k).sum ∧ w = wr)) (fun _ i _ => xs.length - (intOf i).toNat)
  case atStart => exact ⟨0, 0, Nat.zero_le _, rfl, rfl, Int.le_refl _, by omega, by omega, by simp, rfl⟩
  case round =>
    obtain ⟨k, z, hk, rfl, rfl, z0, z1, z2, HI⟩ := hrel
    by_cases hlt : k < xs.length
    · obtain rfl := HA.out (by omega)
      have hc1 := HC.out k hlt
      rw [HI.out.2] at hc1
      have hx := HB.out k hlt
      have hs := sum_step xs k hlt
      obtain ⟨x, ex⟩ : ∃ x, xs.getD k 0 = x := ⟨_, rfl⟩
      rw [ex] at hc1 hx hs
      have HN : Hid (z + x = (xs.take (k + 1)).sum ∧ w = wr) := Lib.hid ⟨by rw [hs, HI.out.1], HI.out.2⟩
      obtain ⟨x0, x1⟩ := hx
      clear ex hs HI
      go_wp2
      go_roundw
      case rel => exact ⟨k + 1, z + x, by omega, rfl, by go_num, by omega, by omega, by omega, HN.out⟩
      case measure => simp [intOf]; omega
    · obtain rfl : k = xs.length := by omega
      have HE : Hid (z = xs.sum ∧ w = wr) := Lib.hid ⟨by have := HI.out.1; rwa [List.take_of_length_le (Nat.le_refl _)] at this, HI.out.2⟩
      clear HI
      go_wp2
      go_ret
      exact ⟨ret_int HE.out.1, HE.out.2⟩

/-- How much water there is. -/
noncomputable def waterI (h : List (List Int)) : Int := if vGrid h then (depthL h).flatten.sum else -1
theorem water_facts {h : List (List Int)} (hg : vGrid h = true) : ∃ ws, Level h.length (h.getD 0 []).length h.flatten ws ∧ depthL h = shapeL (subL ws h.flatten) (h.getD 0 []).length h.length ∧ (depthL h).flatten = subL ws h.flatten ∧ Small ws ∧ Small h.flatten ∧ Small (subL ws h.flatten) ∧ ws.length = h.flatten.length ∧ waterI h = ws.sum - h.flatten.sum := by
  have G := Grid.of hg
  have W := grid_level hg
  have hq := fun i hi => grid_num G i hi
  refine ⟨_, W, depthL_yes hg rfl rfl W, ?_, fun i hi => ?_, fun i hi => ?_, fun i hi => ?_, ?_, ?_⟩
  · rw [depthL_yes hg rfl rfl W, shapeL_flat _ _ _ (by rw [subL_len]; exact W.len)]
  · rw [W.len] at hi
    have h1 := hq i hi
    have h2 := W.base hi
    have h3 := W.top (fun i hi => (hq i hi).2) hi
    omega
  · rw [flat_grid_len G] at hi
    exact hq i hi
  · rw [subL_len, W.len] at hi
    rw [subL_at _ _ _ (by rw [W.len]; exact hi)]
    have h1 := hq i hi
    have h2 := W.base hi
    have h3 := W.top (fun i hi => (hq i hi).2) hi
    omega
  · rw [W.len, flat_grid_len G]
  · rw [waterI, if_pos hg, depthL_yes hg rfl rfl W, shapeL_flat _ _ _ (by rw [subL_len]; exact W.len), sub_sum _ _ (by rw [W.len, flat_grid_len G])]

set_option maxRecDepth 100000 in
set_option maxHeartbeats 2000000 in
theorem WaterOf_any (v : Value) (h : List (List Int)) (w : World) (hv : RowsV w v h) (hS : Steps w) :
    Calls Tryd.prog 16 #[v] w fun e w' => e = .returned (.int .i64 (waterI h)) ∧ Grew w w' := by
  have HK := ValidGrid_any v h w hv
  cases hg : vGrid h with
  | false =>
    rw [hg] at HK
    have HK2 := Lib.hid HK
    have HE : Hid (waterI h = -1) := Lib.hid (by unfold waterI; rw [hg]; rfl)
    obtain ⟨a, b, o, c, rfl, _, _, _⟩ := hv.shape
    clear hv hS HK hg
    go_enter Tryd.func16, Tryd.ntmps16
    go_wp2_with (fail)
    refine HK2.out.mono ?_
    rintro e w1 ⟨rfl, rfl⟩
    go_wp2
    go_ret
    exact ⟨ret_int HE.out.symm, Grew.refl _⟩
  | true =>
    rw [hg] at HK
    have HK2 := Lib.hid HK
    have G := Grid.of hg
    obtain ⟨ws, W, k1, k2, k3, k4, k5, k6, k7⟩ := water_facts hg
    have HD := DepthsOf_any v h w hv hS
    have hsl : (subL ws h.flatten).length = h.length * (h.getD 0 []).length := by rw [subL_len]; exact W.len
    have hcc : ∀ v1 W1, RowsV W1 v1 (depthL h) → Calls Tryd.prog 56 #[v1] W1 (FlatPost W1 (depthL h).flatten) := fun v1 W1 h1 =>
      slicesConcat_any v1 (depthL h) W1 h1 (by rw [k1, shapeL_len]; exact G.n1) (by rw [k1, shapeL_len]; have := G.n5; omega) (fun r hr => by
        rw [k1, shapeL_len] at hr
        rw [k1, shapeL_row _ _ _ _ hsl hr]
        have := G.m1; have := G.m5; omega)
    rw [k2] at hcc
    have hw : waterI h = (subL ws h.flatten).sum := by rw [waterI, if_pos hg, k2]
    have hs25 : (subL ws h.flatten).length ≤ 25 := by rw [hsl]; exact Nat.mul_le_mul G.n5 G.m5
    obtain ⟨xs, exs⟩ : ∃ xs, subL ws h.flatten = xs := ⟨_, rfl⟩
    rw [exs] at hcc hw k5 hs25
    obtain ⟨D, eD⟩ : ∃ D, depthL h = D := ⟨_, rfl⟩
    rw [eD] at HD hcc
    have HD2 := Lib.hid HD
    have HCC := Lib.hid hcc
    have HW := Lib.hid hw
    have HB := Lib.hid k5
    obtain ⟨N, eN⟩ : ∃ N, xs.length = N := ⟨_, rfl⟩
    have HN := Lib.hid eN
    rw [eN] at hs25
    obtain ⟨a, b, o, c, rfl, _, _, _⟩ := hv.shape
    clear hv hS HK hg G W k1 k2 k3 k4 k5 k6 k7 HD hsl hcc hw exs eD eN
    go_enter Tryd.func16, Tryd.ntmps16
    go_wp2_with (fail)
    refine HK2.out.mono ?_
    rintro e w0 ⟨rfl, rfl⟩
    go_wp2_with (fail)
    refine HD2.out.mono ?_
    rintro e w1 ⟨v1, rfl, hO1, hg1⟩
    obtain ⟨a1, c1, rfl⟩ := hO1.sh
    have H1 := Lib.hid (And.intro hO1.toV hg1)
    clear hO1 hg1
    go_wp2_with (fail)
    refine (HCC.out _ _ H1.out.1).mono ?_
    rintro e w2 ⟨g2, c2, rfl, hO2, hg2⟩
    rw [HN.out] at hO2 ⊢
    have H2 := Lib.hid (And.intro hO2 (H1.out.2.trans hg2))
    clear hO2 hg2 H1
    go_wp2
    go_loopw [3, 13] (fun s i wr => ∃ k : Nat, ∃ z : Int, k ≤ N ∧ s = .int .i64 z ∧ i = .int .i64 k ∧ 0 ≤ z ∧ z ≤ 12 * k ∧ Hid (z = (xs.take k).sum ∧ Grew w2 wr)) (fun _ i _ => N - (intOf i).toNat)
    case atStart => exact ⟨0, 0, Nat.zero_le _, rfl, rfl, Int.le_refl _, by omega, by simp, Grew.refl _⟩
    case round =>
      obtain ⟨k, z, hk, rfl, rfl, z0, z2, HI⟩ := hrel
      by_cases hlt : k < N
      · have hc1 := HI.out.2.cell (H2.out.1.at rfl (i := k) (by rw [HN.out]; exact hlt)).1
        have hx := HB.out k (by rw [HN.out]; exact hlt)
        have hs := sum_step xs k (by rw [HN.out]; exact hlt)
        obtain ⟨x, ex⟩ : ∃ x, xs.getD k 0 = x := ⟨_, rfl⟩
        rw [ex] at hc1 hx hs
        have HM : Hid (z + x = (xs.take (k + 1)).sum ∧ Grew w2 wr) := Lib.hid ⟨by rw [hs, HI.out.1], HI.out.2⟩
        obtain ⟨x0, x1⟩ := hx
        clear ex hs HI
        go_wp2
        go_roundw
        case rel => exact ⟨k + 1, z + x, by omega, rfl, by go_num, by omega, by omega, HM.out⟩
        case measure => simp [intOf]; omega
      · obtain rfl : k = N := by omega
        have HE : Hid (z = waterI h ∧ Grew w wr) := Lib.hid ⟨by have := HI.out.1; rw [List.take_of_length_le (by rw [HN.out]; exact Nat.le_refl _)] at this; rw [this, HW.out], H2.out.2.trans HI.out.2⟩
        clear HI
        go_wp2
        go_ret
        exact ⟨ret_int HE.out.1, HE.out.2⟩

set_option maxRecDepth 100000 in
set_option maxHeartbeats 2000000 in
theorem SWaterOf_any (v : Value) (h : List (List Int)) (w : World) (hv : RowsV w v h) :
    Calls Tryd.prog 17 #[v] w fun e w' => e = .returned (.int .i64 (waterI h)) ∧ Grew w w' := by
  have HK := sValidGrid_any v h w hv
  cases hg : vGrid h with
  | false =>
    rw [hg] at HK
    have HK2 := Lib.hid HK
    have HE : Hid (waterI h = -1) := Lib.hid (by unfold waterI; rw [hg]; rfl)
    obtain ⟨a, b, o, c, rfl, _, _, _⟩ := hv.shape
    clear hv HK hg
    go_enter Tryd.func17, Tryd.ntmps17
    go_wp2_with (fail)
    refine HK2.out.mono ?_
    rintro e w1 ⟨rfl, hG⟩
    have HG := Lib.hid hG
    clear hG
    go_wp2
    go_ret
    exact ⟨ret_int HE.out.symm, HG.out⟩
  | true =>
    rw [hg] at HK
    have HK2 := Lib.hid HK
    have G := Grid.of hg
    obtain ⟨ws, W, k1, k2, k3, k4, k5, k6, k7⟩ := water_facts hg
    have hF := fun X (hX : Grew w X) => byQueue_any v h h.length (h.getD 0 []).length _ X (hv.grew hX) hg rfl rfl rfl
    have hN25 : h.length * (h.getD 0 []).length ≤ 25 := Nat.mul_le_mul G.n5 G.m5
    have hR := fun X (hX : Grew w X) => sflat_any v h X (hv.grew hX) (by have := G.n5; omega) (fun r hr => by have := G.len r hr; have := G.m1; have := G.m5; omega)
    have hpl := flat_grid_len G
    have hu := fun ys (Y : Level h.length (h.getD 0 []).length h.flatten ys) => Y.uniq W
    have hwl := W.len
    obtain ⟨N, eN⟩ : ∃ N, h.length * (h.getD 0 []).length = N := ⟨_, rfl⟩
    obtain ⟨n, en⟩ : ∃ n, h.length = n := ⟨_, rfl⟩
    obtain ⟨m, em⟩ : ∃ m, (h.getD 0 []).length = m := ⟨_, rfl⟩
    rw [eN] at hF hN25 hpl hwl
    rw [en, em] at hF hu
    obtain ⟨p, ep⟩ : ∃ p, h.flatten = p := ⟨_, rfl⟩
    rw [ep] at hF hR hpl hu k4 k7
    have hb1 : 0 ≤ ws.sum ∧ ws.sum ≤ 12 * 25 := by
      have := small_sum k3
      rw [hwl] at this
      omega
    have hb2 : 0 ≤ p.sum ∧ p.sum ≤ 12 * 25 := by
      have := small_sum k4
      rw [hpl] at this
      omega
    have HF := Lib.hid hF
    have HR := Lib.hid hR
    have HU := Lib.hid hu
    have HW := Lib.hid k7
    have HB := Lib.hid (And.intro k3 (And.intro k4 (And.intro hwl hpl)))
    obtain ⟨sw, esw⟩ : ∃ sw, ws.sum = sw := ⟨_, rfl⟩
    obtain ⟨sp, esp⟩ : ∃ sp, p.sum = sp := ⟨_, rfl⟩
    have HSS := Lib.hid (And.intro esw esp)
    rw [esw] at hb1
    rw [esp] at hb2
    obtain ⟨x0, x1⟩ := hb1
    obtain ⟨y0, y1⟩ := hb2
    obtain ⟨a, b, o, c, rfl, _, _, _⟩ := hv.shape
    clear hv HK hg G W k1 k2 k3 k4 k5 k6 k7 hF hR hpl hu hwl eN en em ep esw esp
    go_enter Tryd.func17, Tryd.ntmps17
    go_wp2_with (fail)
    refine HK2.out.mono ?_
    rintro e w1 ⟨rfl, hG1⟩
    have HG1 := Lib.hid hG1
    clear hG1
    go_wp2_with (fail)
    refine (HF.out _ HG1.out).mono ?_
    rintro e w2 ⟨g2, c2, ys, rfl, hO2, hL2, hg2⟩
    obtain rfl := HU.out ys hL2
    have H2 := Lib.hid (And.intro hO2 (HG1.out.trans hg2))
    clear hO2 hg2 hL2
    have hs2 := ssum_any _ ys _ H2.out.1.toV (by rw [HB.out.2.2.1]; omega) HB.out.1
    rw [HSS.out.1] at hs2
    have HS2 := Lib.hid hs2
    clear hs2
    go_wp2_with (fail)
    refine HS2.out.mono ?_
    rintro e w3 ⟨rfl, rfl⟩
    go_wp2_with (fail)
    refine (HR.out _ H2.out.2).mono ?_
    rintro e w4 ⟨g4, c4, rfl, hO4, hg4⟩
    rw [HB.out.2.2.2] at hO4 ⊢
    have H4 := Lib.hid (And.intro hO4 (H2.out.2.trans hg4))
    clear hO4 hg4
    have hs4 := ssum_any _ p _ H4.out.1.toV (by rw [HB.out.2.2.2]; omega) HB.out.2.1
    rw [HSS.out.2] at hs4
    have HS4 := Lib.hid hs4
    clear hs4
    go_wp2_with (fail)
    refine HS4.out.mono ?_
    rintro e w5 ⟨rfl, rfl⟩
    have HE : Hid (waterI h = sw - sp) := Lib.hid (by rw [HW.out, HSS.out.1, HSS.out.2])
    go_wp2
    go_ret
    exact ⟨ret_int HE.out.symm, H4.out.2⟩
end Go.Proofs.YtgecghngfonejaaDoor
