/- The contracts of spec.CalmFirst, CalmLast, TopplesOf, addCalm and AddSand. -/
import Derived.Test.YthgafljbbkgldaaDoorSTop
import Derived.Test.YthgafljbbkgldaaDoorSandJ
namespace Go.Proofs.YthgafljbbkgldaaDoor
open Go.RowKit


set_option maxRecDepth 100000 in
set_option maxHeartbeats 1000000 in
theorem SCalmFirst_any (v : Value) (h : List (List Int)) (w : World) (hv : RowsV w v h) :
    Calls Tryd.prog 20 #[v] w (NewRows w (calmX h)) := by
  have HV := Lib.hid (sValidSand_any v h w hv)
  have HR := Lib.hid hv
  cases hs : vSand h with
  | false =>
    obtain ⟨a, b, o, c, rfl, _, _, _⟩ := hv.shape
    clear hv
    rw [hs] at HV
    have HE : Hid (calmX h = []) := Lib.hid (by rw [calmX, hs]; rfl)
    clear hs
    go_enter Tryd.func20, Tryd.ntmps20
    go_wp2_with (fail)
    refine HV.out.mono ?_
    rintro e w1 ⟨rfl, hq⟩
    have HQ := Lib.hid (quiet_grew hq)
    clear hq
    go_wp2
    go_ret
    rw [HE.out]
    exact ⟨_, rfl, RowsO.nil _ _ _ _ _, HQ.out⟩
  | true =>
    rw [hs] at HV
    have hsv := sandV_of hv hs
    have hb := hsv.sandy.box
    have h1 : 1 ≤ h.length := hsv.shp.n1
    have HSV := Lib.hid hsv
    have hE : shapeL (calmL h.length (h.getD 0 []).length h.flatten) (h.getD 0 []).length h.length = calmX h := by rw [calmX, if_pos hs]
    obtain ⟨m, em⟩ : ∃ m, (h.getD 0 []).length = m := ⟨_, rfl⟩
    rw [em] at HSV hb hE
    obtain ⟨x, ex⟩ : ∃ x, h.flatten = x := ⟨_, rfl⟩
    rw [ex] at HSV hE
    have HE := Lib.hid hE
    have HT : Hid (∀ W, Grew w W → Calls Tryd.prog 52 #[v, .bool false] W (SettPost h.length m x W)) := Lib.hid fun W hW => settle_any v h _ _ x false W (HSV.out.grew hW)
    obtain ⟨a, b, o, c, rfl, _, ha, HC⟩ := hv.shape
    obtain rfl := ha h1
    obtain ⟨u0, hc0, hu0⟩ := HC.out 0 h1
    rw [Nat.add_zero] at hc0
    obtain ⟨a0, b0, o0, c0, rfl, _, _, _⟩ := hu0.shape
    rw [em] at hc0
    have HC0 := Lib.hid hc0
    have HB := Lib.hid hb
    have hi0 : (0 : Int) < h.length := by omega
    clear hv hs hsv hb ha HC hu0 em ex hE hc0
    go_enter Tryd.func20, Tryd.ntmps20
    go_wp2_with (fail)
    refine HV.out.mono ?_
    rintro e w1 ⟨rfl, hq⟩
    have HQ := Lib.hid (quiet_grew hq)
    clear hq
    go_wp2_with (fail)
    refine (HT.out _ HQ.out).mono ?_
    rintro e w2 ⟨g1, c1, g2, c2, rfl, hO1, hO2, hg⟩
    have hG := HQ.out.trans hg
    have hc0 := hG.cell HC0.out
    have HS : Hid (Calls Tryd.prog 53 #[.slice (some ⟨g1, 0, none⟩) (h.length * m) c1, .int .i64 m] w2 (NewRows w2 (shapeL (calmL h.length m x) m h.length))) := by
      have hl : (calmL h.length m x).length = h.length * m := HSV.out.sandy.calm_len
      have := shaped_any _ (calmL h.length m x) h.length m w2 hO1.toV hl (by have := HB.out.1.2; omega) HB.out.2.1 (by have := HB.out.2.2; omega)
      exact this
    have HG := Lib.hid hG
    clear hO1 hO2 hg hG
    go_wp2_with (fail)
    refine HS.out.mono ?_
    rintro e w3 ⟨v3, rfl, hO3, hg3⟩
    obtain ⟨a3, c3, rfl⟩ := hO3.sh
    have HF := Lib.hid (And.intro (hO3.wide HG.out.size (Nat.le_refl _)) (HG.out.trans hg3))
    clear hO3 hg3 hc0
    go_wp2
    go_ret
    rw [← HE.out]
    exact ⟨_, rfl, HF.out.1, HF.out.2⟩

set_option maxRecDepth 100000 in
set_option maxHeartbeats 1000000 in
theorem SCalmLast_any (v : Value) (h : List (List Int)) (w : World) (hv : RowsV w v h) :
    Calls Tryd.prog 25 #[v] w (NewRows w (calmX h)) := by
  have HV := Lib.hid (sValidSand_any v h w hv)
  have HR := Lib.hid hv
  cases hs : vSand h with
  | false =>
    obtain ⟨a, b, o, c, rfl, _, _, _⟩ := hv.shape
    clear hv
    rw [hs] at HV
    have HE : Hid (calmX h = []) := Lib.hid (by rw [calmX, hs]; rfl)
    clear hs
    go_enter Tryd.func25, Tryd.ntmps25
    go_wp2_with (fail)
    refine HV.out.mono ?_
    rintro e w1 ⟨rfl, hq⟩
    have HQ := Lib.hid (quiet_grew hq)
    clear hq
    go_wp2
    go_ret
    rw [HE.out]
    exact ⟨_, rfl, RowsO.nil _ _ _ _ _, HQ.out⟩
  | true =>
    rw [hs] at HV
    have hsv := sandV_of hv hs
    have hb := hsv.sandy.box
    have h1 : 1 ≤ h.length := hsv.shp.n1
    have HSV := Lib.hid hsv
    have hE : shapeL (calmL h.length (h.getD 0 []).length h.flatten) (h.getD 0 []).length h.length = calmX h := by rw [calmX, if_pos hs]
    obtain ⟨m, em⟩ : ∃ m, (h.getD 0 []).length = m := ⟨_, rfl⟩
    rw [em] at HSV hb hE
    obtain ⟨x, ex⟩ : ∃ x, h.flatten = x := ⟨_, rfl⟩
    rw [ex] at HSV hE
    have HE := Lib.hid hE
    have HT : Hid (∀ W, Grew w W → Calls Tryd.prog 52 #[v, .bool true] W (SettPost h.length m x W)) := Lib.hid fun W hW => settle_any v h _ _ x true W (HSV.out.grew hW)
    obtain ⟨a, b, o, c, rfl, _, ha, HC⟩ := hv.shape
    obtain rfl := ha h1
    obtain ⟨u0, hc0, hu0⟩ := HC.out 0 h1
    rw [Nat.add_zero] at hc0
    obtain ⟨a0, b0, o0, c0, rfl, _, _, _⟩ := hu0.shape
    rw [em] at hc0
    have HC0 := Lib.hid hc0
    have HB := Lib.hid hb
    have hi0 : (0 : Int) < h.length := by omega
    clear hv hs hsv hb ha HC hu0 em ex hE hc0
    go_enter Tryd.func25, Tryd.ntmps25
    go_wp2_with (fail)
    refine HV.out.mono ?_
    rintro e w1 ⟨rfl, hq⟩
    have HQ := Lib.hid (quiet_grew hq)
    clear hq
    go_wp2_with (fail)
    refine (HT.out _ HQ.out).mono ?_
    rintro e w2 ⟨g1, c1, g2, c2, rfl, hO1, hO2, hg⟩
    have hG := HQ.out.trans hg
    have hc0 := hG.cell HC0.out
    have HS : Hid (Calls Tryd.prog 53 #[.slice (some ⟨g1, 0, none⟩) (h.length * m) c1, .int .i64 m] w2 (NewRows w2 (shapeL (calmL h.length m x) m h.length))) := by
      have hl : (calmL h.length m x).length = h.length * m := HSV.out.sandy.calm_len
      have := shaped_any _ (calmL h.length m x) h.length m w2 hO1.toV hl (by have := HB.out.1.2; omega) HB.out.2.1 (by have := HB.out.2.2; omega)
      exact this
    have HG := Lib.hid hG
    clear hO1 hO2 hg hG
    go_wp2_with (fail)
    refine HS.out.mono ?_
    rintro e w3 ⟨v3, rfl, hO3, hg3⟩
    obtain ⟨a3, c3, rfl⟩ := hO3.sh
    have HF := Lib.hid (And.intro (hO3.wide HG.out.size (Nat.le_refl _)) (HG.out.trans hg3))
    clear hO3 hg3 hc0
    go_wp2
    go_ret
    rw [← HE.out]
    exact ⟨_, rfl, HF.out.1, HF.out.2⟩

set_option maxRecDepth 100000 in
set_option maxHeartbeats 1000000 in
theorem STopplesOf_any (v : Value) (h : List (List Int)) (w : World) (hv : RowsV w v h) :
    Calls Tryd.prog 29 #[v] w (NewRows w (timesX h)) := by
  have HV := Lib.hid (sValidSand_any v h w hv)
  have HR := Lib.hid hv
  cases hs : vSand h with
  | false =>
    obtain ⟨a, b, o, c, rfl, _, _, _⟩ := hv.shape
    clear hv
    rw [hs] at HV
    have HE : Hid (timesX h = []) := Lib.hid (by rw [timesX, hs]; rfl)
    clear hs
    go_enter Tryd.func29, Tryd.ntmps29
    go_wp2_with (fail)
    refine HV.out.mono ?_
    rintro e w1 ⟨rfl, hq⟩
    have HQ := Lib.hid (quiet_grew hq)
    clear hq
    go_wp2
    go_ret
    rw [HE.out]
    exact ⟨_, rfl, RowsO.nil _ _ _ _ _, HQ.out⟩
  | true =>
    rw [hs] at HV
    have hsv := sandV_of hv hs
    have hb := hsv.sandy.box
    have h1 : 1 ≤ h.length := hsv.shp.n1
    have HSV := Lib.hid hsv
    have hE : shapeL (timesL h.length (h.getD 0 []).length h.flatten) (h.getD 0 []).length h.length = timesX h := by rw [timesX, if_pos hs]
    obtain ⟨m, em⟩ : ∃ m, (h.getD 0 []).length = m := ⟨_, rfl⟩
    rw [em] at HSV hb hE
    obtain ⟨x, ex⟩ : ∃ x, h.flatten = x := ⟨_, rfl⟩
    rw [ex] at HSV hE
    have HE := Lib.hid hE
    have HT : Hid (∀ W, Grew w W → Calls Tryd.prog 52 #[v, .bool false] W (SettPost h.length m x W)) := Lib.hid fun W hW => settle_any v h _ _ x false W (HSV.out.grew hW)
    obtain ⟨a, b, o, c, rfl, _, ha, HC⟩ := hv.shape
    obtain rfl := ha h1
    obtain ⟨u0, hc0, hu0⟩ := HC.out 0 h1
    rw [Nat.add_zero] at hc0
    obtain ⟨a0, b0, o0, c0, rfl, _, _, _⟩ := hu0.shape
    rw [em] at hc0
    have HC0 := Lib.hid hc0
    have HB := Lib.hid hb
    have hi0 : (0 : Int) < h.length := by omega
    clear hv hs hsv hb ha HC hu0 em ex hE hc0
    go_enter Tryd.func29, Tryd.ntmps29
    go_wp2_with (fail)
    refine HV.out.mono ?_
    rintro e w1 ⟨rfl, hq⟩
    have HQ := Lib.hid (quiet_grew hq)
    clear hq
    go_wp2_with (fail)
    refine (HT.out _ HQ.out).mono ?_
    rintro e w2 ⟨g1, c1, g2, c2, rfl, hO1, hO2, hg⟩
    have hG := HQ.out.trans hg
    have hc0 := hG.cell HC0.out
    have HS : Hid (Calls Tryd.prog 53 #[.slice (some ⟨g2, 0, none⟩) (h.length * m) c2, .int .i64 m] w2 (NewRows w2 (shapeL (timesL h.length m x) m h.length))) := by
      have hl : (timesL h.length m x).length = h.length * m := HSV.out.sandy.calm.1.tlen
      have := shaped_any _ (timesL h.length m x) h.length m w2 hO2.toV hl (by have := HB.out.1.2; omega) HB.out.2.1 (by have := HB.out.2.2; omega)
      exact this
    have HG := Lib.hid hG
    clear hO1 hO2 hg hG
    go_wp2_with (fail)
    refine HS.out.mono ?_
    rintro e w3 ⟨v3, rfl, hO3, hg3⟩
    obtain ⟨a3, c3, rfl⟩ := hO3.sh
    have HF := Lib.hid (And.intro (hO3.wide HG.out.size (Nat.le_refl _)) (HG.out.trans hg3))
    clear hO3 hg3 hc0
    go_wp2
    go_ret
    rw [← HE.out]
    exact ⟨_, rfl, HF.out.1, HF.out.2⟩

set_option maxRecDepth 100000 in
set_option maxHeartbeats 4000000 in
theorem addCalm_any (va vb : Value) (a b : List (List Int)) (n m : Nat) (x y : List Int) (w : World) (ha : RowsV w va a) (hb : RowsV w vb b) (Ga : Shp a m) (Gb : Shp b m) (hla : a.length = n) (hlb : b.length = n) (hx : a.flatten = x) (hy : b.flatten = y) (hxl : x.length = n * m) (hyl : y.length = n * m)
    (hbd : ∀ j, j < n * m → (0 ≤ x.getD j 0 ∧ x.getD j 0 ≤ 10) ∧ 0 ≤ y.getD j 0 ∧ y.getD j 0 ≤ 10) (hbox : Box n m) :
    Calls Tryd.prog 58 #[va, vb] w (NewRows w (shapeL (calmL n m (plusL x y)) m n)) := by
  have hsd : Sandy n m (plusL x y) := ⟨hbox, plusL_len hxl hyl, fun j hj => by have := hbd j hj; rw [plusL_get hxl hyl j hj]; omega⟩
  have HFA : Hid (Calls Tryd.prog 67 #[va] w (FlatPost w x)) := by
    have := sflat_any va a w ha (Nat.le_trans Ga.n5 (by decide)) (fun r hr => by have := Ga.len r hr; have := Ga.m1; have := Ga.m5; omega)
    rw [hx] at this
    exact this
  have HFB : Hid (∀ W, Grew w W → Calls Tryd.prog 67 #[vb] W (FlatPost W y)) := fun W hW => by
    have := sflat_any vb b W (hb.grew hW) (Nat.le_trans Gb.n5 (by decide)) (fun r hr => by have := Gb.len r hr; have := Gb.m1; have := Gb.m5; omega)
    rw [hy] at this
    exact this
  obtain ⟨N, eN⟩ : ∃ N, n * m = N := ⟨_, rfl⟩
  have hN16 : N ≤ 16 := by rw [← eN]; exact Nat.mul_le_mul hbox.1.2 hbox.2.2
  rw [eN] at hxl hyl hbd
  have HSD := Lib.hid (And.intro hsd (And.intro eN (And.intro hxl hyl)))
  have HNN := Lib.hid hbd
  have em := Ga.len 0 Ga.n1
  have hna := Ga.n1
  obtain ⟨a1, b1, o1, c1, rfl, _, ha1, HC1⟩ := ha.shape
  obtain rfl := ha1 hna
  obtain ⟨u1, hu1, hr1⟩ := HC1.out 0 hna
  rw [Nat.add_zero] at hu1
  obtain ⟨d1, e1, f1, k1, rfl, _, _, _⟩ := hr1.shape
  rw [em] at hu1
  obtain ⟨a2, b2, o2, c2, rfl, _, _, _⟩ := hb.shape
  have HC10 := Lib.hid hu1
  have HB := Lib.hid hbox
  have hi0 : (0 : Int) < a.length := by omega
  clear ha hb Ga Gb hla hlb hx hy hxl hyl hbd hbox hsd eN em ha1 HC1 hr1 hu1
  go_enter Tryd.func58, Tryd.ntmps58
  go_wp2_with (fail)
  refine HFA.out.mono ?_
  rintro e w1 ⟨gA, cA, rfl, hO1, hg1⟩
  rw [HSD.out.2.2.1] at hO1 ⊢
  have H1 := Lib.hid (And.intro hO1 hg1)
  clear hO1 hg1
  go_wp2_with (fail)
  refine (HFB.out _ H1.out.2).mono ?_
  rintro e w2 ⟨gB, cB, rfl, hO2, hg2⟩
  rw [HSD.out.2.2.2] at hO2 ⊢
  have H2 := Lib.hid (And.intro (H1.out.1.grew hg2) (And.intro hO2 (And.intro (H1.out.2.trans hg2) (And.intro hO2.blk H1.out.1.blk))))
  clear hO2 hg2
  go_wp2_with (fail)
  go_loopg [7] N (fun gk kv wr => ∃ j : Nat, kv = .int .i64 j ∧ j ≤ N ∧ N ≤ gk + j ∧ Hid (IntsO 3 w.heap.size w1.heap.size wr (.slice (some ⟨gA, 0, none⟩) N cA) (plusK x y j) ∧ Within gA (gA + 1) w2 wr))
  case atStart => exact ⟨0, rfl, Nat.zero_le _, Nat.le_refl _, H2.out.1, Within.refl _ _ _⟩
  case round =>
    obtain ⟨j, rfl, hj, hgj, HI⟩ := hrel
    by_cases hlt : j < N
    · have hxa := (HI.out.1.at rfl (i := j) (by rw [plusK_len HSD.out.2.2.1 HSD.out.2.2.2 j hj]; exact hlt))
      have hxa1 := hxa.1
      have hxa2 := hxa.2
      rw [plusK_at HSD.out.2.2.1 HSD.out.2.2.2 j hlt] at hxa1
      have hyb := HI.out.2.cell (H2.out.2.1.at rfl (i := j) (by rw [HSD.out.2.2.2]; exact hlt)).1 (by have := H2.out.2.2.2; show gB < gA ∨ gA + 1 ≤ gB; omega)
      have hn9 := HNN.out j hlt
      have HO := (HI.out.1.grew (Grew.refl _).drew).set rfl j (x.getD j 0 + y.getD j 0)
      rw [← plusK_succ HSD.out.2.2.1 HSD.out.2.2.2 j hlt] at HO
      have HO2 := Lib.hid (And.intro (HO.wide (Nat.le_refl _) (Nat.le_refl _)) (HI.out.2.drew.setCell (p := ⟨gA, j, none⟩) (Nat.le_refl _) (Nat.lt_succ_self _) (.int .i64 (x.getD j 0 + y.getD j 0))))
      obtain ⟨xj, exj⟩ : ∃ t, x.getD j 0 = t := ⟨_, rfl⟩
      obtain ⟨yj, eyj⟩ : ∃ t, y.getD j 0 = t := ⟨_, rfl⟩
      rw [exj] at hxa1 hn9 HO2
      rw [eyj] at hyb hn9 HO2
      have q1 : IntKind.i64.wrap (xj + yj) = xj + yj := by rw [IntKind.wrap_i64]; omega
      have hji : (j : Int) < N := by omega
      clear hxa HO exj eyj
      go_wp2
      go_still_tail 12, (by kernel_rfl)
      change wpList _ _ _ _ _ wr.drew
      have hz3 : wr.drew.frozen? ⟨gA, j, none⟩ = false := hxa2
      have hz4 : wr.drew.cell? ⟨gA, j, none⟩ = some (.int .i64 xj) := hxa1
      obtain ⟨W3, hW3⟩ : ∃ W3, wr.drew = W3 := ⟨_, rfl⟩
      rw [hW3] at hz3 hz4 HO2 ⊢
      clear hW3 hxa1 hxa2 hyb
      go_wp2
      go_roundg (gk - 1)
      case measure => omega
      case rel => exact ⟨j + 1, by go_num, by omega, by omega, HO2.out⟩
    · obtain rfl : j = N := by omega
      have hn4 := HB.out
      have hG : Grew w wr := Within.grew H2.out.2.2.1 HI.out.2 H2.out.2.2.2.2.1
      have hO3 := HI.out.1
      rw [plusK_all HSD.out.2.2.1 HSD.out.2.2.2] at hO3
      have HIR : Hid (Calls Tryd.prog 53 #[.slice (some ⟨gA, 0, none⟩) j cA, .int .i64 m] wr (NewRows wr (shapeL (plusL x y) m n))) := shaped_any _ (plusL x y) n m wr hO3.toV (by rw [HSD.out.1.len]) (by have := hn4.1.2; omega) hn4.2.1 (by have := hn4.2.2; omega)
      have hc0 := hG.cell HC10.out
      have HG := Lib.hid hG
      clear hO3 hG hn4
      go_wp2_with (fail)
      refine HIR.out.mono ?_
      rintro e w4 ⟨v4, rfl, hO4, hg4⟩
      have HT := Lib.hid (settle_any v4 _ n m _ false w4 (shape_sandV HSD.out.1 hO4.toV))
      unfold SettPost at HT
      rw [HSD.out.2.1] at HT
      obtain ⟨a4, c4, rfl⟩ := hO4.sh
      have HG4 := Lib.hid (HG.out.trans hg4)
      clear hO4 hg4 hc0
      go_wp2_with (fail)
      refine HT.out.mono ?_
      rintro e w5 ⟨g5, c5, g6, c6, rfl, h5, h6, hg5⟩
      have hG5 := HG4.out.trans hg5
      have hc0 := hG5.cell HC10.out
      have HS : Hid (Calls Tryd.prog 53 #[.slice (some ⟨g5, 0, none⟩) j c5, .int .i64 m] w5 (NewRows w5 (shapeL (calmL n m (plusL x y)) m n))) := shaped_any _ (calmL n m (plusL x y)) n m w5 h5.toV HSD.out.1.calm_len (by have := HB.out.1.2; omega) HB.out.2.1 (by have := HB.out.2.2; omega)
      have HG5 := Lib.hid hG5
      clear h5 h6 hg5 hG5
      go_wp2_with (fail)
      refine HS.out.mono ?_
      rintro e w7 ⟨v7, rfl, hO7, hg7⟩
      obtain ⟨a7, c7, rfl⟩ := hO7.sh
      have HF := Lib.hid (And.intro (hO7.wide HG5.out.size (Nat.le_refl _)) (HG5.out.trans hg7))
      clear hO7 hg7 hc0
      go_wp2
      go_ret
      exact ⟨_, rfl, HF.out.1, HF.out.2⟩
end Go.Proofs.YthgafljbbkgldaaDoor
