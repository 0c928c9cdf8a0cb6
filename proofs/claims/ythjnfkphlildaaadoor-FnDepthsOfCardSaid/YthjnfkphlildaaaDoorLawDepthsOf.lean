/- The law FnDepthsOf returns true. -/
import Derived.Test.YthjnfkphlildaaaDoorDepths
import Derived.Test.YthjnfkphlildaaaDoorShapes2
import Derived.Test.YthjnfkphlildaaaDoorDraws
import Derived.Test.YthjnfkphlildaaaDoorEqualRows
import Derived.Test.YthjnfkphlildaaaDoorRowOf
namespace Go.Proofs.YthjnfkphlildaaaDoor
open Go.RowKit

/-- Of a grid, of its depths and of its water, each in one row. -/
structure DepthF (h : List (List Int)) (n m N : Nat) (d p f : List Int) : Prop where
  dl : d.length = N
  pl : p.length = N
  fl : f.length = N
  num : ∀ i, i < N → 0 ≤ p.getD i 0 ∧ p.getD i 0 ≤ 12 ∧ 0 ≤ d.getD i 0 ∧ d.getD i 0 ≤ 12 ∧ f.getD i 0 = p.getD i 0 + d.getD i 0
  dry : ∀ i : Nat, i < N → 0 < d.getD i 0 → edgeB h (i : Int) = false
theorem shape_small (xs : List Int) (n m : Nat) (hl : xs.length = n * m) (hn : n ≤ 5) (hm1 : 1 ≤ m) (hm : m ≤ 5) : (shapeL xs m n).length ≤ 1000 ∧ ∀ r, r < (shapeL xs m n).length → 1 ≤ ((shapeL xs m n).getD r []).length ∧ ((shapeL xs m n).getD r []).length ≤ 1000 :=
  ⟨by rw [shapeL_len]; omega, fun r hr => by rw [shapeL_len] at hr; rw [shapeL_row _ _ _ _ hl hr]; omega⟩
theorem grid_small {h : List (List Int)} {m : Nat} (G : Grid h m) : h.length ≤ 1000 ∧ ∀ r, r < h.length → 1 ≤ (h.getD r []).length ∧ (h.getD r []).length ≤ 1000 :=
  ⟨by have := G.n5; omega, fun r hr => by have := G.len r hr; have := G.m1; have := G.m5; omega⟩
theorem depth_facts {h : List (List Int)} (hg : vGrid h = true) : DepthF h h.length (h.getD 0 []).length (h.length * (h.getD 0 []).length) (depthL h).flatten h.flatten (fillL h).flatten ∧ (depthL h).length = h.length ∧
    ((depthL h).length ≤ 1000 ∧ ∀ r, r < (depthL h).length → 1 ≤ ((depthL h).getD r []).length ∧ ((depthL h).getD r []).length ≤ 1000) ∧ ((fillL h).length ≤ 1000 ∧ ∀ r, r < (fillL h).length → 1 ≤ ((fillL h).getD r []).length ∧ ((fillL h).getD r []).length ≤ 1000) := by
  have G := Grid.of hg
  have W := grid_level hg
  have hn5 := G.n5
  have hm1 := G.m1
  have hm5 := G.m5
  obtain ⟨ws, ews⟩ : ∃ ws, levelL h.length (h.getD 0 []).length h.flatten = ws := ⟨_, rfl⟩
  rw [ews] at W
  have hs : (subL ws h.flatten).length = h.length * (h.getD 0 []).length := by rw [subL_len]; exact W.len
  rw [depthL_yes hg rfl rfl W, fillL_yes hg rfl rfl W, shapeL_flat _ _ _ hs, shapeL_flat _ _ _ W.len]
  refine ⟨⟨hs, flat_grid_len G, W.len, fun i hi => ?_, fun i hi hd => ?_⟩, shapeL_len _ _ _, shape_small _ _ _ hs hn5 hm1 hm5, shape_small _ _ _ W.len hn5 hm1 hm5⟩
  · rw [subL_at _ _ _ (by rw [W.len]; exact hi)]
    have h1 := grid_num G i hi
    have h2 := W.base hi
    have h3 := W.top (fun i hi => (grid_num G i hi).2) hi
    omega
  · rw [subL_at _ _ _ (by rw [W.len]; exact hi)] at hd
    cases he : edgeB h (i : Int) with
    | false => rfl
    | true =>
      have h2 := W.edge i hi (by
        rw [edgeB, Bool.and_eq_true] at he
        rw [edgeL]
        simpa using he.2)
      omega

set_option maxRecDepth 100000 in
set_option maxHeartbeats 4000000 in
theorem FnDepthsOf_any (v : Value) (bs : List Int) (w : World) (hv : NumsV .u8 w v bs) (hb : ∀ i, i < bs.length → 0 ≤ bs.getD i 0 ∧ bs.getD i 0 ≤ 255) (hS : Steps w) :
    Calls Tryd.prog 7 #[v] w fun e w' => e = .returned (.bool true) ∧ Grew w w' := by
  have HD := Lib.hid (DrawDepthsOf_any v bs w hv hb)
  have HS := Lib.hid hS
  obtain ⟨a, b, o, c, rfl, ⟨hlc, hcb⟩, _, _⟩ := hv.shape
  clear hv hb hS
  by_cases hbig : 1048576 < bs.length
  · go_enter Tryd.func7, Tryd.ntmps7
    go_wp2
    go_ret
    exact ⟨rfl, Grew.refl _⟩
  · go_enter Tryd.func7, Tryd.ntmps7
    go_wp2_with (fail)
    refine HD.out.mono ?_
    rintro e w1 ⟨v1, H, rfl, hO, hd, hg1⟩
    have HV := Lib.hid (And.intro hO.toV hg1)
    obtain ⟨a1, c1, rfl⟩ := hO.sh
    obtain ⟨M, eM⟩ : ∃ M, depthL H = M := ⟨_, rfl⟩
    have HM := Lib.hid eM
    clear hO hd hg1 HD
    go_wp2_with (fail)
    refine (DepthsOf_any _ H _ HV.out.1 (HS.out.grew HV.out.2)).mono ?_
    rw [eM]
    rintro e w2 ⟨v2, rfl, hO2, hg2⟩
    obtain ⟨a2, c2, rfl⟩ := hO2.sh
    have H2 := Lib.hid (And.intro hO2.toV hg2)
    clear hO2 hg2
    go_wp2_with (fail)
    refine (SDepthsOf_any _ H _ (HV.out.1.grew H2.out.2)).mono ?_
    rw [eM]
    rintro e w3 ⟨v3, rfl, hO3, hg3⟩
    obtain ⟨a3, c3, rfl⟩ := hO3.sh
    have H3 : Hid (RowsV w3 (.slice a2 M.length c2) M ∧ RowsV w3 (.slice a3 M.length c3) M ∧ RowsV w3 (.slice a1 H.length c1) H ∧ Grew w w3) :=
      Lib.hid ⟨H2.out.1.grew hg3, hO3.toV, HV.out.1.grew (H2.out.2.trans hg3), HV.out.2.trans (H2.out.2.trans hg3)⟩
    clear hO3 hg3 H2 HV eM
    go_wp2_with (fail)
    refine (equalRows_any _ _ M M _ H3.out.1 H3.out.2.1).mono ?_
    rw [decide_eq_true (rfl : M = M)]
    rintro e w4 ⟨rfl, hq4⟩
    have hg4 := quiet_grew hq4
    have H4 : Hid (RowsV w4 (.slice a2 M.length c2) M ∧ RowsV w4 (.slice a1 H.length c1) H ∧ Grew w w4) :=
      Lib.hid ⟨H3.out.1.grew hg4, H3.out.2.2.1.grew hg4, H3.out.2.2.2.trans hg4⟩
    clear hq4 hg4 H3
    cases hvg : vGrid H with
    | false =>
      have eM0 : M = [] := by rw [← HM.out, depthL_no hvg]
      have ht : ((M.length : Int) == 0) = true := by simp [eM0]
      clear hvg eM0
      go_wp2_with (fail)
      refine (SDepthsOf_any _ H _ H4.out.2.1).mono ?_
      rw [HM.out]
      rintro e w5 ⟨v5, rfl, hO5, hg5⟩
      obtain ⟨a5, c5, rfl⟩ := hO5.sh
      have H5 := Lib.hid (And.intro hO5.toV hg5)
      clear hO5 hg5
      go_wp2_with (fail)
      refine (equalRows_any _ _ M M _ (H4.out.1.grew H5.out.2) H5.out.1).mono ?_
      rw [decide_eq_true (rfl : M = M)]
      rintro e w6 ⟨rfl, hq6⟩
      have H6 := Lib.hid (quiet_grew hq6)
      clear hq6
      go_wp2
      go_ret
      exact ⟨rfl, H4.out.2.2.trans (H5.out.2.trans H6.out)⟩
    | true =>
      have G := Grid.of hvg
      obtain ⟨DF, hML, s1, s2⟩ := depth_facts hvg
      rw [HM.out] at DF hML s1
      have hn1 := G.n1
      have ht : ((M.length : Int) == 0) = false := beq_eq_false_iff_ne.2 (by omega)
      obtain ⟨F, eF⟩ : ∃ F, fillL H = F := ⟨_, rfl⟩
      have hFB := fun W (hW : Grew w4 W) => FillByQueue_any _ H W (H4.out.2.1.grew hW) (HS.out.grew (H4.out.2.2.trans hW))
      rw [eF] at DF s2 hFB
      have hRM := fun W (hW : Grew w4 W) => rowOf_any _ M W (H4.out.1.grew hW) s1.1 s1.2
      have hRH := fun W (hW : Grew w4 W) => rowOf_any _ H W (H4.out.2.1.grew hW) (grid_small G).1 (grid_small G).2
      have hRF := fun v W (hW : RowsV W v F) => rowOf_any v F W hW s2.1 s2.2
      obtain ⟨N, eN⟩ : ∃ N, H.length * (H.getD 0 []).length = N := ⟨_, rfl⟩
      obtain ⟨ds, eds⟩ : ∃ ds, M.flatten = ds := ⟨_, rfl⟩
      obtain ⟨ps, eps⟩ : ∃ ps, H.flatten = ps := ⟨_, rfl⟩
      obtain ⟨fs, efs⟩ : ∃ fs, F.flatten = fs := ⟨_, rfl⟩
      rw [eN, eds, eps, efs] at DF
      rw [eds] at hRM
      rw [eps] at hRH
      rw [efs] at hRF
      have hN25 : N ≤ 25 := by rw [← eN]; exact Nat.mul_le_mul G.n5 G.m5
      have HFB := Lib.hid hFB
      have HRM := Lib.hid hRM
      have HRH := Lib.hid hRH
      have HRF := Lib.hid hRF
      have HDF := Lib.hid DF
      have HOE : Hid (∀ (k : Nat) W, Grew w4 W → k < N → 0 < ds.getD k 0 → Calls Tryd.prog 34 #[.slice a1 H.length c1, .int .i64 k] W fun e w' => e = .returned (.bool false) ∧ Grew W w') := Lib.hid fun k W hW hk hd => by
        have := OnEdge_any _ H (k : Int) W (H4.out.2.1.grew hW) (HS.out.grew (H4.out.2.2.trans hW))
        rw [DF.dry k hk hd] at this
        exact this
      clear hvg G DF hML s1 s2 hn1 eF hFB hRM hRH hRF eN eds eps efs
      go_wp2_with (fail)
      refine (HRM.out _ (Grew.refl _)).mono ?_
      rintro e w5 ⟨g5, c5, rfl, hO5, hg5⟩
      rw [HDF.out.dl] at hO5 ⊢
      have H5 := Lib.hid (And.intro hO5 hg5)
      clear hO5 hg5
      go_wp2_with (fail)
      refine (HRH.out _ H5.out.2).mono ?_
      rintro e w6 ⟨g6, c6, rfl, hO6, hg6⟩
      rw [HDF.out.pl] at hO6 ⊢
      have H6 := Lib.hid (And.intro hO6 (And.intro (H5.out.1.grew hg6) (H5.out.2.trans hg6)))
      clear hO6 hg6
      go_wp2_with (fail)
      refine (HFB.out _ H6.out.2.2).mono ?_
      rintro e w7 ⟨v7, rfl, hO7, hg7⟩
      obtain ⟨a7, c7, rfl⟩ := hO7.sh
      have H7 := Lib.hid (And.intro hO7.toV hg7)
      clear hO7 hg7
      go_wp2_with (fail)
      refine (HRF.out _ _ H7.out.1).mono ?_
      rintro e w8 ⟨g8, c8, rfl, hO8, hg8⟩
      rw [HDF.out.fl] at hO8 ⊢
      have H8 := Lib.hid (And.intro hO8 (And.intro (H6.out.1.grew (H7.out.2.trans hg8)) (And.intro (H6.out.2.1.grew (H7.out.2.trans hg8)) (H6.out.2.2.trans (H7.out.2.trans hg8)))))
      clear hO8 hg8
      go_wp2
      go_loopw [8] (fun i wr => ∃ k : Nat, k ≤ N ∧ i = .int .i64 k ∧ Hid (Grew w8 wr)) (fun i _ => N - (intOf i).toNat)
      case atStart => exact ⟨0, Nat.zero_le _, rfl, Grew.refl _⟩
      case round =>
        obtain ⟨k, hk, rfl, HX⟩ := hrel
        by_cases hlt : k < N
        · have hcd := HX.out.cell (H8.out.2.2.1.at rfl (i := k) (by rw [HDF.out.dl]; exact hlt)).1
          have hcp := HX.out.cell (H8.out.2.1.at rfl (i := k) (by rw [HDF.out.pl]; exact hlt)).1
          have hcf := HX.out.cell (H8.out.1.at rfl (i := k) (by rw [HDF.out.fl]; exact hlt)).1
          have hnum := HDF.out.num k hlt
          have hoe := HOE.out k wr.drew (H8.out.2.2.2.trans HX.out.drew) hlt
          obtain ⟨x, ex⟩ : ∃ x, ds.getD k 0 = x := ⟨_, rfl⟩
          obtain ⟨y, ey⟩ : ∃ y, ps.getD k 0 = y := ⟨_, rfl⟩
          rw [ex, ey] at hnum
          rw [ex] at hcd hoe
          rw [ey] at hcp
          rw [hnum.2.2.2.2] at hcf
          obtain ⟨y1, y2, x1, x2, _⟩ := hnum
          clear ex ey
          by_cases hx : 0 < x
          · have HOK := Lib.hid (hoe hx)
            have HSS : Hid (∀ W W' : World, (W.cell? ⟨g5, k, none⟩ = some (.int .i64 x) ∧ W.cell? ⟨g6, k, none⟩ = some (.int .i64 y) ∧ W.cell? ⟨g8, k, none⟩ = some (.int .i64 (y + x))) → Grew W W' → (W'.cell? ⟨g5, k, none⟩ = some (.int .i64 x) ∧ W'.cell? ⟨g6, k, none⟩ = some (.int .i64 y) ∧ W'.cell? ⟨g8, k, none⟩ = some (.int .i64 (y + x)))) := Lib.hid fun W W' h g => ⟨g.cell h.1, g.cell h.2.1, g.cell h.2.2⟩
            have hd0 : decide (x < 0) = false := decide_eq_false (by omega)
            have hd1 : decide (0 < x) = true := decide_eq_true hx
            have hwr : IntKind.i64.wrap (y + x) = y + x := by rw [IntKind.wrap_i64]; omega
            clear hoe
            go_wp2_with (fail)
            go_region_held3 (fun W => W.cell? ⟨g5, k, none⟩ = some (.int .i64 x) ∧ W.cell? ⟨g6, k, none⟩ = some (.int .i64 y) ∧ W.cell? ⟨g8, k, none⟩ = some (.int .i64 (y + x)))
              (first
                | exact ⟨hcd, hcp, hcf⟩
                | assumption
                | exact HSS.out _ _ (by assumption) hgw)
              (first
                | (go_at_call 34; refine HOK.out.mono ?_; rintro e w9 ⟨rfl, hgw⟩))
            have HN : Hid (Grew w8 w9) := Lib.hid (HX.out.drew.trans hgw)
            clear hgw HX
            go_wp2
            go_roundw
            case rel => exact ⟨k + 1, by omega, by go_num, HN.out⟩
            case measure => simp [intOf]; omega
          · obtain rfl : x = 0 := by omega
            rw [Int.add_zero] at hcf
            have HN : Hid (∀ W, Grew wr W → Grew w8 W) := Lib.hid fun W hW => HX.out.trans hW
            clear hoe HX
            go_wp2_with (fail)
            go_quiet (fail)
            go_wp2
            go_roundw
            case rel => exact ⟨k + 1, by omega, by go_num, HN.out _ ((Grew.refl _).drewN _)⟩
            case measure => simp [intOf]; omega
        · obtain rfl : k = N := by omega
          go_wp2
          go_ret
          exact ⟨rfl, H4.out.2.2.trans (H8.out.2.2.2.trans HX.out)⟩
end Go.Proofs.YthjnfkphlildaaaDoor
