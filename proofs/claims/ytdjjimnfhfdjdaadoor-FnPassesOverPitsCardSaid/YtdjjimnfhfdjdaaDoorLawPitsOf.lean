/- The law FnPitsOf returns true. -/
import Derived.Test.YtdjjimnfhfdjdaaDoorLawFlatsOf
import Derived.Test.YtdjjimnfhfdjdaaDoorEnds4
import Derived.Test.YtdjjimnfhfdjdaaDoorIsIn
namespace Go.Proofs.YtdjjimnfhfdjdaaDoor
open Go.RowKit

/-- What the ends of a grid are: the flats, what beats them, the list. -/
theorem endsL_some {ov : Int → Int → Bool} {h : List (List Int)} {n m N : Nat} {p : List Int} (hg : vGrid h = true) (en : h.length = n) (em : (h.getD 0 []).length = m) (ep : h.flatten = p) (eN : n * m = N)
    (hB : ∃ bs, Beat n m p (flatsL n m (sameH p)) ov N 0 bs) : ∃ bs, Flats n m (sameH p) (flatsL n m (sameH p)) ∧ Beat n m p (flatsL n m (sameH p)) ov N 0 bs ∧ endsL ov h = keptL (flatsL n m (sameH p)) bs N := by
  have G := Grid.of hg
  obtain ⟨bs, hB⟩ := hB
  have F : Flats n m (sameH p) (flatsL n m (sameH p)) := flatsL_ok (sameH_symm p) (by rw [← en]; exact G.n5) (by rw [← em]; exact G.m5)
  exact ⟨bs, F, hB, endsL_yes hg en em ep eN F hB⟩
theorem beat_exists (n m N : Nat) (p fs : List Int) (ov : Int → Int → Bool) (_hN : n * m = N) : ∃ bs, Beat n m p fs ov N 0 bs := by
  obtain ⟨P, eP⟩ : ∃ P : Nat → Prop, ∀ c, P c ↔ ∃ x s k : Nat, (x < N ∨ x = N ∧ s < 0) ∧ x < n * m ∧ s < (aroundL n m x).length ∧ (aroundL n m x).getD s 0 = k ∧ ov (p.getD k 0) (p.getD x 0) = true ∧ fs.getD x 0 = c := ⟨_, fun _ => Iff.rfl⟩
  refine ⟨(List.range (n * m)).map fun c => @decide (P c) (Classical.propDecidable _), by simp, fun c hc => ?_⟩
  rw [← eP]
  have : ((List.range (n * m)).map fun c => @decide (P c) (Classical.propDecidable _)).getD c false = @decide (P c) (Classical.propDecidable _) := by simp [hc]
  rw [this]
  exact @decide_eq_true_iff _ (Classical.propDecidable _)
/-- The flat of a lowest cell is no lower than what is beside it. -/
theorem lowest_kept {n m N L : Nat} {p fs : List Int} {bs : List Bool} (hn : n ≤ 5) (hm : m ≤ 5) (eN : n * m = N) (F : Flats n m (sameH p) fs) (B : Beat n m p fs ovDown N 0 bs) (hL : L < N) (hlow : ∀ x, x < N → p.getD L 0 ≤ p.getD x 0) : fs.getD L 0 ∈ keptL fs bs N := by
  obtain ⟨C, h1, h2, h3⟩ := F.ok L (by rw [eN]; exact hL)
  have h4 := F.reach hn hm (by rw [eN]; exact hL) h3
  refine mem_keptL.2 ⟨C, h1, by omega, by rw [h4, h1], ?_⟩
  cases hb : bs.getD C false with
  | false => rfl
  | true =>
    obtain ⟨x, s, k, _, hx, hs, hk, hov, hfx⟩ := (B.iff C (by omega)).1 hb
    have hkm : (k : Int) ∈ aroundL n m x := by
      rw [← hk, List.getD_eq_getElem?_getD, List.getElem?_eq_getElem hs]
      exact List.getElem_mem hs
    have hkN := around_lt hn hm hx hkm
    have := hlow k (by omega)
    obtain ⟨D, e1, e2, e3⟩ := F.ok x hx
    have : D = C := by omega
    subst this
    have := e3.high
    have := h3.high
    have hov2 : p.getD k 0 < p.getD x 0 := by simpa [ovDown] using hov
    omega
theorem highest_kept {n m N L : Nat} {p fs : List Int} {bs : List Bool} (hn : n ≤ 5) (hm : m ≤ 5) (eN : n * m = N) (F : Flats n m (sameH p) fs) (B : Beat n m p fs ovUp N 0 bs) (hL : L < N) (hhigh : ∀ x, x < N → p.getD x 0 ≤ p.getD L 0) : fs.getD L 0 ∈ keptL fs bs N := by
  obtain ⟨C, h1, h2, h3⟩ := F.ok L (by rw [eN]; exact hL)
  have h4 := F.reach hn hm (by rw [eN]; exact hL) h3
  refine mem_keptL.2 ⟨C, h1, by omega, by rw [h4, h1], ?_⟩
  cases hb : bs.getD C false with
  | false => rfl
  | true =>
    obtain ⟨x, s, k, _, hx, hs, hk, hov, hfx⟩ := (B.iff C (by omega)).1 hb
    have hkm : (k : Int) ∈ aroundL n m x := by
      rw [← hk, List.getD_eq_getElem?_getD, List.getElem?_eq_getElem hs]
      exact List.getElem_mem hs
    have hkN := around_lt hn hm hx hkm
    have := hhigh k (by omega)
    obtain ⟨D, e1, e2, e3⟩ := F.ok x hx
    have : D = C := by omega
    subst this
    have := e3.high
    have := h3.high
    have hov2 : p.getD x 0 < p.getD k 0 := by simpa [ovUp] using hov
    omega

set_option maxRecDepth 100000 in
set_option maxHeartbeats 4000000 in
theorem FnPitsOf_any (v : Value) (bs : List Int) (w : World) (hv : NumsV .u8 w v bs) (hb : ∀ i, i < bs.length → 0 ≤ bs.getD i 0 ∧ bs.getD i 0 ≤ 255) (hS : Steps w) :
    Calls Tryd.prog 4 #[v] w fun e w' => e = .returned (.bool true) ∧ Grew w w' := by
  have HD := Lib.hid (DrawPitsOf_any v bs w hv hb)
  have HS := Lib.hid hS
  obtain ⟨a, b, o, c, rfl, ⟨hlc, hcb⟩, _, _⟩ := hv.shape
  clear hv hb hS
  by_cases hbig : 1048576 < bs.length
  · go_enter Tryd.func4, Tryd.ntmps4
    go_wp2
    go_ret
    exact ⟨rfl, Grew.refl _⟩
  · go_enter Tryd.func4, Tryd.ntmps4
    go_wp2_with (fail)
    refine HD.out.mono ?_
    rintro e w1 ⟨v1, H, rfl, hO, hd, hg1⟩
    have HV := Lib.hid (And.intro hO.toV hg1)
    obtain ⟨a1, c1, rfl⟩ := hO.sh
    obtain ⟨M, eM⟩ : ∃ M, pitsL H = M := ⟨_, rfl⟩
    have HM := Lib.hid eM
    clear hO hd hg1 HD
    go_wp2_with (fail)
    refine (PitsOf_any _ H _ HV.out.1 (HS.out.grew HV.out.2)).mono ?_
    rw [eM]
    rintro e w2 ho2
    obtain ⟨a2, c2, rfl, hO2, hg2⟩ := ho2.shape
    have H2 := Lib.hid (And.intro hO2.toV hg2)
    have hMl := hO2.len
    clear hO2 hg2 ho2
    go_wp2_with (fail)
    refine (SPitsOf_any _ H _ (HV.out.1.grew H2.out.2)).mono ?_
    rw [eM]
    rintro e w3 ho3
    obtain ⟨a3, c3, rfl, hO3, hg3⟩ := ho3.shape
    have H3 : Hid (IntsV w3 (.slice a2 M.length c2) M ∧ IntsV w3 (.slice a3 M.length c3) M ∧ RowsV w3 (.slice a1 H.length c1) H ∧ Grew w w3) :=
      Lib.hid ⟨H2.out.1.grew hg3, hO3.toV, HV.out.1.grew (H2.out.2.trans hg3), HV.out.2.trans (H2.out.2.trans hg3)⟩
    clear hO3 hg3 ho3 H2 HV eM
    go_wp2_with (fail)
    refine (equalInts_any _ _ M M _ H3.out.1 H3.out.2.1).mono ?_
    rw [decide_eq_true (rfl : M = M)]
    rintro e w4 ⟨rfl, hq4⟩
    have hg4 := quiet_grew hq4
    have H4 : Hid (IntsV w4 (.slice a2 M.length c2) M ∧ RowsV w4 (.slice a1 H.length c1) H ∧ Grew w w4) :=
      Lib.hid ⟨H3.out.1.grew hg4, H3.out.2.2.1.grew hg4, H3.out.2.2.2.trans hg4⟩
    clear hq4 hg4 H3
    have HVG := Lib.hid (ValidGrid_any _ H _ H4.out.2.1)
    cases hvg : vGrid H with
    | false =>
      have HVG2 := HVG.out
      rw [hvg] at HVG2
      have HVG3 := Lib.hid HVG2
      clear hvg HVG2 HVG
      go_wp2_with (fail)
      refine HVG3.out.mono ?_
      rintro e w5 ⟨rfl, rfl⟩
      go_wp2_with (fail)
      refine (SPitsOf_any _ H _ H4.out.2.1).mono ?_
      rw [HM.out]
      rintro e w5 ho5
      obtain ⟨a5, c5, rfl, hO5, hg5⟩ := ho5.shape
      have H5 := Lib.hid (And.intro hO5.toV hg5)
      clear hO5 hg5 ho5
      go_wp2_with (fail)
      refine (equalInts_any _ _ M M _ (H4.out.1.grew H5.out.2) H5.out.1).mono ?_
      rw [decide_eq_true (rfl : M = M)]
      rintro e w6 ⟨rfl, hq6⟩
      have H6 := Lib.hid (quiet_grew hq6)
      clear hq6
      go_wp2
      go_ret
      exact ⟨rfl, H4.out.2.2.trans (H5.out.2.trans H6.out)⟩
    | true =>
      have HVG2 := HVG.out
      rw [hvg] at HVG2
      have HVG3 := Lib.hid HVG2
      have G := Grid.of hvg
      obtain ⟨n, en⟩ : ∃ n, H.length = n := ⟨_, rfl⟩
      obtain ⟨m, em⟩ : ∃ m, (H.getD 0 []).length = m := ⟨_, rfl⟩
      obtain ⟨N, eN⟩ : ∃ N, n * m = N := ⟨_, rfl⟩
      have hpl := flat_grid_len G
      rw [en, em, eN] at hpl
      obtain ⟨p, ep⟩ : ∃ p, H.flatten = p := ⟨_, rfl⟩
      rw [ep] at hpl
      have hn5 := G.n5
      have hn1 := G.n1
      have hm5 := G.m5
      have hm1 := G.m1
      rw [en] at hn5 hn1
      rw [em] at hm5 hm1
      have hN25 : N ≤ 25 := by rw [← eN]; exact Nat.mul_le_mul hn5 hm5
      have hN1 : 1 ≤ N := by rw [← eN]; exact Nat.mul_pos hn1 hm1
      obtain ⟨bt, hF, hB, hE⟩ := endsL_some hvg en em ep eN (beat_exists n m N p (flatsL n m (sameH p)) ovDown eN)
      have hMe : M = keptL (flatsL n m (sameH p)) bt N := by rw [← HM.out]; exact hE
      have hFl : flatsOfL H = shapeL (flatsL n m (sameH p)) m n := by rw [flatsOfL, if_pos hvg, en, em, ep]
      obtain ⟨fs, efs⟩ : ∃ fs, flatsL n m (sameH p) = fs := ⟨_, rfl⟩
      rw [efs] at hF hB hMe hFl
      have HF := Lib.hid (And.intro hF (And.intro hB hMe))
      have hfl : fs.length = N := by rw [hF.len]; exact eN
      have hH3 : ∀ r, r < H.length → 1 ≤ (H.getD r []).length ∧ (H.getD r []).length ≤ 1000 := fun r hr => by
        have := G.len r hr
        have := G.m1
        have := G.m5
        omega
      have HR2 : Hid (Calls Tryd.prog 17 #[.slice a1 H.length c1] w4 (FlatPost w4 p)) := Lib.hid (by
        have := rowOf_any _ H w4 H4.out.2.1 (by omega) hH3
        rwa [ep] at this)
      have HFO : Hid (∀ W, Grew w4 W → Calls Tryd.prog 21 #[.slice a1 H.length c1] W (NewRows W (shapeL fs m n))) := Lib.hid fun W hW => by
        have := FlatsOf_any _ H W (H4.out.2.1.grew hW) (HS.out.grew (H4.out.2.2.trans hW))
        rwa [hFl] at this
      have HRS : Hid (∀ v W, RowsV W v (shapeL fs m n) → Calls Tryd.prog 17 #[v] W (FlatPost W fs)) := Lib.hid fun v W hv => by
        have := rowOf_any v (shapeL fs m n) W hv (by rw [shapeL_len]; omega) (fun r hr => by
          rw [shapeL_len] at hr
          rw [shapeL_row fs n m r hF.len hr]
          omega)
        rwa [shapeL_flat fs n m hF.len] at this
      have HNM := Lib.hid (And.intro hn5 (And.intro hm5 (And.intro eN (And.intro hfl hpl))))
      have HSL := Lib.hid (shapeL_len fs m n)
      have hgg := Lib.hid H4.out.2.2
      obtain ⟨ln, eln⟩ : ∃ ln, M.length = ln := ⟨_, rfl⟩
      have HLN := Lib.hid eln
      have HMV := Lib.hid H4.out.1
      have hln : ln ≤ 25 := by rw [← eln, hMe]; exact Nat.le_trans (keptL_le _ _ _) hN25
      rw [eln] at HMV ⊢
      clear hvg HVG HVG2 G en em eN hpl ep hn5 hn1 hm5 hm1 hF hB hMe hE hFl efs hfl hH3 HM H4 eln hMl
      go_wp2_with (fail)
      refine HVG3.out.mono ?_
      rintro e w5 ⟨rfl, rfl⟩
      go_wp2_with (fail)
      refine HR2.out.mono ?_
      rintro e w5 ⟨g5, c5, rfl, hO5, hg5⟩
      rw [HNM.out.2.2.2.2] at hO5 ⊢
      have H5 := Lib.hid (And.intro hO5 hg5)
      clear hO5 hg5 HR2 HVG3
      go_wp2_with (fail)
      refine (HFO.out _ H5.out.2).mono ?_
      rintro e w6 ⟨v6, rfl, hO6, hg6⟩
      obtain ⟨a6, c6, rfl⟩ := hO6.sh
      rw [HSL.out] at hO6 ⊢
      have H6 := Lib.hid (And.intro hO6.toV hg6)
      clear hO6 hg6 HFO
      go_wp2_with (fail)
      refine (HRS.out _ _ H6.out.1).mono ?_
      rintro e w7 ⟨g7, c7, rfl, hO7, hg7⟩
      rw [HNM.out.2.2.2.1] at hO7 ⊢
      have H7 : Hid ((∀ i, i < N → w7.cell? ⟨g7, i, none⟩ = some (.int .i64 (fs.getD i 0))) ∧ (∀ i, i < N → w7.cell? ⟨g5, i, none⟩ = some (.int .i64 (p.getD i 0))) ∧ IntsV w7 (.slice a2 ln c2) M ∧ Grew w4 w7) :=
        Lib.hid ⟨fun i hi => (hO7.at rfl (by rw [HNM.out.2.2.2.1]; exact hi)).1, fun i hi => ((H5.out.1.grew (H6.out.2.trans hg7)).at rfl (by rw [HNM.out.2.2.2.2]; exact hi)).1, HMV.out.grew (H5.out.2.trans (H6.out.2.trans hg7)), H5.out.2.trans (H6.out.2.trans hg7)⟩
      clear hO7 hg7 H5 H6 HRS HMV
      go_wp2
      go_loopw [7, 8] (fun lo i wr => ∃ B I : Nat, I ≤ N ∧ B < N ∧ lo = .int .i64 (B : Int) ∧ i = .int .i64 (I : Int) ∧ Hid ((∀ x, x < I → p.getD B 0 ≤ p.getD x 0) ∧ Grew w7 wr)) (fun _ i _ => N - (intOf i).toNat)
      case atStart => exact ⟨0, 0, Nat.zero_le _, hN1, rfl, rfl, fun _ h => absurd h (Nat.not_lt_zero _), Grew.refl _⟩
      case round =>
        obtain ⟨B, I, hI1, hBN, rfl, rfl, HG⟩ := hrel
        by_cases hI : I < N
        · have hc1 := HG.out.2.cell (H7.out.2.1 I hI)
          have hc2 := HG.out.2.cell (H7.out.2.1 B hBN)
          obtain ⟨pi, epi⟩ : ∃ pi, p.getD I 0 = pi := ⟨_, rfl⟩
          obtain ⟨pb, epb⟩ : ∃ pb, p.getD B 0 = pb := ⟨_, rfl⟩
          rw [epi] at hc1
          rw [epb] at hc2
          have hIi : (I : Int) < (N : Int) := by omega
          have hBi : (B : Int) < (N : Int) := by omega
          have HP := Lib.hid (And.intro epi epb)
          clear epi epb
          by_cases hlt : pi < pb
          · go_wp2
            go_quiet (fail)
            go_wp2
            go_roundw
            case rel =>
              refine ⟨I, I + 1, by omega, hI, rfl, by go_num, fun x hx => ?_, HG.out.2.drewN _⟩
              have h1 := HP.out.1
              have h2 := HP.out.2
              by_cases e : x = I
              · subst e; exact Int.le_refl _
              · have := HG.out.1 x (by omega); omega
            case measure => simp [intOf]; omega
          · go_wp2
            go_quiet (fail)
            go_wp2
            go_roundw
            case rel =>
              refine ⟨B, I + 1, by omega, hBN, rfl, by go_num, fun x hx => ?_, HG.out.2.drewN _⟩
              have h1 := HP.out.1
              have h2 := HP.out.2
              by_cases e : x = I
              · subst e; omega
              · exact HG.out.1 x (by omega)
            case measure => simp [intOf]; omega
        · obtain rfl : I = N := by omega
          obtain ⟨C, hC1, hC2, _⟩ := HF.out.1.ok B (by rw [HNM.out.2.2.1]; exact hBN)
          have hin : (C : Int) ∈ M := by
            have := lowest_kept HNM.out.1 HNM.out.2.1 HNM.out.2.2.1 HF.out.1 HF.out.2.1 hBN HG.out.1
            rw [HF.out.2.2, ← hC1]
            exact this
          have HIN : Hid (decide ((C : Int) ∈ M) = true ∧ fs.getD B 0 = C ∧ Grew w7 wr) := Lib.hid ⟨decide_eq_true hin, hC1, HG.out.2⟩
          obtain ⟨wo, ewo⟩ : ∃ wo : World, wo = wr := ⟨_, rfl⟩
          clear hin hC1 HG
          go_wp2
          go_loopw [9] (fun k wi => ∃ j : Nat, j ≤ ln ∧ k = .int .i64 (j : Int) ∧ Hid (Grew w7 wi)) (fun k _ => ln - (intOf k).toNat)
          case atStart => exact ⟨0, Nat.zero_le _, rfl, HIN.out.2.2⟩
          case round =>
            obtain ⟨j, hj, rfl, HG⟩ := hrel
            by_cases hlt : j < ln
            · obtain ⟨a8, b8, o8, c8, e8, _, ha8, HC8⟩ := (H7.out.2.2.1.grew HG.out).shape
              rw [HLN.out] at e8 ha8 HC8
              obtain ⟨rfl, rfl⟩ : a2 = a8 ∧ c2 = c8 := by simp at e8; exact e8
              obtain rfl := ha8 (by omega)
              have hlc := HC8.out j hlt
              have hmem : M.getD j 0 ∈ M := by
                have : j < M.length := by rw [HLN.out]; exact hlt
                rw [List.getD_eq_getElem?_getD, List.getElem?_eq_getElem this]; exact List.getElem_mem this
              obtain ⟨y, ey⟩ : ∃ y, M.getD j 0 = y := ⟨_, rfl⟩
              rw [ey] at hlc hmem
              rw [HF.out.2.2] at hmem
              obtain ⟨Y, rfl, hY1, hY2, _⟩ := mem_keptL.1 hmem
              have hc1 := HG.out.cell (H7.out.1 Y hY1)
              rw [hY2] at hc1
              have hYi : (Y : Int) < (I : Int) := by omega
              have hji : (j : Int) < (ln : Int) := by omega
              have HG2 : Hid (∀ q, Grew w7 (wr.drewN q)) := Lib.hid fun q => HG.out.drewN q
              clear e8 ha8 HC8 hmem ey hY2 HG
              go_wp2
              go_quiet (fail)
              go_wp2
              go_roundw
              case rel => exact ⟨j + 1, by omega, by go_num, HG2.out _⟩
              case measure => simp [intOf]; omega
            · have hc1 := HG.out.cell (H7.out.1 B hBN)
              rw [HIN.out.2.1] at hc1
              have hBi : (B : Int) < (I : Int) := by omega
              have HV2 := Lib.hid (isIn_any _ M (C : Int) wr (H7.out.2.2.1.grew HG.out))
              have HG3 := Lib.hid (hgg.out.trans (H7.out.2.2.2.trans HG.out))
              have HV3 := HV2.out
              rw [HIN.out.1] at HV3
              have HV4 := Lib.hid HV3
              clear HV3 HV2 HG
              go_wp2_with (fail)
              refine HV4.out.mono ?_
              rintro e w9 ⟨rfl, rfl⟩
              go_wp2
              go_ret
              exact ⟨rfl, HG3.out⟩
end Go.Proofs.YtdjjimnfhfdjdaaDoor
