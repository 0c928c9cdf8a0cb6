/- The law FnPeaksOf returns true. -/
import Derived.Test.YtdjjimnfhfdjdaaDoorLawPitsOf
import Derived.Test.YtdjjimnfhfdjdaaDoorUnder
import Derived.Test.YtdjjimnfhfdjdaaDoorAscends
namespace Go.Proofs.YtdjjimnfhfdjdaaDoor
open Go.RowKit

theorem Reach.congr {n m i j : Nat} {J K : Nat → Nat → Bool} (hn : n ≤ 5) (hm : m ≤ 5) (hJK : ∀ i k, i < n * m → k < n * m → J i k = K i k) (hi : i < n * m) (h : Reach n m J i j) : Reach n m K i j := by
  induction h with
  | refl => exact .refl
  | step hj hk he ih =>
    have hjN := hj.lt hn hm hi
    exact .step ih hk (by rw [← hJK _ _ hjN (around_lt hn hm hjN hk)]; exact he)
theorem Flats.congr {n m : Nat} {J K : Nat → Nat → Bool} {f : List Int} (hn : n ≤ 5) (hm : m ≤ 5) (hJK : ∀ i k, i < n * m → k < n * m → J i k = K i k) (F : Flats n m J f) : Flats n m K f :=
  ⟨F.len, fun i hi => by
    obtain ⟨j, h1, h2, h3⟩ := F.ok i hi
    exact ⟨j, h1, h2, h3.congr hn hm hJK hi⟩, fun i hi k hk he => F.same i hi k hk (by rw [hJK i k hi (around_lt hn hm hi hk)]; exact he)⟩
theorem flatsL_congr {n m : Nat} {J K : Nat → Nat → Bool} (hn : n ≤ 5) (hm : m ≤ 5) (hJ : Symm J) (hJK : ∀ i k, i < n * m → k < n * m → J i k = K i k) : flatsL n m K = flatsL n m J :=
  ((flatsL_ok hJ hn hm).congr hn hm hJK).eq hn hm
theorem under_flat (h : List (List Int)) : (underL h).flatten = h.flatten.map fun x => 12 - x := by
  unfold underL
  induction h with
  | nil => rfl
  | cons a l ih => simp only [List.map_cons, List.flatten_cons, List.map_append] at ih ⊢; rw [ih]
/-- Pits upside down are peaks. -/
theorem pits_under {h : List (List Int)} (hg : vGrid h = true) : pitsL (underL h) = peaksL h := by
  have G := Grid.of hg
  obtain ⟨n, en⟩ : ∃ n, h.length = n := ⟨_, rfl⟩
  obtain ⟨m, em⟩ : ∃ m, (h.getD 0 []).length = m := ⟨_, rfl⟩
  obtain ⟨p, ep⟩ : ∃ p, h.flatten = p := ⟨_, rfl⟩
  have hn5 := G.n5
  have hm5 := G.m5
  rw [en] at hn5
  rw [em] at hm5
  have G2 := under_grid G
  have hg2 := G2.to
  have en2 : (underL h).length = n := by rw [← en]; simp [underL]
  have em2 : ((underL h).getD 0 []).length = m := by rw [G2.len 0 G2.n1, em]
  have ep2 : (underL h).flatten = p.map fun x => 12 - x := by rw [under_flat, ep]
  have hpl := flat_grid_len G
  rw [en, em, ep] at hpl
  have hq : ∀ i, i < n * m → (p.map fun x => 12 - x).getD i 0 = 12 - p.getD i 0 := fun i hi => by
    have : i < p.length := by omega
    simp [this]
  have hJK : ∀ i k, i < n * m → k < n * m → sameH p i k = sameH (p.map fun x => 12 - x) i k := fun i k hi hk => by
    rw [Bool.eq_iff_iff, sameH_iff, sameH_iff, hq i hi, hq k hk]
    omega
  have eF := flatsL_congr hn5 hm5 (sameH_symm p) hJK
  obtain ⟨bs, hF, hB, hE⟩ := endsL_some (ov := ovUp) hg en em ep rfl (beat_exists n m (n * m) p (flatsL n m (sameH p)) ovUp rfl)
  rw [peaksL, hE, pitsL]
  refine endsL_yes hg2 en2 em2 ep2 rfl (hF.congr hn5 hm5 hJK) ⟨hB.len, fun c hc => (hB.iff c hc).trans ?_⟩
  constructor
  · rintro ⟨x, s, k, h1, h2, h3, h4, h5, h6⟩
    have hkm : (k : Int) ∈ aroundL n m x := by
      rw [← h4, List.getD_eq_getElem?_getD, List.getElem?_eq_getElem h3]
      exact List.getElem_mem h3
    refine ⟨x, s, k, h1, h2, h3, h4, ?_, h6⟩
    rw [hq _ (around_lt hn5 hm5 h2 hkm), hq _ h2]
    simp only [ovUp, ovDown, decide_eq_true_eq] at h5 ⊢
    omega
  · rintro ⟨x, s, k, h1, h2, h3, h4, h5, h6⟩
    have hkm : (k : Int) ∈ aroundL n m x := by
      rw [← h4, List.getD_eq_getElem?_getD, List.getElem?_eq_getElem h3]
      exact List.getElem_mem h3
    refine ⟨x, s, k, h1, h2, h3, h4, ?_, h6⟩
    rw [hq _ (around_lt hn5 hm5 h2 hkm), hq _ h2] at h5
    simp only [ovUp, ovDown, decide_eq_true_eq] at h5 ⊢
    omega
theorem ascB_of {xs : List Int} (h : xs.Pairwise (· < ·)) : ascB xs = true := by
  unfold ascB ascTo
  rw [List.all_eq_true]
  intro k hk
  have hk' := List.mem_range.1 hk
  by_cases e : k = 0
  · simp [e]
  · have := List.pairwise_iff_getElem.1 h (k - 1) k (by omega) hk' (by omega)
    have e1 : xs.getD (k - 1) 0 = xs[k - 1] := by simp [show k - 1 < xs.length by omega]
    have e2 : xs.getD k 0 = xs[k] := by simp [hk']
    rw [e1, e2]
    simp [this]
theorem keptL_asc (fs : List Int) (bs : List Bool) (k : Nat) : ascB (keptL fs bs k) = true := by
  refine ascB_of ?_
  unfold keptL
  rw [List.pairwise_map]
  exact (List.pairwise_lt_range.filter _).imp fun h => by omega

set_option maxRecDepth 100000 in
set_option maxHeartbeats 4000000 in
theorem FnPeaksOf_any (v : Value) (bs : List Int) (w : World) (hv : NumsV .u8 w v bs) (hb : ∀ i, i < bs.length → 0 ≤ bs.getD i 0 ∧ bs.getD i 0 ≤ 255) (hS : Steps w) :
    Calls Tryd.prog 3 #[v] w fun e w' => e = .returned (.bool true) ∧ Grew w w' := by
  have HD := Lib.hid (DrawPeaksOf_any v bs w hv hb)
  have HS := Lib.hid hS
  obtain ⟨a, b, o, c, rfl, ⟨hlc, hcb⟩, _, _⟩ := hv.shape
  clear hv hb hS
  by_cases hbig : 1048576 < bs.length
  · go_enter Tryd.func3, Tryd.ntmps3
    go_wp2
    go_ret
    exact ⟨rfl, Grew.refl _⟩
  · go_enter Tryd.func3, Tryd.ntmps3
    go_wp2_with (fail)
    refine HD.out.mono ?_
    rintro e w1 ⟨v1, H, rfl, hO, hd, hg1⟩
    have HV := Lib.hid (And.intro hO.toV hg1)
    obtain ⟨a1, c1, rfl⟩ := hO.sh
    obtain ⟨M, eM⟩ : ∃ M, peaksL H = M := ⟨_, rfl⟩
    have HM := Lib.hid eM
    clear hO hd hg1 HD
    go_wp2_with (fail)
    refine (PeaksOf_any _ H _ HV.out.1 (HS.out.grew HV.out.2)).mono ?_
    rw [eM]
    rintro e w2 ho2
    obtain ⟨a2, c2, rfl, hO2, hg2⟩ := ho2.shape
    have H2 := Lib.hid (And.intro hO2.toV hg2)
    have hMl := hO2.len
    clear hO2 hg2 ho2
    go_wp2_with (fail)
    refine (SPeaksOf_any _ H _ (HV.out.1.grew H2.out.2)).mono ?_
    rw [eM]
    rintro e w3 ho3
    obtain ⟨a3, c3, rfl, hO3, hg3⟩ := ho3.shape
    have H3 : Hid (IntsV w3 (.slice a2 M.length c2) M ∧ IntsV w3 (.slice a3 M.length c3) M ∧ RowsV w3 (.slice a1 H.length c1) H ∧ Grew w w3) :=
      Lib.hid ⟨H2.out.1.grew hg3, hO3.toV, HV.out.1.grew (H2.out.2.trans hg3), HV.out.2.trans (H2.out.2.trans hg3)⟩
    clear hO3 hg3 ho3 H2 HV eM
    go_wp2_with (fail)
    refine (equalInts_any _ _ M M _ H3.out.1 H3.out.2.1).mono ?_
    rw [decide_eq_true (rfl : M = M)]
    rintro e w4 ⟨rfl, hq4⟩
    have hg4 := quiet_grew hq4
    have H4 : Hid (IntsV w4 (.slice a2 M.length c2) M ∧ RowsV w4 (.slice a1 H.length c1) H ∧ Grew w w4) :=
      Lib.hid ⟨H3.out.1.grew hg4, H3.out.2.2.1.grew hg4, H3.out.2.2.2.trans hg4⟩
    clear hq4 hg4 H3
    have HVG := Lib.hid (ValidGrid_any _ H _ H4.out.2.1)
    cases hvg : vGrid H with
    | false =>
      have HVG2 := HVG.out
      rw [hvg] at HVG2
      have HVG3 := Lib.hid HVG2
      clear hvg HVG2 HVG
      go_wp2_with (fail)
      refine HVG3.out.mono ?_
      rintro e w5 ⟨rfl, rfl⟩
      go_wp2_with (fail)
      refine (SPeaksOf_any _ H _ H4.out.2.1).mono ?_
      rw [HM.out]
      rintro e w5 ho5
      obtain ⟨a5, c5, rfl, hO5, hg5⟩ := ho5.shape
      have H5 := Lib.hid (And.intro hO5.toV hg5)
      clear hO5 hg5 ho5
      go_wp2_with (fail)
      refine (equalInts_any _ _ M M _ (H4.out.1.grew H5.out.2) H5.out.1).mono ?_
      rw [decide_eq_true (rfl : M = M)]
      rintro e w6 ⟨rfl, hq6⟩
      have H6 := Lib.hid (quiet_grew hq6)
      clear hq6
      go_wp2
      go_ret
      exact ⟨rfl, H4.out.2.2.trans (H5.out.2.trans H6.out)⟩
    | true =>
      have HVG2 := HVG.out
      rw [hvg] at HVG2
      have HVG3 := Lib.hid HVG2
      have G := Grid.of hvg
      obtain ⟨n, en⟩ : ∃ n, H.length = n := ⟨_, rfl⟩
      obtain ⟨m, em⟩ : ∃ m, (H.getD 0 []).length = m := ⟨_, rfl⟩
      obtain ⟨N, eN⟩ : ∃ N, n * m = N := ⟨_, rfl⟩
      have hpl := flat_grid_len G
      rw [en, em, eN] at hpl
      obtain ⟨p, ep⟩ : ∃ p, H.flatten = p := ⟨_, rfl⟩
      rw [ep] at hpl
      have hn5 := G.n5
      have hn1 := G.n1
      have hm5 := G.m5
      have hm1 := G.m1
      rw [en] at hn5 hn1
      rw [em] at hm5 hm1
      have hN25 : N ≤ 25 := by rw [← eN]; exact Nat.mul_le_mul hn5 hm5
      have hN1 : 1 ≤ N := by rw [← eN]; exact Nat.mul_pos hn1 hm1
      obtain ⟨bt, hF, hB, hE⟩ := endsL_some hvg en em ep eN (beat_exists n m N p (flatsL n m (sameH p)) ovUp eN)
      have hMe : M = keptL (flatsL n m (sameH p)) bt N := by rw [← HM.out]; exact hE
      have hFl : flatsOfL H = shapeL (flatsL n m (sameH p)) m n := by rw [flatsOfL, if_pos hvg, en, em, ep]
      obtain ⟨fs, efs⟩ : ∃ fs, flatsL n m (sameH p) = fs := ⟨_, rfl⟩
      rw [efs] at hF hB hMe hFl
      have HF := Lib.hid (And.intro hF (And.intro hB hMe))
      have hfl : fs.length = N := by rw [hF.len]; exact eN
      have hH3 : ∀ r, r < H.length → 1 ≤ (H.getD r []).length ∧ (H.getD r []).length ≤ 1000 := fun r hr => by
        have := G.len r hr
        have := G.m1
        have := G.m5
        omega
      have HR2 : Hid (Calls Tryd.prog 17 #[.slice a1 H.length c1] w4 (FlatPost w4 p)) := Lib.hid (by
        have := rowOf_any _ H w4 H4.out.2.1 (by omega) hH3
        rwa [ep] at this)
      have HFO : Hid (∀ W, Grew w4 W → Calls Tryd.prog 21 #[.slice a1 H.length c1] W (NewRows W (shapeL fs m n))) := Lib.hid fun W hW => by
        have := FlatsOf_any _ H W (H4.out.2.1.grew hW) (HS.out.grew (H4.out.2.2.trans hW))
        rwa [hFl] at this
      have HRS : Hid (∀ v W, RowsV W v (shapeL fs m n) → Calls Tryd.prog 17 #[v] W (FlatPost W fs)) := Lib.hid fun v W hv => by
        have := rowOf_any v (shapeL fs m n) W hv (by rw [shapeL_len]; omega) (fun r hr => by
          rw [shapeL_len] at hr
          rw [shapeL_row fs n m r hF.len hr]
          omega)
        rwa [shapeL_flat fs n m hF.len] at this
      have HNM := Lib.hid (And.intro hn5 (And.intro hm5 (And.intro eN (And.intro hfl hpl))))
      have HSL := Lib.hid (shapeL_len fs m n)
      have hgg := Lib.hid H4.out.2.2
      have HUR : Hid (∀ W, Grew w4 W → Calls Tryd.prog 19 #[.slice a1 H.length c1] W (NewRows W (underL H))) := Lib.hid fun W hW => under_any _ H W (H4.out.2.1.grew hW) hvg
      have HPU : Hid (pitsL (underL H) = M) := Lib.hid (by rw [pits_under hvg, HM.out])
      obtain ⟨ln, eln⟩ : ∃ ln, M.length = ln := ⟨_, rfl⟩
      have HLN := Lib.hid eln
      have HMV := Lib.hid H4.out.1
      have hln : ln ≤ 25 := by rw [← eln, hMe]; exact Nat.le_trans (keptL_le _ _ _) hN25
      rw [eln] at HMV ⊢
      clear hvg HVG HVG2 G en em eN hpl ep hn5 hn1 hm5 hm1 hF hB hMe hE hFl efs hfl hH3 HM H4 eln hMl
      go_wp2_with (fail)
      refine HVG3.out.mono ?_
      rintro e w5 ⟨rfl, rfl⟩
      go_wp2_with (fail)
      refine HR2.out.mono ?_
      rintro e w5 ⟨g5, c5, rfl, hO5, hg5⟩
      rw [HNM.out.2.2.2.2] at hO5 ⊢
      have H5 := Lib.hid (And.intro hO5 hg5)
      clear hO5 hg5 HR2 HVG3
      have H5b : Hid ((∀ i, i < N → w5.cell? ⟨g5, i, none⟩ = some (.int .i64 (p.getD i 0))) ∧ Grew w4 w5) :=
        Lib.hid ⟨fun i hi => (H5.out.1.at rfl (by rw [HNM.out.2.2.2.2]; exact hi)).1, H5.out.2⟩
      clear H5
      have H5 := H5b
      clear H5b
      go_wp2
      go_loopw [6, 7] (fun lo i wr => ∃ B I : Nat, I ≤ N ∧ B < N ∧ lo = .int .i64 (B : Int) ∧ i = .int .i64 (I : Int) ∧ Hid ((∀ x, x < I → p.getD x 0 ≤ p.getD B 0) ∧ Grew w5 wr)) (fun _ i _ => N - (intOf i).toNat)
      case atStart => exact ⟨0, 0, Nat.zero_le _, hN1, rfl, rfl, fun _ h => absurd h (Nat.not_lt_zero _), Grew.refl _⟩
      case round =>
        obtain ⟨B, I, hI1, hBN, rfl, rfl, HG⟩ := hrel
        by_cases hI : I < N
        · have hc1 := HG.out.2.cell (H5.out.1 I hI)
          have hc2 := HG.out.2.cell (H5.out.1 B hBN)
          obtain ⟨pi, epi⟩ : ∃ pi, p.getD I 0 = pi := ⟨_, rfl⟩
          obtain ⟨pb, epb⟩ : ∃ pb, p.getD B 0 = pb := ⟨_, rfl⟩
          rw [epi] at hc1
          rw [epb] at hc2
          have hIi : (I : Int) < (N : Int) := by omega
          have hBi : (B : Int) < (N : Int) := by omega
          have HP := Lib.hid (And.intro epi epb)
          clear epi epb
          by_cases hlt : pb < pi
          · go_wp2
            go_quiet (fail)
            go_wp2
            go_roundw
            case rel =>
              refine ⟨I, I + 1, by omega, hI, rfl, by go_num, fun x hx => ?_, HG.out.2.drewN _⟩
              have h1 := HP.out.1
              have h2 := HP.out.2
              by_cases e : x = I
              · subst e; exact Int.le_refl _
              · have := HG.out.1 x (by omega); omega
            case measure => simp [intOf]; omega
          · go_wp2
            go_quiet (fail)
            go_wp2
            go_roundw
            case rel =>
              refine ⟨B, I + 1, by omega, hBN, rfl, by go_num, fun x hx => ?_, HG.out.2.drewN _⟩
              have h1 := HP.out.1
              have h2 := HP.out.2
              by_cases e : x = I
              · subst e; omega
              · exact HG.out.1 x (by omega)
            case measure => simp [intOf]; omega
        · obtain rfl : I = N := by omega
          obtain ⟨C, hC1, hC2, _⟩ := HF.out.1.ok B (by rw [HNM.out.2.2.1]; exact hBN)
          have hin : (C : Int) ∈ M := by
            have := highest_kept HNM.out.1 HNM.out.2.1 HNM.out.2.2.1 HF.out.1 HF.out.2.1 hBN HG.out.1
            rw [HF.out.2.2, ← hC1]
            exact this
          have hasc : ascB M = true := by rw [HF.out.2.2]; exact keptL_asc _ _ _
          have HIN : Hid (decide ((C : Int) ∈ M) = true ∧ fs.getD B 0 = C ∧ Grew w5 wr ∧ ascB M = true) := Lib.hid ⟨decide_eq_true hin, hC1, HG.out.2, hasc⟩
          have hg5r := H5.out.2.trans HG.out.2
          have HUN := Lib.hid (HUR.out wr hg5r)
          clear hin hC1 HG hasc
          have HG5 := Lib.hid hg5r
          clear hg5r
          go_wp2_with (fail)
          refine HUN.out.mono ?_
          rintro e w6 ⟨v6, rfl, hO6, hg6⟩
          obtain ⟨a6, c6, rfl⟩ := hO6.sh
          have H6 := Lib.hid (And.intro hO6.toV hg6)
          clear hO6 hg6 HUN
          go_wp2_with (fail)
          refine (PitsOf_any _ (underL H) _ H6.out.1 (HS.out.grew (hgg.out.trans (HG5.out.trans H6.out.2)))).mono ?_
          rw [HPU.out]
          rintro e w7 ho7
          obtain ⟨a7, c7, rfl, hO7, hg7⟩ := ho7.shape
          rw [HLN.out] at hO7 ⊢
          have H7 : Hid (IntsV w7 (.slice a7 ln c7) M ∧ IntsV w7 (.slice a2 ln c2) M ∧ Grew w4 w7) :=
            Lib.hid ⟨hO7.toV, HMV.out.grew (HG5.out.trans (H6.out.2.trans hg7)), HG5.out.trans (H6.out.2.trans hg7)⟩
          clear hO7 hg7 ho7 H6
          go_wp2_with (fail)
          refine (equalInts_any _ _ M M _ H7.out.1 H7.out.2.1).mono ?_
          rw [decide_eq_true (rfl : M = M)]
          rintro e w8 ⟨rfl, hq8⟩
          have H8 := Lib.hid (H7.out.2.2.trans (quiet_grew hq8))
          clear hq8
          go_wp2_with (fail)
          refine (HFO.out _ H8.out).mono ?_
          rintro e w9 ⟨v9, rfl, hO9, hg9⟩
          obtain ⟨a9, c9, rfl⟩ := hO9.sh
          rw [HSL.out] at hO9 ⊢
          have H9 := Lib.hid (And.intro hO9.toV (H8.out.trans hg9))
          clear hO9 hg9
          go_wp2_with (fail)
          refine (HRS.out _ _ H9.out.1).mono ?_
          rintro e w10 ⟨g10, c10, rfl, hO10, hg10⟩
          rw [HNM.out.2.2.2.1] at hO10 ⊢
          have hc1 := (hO10.at rfl (i := B) (by rw [HNM.out.2.2.2.1]; exact hBN)).1
          rw [HIN.out.2.1] at hc1
          have hBi : (B : Int) < (I : Int) := by omega
          have hg10' := H9.out.2.trans hg10
          have HV2 := isIn_any _ M (C : Int) w10 (HMV.out.grew hg10')
          rw [HIN.out.1] at HV2
          have HV4 := Lib.hid HV2
          have HAS := ascends_any _ M w10 (HMV.out.grew hg10')
          rw [HIN.out.2.2.2] at HAS
          have HAS2 := Lib.hid HAS
          have HG10 := Lib.hid (hgg.out.trans hg10')
          clear hO10 hg10 hg10' HV2 HAS
          go_wp2_with (fail)
          refine HV4.out.mono ?_
          rintro e w11 ⟨rfl, rfl⟩
          go_wp2_with (fail)
          refine HAS2.out.mono ?_
          rintro e w12 ⟨rfl, hq12⟩
          have H12 := Lib.hid (HG10.out.trans (quiet_grew hq12))
          clear hq12
          go_wp2
          go_ret
          exact ⟨rfl, H12.out⟩
end Go.Proofs.YtdjjimnfhfdjdaaDoor
