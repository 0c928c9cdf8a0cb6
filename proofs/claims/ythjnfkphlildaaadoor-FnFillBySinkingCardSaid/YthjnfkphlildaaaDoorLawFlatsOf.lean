/- The law FnFlatsOf returns true. -/
import Derived.Test.YthjnfkphlildaaaDoorShapes2
import Derived.Test.YthjnfkphlildaaaDoorFlatsOf
import Derived.Test.YthjnfkphlildaaaDoorDraws
import Derived.Test.YthjnfkphlildaaaDoorEqualRows
namespace Go.Proofs.YthjnfkphlildaaaDoor
open Go.RowKit

/-- The cells beside a cell of a grid, as AroundOf hands them back. -/
theorem aroundOfL_in {h : List (List Int)} {n m I : Nat} (hg : vGrid h = true) (en : h.length = n) (em : (h.getD 0 []).length = m) (hI : I < n * m) : aroundOfL h (I : Int) = aroundL n m I := by
  have hc : vCell h (I : Int) = true := by
    have e2 : ((h.length * (h.getD 0 []).length : Nat) : Int) = (h.length : Int) * (h.getD 0 []).length := by simp
    rw [vCell, hg]
    simp only [Bool.true_and, Bool.and_eq_true, decide_eq_true_eq]
    refine ⟨by omega, ?_⟩
    rw [← e2, en, em]
    omega
  rw [aroundOfL, hc, if_pos rfl, Int.toNat_natCast, en, em]

set_option maxRecDepth 100000 in
set_option maxHeartbeats 4000000 in
theorem FnFlatsOf_any (v : Value) (bs : List Int) (w : World) (hv : NumsV .u8 w v bs) (hb : ∀ i, i < bs.length → 0 ≤ bs.getD i 0 ∧ bs.getD i 0 ≤ 255) (hS : Steps w) :
    Calls Tryd.prog 3 #[v] w fun e w' => e = .returned (.bool true) ∧ Grew w w' := by
  have HD := Lib.hid (DrawFlatsOf_any v bs w hv hb)
  have HS := Lib.hid hS
  obtain ⟨a, b, o, c, rfl, ⟨hlc, hcb⟩, _, _⟩ := hv.shape
  clear hv hb hS
  by_cases hbig : 1048576 < bs.length
  · go_enter Tryd.func3, Tryd.ntmps3
    go_wp2
    go_ret
    exact ⟨rfl, Grew.refl _⟩
  · go_enter Tryd.func3, Tryd.ntmps3
    go_wp2_with (fail)
    refine HD.out.mono ?_
    rintro e w1 ⟨v1, H, rfl, hO, hd, hg1⟩
    have HV := Lib.hid (And.intro hO.toV hg1)
    obtain ⟨a1, c1, rfl⟩ := hO.sh
    obtain ⟨M, eM⟩ : ∃ M, flatsOfL H = M := ⟨_, rfl⟩
    have HM := Lib.hid eM
    clear hO hd hg1 HD
    go_wp2_with (fail)
    refine (FlatsOf_any _ H _ HV.out.1 (HS.out.grew HV.out.2)).mono ?_
    rw [eM]
    rintro e w2 ⟨v2, rfl, hO2, hg2⟩
    obtain ⟨a2, c2, rfl⟩ := hO2.sh
    have H2 := Lib.hid (And.intro hO2.toV hg2)
    clear hO2 hg2
    go_wp2_with (fail)
    refine (SFlatsOf_any _ H _ (HV.out.1.grew H2.out.2)).mono ?_
    rw [eM]
    rintro e w3 ⟨v3, rfl, hO3, hg3⟩
    obtain ⟨a3, c3, rfl⟩ := hO3.sh
    have H3 : Hid (RowsV w3 (.slice a2 M.length c2) M ∧ RowsV w3 (.slice a3 M.length c3) M ∧ RowsV w3 (.slice a1 H.length c1) H ∧ Grew w w3) :=
      Lib.hid ⟨H2.out.1.grew hg3, hO3.toV, HV.out.1.grew (H2.out.2.trans hg3), HV.out.2.trans (H2.out.2.trans hg3)⟩
    clear hO3 hg3 H2 HV eM
    go_wp2_with (fail)
    refine (equalRows_any _ _ M M _ H3.out.1 H3.out.2.1).mono ?_
    rw [decide_eq_true (rfl : M = M)]
    rintro e w4 ⟨rfl, hq4⟩
    have hg4 := quiet_grew hq4
    have H4 : Hid (RowsV w4 (.slice a2 M.length c2) M ∧ RowsV w4 (.slice a1 H.length c1) H ∧ Grew w w4) :=
      Lib.hid ⟨H3.out.1.grew hg4, H3.out.2.2.1.grew hg4, H3.out.2.2.2.trans hg4⟩
    clear hq4 hg4 H3
    cases hvg : vGrid H with
    | false =>
      have eM0 : M = [] := by rw [← HM.out, flatsOfL_no hvg]
      have ht : ((M.length : Int) == 0) = true := by simp [eM0]
      have HM0 := Lib.hid eM0
      clear hvg eM0
      go_wp2_with (fail)
      refine (SFlatsOf_any _ H _ H4.out.2.1).mono ?_
      rw [HM.out]
      rintro e w5 ⟨v5, rfl, hO5, hg5⟩
      obtain ⟨a5, c5, rfl⟩ := hO5.sh
      have H5 := Lib.hid (And.intro hO5.toV hg5)
      clear hO5 hg5
      go_wp2_with (fail)
      refine (equalRows_any _ _ M M _ (H4.out.1.grew H5.out.2) H5.out.1).mono ?_
      rw [decide_eq_true (rfl : M = M)]
      rintro e w6 ⟨rfl, hq6⟩
      have H6 := Lib.hid (quiet_grew hq6)
      clear hq6
      go_wp2
      go_ret
      exact ⟨rfl, H4.out.2.2.trans (H5.out.2.trans H6.out)⟩
    | true =>
      have G := Grid.of hvg
      obtain ⟨n, en⟩ : ∃ n, H.length = n := ⟨_, rfl⟩
      obtain ⟨m, em⟩ : ∃ m, (H.getD 0 []).length = m := ⟨_, rfl⟩
      obtain ⟨N, eN⟩ : ∃ N, n * m = N := ⟨_, rfl⟩
      have hpl := flat_grid_len G
      rw [en, em, eN] at hpl
      obtain ⟨p, ep⟩ : ∃ p, H.flatten = p := ⟨_, rfl⟩
      rw [ep] at hpl
      have hn5 := G.n5
      have hn1 := G.n1
      have hm5 := G.m5
      have hm1 := G.m1
      rw [en] at hn5 hn1
      rw [em] at hm5 hm1
      have hN25 : N ≤ 25 := by rw [← eN]; exact Nat.mul_le_mul hn5 hm5
      have hFe : ∃ fs, Flats n m (sameH p) fs ∧ M = shapeL fs m n := by
        refine ⟨flatsL n m (sameH p), ?_, ?_⟩
        · exact flatsL_ok (sameH_symm p) hn5 hm5
        · rw [← HM.out, flatsOfL, if_pos hvg, en, em, ep]
      obtain ⟨fs, hF, hMs⟩ := hFe
      have HF := Lib.hid hF
      have hfl : fs.length = N := by rw [hF.len]; exact eN
      have hM1 : M.flatten = fs := by rw [hMs]; exact shapeL_flat fs n m hF.len
      have hM2 : M.length = n := by rw [hMs]; exact shapeL_len _ _ _
      have hM3 : ∀ r, r < M.length → 1 ≤ (M.getD r []).length ∧ (M.getD r []).length ≤ 1000 := fun r hr => by
        rw [hM2] at hr
        rw [hMs, shapeL_row fs n m r hF.len hr]
        omega
      have hH3 : ∀ r, r < H.length → 1 ≤ (H.getD r []).length ∧ (H.getD r []).length ≤ 1000 := fun r hr => by
        have := G.len r hr
        have := G.m1
        have := G.m5
        omega
      have HR1 := Lib.hid (rowOf_any _ M _ H4.out.1 (by omega) hM3)
      have HR2 : Hid (∀ W, Grew w4 W → Calls Tryd.prog 19 #[.slice a1 H.length c1] W (FlatPost W p)) := Lib.hid fun W hW => by
        have := rowOf_any _ H W (H4.out.2.1.grew hW) (by omega) hH3
        rwa [ep] at this
      have HA : Hid (∀ (I : Nat) W, Grew w4 W → I < N → Calls Tryd.prog 20 #[.slice a1 H.length c1, .int .i64 I] W (OwnI W (aroundL n m I))) := Lib.hid fun I W hW hI => by
        have := AroundOf_any _ H (I : Int) W (H4.out.2.1.grew hW) (HS.out.grew (H4.out.2.2.trans hW))
        rwa [aroundOfL_in hvg en em (by rw [eN]; exact hI)] at this
      rw [hM1] at HR1
      have ht : ((M.length : Int) == 0) = false := beq_eq_false_iff_ne.2 (by omega)
      have HNM := Lib.hid (And.intro hn5 (And.intro hm5 (And.intro eN (And.intro hfl hpl))))
      have hgg := Lib.hid H4.out.2.2
      clear hvg G en em eN hpl ep hn5 hn1 hm5 hm1 hF hMs hfl hM1 hM2 hM3 hH3 HM
      go_wp2_with (fail)
      refine HR1.out.mono ?_
      rintro e w5 ⟨g5, c5, rfl, hO5, hg5⟩
      rw [HNM.out.2.2.2.1] at hO5 ⊢
      have H5 := Lib.hid (And.intro hO5 hg5)
      clear hO5 hg5 ht
      go_wp2_with (fail)
      refine (HR2.out _ H5.out.2).mono ?_
      rintro e w6 ⟨g6, c6, rfl, hO6, hg6⟩
      rw [HNM.out.2.2.2.2] at hO6 ⊢
      have H6 : Hid ((∀ i, i < N → w6.cell? ⟨g5, i, none⟩ = some (.int .i64 (fs.getD i 0))) ∧ (∀ i, i < N → w6.cell? ⟨g6, i, none⟩ = some (.int .i64 (p.getD i 0))) ∧ Grew w4 w6) :=
        Lib.hid ⟨fun i hi => ((H5.out.1.grew hg6).at rfl (by rw [HNM.out.2.2.2.1]; exact hi)).1, fun i hi => (hO6.at rfl (by rw [HNM.out.2.2.2.2]; exact hi)).1, H5.out.2.trans hg6⟩
      clear hO6 hg6 H5 H4
      go_wp2
      go_loopw [7] (fun i wr => ∃ I : Nat, I ≤ N ∧ i = .int .i64 (I : Int) ∧ Hid (Grew w6 wr)) (fun i _ => N - (intOf i).toNat)
      case atStart => exact ⟨0, Nat.zero_le _, rfl, Grew.refl _⟩
      case round =>
        obtain ⟨I, hI1, rfl, HG⟩ := hrel
        by_cases hI : I < N
        · obtain ⟨C, hC1, hC2, hC3⟩ := HF.out.ok I (by rw [HNM.out.2.2.1]; exact hI)
          have hCN : C < N := by omega
          have hC4 : fs.getD C 0 = C := by rw [HF.out.reach HNM.out.1 HNM.out.2.1 (by rw [HNM.out.2.2.1]; exact hI) hC3, hC1]
          have hC5 := hC3.high
          have hc1 := HG.out.cell (H6.out.1 I hI)
          have hc2 := HG.out.cell (H6.out.1 C hCN)
          have hc3 := HG.out.cell (H6.out.2.1 I hI)
          have hc4 := HG.out.cell (H6.out.2.1 C hCN)
          rw [hC1] at hc1
          rw [hC4] at hc2
          rw [hC5] at hc4
          obtain ⟨pi, epi⟩ : ∃ pi, p.getD I 0 = pi := ⟨_, rfl⟩
          rw [epi] at hc3 hc4
          have HPI := Lib.hid (And.intro epi hC1)
          have hIi : (I : Int) < (N : Int) := by omega
          have hCi : (C : Int) < (N : Int) := by omega
          have hle : ¬ (I : Int) < (C : Int) := by omega
          have hle2 : ¬ I < C := by omega
          have HAI := Lib.hid (fun W (hW : Grew wr W) => HA.out I W (H6.out.2.2.trans (HG.out.trans hW)) hI)
          clear hC1 hC3 hC4 hC5 epi
          go_wp2
          go_quiet (fail)
          go_wp2_with (fail)
          refine (HAI.out _ ((Grew.refl _).drewN _)).mono ?_
          rintro e w7 ho7
          obtain ⟨a7, c7, rfl, hw7, hg7⟩ := ho7.shape
          obtain ⟨L, eL⟩ : ∃ L, aroundL n m I = L := ⟨_, rfl⟩
          have HL4 : Hid ((aroundL n m I).length ≤ 4) := Lib.hid (around_facts HNM.out.1 HNM.out.2.1 (by rw [HNM.out.2.2.1]; exact hI)).2.2
          rw [eL] at hw7 HL4 ⊢
          have hl4 := HL4.out
          have H7 : Hid (IntsV w7 (.slice a7 L.length c7) L ∧ Grew w6 w7 ∧ aroundL n m I = L) := Lib.hid ⟨hw7.toV, HG.out.trans (((Grew.refl _).drewN _).trans hg7), eL⟩
          clear ho7 hw7 hg7 eL hc1 hc2 hc3 hc4 hle hle2
          obtain ⟨wo, rfl⟩ : ∃ wo : World, wo = wr := ⟨_, rfl⟩
          go_wp2
          go_loopw [9] (fun i wi => ∃ t : Nat, t ≤ L.length ∧ i = .int .i64 (t : Int) ∧ Hid (Grew w7 wi)) (fun i _ => L.length - (intOf i).toNat)
          case atStart => exact ⟨0, Nat.zero_le _, rfl, Grew.refl _⟩
          case round =>
            obtain ⟨t, ht1, rfl, HT⟩ := hrel
            by_cases htl : t < L.length
            · have hgr := H7.out.2.1.trans HT.out
              obtain ⟨a8, b8, o8, c8, e8, _, ha8, HC8⟩ := (H7.out.1.grew HT.out).shape
              obtain ⟨rfl, rfl⟩ : a7 = a8 ∧ c7 = c8 := by simp at e8; exact e8
              obtain rfl := ha8 (by omega)
              have hlc := HC8.out t htl
              have hAf := (around_facts HNM.out.1 HNM.out.2.1 (I := I) (by rw [HNM.out.2.2.1]; exact hI)).1
              rw [H7.out.2.2] at hAf
              have hmem : L.getD t 0 ∈ L := by
                rw [List.getD_eq_getElem?_getD, List.getElem?_eq_getElem htl]; exact List.getElem_mem htl
              obtain ⟨y, ey⟩ : ∃ y, L.getD t 0 = y := ⟨_, rfl⟩
              rw [ey] at hlc hmem
              have hy := hAf y hmem
              obtain ⟨K, rfl⟩ := Int.eq_ofNat_of_zero_le hy.1
              have hKN : K < N := by have := hy.2.1; rw [HNM.out.2.2.1] at this; omega
              have hmK : (K : Int) ∈ aroundL n m I := by rw [H7.out.2.2]; exact hmem
              have hc1 := hgr.cell (H6.out.1 I hI)
              have hc3 := hgr.cell (H6.out.2.1 I hI)
              have hk1 := hgr.cell (H6.out.1 K hKN)
              have hk3 := hgr.cell (H6.out.2.1 K hKN)
              rw [HPI.out.2] at hc1
              rw [HPI.out.1] at hc3
              obtain ⟨fk, efk⟩ : ∃ fk, fs.getD K 0 = fk := ⟨_, rfl⟩
              obtain ⟨pk, epk⟩ : ∃ pk, p.getD K 0 = pk := ⟨_, rfl⟩
              rw [efk] at hk1
              rw [epk] at hk3
              have hsame : pk = pi → fk = C := fun h => by
                have := HF.out.same I (by rw [HNM.out.2.2.1]; exact hI) K hmK (sameH_iff.2 (by rw [HPI.out.1, epk, h]))
                rw [← efk, this, HPI.out.2]
              have hKi : (K : Int) < (N : Int) := by omega
              have hti : (t : Int) < (L.length : Int) := by omega
              have HT2 : Hid (∀ q, Grew w7 (wr.drewN q)) := Lib.hid fun q => HT.out.drewN q
              clear e8 ha8 HC8 hAf hmem ey hy hmK efk epk hgr HT
              by_cases hpp : pk = pi
              · obtain rfl := hsame hpp
                subst hpp
                clear hsame
                go_wp2
                go_quiet (fail)
                go_wp2
                go_roundw
                case rel => exact ⟨t + 1, by omega, by go_num, HT2.out _⟩
                case measure => simp [intOf]; omega
              · have hpb : (pk == pi) = false := beq_eq_false_iff_ne.2 hpp
                clear hsame
                go_wp2
                go_quiet (fail)
                go_wp2
                go_roundw
                case rel => exact ⟨t + 1, by omega, by go_num, HT2.out _⟩
                case measure => simp [intOf]; omega
            · have HT2 := Lib.hid (H7.out.2.1.trans HT.out)
              clear HT H7
              go_wp2
              go_roundw
              case rel => exact ⟨I + 1, by omega, by go_num, HT2.out⟩
              case measure => simp [intOf]; omega
        · go_wp2
          go_ret
          exact ⟨rfl, hgg.out.trans (H6.out.2.2.trans HG.out)⟩
end Go.Proofs.YthjnfkphlildaaaDoor
