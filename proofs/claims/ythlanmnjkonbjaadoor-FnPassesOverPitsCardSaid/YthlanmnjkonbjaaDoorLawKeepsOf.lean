/- The law FnKeepsOf returns true. -/
import Derived.Test.YthlanmnjkonbjaaDoorKeepsF
import Derived.Test.YthlanmnjkonbjaaDoorKeeps
import Derived.Test.YthlanmnjkonbjaaDoorSKeeps
namespace Go.Proofs.YthlanmnjkonbjaaDoor
open Go.RowKit

/-- How many of the first k keep for ever. -/
def everN (q : Int → Bool) (P : List Int) (k : Nat) : Nat := ((P.take k).filter q).length
theorem everN_next (q : Int → Bool) (P : List Int) (k : Nat) (hk : k < P.length) : everN q P (k + 1) = everN q P k + if q (P.getD k 0) then 1 else 0 := by
  unfold everN
  rw [List.take_succ_eq_append_getElem hk, List.filter_append, List.length_append]
  have : P.getD k 0 = P[k] := by simp [hk]
  rw [this]
  cases h : q P[k] <;> simp [h]
theorem everN_le (q : Int → Bool) (P : List Int) (k : Nat) : everN q P k ≤ k := by
  unfold everN
  exact Nat.le_trans (List.length_filter_le _ _) (by rw [List.length_take]; exact Nat.min_le_left _ _)

set_option maxRecDepth 100000 in
set_option maxHeartbeats 4000000 in
theorem FnKeepsOf_any (v : Value) (bs : List Int) (w : World) (hv : NumsV .u8 w v bs) (hb : ∀ i, i < bs.length → 0 ≤ bs.getD i 0 ∧ bs.getD i 0 ≤ 255) (hS : Steps w) :
    Calls Tryd.prog 7 #[v] w fun e w' => e = .returned (.bool true) ∧ Grew w w' := by
  have HD := Lib.hid (DrawKeepsOf_any v bs w hv hb)
  have HS := Lib.hid hS
  obtain ⟨a, b, o, c, rfl, ⟨hlc, hcb⟩, _, _⟩ := hv.shape
  clear hv hb hS
  by_cases hbig : 1048576 < bs.length
  · go_enter Tryd.func7, Tryd.ntmps7
    go_wp2
    go_ret
    exact ⟨rfl, Grew.refl _⟩
  · go_enter Tryd.func7, Tryd.ntmps7
    go_wp2_with (fail)
    refine HD.out.mono ?_
    rintro e w1 ⟨v1, H, rfl, hO, hd, hg1⟩
    have HV := Lib.hid (And.intro hO.toV hg1)
    obtain ⟨a1, c1, rfl⟩ := hO.sh
    obtain ⟨M, eM⟩ : ∃ M, keepsL H = M := ⟨_, rfl⟩
    have HM := Lib.hid eM
    clear hO hd hg1 HD
    go_wp2_with (fail)
    refine (KeepsOf_any _ H _ HV.out.1 (HS.out.grew HV.out.2)).mono ?_
    rw [eM]
    rintro e w2 ho2
    obtain ⟨a2, c2, rfl, hO2, hg2⟩ := ho2.shape
    have H2 := Lib.hid (And.intro hO2.toV hg2)
    clear hO2 hg2 ho2
    go_wp2_with (fail)
    refine (SKeepsOf_any _ H _ (HV.out.1.grew H2.out.2)).mono ?_
    rw [eM]
    rintro e w3 ho3
    obtain ⟨a3, c3, rfl, hO3, hg3⟩ := ho3.shape
    have H3 : Hid (IntsV w3 (.slice a2 M.length c2) M ∧ IntsV w3 (.slice a3 M.length c3) M ∧ RowsV w3 (.slice a1 H.length c1) H ∧ Grew w w3) :=
      Lib.hid ⟨H2.out.1.grew hg3, hO3.toV, HV.out.1.grew (H2.out.2.trans hg3), HV.out.2.trans (H2.out.2.trans hg3)⟩
    clear hO3 hg3 ho3 H2 HV eM
    go_wp2_with (fail)
    refine (equalInts_any _ _ M M _ H3.out.1 H3.out.2.1).mono ?_
    rw [decide_eq_true (rfl : M = M)]
    rintro e w4 ⟨rfl, hq4⟩
    have hg4 := quiet_grew hq4
    have H4 : Hid (IntsV w4 (.slice a2 M.length c2) M ∧ RowsV w4 (.slice a1 H.length c1) H ∧ Grew w w4) :=
      Lib.hid ⟨H3.out.1.grew hg4, H3.out.2.2.1.grew hg4, H3.out.2.2.2.trans hg4⟩
    clear hq4 hg4 H3
    have HVG := Lib.hid (ValidGrid_any _ H _ H4.out.2.1)
    cases hvg : vGrid H with
    | false =>
      have HVG2 := HVG.out
      rw [hvg] at HVG2
      have HVG3 := Lib.hid HVG2
      clear hvg HVG2 HVG
      go_wp2_with (fail)
      refine HVG3.out.mono ?_
      rintro e w5 ⟨rfl, rfl⟩
      go_wp2_with (fail)
      refine (SKeepsOf_any _ H _ H4.out.2.1).mono ?_
      rw [HM.out]
      rintro e w5 ho5
      obtain ⟨a5, c5, rfl, hO5, hg5⟩ := ho5.shape
      have H5 := Lib.hid (And.intro hO5.toV hg5)
      clear hO5 hg5 ho5
      go_wp2_with (fail)
      refine (equalInts_any _ _ M M _ (H4.out.1.grew H5.out.2) H5.out.1).mono ?_
      rw [decide_eq_true (rfl : M = M)]
      rintro e w6 ⟨rfl, hq6⟩
      have H6 := Lib.hid (quiet_grew hq6)
      clear hq6
      go_wp2
      go_ret
      exact ⟨rfl, H4.out.2.2.trans (H5.out.2.trans H6.out)⟩
    | true =>
      have HVG2 := HVG.out
      rw [hvg] at HVG2
      have HVG3 := Lib.hid HVG2
      have G := Grid.of hvg
      obtain ⟨n, en⟩ : ∃ n, H.length = n := ⟨_, rfl⟩
      obtain ⟨m, em⟩ : ∃ m, (H.getD 0 []).length = m := ⟨_, rfl⟩
      obtain ⟨N, eN⟩ : ∃ N, n * m = N := ⟨_, rfl⟩
      have hpl := flat_grid_len G
      rw [en, em, eN] at hpl
      obtain ⟨p, ep⟩ : ∃ p, H.flatten = p := ⟨_, rfl⟩
      rw [ep] at hpl
      have hn5 := G.n5
      have hm5 := G.m5
      rw [en] at hn5
      rw [em] at hm5
      have hN25 : N ≤ 25 := by rw [← eN]; exact Nat.mul_le_mul hn5 hm5
      have hPF := pit_facts hvg en em eN ep
      have hPl : (pitsL H).length ≤ N := by
        obtain ⟨bt, _, _, hE⟩ := endsL_some hvg en em ep eN (beat_exists n m N p (flatsL n m (sameH p)) ovDown eN)
        rw [show pitsL H = _ from hE]
        exact keptL_le _ _ _
      have hPI := fun W (hW : Grew w4 W) => PitsOf_any _ H W (H4.out.2.1.grew hW) (HS.out.grew (H4.out.2.2.trans hW))
      obtain ⟨P, eP⟩ : ∃ P, pitsL H = P := ⟨_, rfl⟩
      rw [eP] at hPF hPl hPI
      have hMe : M = P.map fun i => keepN n m p i.toNat := by rw [← HM.out, keepsL, eP, en, em, ep]
      have hR2 := fun W (hW : Grew w4 W) => rowOf_any _ H W (H4.out.2.1.grew hW) (by omega) (fun r hr => by
        have := G.len r hr
        have := G.m1
        have := G.m5
        omega)
      rw [ep] at hR2
      have HPF := Lib.hid hPF
      have HPI := Lib.hid hPI
      have HR2 := Lib.hid hR2
      have HPL := Lib.hid hpl
      have HAT : Hid (∀ k, k < P.length → M.getD k 0 = keepN n m p (P.getD k 0).toNat) := Lib.hid fun k hk => by rw [hMe]; exact getD_map' _ _ _ _ _ hk
      obtain ⟨ln, eln⟩ : ∃ ln, P.length = ln := ⟨_, rfl⟩
      have hMl : M.length = ln := by rw [hMe, List.length_map, eln]
      have HLN := Lib.hid (And.intro eln hMl)
      have HMV := Lib.hid H4.out.1
      have hgg := Lib.hid H4.out.2.2
      rw [hMl] at HMV ⊢
      rw [eln] at hPl
      clear hvg HVG HVG2 G en em eN hpl ep hn5 hm5 hPF hPI hR2 eP hMe eln hMl HM H4
      go_wp2_with (fail)
      refine HVG3.out.mono ?_
      rintro e w5 ⟨rfl, rfl⟩
      go_wp2_with (fail)
      refine (HPI.out _ (Grew.refl _)).mono ?_
      rintro e w6 ho6
      obtain ⟨a6, c6, rfl, hO6, hg6⟩ := ho6.shape
      rw [HLN.out.1] at hO6 ⊢
      have H6 := Lib.hid (And.intro hO6.toV hg6)
      clear hO6 hg6 ho6
      go_wp2_with (fail)
      refine (HR2.out _ H6.out.2).mono ?_
      rintro e w7 ⟨g7, c7, rfl, hO7, hg7⟩
      rw [HPL.out] at hO7 ⊢
      have H7 : Hid (IntsV w7 (.slice a2 ln c2) M ∧ IntsV w7 (.slice a6 ln c6) P ∧ IntsV w7 (.slice (some ⟨g7, 0, none⟩) N c7) p ∧ Grew w w7) :=
        Lib.hid ⟨HMV.out.grew (H6.out.2.trans hg7), NumsV.grew H6.out.1 hg7, hO7.toV, hgg.out.trans (H6.out.2.trans hg7)⟩
      clear hO7 hg7 H6 HR2 HPI HMV HVG3
      obtain ⟨a8, b8, o8, c8, e8, _, ha8, HC8⟩ := H7.out.1.shape
      rw [HLN.out.2] at e8 ha8 HC8
      obtain ⟨rfl, rfl⟩ : a2 = a8 ∧ c2 = c8 := by simpa using e8
      obtain ⟨a9, b9, o9, c9, e9, _, ha9, HC9⟩ := H7.out.2.1.shape
      rw [HLN.out.1] at e9 ha9 HC9
      obtain ⟨rfl, rfl⟩ : a6 = a9 ∧ c6 = c9 := by simpa using e9
      clear e8 e9
      go_wp2
      go_loopg [7, 8] ln (fun gk s i wr => ∃ k : Nat, k ≤ ln ∧ ln ≤ gk + k ∧ i = .int .i64 (k : Int) ∧ (∃ q : Nat, q ≤ k ∧ s = .int .i64 (q : Int) ∧ Hid (q = everN (fun y => decide (keepN n m p y.toNat = -1)) P k)) ∧ Hid (Grew w7 wr))
      case atStart => exact ⟨0, Nat.zero_le _, Nat.le_refl _, rfl, ⟨0, Nat.le_refl _, rfl, rfl⟩, Grew.refl _⟩
      case round =>
        obtain ⟨k, hk, hgk, rfl, ⟨q, hq, rfl, HQ⟩, HG⟩ := hrel
        by_cases hlt : k < ln
        · obtain rfl := ha8 (by omega)
          obtain rfl := ha9 (by omega)
          have hck := HG.out.cell (HC8.out k hlt)
          have hcp := HG.out.cell (HC9.out k hlt)
          rw [HAT.out k (by rw [HLN.out.1]; exact hlt)] at hck
          obtain ⟨I, eI, hI, hcase⟩ := HPF.out.mem k (by rw [HLN.out.1]; exact hlt)
          rw [eI] at hcp hck
          rw [Int.toNat_natCast] at hck
          have hnx := everN_next (fun y => decide (keepN n m p y.toNat = -1)) P k (by rw [HLN.out.1]; exact hlt)
          rw [eI] at hnx
          simp only [Int.toNat_natCast] at hnx
          obtain ⟨y, ey⟩ : ∃ y, keepN n m p I = y := ⟨_, rfl⟩
          rw [ey] at hck hcase
          simp only [ey] at hnx
          have hkl : (k : Int) < (ln : Int) := by omega
          rcases hcase with ⟨hy, hlow⟩ | hy
          · subst hy
            have HNX : Hid (q + 1 = everN (fun y => decide (keepN n m p y.toNat = -1)) P (k + 1)) := Lib.hid (by rw [hnx, ← HQ.out]; rfl)
            have HLOW := Lib.hid hlow
            have hpI := NumsV.at H7.out.2.2.1 I (by rw [HPL.out]; exact hI)
            have HPI := Lib.hid hpI
            have HCP := Lib.hid hcp
            have hIi : (I : Int) < (N : Int) := by omega
            have HGW := Lib.hid HG.out
            clear hnx hlow ey eI hcp hpI HG
            obtain ⟨go, rfl⟩ : ∃ go : Nat, go = gk := ⟨_, rfl⟩
            obtain ⟨wo, ewo⟩ : ∃ wo : World, wo = wr := ⟨_, rfl⟩
            go_wp2
            go_loopg [9] N (fun gj i wi => ∃ j : Nat, j ≤ N ∧ N ≤ gj + j ∧ i = .int .i64 (j : Int) ∧ Hid (∃ d, wi = wo.drewN d))
            case atStart => exact ⟨0, Nat.zero_le _, Nat.le_refl _, rfl, 0, by rw [ewo]; rfl⟩
            case round =>
              obtain ⟨j, hj, hgj, rfl, HJ⟩ := hrel
              have HG2 : Hid (Grew w7 wr) := Lib.hid (by
                obtain ⟨d, rfl⟩ := HJ.out
                rw [ewo]
                exact HGW.out.drewN d)
              by_cases hlt3 : j < N
              · have hcj := HG2.out.cell (NumsV.at H7.out.2.2.1 j (by rw [HPL.out]; exact hlt3))
                have hcI := HG2.out.cell HPI.out
                have hcK : wr.cell? ⟨b9, o9 + k, none⟩ = some (.int .i64 (I : Int)) := by
                  obtain ⟨d, rfl⟩ := HJ.out
                  rw [ewo]
                  exact ((Grew.refl _).drewN d).cell HCP.out
                obtain ⟨pj, epj⟩ : ∃ pj, p.getD j 0 = pj := ⟨_, rfl⟩
                obtain ⟨pI, epI⟩ : ∃ pI, p.getD I 0 = pI := ⟨_, rfl⟩
                have hle := HLOW.out j hlt3
                rw [epj] at hcj hle
                rw [epI] at hcI hle
                have hjN : (j : Int) < (N : Int) := by omega
                have hnlt : ¬ pj < pI := by omega
                have HJ2 : Hid (∀ d, ∃ d', wr.drewN d = wo.drewN d') := Lib.hid fun d => quiet_step HJ.out d
                clear epj epI HJ HG2
                go_wp2
                go_quiet (fail)
                go_wp2
                go_roundg (gk - 1)
                case measure => omega
                case rel => exact ⟨j + 1, by omega, by omega, by go_num, HJ2.out _⟩
              · obtain rfl : j = N := by omega
                have HG3 := Lib.hid HG2.out
                clear HJ HG2
                go_wp2
                go_roundg (go - 1)
                case measure => omega
                case rel => exact ⟨k + 1, by omega, by omega, by go_num, ⟨q + 1, by omega, by go_num, HNX.out⟩, HG3.out⟩
          · have hb1 : (y == -1) = false := beq_eq_false_iff_ne.2 (by omega)
            have hd1 : decide (y = -1) = false := decide_eq_false (by omega)
            rw [hd1] at hnx
            have HNX : Hid (q = everN (fun y => decide (keepN n m p y.toNat = -1)) P (k + 1)) := Lib.hid (by rw [hnx, ← HQ.out]; rfl)
            have hy2 : ¬ y ≤ 0 := by omega
            have HGW := Lib.hid HG.out
            clear hnx hd1 ey eI hcp HG
            go_wp2
            go_roundg (gk - 1)
            case measure => omega
            case rel => exact ⟨k + 1, by omega, by omega, by go_num, ⟨q, by omega, rfl, HNX.out⟩, HGW.out⟩
        · obtain rfl : k = ln := by omega
          have hq1 : q = 1 := by
            have := HPF.out.one
            rw [HQ.out, everN, List.take_of_length_le (by rw [HLN.out.1]; exact Nat.le_refl _)]
            exact this
          subst hq1
          have HF := Lib.hid (H7.out.2.2.2.trans HG.out)
          clear HQ HG
          go_wp2
          go_ret
          exact ⟨ret_bool (by simp), HF.out⟩
end Go.Proofs.YthlanmnjkonbjaaDoor
