/- The law FnPassesOverPits returns true. -/
import Derived.Test.YthlanmnjkonbjaaDoorLawKeepsOf
import Derived.Test.YthlanmnjkonbjaaDoorPass
namespace Go.Proofs.YthlanmnjkonbjaaDoor
open Go.RowKit

theorem drawn_small {H : List (List Int)} (h : Drawn H) : H.length ≤ 1000 ∧ ∀ r, r < H.length → 1 ≤ (H.getD r []).length ∧ (H.getD r []).length ≤ 1000 :=
  ⟨by have := h.1; omega, fun r hr => ⟨h.2.2 r hr, by have := (h.2.1 r hr).1; omega⟩⟩
/-- What the law reads of a grid: the pits, what they keep, the passes between them. -/
structure OverF (v : Value) (h : List (List Int)) (N : Nat) (p P M : List Int) (w : World) : Prop where
  len : P.length = M.length
  small : P.length ≤ 1000000
  mem : ∀ k, k < P.length → ∃ i : Nat, P.getD k 0 = i ∧ i < p.length ∧ 0 ≤ p.getD i 0 ∧ p.getD i 0 ≤ 12
  pass : ∀ a b, b < a → a < P.length → ∃ z : Int, (∀ W, Grew w W → Calls Tryd.prog 32 #[v, .int .i64 (P.getD a 0), .int .i64 (P.getD b 0)] W fun e w' => e = .returned (.int .i64 z) ∧ Grew W w') ∧ z ≤ 12 ∧
    (p.getD (P.getD a 0).toNat 0 < p.getD (P.getD b 0).toNat 0 → 0 ≤ M.getD b 0 ∧ p.getD (P.getD b 0).toNat 0 + M.getD b 0 ≤ z) ∧
    (¬ p.getD (P.getD a 0).toNat 0 < p.getD (P.getD b 0).toNat 0 → 0 ≤ M.getD a 0 ∧ p.getD (P.getD a 0).toNat 0 + M.getD a 0 ≤ z)
theorem over_facts {v : Value} {h : List (List Int)} {w : World} (hv : RowsV w v h) (hS : Steps w) : OverF v h 0 h.flatten (pitsL h) (keepsL h) w := by
  have hl : (pitsL h).length = (keepsL h).length := by rw [keepsL, List.length_map]
  cases hg : vGrid h with
  | false =>
    have e : pitsL h = [] := by rw [pitsL, endsL_no hg]
    refine ⟨hl, by rw [e]; simp, fun k hk => ?_, fun a b _ ha => ?_⟩
    · rw [e] at hk; simp at hk
    · rw [e] at ha; simp at ha
  | true =>
    have G := Grid.of hg
    obtain ⟨n, en⟩ : ∃ n, h.length = n := ⟨_, rfl⟩
    obtain ⟨m, em⟩ : ∃ m, (h.getD 0 []).length = m := ⟨_, rfl⟩
    obtain ⟨N, eN⟩ : ∃ N, n * m = N := ⟨_, rfl⟩
    have hn5 := G.n5
    have hm5 := G.m5
    rw [en] at hn5
    rw [em] at hm5
    have hpn : ∀ i, i < n * m → 0 ≤ h.flatten.getD i 0 ∧ h.flatten.getD i 0 ≤ 12 := fun i hi => grid_num G i (by rw [en, em]; exact hi)
    have hpl := flat_grid_len G
    rw [en, em, eN] at hpl
    have PF := pit_facts hg en em eN rfl
    have hM : ∀ k, k < (pitsL h).length → (keepsL h).getD k 0 = keepN n m h.flatten ((pitsL h).getD k 0).toNat := fun k hk => by
      rw [keepsL, en, em]
      exact getD_map' _ _ _ _ _ hk
    have hvc : ∀ x : Nat, x < N → vCell h (x : Int) = true := fun x hx => by
      rw [vCell, hg, Bool.true_and, Bool.and_eq_true, decide_eq_true_eq, decide_eq_true_eq]
      have : ((n * m : Nat) : Int) = (n : Int) * m := by simp
      rw [en, em]
      omega
    refine ⟨hl, pitsL_le h, fun k hk => ?_, fun a b hba ha => ?_⟩
    · obtain ⟨i, h1, h2, _⟩ := PF.mem k hk
      exact ⟨i, h1, by omega, hpn i (by omega)⟩
    · obtain ⟨i, hi1, hi2, _⟩ := PF.mem a ha
      obtain ⟨k, hk1, hk2, _⟩ := PF.mem b (by omega)
      have hlt := PF.asc b a hba ha
      have hMa := hM a ha
      have hMb := hM b (by omega)
      rw [hi1] at hMa hlt ⊢
      rw [hk1] at hMb hlt ⊢
      rw [Int.toNat_natCast] at hMa hMb ⊢
      rw [Int.toNat_natCast]
      refine ⟨passN n m h.flatten i k, fun W hW => ?_, (passN_top hn5 hm5 hpn (by omega) (by omega)).2, fun hp => ?_, fun hp => ?_⟩
      · have := PassBetween_any v h (i : Int) (k : Int) W (hv.grew hW) (hS.grew hW)
        rwa [passL_yes hg en em (hvc i hi2) (hvc k hk2)] at this
      · have := PF.over k i hk2 hi2 (ahead_iff.2 (.inl hp))
        rw [passN_symm hn5 hm5 hpn (by omega) (by omega)]
        omega
      · have := PF.over i k hi2 hk2 (ahead_iff.2 (by omega))
        omega

set_option maxRecDepth 100000 in
set_option maxHeartbeats 8000000 in
theorem FnPassesOverPits_any (v : Value) (bs : List Int) (w : World) (hv : NumsV .u8 w v bs) (hb : ∀ i, i < bs.length → 0 ≤ bs.getD i 0 ∧ bs.getD i 0 ≤ 255) (hS : Steps w) :
    Calls Tryd.prog 9 #[v] w fun e w' => e = .returned (.bool true) ∧ Grew w w' := by
  have HD := Lib.hid (DrawKeepsOf_any v bs w hv hb)
  have HS := Lib.hid hS
  obtain ⟨a, b, o, c, rfl, ⟨hlc, hcb⟩, _, _⟩ := hv.shape
  clear hv hb hS
  by_cases hbig : 1048576 < bs.length
  · go_enter Tryd.func9, Tryd.ntmps9
    go_wp2
    go_ret
    exact ⟨rfl, Grew.refl _⟩
  · go_enter Tryd.func9, Tryd.ntmps9
    go_wp2_with (fail)
    refine HD.out.mono ?_
    rintro e w1 ⟨v1, H, rfl, hO, hd, hg1⟩
    have HV := Lib.hid (And.intro hO.toV hg1)
    obtain ⟨a1, c1, rfl⟩ := hO.sh
    obtain ⟨M, eM⟩ : ∃ M, keepsL H = M := ⟨_, rfl⟩
    have HM := Lib.hid eM
    have HDS := Lib.hid (drawn_small hd)
    clear hO hd hg1 HD
    go_wp2_with (fail)
    refine (KeepsOf_any _ H _ HV.out.1 (HS.out.grew HV.out.2)).mono ?_
    rw [eM]
    rintro e w2 ho2
    obtain ⟨a2, c2, rfl, hO2, hg2⟩ := ho2.shape
    have H2 := Lib.hid (And.intro hO2.toV hg2)
    clear hO2 hg2 ho2
    go_wp2_with (fail)
    refine (SKeepsOf_any _ H _ (HV.out.1.grew H2.out.2)).mono ?_
    rw [eM]
    rintro e w3 ho3
    obtain ⟨a3, c3, rfl, hO3, hg3⟩ := ho3.shape
    have H3 : Hid (IntsV w3 (.slice a2 M.length c2) M ∧ IntsV w3 (.slice a3 M.length c3) M ∧ RowsV w3 (.slice a1 H.length c1) H ∧ Grew w w3) :=
      Lib.hid ⟨H2.out.1.grew hg3, hO3.toV, HV.out.1.grew (H2.out.2.trans hg3), HV.out.2.trans (H2.out.2.trans hg3)⟩
    clear hO3 hg3 ho3 H2 HV eM
    go_wp2_with (fail)
    refine (equalInts_any _ _ M M _ H3.out.1 H3.out.2.1).mono ?_
    rw [decide_eq_true (rfl : M = M)]
    rintro e w4 ⟨rfl, hq4⟩
    have hg4 := quiet_grew hq4
    have H4 : Hid (RowsV w4 (.slice a1 H.length c1) H ∧ Grew w w4) := Lib.hid ⟨H3.out.2.2.1.grew hg4, H3.out.2.2.2.trans hg4⟩
    clear hq4 hg4 H3
    have HPI := Lib.hid (PitsOf_any _ H _ H4.out.1 (HS.out.grew H4.out.2))
    have HKE : Hid (∀ W, Grew w4 W → Calls Tryd.prog 36 #[.slice a1 H.length c1] W (OwnI W M)) := Lib.hid fun W hW => by
      have := KeepsOf_any _ H W (H4.out.1.grew hW) (HS.out.grew (H4.out.2.trans hW))
      rwa [HM.out] at this
    have HRW := Lib.hid fun W (hW : Grew w4 W) => rowOf_any _ H W (H4.out.1.grew hW) HDS.out.1 HDS.out.2
    have HOV := Lib.hid (over_facts H4.out.1 (HS.out.grew H4.out.2))
    rw [HM.out] at HOV
    obtain ⟨P, eP⟩ : ∃ P, pitsL H = P := ⟨_, rfl⟩
    obtain ⟨p, ep⟩ : ∃ p, H.flatten = p := ⟨_, rfl⟩
    rw [eP] at HPI HOV
    rw [ep] at HRW HOV
    obtain ⟨ln, eln⟩ : ∃ ln, P.length = ln := ⟨_, rfl⟩
    have HLN : Hid (P.length = ln ∧ M.length = ln) := Lib.hid ⟨eln, by rw [← eln]; exact HOV.out.len.symm⟩
    obtain ⟨N, eN⟩ : ∃ N, p.length = N := ⟨_, rfl⟩
    have HNN := Lib.hid eN
    have hln : ln ≤ 1000000 := by rw [← eln]; exact HOV.out.small
    have hpN : N ≤ 9223372036854775807 ∨ True := .inr trivial
    clear eP ep eln eN hpN
    go_wp2_with (fail)
    refine HPI.out.mono ?_
    rintro e w5 ho5
    obtain ⟨a5, c5, rfl, hO5, hg5⟩ := ho5.shape
    rw [HLN.out.1] at hO5 ⊢
    have H5 := Lib.hid (And.intro hO5.toV hg5)
    clear hO5 hg5 ho5
    go_wp2_with (fail)
    refine (HKE.out _ H5.out.2).mono ?_
    rintro e w6 ho6
    obtain ⟨a6, c6, rfl, hO6, hg6⟩ := ho6.shape
    rw [HLN.out.2] at hO6 ⊢
    have H6 : Hid (IntsV w6 (.slice a5 ln c5) P ∧ IntsV w6 (.slice a6 ln c6) M ∧ Grew w4 w6) := Lib.hid ⟨NumsV.grew H5.out.1 hg6, hO6.toV, H5.out.2.trans hg6⟩
    clear hO6 hg6 ho6 H5
    go_wp2_with (fail)
    refine (HRW.out _ H6.out.2.2).mono ?_
    rintro e w9 ⟨g9, c9, rfl, hO9, hg9⟩
    rw [HNN.out] at hO9 ⊢
    have H9 : Hid (IntsV w9 (.slice a5 ln c5) P ∧ IntsV w9 (.slice a6 ln c6) M ∧ IntsV w9 (.slice (some ⟨g9, 0, none⟩) N c9) p ∧ Grew w4 w9) := Lib.hid ⟨NumsV.grew H6.out.1 hg9, NumsV.grew H6.out.2.1 hg9, hO9.toV, H6.out.2.2.trans hg9⟩
    have hN63 : N ≤ 9223372036854775807 := by
      obtain ⟨_, _, _, _, e, ⟨q1, q2⟩, _⟩ := hO9.toV.shape
      rw [HNN.out] at q1
      omega
    clear hO9 hg9 H6 HPI HKE HRW
    obtain ⟨a8, b8, o8, c8, e8, _, ha8, HC8⟩ := NumsV.shape H9.out.1
    rw [HLN.out.1] at e8 ha8 HC8
    obtain ⟨rfl, rfl⟩ : a5 = a8 ∧ c5 = c8 := by simpa using e8
    obtain ⟨a9, b9, o9, c9', e9, _, ha9, HC9⟩ := NumsV.shape H9.out.2.1
    rw [HLN.out.2] at e9 ha9 HC9
    obtain ⟨rfl, rfl⟩ : a6 = a9 ∧ c6 = c9' := by simpa using e9
    clear e8 e9
    go_wp2
    go_loopg [7] ln (fun gk i wr => ∃ x : Nat, x ≤ ln ∧ ln ≤ gk + x ∧ i = .int .i64 (x : Int) ∧ Hid (Grew w9 wr))
    case atStart => exact ⟨0, Nat.zero_le _, Nat.le_refl _, rfl, Grew.refl _⟩
    case round =>
      obtain ⟨x, hx, hgk, rfl, HG0⟩ := hrel
      by_cases hxl : x < ln
      · obtain rfl := ha8 (by omega)
        obtain rfl := ha9 (by omega)
        obtain ⟨go, rfl⟩ : ∃ go : Nat, go = gk := ⟨_, rfl⟩
        go_wp2
        go_loopg [8] x (fun gj i wi => ∃ y : Nat, y ≤ x ∧ x ≤ gj + y ∧ i = .int .i64 (y : Int) ∧ Hid (Grew w9 wi))
        case atStart => exact ⟨0, Nat.zero_le _, Nat.le_refl _, rfl, HG0.out⟩
        case round =>
          obtain ⟨y, hy, hgj, rfl, HG⟩ := hrel
          by_cases hyx : y < x
          · obtain ⟨I, eI, hI, hI0, hI1⟩ := HOV.out.mem x (by rw [HLN.out.1]; exact hxl)
            obtain ⟨K, eK, hK, hK0, hK1⟩ := HOV.out.mem y (by rw [HLN.out.1]; omega)
            obtain ⟨z, hz1, hz2, hz3, hz4⟩ := HOV.out.pass x y hyx (by rw [HLN.out.1]; exact hxl)
            rw [HNN.out] at hI hK
            rw [eI, eK] at hz1
            rw [eI, eK, Int.toNat_natCast, Int.toNat_natCast] at hz3 hz4
            have HP : Hid (∀ W, Grew w9 W → Calls Tryd.prog 32 #[.slice a1 H.length c1, .int .i64 I, .int .i64 K] W fun e w' => e = .returned (.int .i64 z) ∧ Grew W w') := Lib.hid fun W hW => hz1 W (H9.out.2.2.2.trans hW)
            have HCE : Hid (∀ W, Grew wr W → W.cell? ⟨b8, o8 + x, none⟩ = some (.int .i64 (I : Int)) ∧ W.cell? ⟨b8, o8 + y, none⟩ = some (.int .i64 (K : Int)) ∧ W.cell? ⟨g9, I, none⟩ = some (.int .i64 (p.getD I 0)) ∧ W.cell? ⟨g9, K, none⟩ = some (.int .i64 (p.getD K 0)) ∧ W.cell? ⟨b9, o9 + x, none⟩ = some (.int .i64 (M.getD x 0)) ∧ W.cell? ⟨b9, o9 + y, none⟩ = some (.int .i64 (M.getD y 0))) := Lib.hid fun W hW => by
              have hg := HG.out.trans hW
              refine ⟨?_, ?_, hg.cell (NumsV.at H9.out.2.2.1 I (by rw [HNN.out]; exact hI)), hg.cell (NumsV.at H9.out.2.2.1 K (by rw [HNN.out]; exact hK)), hg.cell (HC9.out x hxl), hg.cell (HC9.out y (by omega))⟩
              · rw [← eI]; exact hg.cell (HC8.out x hxl)
              · rw [← eK]; exact hg.cell (HC8.out y (by omega))
            obtain ⟨pI, epI⟩ : ∃ pI, p.getD I 0 = pI := ⟨_, rfl⟩
            obtain ⟨pK, epK⟩ : ∃ pK, p.getD K 0 = pK := ⟨_, rfl⟩
            obtain ⟨mI, emI⟩ : ∃ mI, M.getD x 0 = mI := ⟨_, rfl⟩
            obtain ⟨mK, emK⟩ : ∃ mK, M.getD y 0 = mK := ⟨_, rfl⟩
            rw [epI, epK, emI, emK] at HCE
            rw [epI, epK] at hz3 hz4
            rw [emK] at hz3
            rw [emI] at hz4
            rw [epI] at hI0 hI1
            rw [epK] at hK0 hK1
            have hxi : (x : Int) < (ln : Int) := by omega
            have hyi : (y : Int) < (ln : Int) := by omega
            have hIi : (I : Int) < (N : Int) := by omega
            have hKi : (K : Int) < (N : Int) := by omega
            clear hz1 eI eK epI epK emI emK
            by_cases hpk : pI < pK
            · obtain ⟨k0, k1⟩ := hz3 hpk
              have hm0 : ¬ mK < 0 := by omega
              have hm1 : ¬ z < pK + mK := by omega
              have hd0 : decide (mK < 0) = false := decide_eq_false hm0
              have hd1 : decide (z < pK + mK) = false := decide_eq_false hm1
              have hwr : IntKind.i64.wrap (pK + mK) = pK + mK := IntWalk.i64_in _ (by omega)
              clear hz3 hz4
              go_wp2_with (fail)
              go_region_held3 (fun W => W.cell? ⟨b8, o8 + x, none⟩ = some (.int .i64 (I : Int)) ∧ W.cell? ⟨b8, o8 + y, none⟩ = some (.int .i64 (K : Int)) ∧ W.cell? ⟨g9, I, none⟩ = some (.int .i64 pI) ∧ W.cell? ⟨g9, K, none⟩ = some (.int .i64 pK) ∧ W.cell? ⟨b9, o9 + x, none⟩ = some (.int .i64 mI) ∧ W.cell? ⟨b9, o9 + y, none⟩ = some (.int .i64 mK))
                (first
                  | exact HCE.out _ (Grew.refl wr).drew
                  | assumption)
                (fail)
              go_wp2_with (fail)
              have HP2 := Lib.hid (HP.out wr.drew.drew (HG.out.drew.drew))
              go_region_held3 (fun W => W.cell? ⟨b8, o8 + x, none⟩ = some (.int .i64 (I : Int)) ∧ W.cell? ⟨b8, o8 + y, none⟩ = some (.int .i64 (K : Int)) ∧ W.cell? ⟨g9, I, none⟩ = some (.int .i64 pI) ∧ W.cell? ⟨g9, K, none⟩ = some (.int .i64 pK) ∧ W.cell? ⟨b9, o9 + x, none⟩ = some (.int .i64 mI) ∧ W.cell? ⟨b9, o9 + y, none⟩ = some (.int .i64 mK))
                (first
                  | exact HCE.out _ (Grew.refl wr).drew.drew
                  | assumption
                  | exact HCE.out _ ((Grew.refl wr).drew.drew.trans hgw))
                (first
                  | (go_at_call 32; refine HP2.out.mono ?_; rintro e w10 ⟨rfl, hgw⟩))
              have HGN := Lib.hid (HG.out.drew.drew.trans hgw)
              clear hgw
              go_wp2
              go_roundg (gk - 1)
              case measure => omega
              case rel => exact ⟨y + 1, by omega, by omega, by go_num, HGN.out⟩
            · obtain ⟨k0, k1⟩ := hz4 hpk
              have hm0 : ¬ mI < 0 := by omega
              have hm1 : ¬ z < pI + mI := by omega
              have hd0 : decide (mI < 0) = false := decide_eq_false hm0
              have hd1 : decide (z < pI + mI) = false := decide_eq_false hm1
              have hwr : IntKind.i64.wrap (pI + mI) = pI + mI := IntWalk.i64_in _ (by omega)
              clear hz3 hz4
              go_wp2_with (fail)
              go_region_held3 (fun W => W.cell? ⟨b8, o8 + x, none⟩ = some (.int .i64 (I : Int)) ∧ W.cell? ⟨b8, o8 + y, none⟩ = some (.int .i64 (K : Int)) ∧ W.cell? ⟨g9, I, none⟩ = some (.int .i64 pI) ∧ W.cell? ⟨g9, K, none⟩ = some (.int .i64 pK) ∧ W.cell? ⟨b9, o9 + x, none⟩ = some (.int .i64 mI) ∧ W.cell? ⟨b9, o9 + y, none⟩ = some (.int .i64 mK))
                (first
                  | exact HCE.out _ (Grew.refl wr).drew
                  | assumption)
                (fail)
              go_wp2_with (fail)
              have HP2 := Lib.hid (HP.out wr.drew.drew (HG.out.drew.drew))
              go_region_held3 (fun W => W.cell? ⟨b8, o8 + x, none⟩ = some (.int .i64 (I : Int)) ∧ W.cell? ⟨b8, o8 + y, none⟩ = some (.int .i64 (K : Int)) ∧ W.cell? ⟨g9, I, none⟩ = some (.int .i64 pI) ∧ W.cell? ⟨g9, K, none⟩ = some (.int .i64 pK) ∧ W.cell? ⟨b9, o9 + x, none⟩ = some (.int .i64 mI) ∧ W.cell? ⟨b9, o9 + y, none⟩ = some (.int .i64 mK))
                (first
                  | exact HCE.out _ (Grew.refl wr).drew.drew
                  | assumption
                  | exact HCE.out _ ((Grew.refl wr).drew.drew.trans hgw))
                (first
                  | (go_at_call 32; refine HP2.out.mono ?_; rintro e w10 ⟨rfl, hgw⟩))
              have HGN := Lib.hid (HG.out.drew.drew.trans hgw)
              clear hgw
              go_wp2
              go_roundg (gk - 1)
              case measure => omega
              case rel => exact ⟨y + 1, by omega, by omega, by go_num, HGN.out⟩
          · obtain rfl : y = x := by omega
            go_wp2
            go_roundg (go - 1)
            case measure => omega
            case rel => exact ⟨y + 1, by omega, by omega, by go_num, HG.out⟩
      · obtain rfl : x = ln := by omega
        have HF := Lib.hid (H4.out.2.trans (H9.out.2.2.2.trans HG0.out))
        go_wp2
        go_ret
        exact ⟨rfl, HF.out⟩
end Go.Proofs.YthlanmnjkonbjaaDoor
