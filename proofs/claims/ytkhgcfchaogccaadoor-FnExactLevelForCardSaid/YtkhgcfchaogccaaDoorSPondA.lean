/- The contracts of spec.PondAt and spec.LevelFor. -/
import Derived.Test.YtkhgcfchaogccaaDoorSPond
import Derived.Test.YtkhgcfchaogccaaDoorPondA
import Derived.Test.YtkhgcfchaogccaaDoorAroundOf
namespace Go.Proofs.YtkhgcfchaogccaaDoor
open Go.RowKit

/-- spec.PondAt behind its checks. -/
theorem lists_bd {N : Nat} {P : Nat → Bool} {L : List Int} (h : Lists N P L) : L.length ≤ N := by
  have h1 := h.len
  have h2 := sumTo_bd (f := fun x => if P x = true then 1 else 0) 0 1 (k := N) fun x _ => by split <;> omega
  omega

set_option maxRecDepth 100000 in
set_option maxHeartbeats 2000000 in
theorem SPondAt_any (v : Value) (h : List (List Int)) (i lv : Int) (w : World) (hv : RowsV w v h) :
    Calls Tryd.prog 12 #[v, .int .i64 i, .int .i64 lv] w fun e w' => e = .returned (.tuple #[.int .i64 (pondAX h i lv), .int .i64 (pondBX h i lv)]) ∧ Grew w w' := by
  have HK := Lib.hid (sValidGrid_any v h w hv)
  have HV := Lib.hid hv
  obtain ⟨a, b, o, c, rfl, _, _, _⟩ := hv.shape
  clear hv
  unfold pondAX pondBX pondOk
  cases hg : vGrid h with
  | false =>
    rw [hg] at HK
    rw [vCell_no (i := i) hg]
    clear hg
    go_enter Tryd.func12, Tryd.ntmps12
    go_wp2_with (fail)
    refine HK.out.mono ?_
    rintro e w' ⟨rfl, hG⟩
    have HG := Lib.hid hG
    clear hG
    go_wp2
    go_ret2
    exact ⟨rfl, HG.out⟩
  | true =>
    rw [hg] at HK
    have hir := inR_cell (i := i) hg
    have G := Grid.of hg
    have HN := Lib.hid (fun (W : World) (hW : Grew w W) => cells_any _ h W (HV.out.grew hW) G.n1 (by have := G.n5; omega) (by have := G.m5; omega))
    have hp25 := cells_le hg
    have HGR := Lib.hid hg
    have HN5 := Lib.hid (And.intro G.n5 G.m5)
    obtain ⟨N, eN⟩ : ∃ N, h.length * (h.getD 0 []).length = N := ⟨_, rfl⟩
    rw [eN] at hir HN hp25
    have HC1 := Lib.hid (fun W => inRange_any i 0 ((N : Int) - 1) W)
    have HC2 := Lib.hid (fun W => inRange_any lv 0 12 W)
    rw [hir] at HC1
    have HEN := Lib.hid eN
    clear hg G hir eN
    cases hc : vCell h i with
    | false =>
      rw [hc] at HC1
      clear hc
      go_enter Tryd.func12, Tryd.ntmps12
      go_wp2_with (fail)
      refine HK.out.mono ?_
      rintro e w1 ⟨rfl, hG⟩
      have HG := Lib.hid hG
      clear hG
      go_wp2_with (fail)
      refine (HN.out _ HG.out).mono ?_
      rintro e w2 ⟨rfl, rfl⟩
      go_wp2_with (fail)
      refine (HC1.out _).mono ?_
      rintro e w3 ⟨rfl, rfl⟩
      go_wp2
      go_ret2
      exact ⟨rfl, HG.out⟩
    | true =>
      rw [hc] at HC1
      obtain ⟨_, h0, hI, _⟩ := vCell_yes hc
      obtain ⟨I, rfl⟩ := Int.eq_ofNat_of_zero_le h0
      rw [Int.toNat_natCast] at hI ⊢
      rw [HEN.out] at hI
      rw [Bool.true_and]
      cases hl : inR lv 0 12 with
      | false =>
        rw [hl] at HC2
        clear hc h0 hI hl
        go_enter Tryd.func12, Tryd.ntmps12
        go_wp2_with (fail)
        refine HK.out.mono ?_
        rintro e w1 ⟨rfl, hG⟩
        have HG := Lib.hid hG
        clear hG
        go_wp2_with (fail)
        refine (HN.out _ HG.out).mono ?_
        rintro e w2 ⟨rfl, rfl⟩
        go_wp2_with (fail)
        refine (HC1.out _).mono ?_
        rintro e w3 ⟨rfl, rfl⟩
        go_wp2_with (fail)
        refine (HC2.out _).mono ?_
        rintro e w4 ⟨rfl, rfl⟩
        go_wp2
        go_ret2
        exact ⟨rfl, HG.out⟩
      | true =>
        rw [hl] at HC2
        rw [if_pos rfl, if_pos rfl]
        have hlv : 0 ≤ lv ∧ lv ≤ 12 := by simpa [inR] using hl
        have l1 := hlv.1
        have l2 := hlv.2
        have HSP := Lib.hid fun W hW => spond_any _ h h.length (h.getD 0 []).length N I lv W (HV.out.grew hW) HGR.out rfl rfl HEN.out hI
        have HAT := Lib.hid fun (K : Nat) W hW (hK : K < N) => at_any _ h K W (HV.out.grew hW) HGR.out (by rw [HEN.out]; exact hK)
        have HFB : Hid (∀ K, K < N → 0 ≤ h.flatten.getD K 0 ∧ h.flatten.getD K 0 ≤ 12) := fun K hK => flat_bd HGR.out K (by rw [HEN.out]; exact hK)
        have HFC : Hid (∀ L, Lists N (inP h.length (h.getD 0 []).length h.flatten lv I) L → (L.length : Int) = pondC h.length (h.getD 0 []).length h.flatten lv I ∧ sumTo (fun j => lv - h.flatten.getD (L.getD j 0).toNat 0) L.length = pondW h.length (h.getD 0 []).length h.flatten lv I) := fun L hL => by
          unfold pondC pondW
          rw [HEN.out]
          exact ⟨hL.len, hL.sum (fun x => lv - h.flatten.getD x.toNat 0)⟩
        obtain ⟨PP, ePP⟩ : ∃ PP, inP h.length (h.getD 0 []).length h.flatten lv I = PP := ⟨_, rfl⟩
        obtain ⟨A, eA⟩ : ∃ A, pondC h.length (h.getD 0 []).length h.flatten lv I = A := ⟨_, rfl⟩
        obtain ⟨R, eR⟩ : ∃ R, pondW h.length (h.getD 0 []).length h.flatten lv I = R := ⟨_, rfl⟩
        obtain ⟨p, ep⟩ : ∃ p, h.flatten = p := ⟨_, rfl⟩
        rw [ePP, eA, eR] at HFC
        rw [ePP] at HSP
        rw [ep] at HAT HFB HFC
        rw [eA, eR]
        clear hc h0 hI hl hlv ePP eA eR ep
        go_enter Tryd.func12, Tryd.ntmps12
        go_wp2_with (fail)
        refine HK.out.mono ?_
        rintro e w1 ⟨rfl, hG⟩
        have HG := Lib.hid hG
        clear hG
        go_wp2_with (fail)
        refine (HN.out _ HG.out).mono ?_
        rintro e w2 ⟨rfl, rfl⟩
        go_wp2_with (fail)
        refine (HC1.out _).mono ?_
        rintro e w3 ⟨rfl, rfl⟩
        go_wp2_with (fail)
        refine (HC2.out _).mono ?_
        rintro e w4 ⟨rfl, rfl⟩
        go_wp2_with (fail)
        refine (HSP.out _ HG.out).mono ?_
        rintro e w5 ⟨L, a5, c5, rfl, hL5, hLs, hg5⟩
        have hln := lists_bd hLs
        have H5 := Lib.hid (And.intro hL5 (And.intro hLs (HG.out.trans hg5)))
        have HFL := Lib.hid (HFC.out L hLs)
        obtain ⟨a6, b6, o6, c6, e6, _, ha6, HC6⟩ := hL5.shape
        simp only [Value.slice.injEq] at e6
        obtain ⟨rfl, -, rfl⟩ := e6
        have HA6 := Lib.hid ha6
        clear hL5 hLs hg5 ha6
        go_wp2
        go_loopw [9, 10] (fun nv kv wr => ∃ (k : Nat) (z : Int), nv = .int .i64 z ∧ kv = .int .i64 k ∧ k ≤ L.length ∧ (-12 * (k : Int) ≤ z ∧ z ≤ 12 * k) ∧ Hid (z = sumTo (fun j => lv - p.getD (L.getD j 0).toNat 0) k ∧ Grew w5 wr)) (fun _ kv _ => L.length - (intOf kv).toNat)
        case atStart => exact ⟨0, 0, rfl, rfl, Nat.zero_le _, by omega, rfl, Grew.refl _⟩
        case round =>
          obtain ⟨k, z, rfl, rfl, hk, hz, HI⟩ := hrel
          by_cases hlt : k < L.length
          · obtain ⟨K, eK, hK, _⟩ := H5.out.2.1.mem k hlt
            obtain rfl := HA6.out (by omega)
            have hc := HI.out.2.cell (HC6.out k hlt)
            rw [eK] at hc
            have HA := Lib.hid (HAT.out K wr (H5.out.2.2.trans HI.out.2) hK)
            have hb := HFB.out K hK
            have hst : sumTo (fun j => lv - p.getD (L.getD j 0).toNat 0) (k + 1) = z + (lv - p.getD K 0) := by rw [sumTo, ← HI.out.1, eK, Int.toNat_natCast]
            obtain ⟨y, ey⟩ : ∃ y, p.getD K 0 = y := ⟨_, rfl⟩
            rw [ey] at HA hb hst
            have HST := Lib.hid hst
            have r1 : (k : Int) < L.length := by omega
            have r2 : (0 : Int) ≤ k := by omega
            have q1 : IntKind.i64.wrap (z + lv) = z + lv := wrap_p _ (by omega) (by omega)
            have q2 : IntKind.i64.wrap (z + lv - y) = z + (lv - y) := by rw [wrap_p _ (by omega) (by omega)]; omega
            have q3 : IntKind.i64.wrap ((k : Int) + 1) = (k : Int) + 1 := wrap_p _ (by omega) (by omega)
            clear eK hK ey hst
            go_wp2_with (fail)
            refine HA.out.mono ?_
            rintro e w7 ⟨rfl, hq⟩
            have HQ := Lib.hid (HI.out.2.trans (quiet_grew hq))
            clear hq hc
            go_wp2
            go_roundw
            case rel => exact ⟨k + 1, z + (lv - y), rfl, by go_num, by omega, by omega, HST.out.symm, HQ.out⟩
            case measure => simp [intOf]; omega
          · obtain rfl : k = L.length := by omega
            have HZ : Hid (z = R) := Lib.hid (HI.out.1.trans HFL.out.2)
            go_wp2
            go_ret2
            refine ⟨?_, H5.out.2.2.trans HI.out.2⟩
            rw [← HFL.out.1, ← HZ.out]
            try rfl

theorem topT_step (g : Nat → Int) (c : Int) (h0 : g 0 ≤ c) (l : Nat) : topT g c l = if g l ≤ c then l else topT g c (l - 1) := by
  cases l with
  | zero => rw [if_pos h0]; rfl
  | succ l => rfl
set_option maxRecDepth 100000 in
set_option maxHeartbeats 2000000 in
theorem SLevelFor_any (v : Value) (h : List (List Int)) (i nn : Int) (w : World) (hv : RowsV w v h) :
    Calls Tryd.prog 16 #[v, .int .i64 i, .int .i64 nn] w fun e w' => e = .returned (.int .i64 (levelX h i nn)) ∧ Grew w w' := by
  have HK := Lib.hid (sValidGrid_any v h w hv)
  have HV := Lib.hid hv
  have HPA := Lib.hid fun (t : Int) W hW => SPondAt_any v h i t W (hv.grew hW)
  obtain ⟨a, b, o, c, rfl, _, _, _⟩ := hv.shape
  clear hv
  unfold levelX
  cases hg : vGrid h with
  | false =>
    rw [hg] at HK
    rw [vCell_no (i := i) hg]
    clear hg
    go_enter Tryd.func16, Tryd.ntmps16
    go_wp2_with (fail)
    refine HK.out.mono ?_
    rintro e w' ⟨rfl, hG⟩
    have HG := Lib.hid hG
    clear hG
    go_wp2
    go_ret
    exact ⟨rfl, HG.out⟩
  | true =>
    rw [hg] at HK
    have hir := inR_cell (i := i) hg
    have G := Grid.of hg
    have HN := Lib.hid (fun (W : World) (hW : Grew w W) => cells_any _ h W (HV.out.grew hW) G.n1 (by have := G.n5; omega) (by have := G.m5; omega))
    have hp25 := cells_le hg
    have HGR := Lib.hid hg
    obtain ⟨N, eN⟩ : ∃ N, h.length * (h.getD 0 []).length = N := ⟨_, rfl⟩
    rw [eN] at hir HN hp25
    have HC1 := Lib.hid (fun W => inRange_any i 0 ((N : Int) - 1) W)
    rw [hir] at HC1
    have HEN := Lib.hid eN
    clear hg G hir eN
    cases hc : vCell h i with
    | false =>
      rw [hc] at HC1
      clear hc
      go_enter Tryd.func16, Tryd.ntmps16
      go_wp2_with (fail)
      refine HK.out.mono ?_
      rintro e w1 ⟨rfl, hG⟩
      have HG := Lib.hid hG
      clear hG
      go_wp2_with (fail)
      refine (HN.out _ HG.out).mono ?_
      rintro e w2 ⟨rfl, rfl⟩
      go_wp2_with (fail)
      refine (HC1.out _).mono ?_
      rintro e w3 ⟨rfl, rfl⟩
      go_wp2
      go_ret
      exact ⟨rfl, HG.out⟩
    | true =>
      rw [hc] at HC1
      by_cases hl : 0 ≤ nn
      · have e1 : (true && decide (0 ≤ nn)) = true := by simpa using hl
        rw [if_pos e1]
        obtain ⟨_, h0, hI, _⟩ := vCell_yes hc
        obtain ⟨Wf, eW⟩ : ∃ Wf : Nat → Int, ∀ l : Nat, pondW h.length (h.getD 0 []).length h.flatten l i.toNat = Wf l := ⟨_, fun _ => rfl⟩
        have hz : Wf 0 ≤ nn := by
          have h1 := eW 0
          have h2 := pondW_zero (n := h.length) (m := (h.getD 0 []).length) (p := h.flatten) (i := i.toNat) (flat_bd HGR.out _ hI).1
          rw [← h1]
          show pondW _ _ _ ((0 : Nat) : Int) _ ≤ _
          have : ((0 : Nat) : Int) = 0 := rfl
          rw [this, h2]
          exact hl
        have HP2 : Hid (∀ (l : Nat) W, l ≤ 12 → Grew w W → Calls Tryd.prog 12 #[.slice a h.length c, .int .i64 i, .int .i64 l] W fun e w' => ∃ A, e = .returned (.tuple #[.int .i64 A, .int .i64 (Wf l)]) ∧ Grew W w') := fun l W hl12 hW => by
          refine (HPA.out (l : Int) W hW).mono ?_
          rintro e w' ⟨rfl, hg⟩
          refine ⟨pondAX h i (l : Int), ?_, hg⟩
          have : pondBX h i (l : Int) = Wf l := by
            rw [← eW]
            unfold pondBX pondOk
            rw [if_pos]
            rw [hc]
            simp [inR]
            omega
          rw [this]
        have hfin : ((topT (fun l => pondW h.length (h.getD 0 []).length h.flatten l i.toNat) nn 12 : Nat) : Int) = ((topT Wf nn 12 : Nat) : Int) := by
          have : (fun l : Nat => pondW h.length (h.getD 0 []).length h.flatten l i.toNat) = Wf := funext eW
          rw [this]
        rw [hfin]
        have HZ := Lib.hid hz
        clear hc h0 hI e1 eW hz hfin HPA
        go_enter Tryd.func16, Tryd.ntmps16
        go_wp2_with (fail)
        refine HK.out.mono ?_
        rintro e w1 ⟨rfl, hG⟩
        have HG := Lib.hid hG
        clear hG
        go_wp2_with (fail)
        refine (HN.out _ HG.out).mono ?_
        rintro e w2 ⟨rfl, rfl⟩
        go_wp2_with (fail)
        refine (HC1.out _).mono ?_
        rintro e w3 ⟨rfl, rfl⟩
        go_wp2
        go_loopw [7, 8] (fun ov lv wr => ∃ (l x : Nat), ov = .int .i64 x ∧ lv = .int .i64 l ∧ l ≤ 13 ∧ Hid (x = topT Wf nn (l - 1) ∧ Grew w wr)) (fun _ lv _ => 13 - (intOf lv).toNat)
        case atStart => exact ⟨0, 0, rfl, rfl, by omega, rfl, HG.out⟩
        case round =>
          obtain ⟨l, x, rfl, rfl, hl13, HI⟩ := hrel
          by_cases hlt : l ≤ 12
          · have HP3 := Lib.hid (HP2.out l wr hlt HI.out.2)
            have hst := topT_step Wf nn HZ.out l
            have q3 : IntKind.i64.wrap ((l : Int) + 1) = (l : Int) + 1 := wrap_p _ (by omega) (by omega)
            obtain ⟨R, eR⟩ : ∃ R, Wf l = R := ⟨_, rfl⟩
            rw [eR] at HP3 hst
            have HST := Lib.hid hst
            clear eR hst
            go_wp2_with (fail)
            refine HP3.out.mono ?_
            rintro e w5 ⟨A, rfl, hg5⟩
            have HG5 := Lib.hid (HI.out.2.trans hg5)
            clear hg5
            by_cases hle : R ≤ nn
            · have HQ : Hid (l = topT Wf nn (l + 1 - 1)) := Lib.hid (by rw [Nat.add_sub_cancel, HST.out, if_pos hle])
              go_wp2
              go_roundw
              case rel => exact ⟨l + 1, l, rfl, by go_num, by omega, HQ.out, HG5.out⟩
              case measure => simp [intOf]; omega
            · have HQ : Hid (x = topT Wf nn (l + 1 - 1)) := Lib.hid (by rw [Nat.add_sub_cancel, HST.out, if_neg hle]; exact HI.out.1)
              go_wp2
              go_roundw
              case rel => exact ⟨l + 1, x, rfl, by go_num, by omega, HQ.out, HG5.out⟩
              case measure => simp [intOf]; omega
          · obtain rfl : l = 13 := by omega
            go_wp2
            go_ret
            exact ⟨ret_int (by rw [HI.out.1]), HI.out.2⟩
      · have e1 : ¬ (true && decide (0 ≤ nn)) = true := by simpa using hl
        have hl' : nn < 0 := by omega
        rw [if_neg e1]
        clear hc e1 hl
        go_enter Tryd.func16, Tryd.ntmps16
        go_wp2_with (fail)
        refine HK.out.mono ?_
        rintro e w1 ⟨rfl, hG⟩
        have HG := Lib.hid hG
        clear hG
        go_wp2_with (fail)
        refine (HN.out _ HG.out).mono ?_
        rintro e w2 ⟨rfl, rfl⟩
        go_wp2_with (fail)
        refine (HC1.out _).mono ?_
        rintro e w3 ⟨rfl, rfl⟩
        go_wp2
        go_ret
        exact ⟨rfl, HG.out⟩
end Go.Proofs.YtkhgcfchaogccaaDoor
