/- The contract of spec.ClimbWithin. -/
import Derived.Test.YtdhokofcgfolnaaDoorSClimb
import Derived.Test.YtdhokofcgfolnaaDoorWithin
namespace Go.Proofs.YtdhokofcgfolnaaDoor
open Go.RowKit

theorem withinL_no {h : List (List Int)} {i k s : Int} (hc : (vCell h i && vCell h k) = false) : withinL h i k s = -1 := by unfold withinL vEnds; rw [hc]; rfl
theorem withinL_no2 {h : List (List Int)} {i k s : Int} (hc : inR s 0 30 = false) : withinL h i k s = -1 := by unfold withinL; rw [hc, Bool.and_false]; rfl
theorem withinL_yes {h : List (List Int)} {i k s n m : Nat} (en : h.length = n) (em : (h.getD 0 []).length = m) (hi : vCell h i = true) (hk : vCell h k = true) (hs : inR s 0 30 = true) : withinL h i k s = costT (aroundL n m) h.flatten upF k s i := by
  unfold withinL vEnds
  rw [hi, hk, hs, en, em, Int.toNat_natCast, Int.toNat_natCast, Int.toNat_natCast]
  rfl

set_option maxRecDepth 100000 in
set_option maxHeartbeats 2000000 in
theorem SClimbWithin_any (v : Value) (h : List (List Int)) (i k : Int) (s : Int) (w : World) (hv : RowsV w v h) :
    Calls Tryd.prog 21 #[v, .int .i64 i, .int .i64 k, .int .i64 s] w fun e w' => e = .returned (.int .i64 (withinL h i k s)) ∧ Grew w w' := by
  have HK := Lib.hid (sValidGrid_any v h w hv)
  cases hg : vGrid h with
  | false =>
    have HK1 := HK.out
    rw [hg] at HK1
    have HK2 := Lib.hid HK1
    rw [withinL_no (by rw [vCell_no hg]; rfl)]
    obtain ⟨a, b, o, c, rfl, _, _, _⟩ := hv.shape
    clear HK1 HK hg hv
    go_enter Tryd.func21, Tryd.ntmps21
    go_wp2_with (fail)
    refine HK2.out.mono ?_
    rintro e w' ⟨rfl, hG⟩
    have HG := Lib.hid hG
    clear hG
    go_wp2
    go_ret
    exact ⟨rfl, HG.out⟩
  | true =>
    have HK1 := HK.out
    rw [hg] at HK1
    have HK2 := Lib.hid HK1
    have HI := Lib.hid (inR_cell (i := i) hg)
    have HJ := Lib.hid (inR_cell (i := k) hg)
    have G := Grid.of hg
    obtain ⟨n, en⟩ : ∃ n, h.length = n := ⟨_, rfl⟩
    obtain ⟨m, em⟩ : ∃ m, (h.getD 0 []).length = m := ⟨_, rfl⟩
    obtain ⟨N, eN⟩ : ∃ N, n * m = N := ⟨_, rfl⟩
    have HN := Lib.hid (fun (W : World) (hW : Grew w W) => cells_any _ h W (hv.grew hW) G.n1 (by have := G.n5; omega) (by have := G.m5; omega))
    have hp := cells_le hg
    rw [en, em, eN] at HI HJ HN hp
    have hcon := fun W => inRange_any i 0 ((N : Int) - 1) W
    rw [HI.out] at hcon
    have hdon := fun W => inRange_any k 0 ((N : Int) - 1) W
    rw [HJ.out] at hdon
    cases hc : vCell h i with
    | false =>
      rw [hc] at hcon
      have HCON := Lib.hid hcon
      rw [withinL_no (by rw [hc]; rfl)]
      obtain ⟨a, b, o, c, rfl, _, _, _⟩ := hv.shape
      clear hc hcon hdon HK1 HK hg hv HI HJ G en em eN
      go_enter Tryd.func21, Tryd.ntmps21
      go_wp2_with (fail)
      refine HK2.out.mono ?_
      rintro e w1 ⟨rfl, hG⟩
      have HG := Lib.hid hG
      clear hG
      go_wp2_with (fail)
      refine (HN.out _ HG.out).mono ?_
      rintro e w2 ⟨rfl, rfl⟩
      go_wp2_with (fail)
      refine (HCON.out _).mono ?_
      rintro e w3 ⟨rfl, rfl⟩
      go_wp2
      go_ret
      exact ⟨rfl, HG.out⟩
    | true =>
      rw [hc] at hcon
      have HCON := Lib.hid hcon
      cases hd : vCell h k with
      | false =>
        rw [hd] at hdon
        have HDON := Lib.hid hdon
        rw [withinL_no (by rw [hc, hd]; rfl)]
        obtain ⟨a, b, o, c, rfl, _, _, _⟩ := hv.shape
        clear hc hd hcon hdon HK1 HK hg hv HI HJ G en em eN
        go_enter Tryd.func21, Tryd.ntmps21
        go_wp2_with (fail)
        refine HK2.out.mono ?_
        rintro e w1 ⟨rfl, hG⟩
        have HG := Lib.hid hG
        clear hG
        go_wp2_with (fail)
        refine (HN.out _ HG.out).mono ?_
        rintro e w2 ⟨rfl, rfl⟩
        go_wp2_with (fail)
        refine (HCON.out _).mono ?_
        rintro e w3 ⟨rfl, rfl⟩
        go_wp2_with (fail)
        refine (HN.out _ HG.out).mono ?_
        rintro e w2 ⟨rfl, rfl⟩
        go_wp2_with (fail)
        refine (HDON.out _).mono ?_
        rintro e w3 ⟨rfl, rfl⟩
        go_wp2
        go_ret
        exact ⟨rfl, HG.out⟩
      | true =>
        rw [hd] at hdon
        have HDON := Lib.hid hdon
        obtain ⟨_, h0, hI, _⟩ := vCell_yes hc
        obtain ⟨_, k0, hK, _⟩ := vCell_yes hd
        obtain ⟨I, rfl⟩ := Int.eq_ofNat_of_zero_le h0
        obtain ⟨K, rfl⟩ := Int.eq_ofNat_of_zero_le k0
        rw [Int.toNat_natCast] at hI hK
        have hIN : I < N := by rw [← eN, ← en, ← em]; exact hI
        have hKN : K < N := by rw [← eN, ← en, ← em]; exact hK
        cases hr : inR s 0 30 with
        | false =>
          have HSR := Lib.hid (fun (W : World) => inRange_any s 0 30 W)
          have HR := Lib.hid hr
          rw [withinL_no2 hr]
          obtain ⟨a, b, o, c, rfl, _, _, _⟩ := hv.shape
          clear hr hc hd hcon hdon HK1 HK hg hv HI HJ G h0 k0 hI hK en em eN
          go_enter Tryd.func21, Tryd.ntmps21
          go_wp2_with (fail)
          refine HK2.out.mono ?_
          rintro e w1 ⟨rfl, hG⟩
          have HG := Lib.hid hG
          clear hG
          go_wp2_with (fail)
          refine (HN.out _ HG.out).mono ?_
          rintro e w2 ⟨rfl, rfl⟩
          go_wp2_with (fail)
          refine (HCON.out _).mono ?_
          rintro e w3 ⟨rfl, rfl⟩
          go_wp2_with (fail)
          refine (HN.out _ HG.out).mono ?_
          rintro e w2 ⟨rfl, rfl⟩
          go_wp2_with (fail)
          refine (HDON.out _).mono ?_
          rintro e w3 ⟨rfl, rfl⟩
          go_wp2_with (fail)
          refine (HSR.out _).mono ?_
          rw [HR.out]
          rintro e w3 ⟨rfl, rfl⟩
          go_wp2
          go_ret
          exact ⟨rfl, HG.out⟩
        | true =>
          have hsr := hr
          unfold inR at hsr
          simp only [Bool.and_eq_true, decide_eq_true_eq] at hsr
          obtain ⟨s, rfl⟩ := Int.eq_ofNat_of_zero_le hsr.1
          have hs30 : s ≤ 30 := by omega
          have HSR := Lib.hid (fun (W : World) => inRange_any s 0 30 W)
          have HR := Lib.hid hr
          have HW : Hid (withinL h I K s = (climbL (aroundL n m) h.flatten I N s).getD K 0) := Lib.hid (by rw [withinL_yes en em hc hd hr, climb_cost (around_range G en em eN) (fun i x hx => around_nonneg hx) hIN hKN])
          have HLN : Hid ((climbL (aroundL n m) h.flatten I N s).length = N) := Lib.hid (climbL_len (around_range G en em eN) hIN)
          have HCL := Lib.hid fun (W : World) (hW : Grew w W) => climbs_any v h n m N I s W (hv.grew hW) hg en em eN hIN hs30
          obtain ⟨X, eX⟩ : ∃ X, climbL (aroundL n m) h.flatten I N s = X := ⟨_, rfl⟩
          rw [eX] at HW HLN HCL
          obtain ⟨x, ex⟩ : ∃ x, X.getD K 0 = x := ⟨_, rfl⟩
          rw [ex] at HW
          have HX := Lib.hid ex
          have hKn : (K : Int) < (N : Int) := by omega
          obtain ⟨a, b, o, c, rfl, _, _, _⟩ := hv.shape
          clear hc hd hcon hdon HK1 HK hg hv HI HJ G h0 k0 hI hK en em eN eX ex hr hsr
          go_enter Tryd.func21, Tryd.ntmps21
          go_wp2_with (fail)
          refine HK2.out.mono ?_
          rintro e w1 ⟨rfl, hG⟩
          have HG := Lib.hid hG
          clear hG
          go_wp2_with (fail)
          refine (HN.out _ HG.out).mono ?_
          rintro e w2 ⟨rfl, rfl⟩
          go_wp2_with (fail)
          refine (HCON.out _).mono ?_
          rintro e w3 ⟨rfl, rfl⟩
          go_wp2_with (fail)
          refine (HN.out _ HG.out).mono ?_
          rintro e w2 ⟨rfl, rfl⟩
          go_wp2_with (fail)
          refine (HDON.out _).mono ?_
          rintro e w3 ⟨rfl, rfl⟩
          go_wp2_with (fail)
          refine (HSR.out _).mono ?_
          rw [HR.out]
          rintro e w3 ⟨rfl, rfl⟩
          go_wp2_with (fail)
          refine (HCL.out _ HG.out).mono ?_
          rintro e w4 ⟨g, c4, rfl, hO, hg4⟩
          rw [HLN.out] at hO ⊢
          have hcx := (hO.at rfl (i := K) (by rw [HLN.out]; exact hKN)).1
          rw [HX.out] at hcx
          have HG4 := Lib.hid (HG.out.trans hg4)
          clear hO hg4
          go_wp2
          go_ret
          exact ⟨ret_int HW.out.symm, HG4.out⟩

end Go.Proofs.YtdhokofcgfolnaaDoor
