/- The contract of spec.FewestSteps. -/
import Derived.Test.YtdhokofcgfolnaaDoorFewest
namespace Go.Proofs.YtdhokofcgfolnaaDoor
open Go.RowKit

set_option maxRecDepth 100000 in
set_option maxHeartbeats 2000000 in
theorem SFewestSteps_any (v : Value) (h : List (List Int)) (i k : Int) (w : World) (hv : RowsV w v h) :
    Calls Tryd.prog 24 #[v, .int .i64 i, .int .i64 k] w fun e w' => e = .returned (.int .i64 (fewV h i k)) ∧ Grew w w' := by
  have HK := Lib.hid (sValidGrid_any v h w hv)
  cases hg : vGrid h with
  | false =>
    have HK1 := HK.out
    rw [hg] at HK1
    have HK2 := Lib.hid HK1
    rw [fewV_no (by rw [vCell_no hg]; rfl)]
    obtain ⟨a, b, o, c, rfl, _, _, _⟩ := hv.shape
    clear HK1 HK hg hv
    go_enter Tryd.func24, Tryd.ntmps24
    go_wp2_with (fail)
    refine HK2.out.mono ?_
    rintro e w' ⟨rfl, hG⟩
    have HG := Lib.hid hG
    clear hG
    go_wp2
    go_ret
    exact ⟨rfl, HG.out⟩
  | true =>
    have HK1 := HK.out
    rw [hg] at HK1
    have HK2 := Lib.hid HK1
    have HI := Lib.hid (inR_cell (i := i) hg)
    have HJ := Lib.hid (inR_cell (i := k) hg)
    have G := Grid.of hg
    obtain ⟨n, en⟩ : ∃ n, h.length = n := ⟨_, rfl⟩
    obtain ⟨m, em⟩ : ∃ m, (h.getD 0 []).length = m := ⟨_, rfl⟩
    obtain ⟨N, eN⟩ : ∃ N, n * m = N := ⟨_, rfl⟩
    have HN := Lib.hid (fun (W : World) (hW : Grew w W) => cells_any _ h W (hv.grew hW) G.n1 (by have := G.n5; omega) (by have := G.m5; omega))
    have hp := cells_le hg
    rw [en, em, eN] at HI HJ HN hp
    have hcon := fun W => inRange_any i 0 ((N : Int) - 1) W
    rw [HI.out] at hcon
    have hdon := fun W => inRange_any k 0 ((N : Int) - 1) W
    rw [HJ.out] at hdon
    cases hc : vCell h i with
    | false =>
      rw [hc] at hcon
      have HCON := Lib.hid hcon
      rw [fewV_no (by rw [hc]; rfl)]
      obtain ⟨a, b, o, c, rfl, _, _, _⟩ := hv.shape
      clear hc hcon hdon HK1 HK hg hv HI HJ G en em eN
      go_enter Tryd.func24, Tryd.ntmps24
      go_wp2_with (fail)
      refine HK2.out.mono ?_
      rintro e w1 ⟨rfl, hG⟩
      have HG := Lib.hid hG
      clear hG
      go_wp2_with (fail)
      refine (HN.out _ HG.out).mono ?_
      rintro e w2 ⟨rfl, rfl⟩
      go_wp2_with (fail)
      refine (HCON.out _).mono ?_
      rintro e w3 ⟨rfl, rfl⟩
      go_wp2
      go_ret
      exact ⟨rfl, HG.out⟩
    | true =>
      rw [hc] at hcon
      have HCON := Lib.hid hcon
      cases hd : vCell h k with
      | false =>
        rw [hd] at hdon
        have HDON := Lib.hid hdon
        rw [fewV_no (by rw [hc, hd]; rfl)]
        obtain ⟨a, b, o, c, rfl, _, _, _⟩ := hv.shape
        clear hc hd hcon hdon HK1 HK hg hv HI HJ G en em eN
        go_enter Tryd.func24, Tryd.ntmps24
        go_wp2_with (fail)
        refine HK2.out.mono ?_
        rintro e w1 ⟨rfl, hG⟩
        have HG := Lib.hid hG
        clear hG
        go_wp2_with (fail)
        refine (HN.out _ HG.out).mono ?_
        rintro e w2 ⟨rfl, rfl⟩
        go_wp2_with (fail)
        refine (HCON.out _).mono ?_
        rintro e w3 ⟨rfl, rfl⟩
        go_wp2_with (fail)
        refine (HN.out _ HG.out).mono ?_
        rintro e w2 ⟨rfl, rfl⟩
        go_wp2_with (fail)
        refine (HDON.out _).mono ?_
        rintro e w3 ⟨rfl, rfl⟩
        go_wp2
        go_ret
        exact ⟨rfl, HG.out⟩
      | true =>
        rw [hd] at hdon
        have HDON := Lib.hid hdon
        obtain ⟨_, h0, hI, _⟩ := vCell_yes hc
        obtain ⟨_, k0, hK, _⟩ := vCell_yes hd
        obtain ⟨I, rfl⟩ := Int.eq_ofNat_of_zero_le h0
        obtain ⟨K, rfl⟩ := Int.eq_ofNat_of_zero_le k0
        rw [Int.toNat_natCast] at hI hK
        have hIN : I < N := by rw [← eN, ← en, ← em]; exact hI
        have hKN : K < N := by rw [← eN, ← en, ← em]; exact hK
        have HW : Hid (fewV h I K = lastCh (aroundL n m) h.flatten K N I) := Lib.hid (fewV_yes en em eN hc hd)
        have HF := Lib.hid fun (W : World) (hW : Grew w W) => fewest_any v h n m N I K W (hv.grew hW) hg en em eN hIN hKN hc hd
        obtain ⟨x, ex⟩ : ∃ x, lastCh (aroundL n m) h.flatten K N I = x := ⟨_, rfl⟩
        rw [ex] at HW HF
        obtain ⟨a, b, o, c, rfl, _, _, _⟩ := hv.shape
        clear hc hd hcon hdon HK1 HK hg hv HI HJ G h0 k0 hI hK en em eN ex
        go_enter Tryd.func24, Tryd.ntmps24
        go_wp2_with (fail)
        refine HK2.out.mono ?_
        rintro e w1 ⟨rfl, hG⟩
        have HG := Lib.hid hG
        clear hG
        go_wp2_with (fail)
        refine (HN.out _ HG.out).mono ?_
        rintro e w2 ⟨rfl, rfl⟩
        go_wp2_with (fail)
        refine (HCON.out _).mono ?_
        rintro e w3 ⟨rfl, rfl⟩
        go_wp2_with (fail)
        refine (HN.out _ HG.out).mono ?_
        rintro e w2 ⟨rfl, rfl⟩
        go_wp2_with (fail)
        refine (HDON.out _).mono ?_
        rintro e w3 ⟨rfl, rfl⟩
        go_wp2_with (fail)
        refine (HF.out _ HG.out).mono ?_
        rintro e w4 ⟨rfl, hg4⟩
        have HG4 := Lib.hid (HG.out.trans hg4)
        clear hg4
        go_wp2
        go_ret
        exact ⟨ret_int HW.out.symm, HG4.out⟩
end Go.Proofs.YtdhokofcgfolnaaDoor
