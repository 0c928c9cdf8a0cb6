/- The contract of spec.SpillOf. -/
import Derived.Test.YtgecghngfonejaaDoorEscapes
import Derived.Test.YtgecghngfonejaaDoorSpillOf
namespace Go.Proofs.YtgecghngfonejaaDoor
open Go.RowKit

set_option maxRecDepth 100000 in
set_option maxHeartbeats 2000000 in
theorem SSpillOf_any (v : Value) (h : List (List Int)) (i : Int) (w : World) (hv : RowsV w v h) :
    Calls Tryd.prog 32 #[v, .int .i64 i] w fun e w' => e = .returned (.int .i64 (spillL h i)) ∧ Grew w w' := by
  have HK := Lib.hid (sValidGrid_any v h w hv)
  cases hg : vGrid h with
  | false =>
    have HK1 := HK.out
    rw [hg] at HK1
    have HK2 := Lib.hid HK1
    rw [spillL_no (vCell_no hg)]
    obtain ⟨a, b, o, c, rfl, _, _, _⟩ := hv.shape
    clear HK1 HK hg hv
    go_enter Tryd.func32, Tryd.ntmps32
    go_wp2_with (fail)
    refine HK2.out.mono ?_
    rintro e w' ⟨rfl, hG⟩
    have HG := Lib.hid hG
    clear hG
    go_wp2
    go_ret
    exact ⟨rfl, HG.out⟩
  | true =>
    have HK1 := HK.out
    rw [hg] at HK1
    have HK2 := Lib.hid HK1
    have HI := Lib.hid (inR_cell (i := i) hg)
    have G := Grid.of hg
    obtain ⟨n, en⟩ : ∃ n, h.length = n := ⟨_, rfl⟩
    obtain ⟨m, em⟩ : ∃ m, (h.getD 0 []).length = m := ⟨_, rfl⟩
    obtain ⟨N, eN⟩ : ∃ N, n * m = N := ⟨_, rfl⟩
    have HN := Lib.hid (fun (W : World) (hW : Grew w W) => cells_any _ h W (hv.grew hW) G.n1 (by have := G.n5; omega) (by have := G.m5; omega))
    have hp := cells_le hg
    rw [en, em, eN] at HI HN hp
    have hcon := fun W => inRange_any i 0 ((N : Int) - 1) W
    rw [HI.out] at hcon
    cases hc : vCell h i with
    | false =>
      rw [hc] at hcon
      have HCON := Lib.hid hcon
      rw [spillL_no hc]
      obtain ⟨a, b, o, c, rfl, _, _, _⟩ := hv.shape
      clear hc hcon HK1 HK hg hv HI G en em eN
      go_enter Tryd.func32, Tryd.ntmps32
      go_wp2_with (fail)
      refine HK2.out.mono ?_
      rintro e w1 ⟨rfl, hG⟩
      have HG := Lib.hid hG
      clear hG
      go_wp2_with (fail)
      refine (HN.out _ HG.out).mono ?_
      rintro e w2 ⟨rfl, rfl⟩
      go_wp2_with (fail)
      refine (HCON.out _).mono ?_
      rintro e w3 ⟨rfl, rfl⟩
      go_wp2
      go_ret
      exact ⟨rfl, HG.out⟩
    | true =>
      rw [hc] at hcon
      have HCON := Lib.hid hcon
      obtain ⟨_, h0, hI, _⟩ := vCell_yes hc
      obtain ⟨I, rfl⟩ := Int.eq_ofNat_of_zero_le h0
      rw [Int.toNat_natCast] at hI
      have HS := Lib.hid fun L => spillL_yes (L := L) hc en em (by rw [en, em] at hI; exact hI)
      have HR := Lib.hid fun (L : Int) (W : World) (hW : Grew w W) => escapes_any v h n m N I L W (hv.grew hW) hg en em eN (by rw [← eN, ← en, ← em]; exact hI)
      have HT := Lib.hid (esc_top (n := n) (m := m) (p := h.flatten) (L := 12) (fun i hi => (grid_num G i (by rw [en, em]; exact hi)).2) I (by rw [← en, ← em]; exact hI))
      obtain ⟨p, ep⟩ : ∃ p, h.flatten = p := ⟨_, rfl⟩
      rw [ep] at HS HR HT
      obtain ⟨R, eR⟩ : ∃ R, spillL h (I : Int) = R := ⟨_, rfl⟩
      rw [eR] at HS ⊢
      obtain ⟨a, b, o, c, rfl, _, _, _⟩ := hv.shape
      clear hc hcon HK1 HK hg hv HI G h0 hI en em eN ep eR
      go_enter Tryd.func32, Tryd.ntmps32
      go_wp2_with (fail)
      refine HK2.out.mono ?_
      rintro e w1 ⟨rfl, hG⟩
      have HG := Lib.hid hG
      clear hG
      go_wp2_with (fail)
      refine (HN.out _ HG.out).mono ?_
      rintro e w2 ⟨rfl, rfl⟩
      go_wp2_with (fail)
      refine (HCON.out _).mono ?_
      rintro e w3 ⟨rfl, rfl⟩
      go_wp2
      go_loopw [5] (fun y wr => ∃ L : Nat, L ≤ 12 ∧ y = .int .i64 (L : Int) ∧ Hid ((∀ K : Nat, K < L → ¬ Esc n m p (K : Int) I) ∧ Grew w wr)) (fun y _ => 13 - (intOf y).toNat)
      case atStart => exact ⟨0, Nat.zero_le _, rfl, fun K hK => absurd hK (Nat.not_lt_zero _), HG.out⟩
      case round =>
        obtain ⟨L, hL1, rfl, HX⟩ := hrel
        have HRL := Lib.hid (HR.out (L : Int) wr HX.out.2)
        go_wp2_with (fail)
        refine HRL.out.mono ?_
        rintro e w3 ⟨bb, rfl, hb, hg3⟩
        cases bb with
        | true =>
          have HF : Hid (R = (L : Int) ∧ Grew w w3) := Lib.hid ⟨HS.out L (hb.1 rfl) HX.out.1, HX.out.2.trans hg3⟩
          clear hb hg3 HX HRL
          go_wp2
          go_ret
          exact ⟨ret_int HF.out.1.symm, HF.out.2⟩
        | false =>
          have hne : ¬ Esc n m p (L : Int) I := fun h => by have := hb.2 h; cases this
          have hL12 : L < 12 := by
            rcases Nat.lt_or_ge L 12 with h | h
            · exact h
            · have e : L = 12 := by omega
              subst e
              exact absurd HT.out hne
          have HF : Hid ((∀ K : Nat, K < L + 1 → ¬ Esc n m p (K : Int) I) ∧ Grew w w3) := Lib.hid ⟨fun K hK => by
            by_cases e : K = L
            · subst e; exact hne
            · exact HX.out.1 K (by omega), HX.out.2.trans hg3⟩
          clear hb hg3 HX HRL hne
          go_wp2
          go_roundw
          case rel => exact ⟨L + 1, by omega, by go_num, HF.out⟩
          case measure => simp [intOf]; omega
end Go.Proofs.YtgecghngfonejaaDoor
