/- The contract of spec.PassBetween. -/
import Derived.Test.YtdhokofcgfolnaaDoorSReaches
import Derived.Test.YtdhokofcgfolnaaDoorWays
namespace Go.Proofs.YtdhokofcgfolnaaDoor
open Go.RowKit

set_option maxRecDepth 100000 in
set_option maxHeartbeats 2000000 in
theorem SPassBetween_any (v : Value) (h : List (List Int)) (i k : Int) (w : World) (hv : RowsV w v h) :
    Calls Tryd.prog 30 #[v, .int .i64 i, .int .i64 k] w fun e w' => e = .returned (.int .i64 (passL h i k)) ∧ Grew w w' := by
  have HK := Lib.hid (sValidGrid_any v h w hv)
  cases hg : vGrid h with
  | false =>
    have HK1 := HK.out
    rw [hg] at HK1
    have HK2 := Lib.hid HK1
    rw [passL_no (by rw [vCell_no hg]; rfl)]
    obtain ⟨a, b, o, c, rfl, _, _, _⟩ := hv.shape
    clear HK1 HK hg hv
    go_enter Tryd.func30, Tryd.ntmps30
    go_wp2_with (fail)
    refine HK2.out.mono ?_
    rintro e w' ⟨rfl, hG⟩
    have HG := Lib.hid hG
    clear hG
    go_wp2
    go_ret
    exact ⟨rfl, HG.out⟩
  | true =>
    have HK1 := HK.out
    rw [hg] at HK1
    have HK2 := Lib.hid HK1
    have HI := Lib.hid (inR_cell (i := i) hg)
    have HJ := Lib.hid (inR_cell (i := k) hg)
    have G := Grid.of hg
    obtain ⟨n, en⟩ : ∃ n, h.length = n := ⟨_, rfl⟩
    obtain ⟨m, em⟩ : ∃ m, (h.getD 0 []).length = m := ⟨_, rfl⟩
    obtain ⟨N, eN⟩ : ∃ N, n * m = N := ⟨_, rfl⟩
    have HN := Lib.hid (fun (W : World) (hW : Grew w W) => cells_any _ h W (hv.grew hW) G.n1 (by have := G.n5; omega) (by have := G.m5; omega))
    have hp := cells_le hg
    rw [en, em, eN] at HI HJ HN hp
    have hcon := fun W => inRange_any i 0 ((N : Int) - 1) W
    rw [HI.out] at hcon
    have hdon := fun W => inRange_any k 0 ((N : Int) - 1) W
    rw [HJ.out] at hdon
    cases hc : vCell h i with
    | false =>
      rw [hc] at hcon
      have HCON := Lib.hid hcon
      rw [passL_no (by rw [hc]; rfl)]
      obtain ⟨a, b, o, c, rfl, _, _, _⟩ := hv.shape
      clear hc hcon hdon HK1 HK hg hv HI HJ G en em eN
      go_enter Tryd.func30, Tryd.ntmps30
      go_wp2_with (fail)
      refine HK2.out.mono ?_
      rintro e w1 ⟨rfl, hG⟩
      have HG := Lib.hid hG
      clear hG
      go_wp2_with (fail)
      refine (HN.out _ HG.out).mono ?_
      rintro e w2 ⟨rfl, rfl⟩
      go_wp2_with (fail)
      refine (HCON.out _).mono ?_
      rintro e w3 ⟨rfl, rfl⟩
      go_wp2
      go_ret
      exact ⟨rfl, HG.out⟩
    | true =>
      rw [hc] at hcon
      have HCON := Lib.hid hcon
      cases hd : vCell h k with
      | false =>
        rw [hd] at hdon
        have HDON := Lib.hid hdon
        rw [passL_no (by rw [hc, hd]; rfl)]
        obtain ⟨a, b, o, c, rfl, _, _, _⟩ := hv.shape
        clear hc hd hcon hdon HK1 HK hg hv HI HJ G en em eN
        go_enter Tryd.func30, Tryd.ntmps30
        go_wp2_with (fail)
        refine HK2.out.mono ?_
        rintro e w1 ⟨rfl, hG⟩
        have HG := Lib.hid hG
        clear hG
        go_wp2_with (fail)
        refine (HN.out _ HG.out).mono ?_
        rintro e w2 ⟨rfl, rfl⟩
        go_wp2_with (fail)
        refine (HCON.out _).mono ?_
        rintro e w3 ⟨rfl, rfl⟩
        go_wp2_with (fail)
        refine (HN.out _ HG.out).mono ?_
        rintro e w2 ⟨rfl, rfl⟩
        go_wp2_with (fail)
        refine (HDON.out _).mono ?_
        rintro e w3 ⟨rfl, rfl⟩
        go_wp2
        go_ret
        exact ⟨rfl, HG.out⟩
      | true =>
        rw [hd] at hdon
        have HDON := Lib.hid hdon
        obtain ⟨_, h0, hI, _⟩ := vCell_yes hc
        obtain ⟨_, k0, hK, _⟩ := vCell_yes hd
        obtain ⟨I, rfl⟩ := Int.eq_ofNat_of_zero_le h0
        obtain ⟨K, rfl⟩ := Int.eq_ofNat_of_zero_le k0
        rw [Int.toNat_natCast] at hI hK
        have hIN : I < n * m := by rw [← en, ← em]; exact hI
        have hKN : K < n * m := by rw [← en, ← em]; exact hK
        have hn5 := G.n5
        have hm5 := G.m5
        rw [en] at hn5
        rw [em] at hm5
        have hpn : ∀ i, i < n * m → 0 ≤ h.flatten.getD i 0 ∧ h.flatten.getD i 0 ≤ 12 := fun i hi => grid_num G i (by rw [en, em]; exact hi)
        have HS : Hid (∀ L : Nat, Way n m h.flatten (L : Int) I K → (∀ M : Nat, M < L → ¬ Way n m h.flatten (M : Int) I K) → passL h I K = L) := Lib.hid fun L h1 h2 => by
          rw [passL_yes hg en em hc hd]
          exact passN_least hn5 hm5 hpn hIN hKN h1 h2
        have HR := Lib.hid fun (L : Int) (W : World) (hW : Grew w W) => sreaches_any v h n m N I K L W (hv.grew hW) hg en em eN (by rw [← eN]; exact hIN) (by rw [← eN]; exact hKN)
        have HT : Hid (Way n m h.flatten 12 I K) := Lib.hid ((passN_way hn5 hm5 hpn hIN hKN).up (passN_top hn5 hm5 hpn hIN hKN).2)
        obtain ⟨p, ep⟩ : ∃ p, h.flatten = p := ⟨_, rfl⟩
        rw [ep] at HS HR HT
        obtain ⟨R, eR⟩ : ∃ R, passL h (I : Int) (K : Int) = R := ⟨_, rfl⟩
        rw [eR] at HS ⊢
        obtain ⟨a, b, o, c, rfl, _, _, _⟩ := hv.shape
        clear hc hd hcon hdon HK1 HK hg hv HI HJ G h0 k0 hI hK en em eN ep eR hpn hn5 hm5 hIN hKN
        go_enter Tryd.func30, Tryd.ntmps30
        go_wp2_with (fail)
        refine HK2.out.mono ?_
        rintro e w1 ⟨rfl, hG⟩
        have HG := Lib.hid hG
        clear hG
        go_wp2_with (fail)
        refine (HN.out _ HG.out).mono ?_
        rintro e w2 ⟨rfl, rfl⟩
        go_wp2_with (fail)
        refine (HCON.out _).mono ?_
        rintro e w3 ⟨rfl, rfl⟩
        go_wp2_with (fail)
        refine (HN.out _ HG.out).mono ?_
        rintro e w2 ⟨rfl, rfl⟩
        go_wp2_with (fail)
        refine (HDON.out _).mono ?_
        rintro e w3 ⟨rfl, rfl⟩
        go_wp2
        go_loopw [7] (fun y wr => ∃ L : Nat, L ≤ 12 ∧ y = .int .i64 (L : Int) ∧ Hid ((∀ M : Nat, M < L → ¬ Way n m p (M : Int) I K) ∧ Grew w wr)) (fun y _ => 13 - (intOf y).toNat)
        case atStart => exact ⟨0, Nat.zero_le _, rfl, fun K hK => absurd hK (Nat.not_lt_zero _), HG.out⟩
        case round =>
          obtain ⟨L, hL1, rfl, HX⟩ := hrel
          have HRL := Lib.hid (HR.out (L : Int) wr HX.out.2)
          go_wp2_with (fail)
          refine HRL.out.mono ?_
          rintro e w3 ⟨bb, rfl, hb, hg3⟩
          cases bb with
          | true =>
            have HF : Hid (R = (L : Int) ∧ Grew w w3) := Lib.hid ⟨HS.out L (hb.1 rfl) HX.out.1, HX.out.2.trans hg3⟩
            clear hb hg3 HX HRL
            go_wp2
            go_ret
            exact ⟨ret_int HF.out.1.symm, HF.out.2⟩
          | false =>
            have hne : ¬ Way n m p (L : Int) I K := fun h => by have := hb.2 h; cases this
            have hL12 : L < 12 := by
              rcases Nat.lt_or_ge L 12 with h | h
              · exact h
              · have e : L = 12 := by omega
                subst e
                exact absurd HT.out hne
            have HF : Hid ((∀ M : Nat, M < L + 1 → ¬ Way n m p (M : Int) I K) ∧ Grew w w3) := Lib.hid ⟨fun M hM => by
              by_cases e : M = L
              · subst e; exact hne
              · exact HX.out.1 M (by omega), HX.out.2.trans hg3⟩
            clear hb hg3 HX HRL hne
            go_wp2
            go_roundw
            case rel => exact ⟨L + 1, by omega, by go_num, HF.out⟩
            case measure => simp [intOf]; omega
end Go.Proofs.YtdhokofcgfolnaaDoor
