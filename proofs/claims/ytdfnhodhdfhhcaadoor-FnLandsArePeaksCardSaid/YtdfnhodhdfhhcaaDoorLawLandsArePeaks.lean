/- The law FnLandsArePeaks returns true. -/
import Derived.Test.YtdfnhodhdfhhcaaDoorPeakS
import Derived.Test.YtdfnhodhdfhhcaaDoorLands
import Derived.Test.YtdfnhodhdfhhcaaDoorSLands
import Derived.Test.YtdfnhodhdfhhcaaDoorDrawsL
import Derived.Test.YtdfnhodhdfhhcaaDoorRowOf
namespace Go.Proofs.YtdfnhodhdfhhcaaDoor
open Go.RowKit

theorem grid_hts' {h : List (List Int)} (hv : vGrid h = true) : ∀ i, 0 ≤ h.flatten.getD i 0 ∧ h.flatten.getD i 0 ≤ 12 := by
  intro i
  have G := Grid.of hv
  have hl := flat_grid_len G
  by_cases hi : i < h.flatten.length
  · rw [flat_at G i (by omega)]
    have hm := G.m1
    exact G.num (i / (h.getD 0 []).length) (div_lt_of h.length _ i (by omega)) (i % (h.getD 0 []).length) (Nat.mod_lt _ hm)
  · rw [List.getD_eq_getElem?_getD, List.getElem?_eq_none (by omega)]
    exact ⟨by decide, by decide⟩

set_option maxRecDepth 100000 in
set_option maxHeartbeats 4000000 in
theorem FnLandsArePeaks_any (v : Value) (bs : List Int) (w : World) (hv : NumsV .u8 w v bs) (hb : ∀ i, i < bs.length → 0 ≤ bs.getD i 0 ∧ bs.getD i 0 ≤ 255) (hS : Steps w) :
    Calls Tryd.prog 9 #[v] w fun e w' => e = .returned (.bool true) ∧ Grew w w' := by
  have HD := Lib.hid (DrawLandsAt_any v bs w hv hb)
  have HS := Lib.hid hS
  obtain ⟨a, b, o, c, rfl, ⟨hlc, hcb⟩, _, _⟩ := hv.shape
  clear hv hb hS
  by_cases hbig : 1048576 < bs.length
  · go_enter Tryd.func9, Tryd.ntmps9
    go_wp2
    go_ret
    exact ⟨rfl, Grew.refl _⟩
  · go_enter Tryd.func9, Tryd.ntmps9
    go_wp2_with (fail)
    refine HD.out.mono ?_
    rintro e w1 ⟨v1, h, t, rfl, hO, hd, ht, hg1⟩
    have HV := Lib.hid (And.intro hO.toV hg1)
    have HS1 : Hid (Steps w1) := Lib.hid (HS.out.grew hg1)
    obtain ⟨a3, c3, rfl⟩ := hO.sh
    obtain ⟨X, eX⟩ : ∃ X, landsX h t = X := ⟨_, rfl⟩
    have HX := Lib.hid eX
    clear hO hd hg1 HD eX
    go_wp2_with (fail)
    (with_reducible refine (LandsAt_any _ h t _ HV.out.1 HS1.out).mono ?_)
    rw [HX.out]
    rintro e w2 ⟨rfl, hg2⟩
    have HG2 := Lib.hid hg2
    clear hg2
    go_wp2_with (fail)
    (with_reducible refine (SLandsAt_any _ h t _ (HV.out.1.grew HG2.out)).mono ?_)
    rw [HX.out]
    rintro e w3 ⟨rfl, hg3⟩
    have HG3 := Lib.hid (HG2.out.trans hg3)
    clear hg3
    have exx : (X != X) = false := by simp
    go_wp2_with (fail)
    (with_reducible refine (LandsAt_any _ h t _ (HV.out.1.grew HG3.out) (HS1.out.grew HG3.out)).mono ?_)
    rw [HX.out]
    rintro e w4 ⟨rfl, hg4⟩
    have HG4 := Lib.hid (HG3.out.trans hg4)
    clear hg4
    cases hp : vLevel h t with
    | false =>
      have hX : X = -1 := by rw [← HX.out]; unfold landsX; rw [hp]; rfl
      subst hX
      clear hp
      go_wp2
      go_ret
      exact ⟨rfl, HV.out.2.trans HG4.out⟩
    | true =>
      have hg := vLevel_grid hp
      have G := Grid.of hg
      have hpl := flat_grid_len G
      obtain ⟨n, en⟩ : ∃ n, h.length = n := ⟨_, rfl⟩
      obtain ⟨m, em⟩ : ∃ m, (h.getD 0 []).length = m := ⟨_, rfl⟩
      obtain ⟨N, eN⟩ : ∃ N, n * m = N := ⟨_, rfl⟩
      rw [en, em, eN] at hpl
      have hn5 := G.n5
      have hm5 := G.m5
      rw [en] at hn5
      rw [em] at hm5
      have hN25 : N ≤ 25 := by rw [← eN]; exact Nat.mul_le_mul hn5 hm5
      have hhe := grid_hts' hg
      have HRO := Lib.hid (rowOf_any _ h w4 (HV.out.1.grew HG4.out) (Nat.le_trans G.n5 (by decide)) (fun r hr => by have := G.len r hr; have := G.m1; have := G.m5; omega))
      obtain ⟨p, ep⟩ : ∃ p, h.flatten = p := ⟨_, rfl⟩
      rw [ep] at hpl hhe HRO
      have hx : X = cntT N (touchS m) (above p t) N := by rw [← HX.out]; unfold landsX; rw [if_pos hp, en, em, eN, ep]
      obtain ⟨bt, hF, hB, hE⟩ := endsL_some' hg en em ep eN (beat_exists' n m N p (flatsL n m (sameH p)) ovUp eN)
      have hLP := lands_peaks (t := t) hn5 hm5 eN (fun x => (hhe x).2) hF hB rfl
      have hXb := cntT_le N (touchS m) (above p t) N
      obtain ⟨M, eM⟩ : ∃ M, peaksL h = M := ⟨_, rfl⟩
      have hME : M = keptL (flatsL n m (sameH p)) bt N := by rw [← eM]; exact hE
      rw [← hME, ← hx] at hLP
      rw [← hx] at hXb
      have HMM : Hid (∀ K, K < M.length → ∃ j : Nat, M.getD K 0 = j ∧ j < N) := Lib.hid fun K hK => by
        have hm : M.getD K 0 ∈ M := by
          rw [List.getD_eq_getElem?_getD, List.getElem?_eq_getElem hK]
          exact List.getElem_mem hK
        rw [hME] at hm
        obtain ⟨i, e1, e2, _⟩ := mem_keptL.1 hm
        rw [← hME] at e1
        exact ⟨i, e1, e2⟩
      have hMl : M.length ≤ 25 := by rw [hME]; exact Nat.le_trans (keptL_le _ _ _) hN25
      have HPK : Hid (∀ W, Grew w1 W → Calls Tryd.prog 31 #[.slice a3 h.length c3] W (OwnI W M)) := Lib.hid fun W hW => by
        have := PeaksOf_any _ h W (HV.out.1.grew hW) (HS1.out.grew hW)
        rwa [eM] at this
      obtain ⟨l, el⟩ : ∃ l, M.length = l := ⟨_, rfl⟩
      rw [el] at HMM hMl hLP
      have HEL := Lib.hid el
      have HLP := Lib.hid hLP
      have HPL := Lib.hid hpl
      have hX0 : ¬ X < 0 := by omega
      have hX25 : X ≤ 25 := by omega
      clear hp hg G hpl en em eN hhe ep hx hF hB hE hLP hXb eM hME el hn5 hm5
      go_wp2_with (fail)
      refine HRO.out.mono ?_
      rintro e w5 ⟨g5, c5, rfl, hO5, hg5⟩
      rw [HPL.out] at hO5 ⊢
      have H5 : Hid ((∀ i, i < N → w5.cell? ⟨g5, i, none⟩ = some (.int .i64 (p.getD i 0))) ∧ Grew w1 w5) := Lib.hid ⟨fun i hi => (hO5.at rfl (by rw [HPL.out]; exact hi)).1, HG4.out.trans hg5⟩
      clear hO5 hg5 HRO
      go_wp2_with (fail)
      refine (HPK.out _ H5.out.2).mono ?_
      rintro e w6 ⟨a6, c6, rfl, hO6, hg6⟩
      rw [HEL.out] at hO6 ⊢
      have H6 := Lib.hid (And.intro hO6.toV hg6)
      clear hO6 hg6 HPK
      go_wp2
      go_loopw [8, 9] (fun sv kv wr => ∃ (K : Nat) (q : Int), K ≤ l ∧ kv = .int .i64 (K : Int) ∧ sv = .int .i64 q ∧ 0 ≤ q ∧ q ≤ (K : Int) ∧ Hid (q = sumTo (fun k => if t < p.getD (M.getD k 0).toNat 0 then 1 else 0) K ∧ Grew w6 wr)) (fun _ k _ => l - (intOf k).toNat)
      case atStart => exact ⟨0, 0, Nat.zero_le _, rfl, rfl, by omega, by omega, rfl, Grew.refl _⟩
      case round =>
        obtain ⟨K, q, hK1, rfl, rfl, hq0, hq1, HI⟩ := hrel
        by_cases hK : K < l
        · obtain ⟨j, ej, hj⟩ := HMM.out K hK
          have hcj := HI.out.2.cell (H6.out.2.cell (H5.out.1 j hj))
          obtain ⟨y, ey⟩ : ∃ y, p.getD j 0 = y := ⟨_, rfl⟩
          rw [ey] at hcj
          obtain ⟨a7, b7, o7, c7, e7, _, ha7, hc7⟩ := H6.out.1.shape
          obtain rfl := ha7 (by rw [HEL.out]; omega)
          rw [HEL.out] at e7
          simp only [Value.slice.injEq, true_and] at e7
          obtain ⟨rfl, rfl⟩ := e7
          have hcL := HI.out.2.cell (hc7.out K (by rw [HEL.out]; omega))
          rw [ej] at hcL
          have HEJ := Lib.hid (And.intro ej ey)
          have hji : (j : Int) < (N : Int) := by omega
          have hKi : (K : Int) < (l : Int) := by omega
          have hj0 : (0 : Int) ≤ (j : Int) := by omega
          clear ej ey ha7 hc7
          by_cases hty : t < y
          · go_wp2
            go_roundw
            case rel => exact ⟨K + 1, q + 1, by omega, by go_num, by go_num, by omega, by omega, by show _ = _; rw [sumTo, ← HI.out.1, HEJ.out.1, Int.toNat_natCast, HEJ.out.2, if_pos hty], HI.out.2⟩
            case measure => simp [intOf]; omega
          · go_wp2
            go_roundw
            case rel => exact ⟨K + 1, q, by omega, by go_num, rfl, by omega, by omega, by show _ = _; rw [sumTo, ← HI.out.1, HEJ.out.1, Int.toNat_natCast, HEJ.out.2, if_neg hty, Int.add_zero], HI.out.2⟩
            case measure => simp [intOf]; omega
        · obtain rfl : K = l := by omega
          obtain ⟨hle, hpos⟩ := HLP.out
          rw [← HI.out.1] at hle hpos
          have HGG := Lib.hid (HV.out.2.trans (H5.out.2.trans (H6.out.2.trans HI.out.2)))
          by_cases hX1 : 0 < X
          · have hq2 : 0 < q := by omega
            clear hpos
            go_wp2
            go_ret
            exact ⟨ret_bool (by first | (simp; done) | (simp; omega)), HGG.out⟩
          · have hq2 : ¬ 0 < q := fun h => hX1 (hpos h)
            clear hpos
            go_wp2
            go_ret
            exact ⟨ret_bool (by first | (simp; done) | (simp; omega)), HGG.out⟩
end Go.Proofs.YtdfnhodhdfhhcaaDoor
