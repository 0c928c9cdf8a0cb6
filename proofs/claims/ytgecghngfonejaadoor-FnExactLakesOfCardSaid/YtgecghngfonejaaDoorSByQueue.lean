/- The contracts of spec.byQueue and spec.FillByQueue. -/
import Derived.Test.YtgecghngfonejaaDoorCells
import Derived.Test.YtgecghngfonejaaDoorSBySinking
namespace Go.Proofs.YtgecghngfonejaaDoor
open Go.RowKit

set_option maxRecDepth 100000 in
set_option maxHeartbeats 8000000 in
theorem byQueue_any (v : Value) (h : List (List Int)) (n m N : Nat) (w : World) (hv : RowsV w v h) (hg : vGrid h = true) (en : h.length = n) (em : (h.getD 0 []).length = m) (eN : n * m = N) :
    Calls Tryd.prog 59 #[v] w (LevelPost n m N h.flatten w) := by
  have G := Grid.of hg
  have hn5 := G.n5
  have hn1 := G.n1
  have hm5 := G.m5
  have hm1 := G.m1
  have hpl := flat_grid_len G
  have hpn : ∀ i, i < N → 0 ≤ h.flatten.getD i 0 ∧ h.flatten.getD i 0 ≤ 12 := fun i hi => grid_num G i (by rw [en, em, eN]; exact hi)
  rw [en, em, eN] at hpl
  rw [en] at hn5 hn1
  rw [em] at hm5 hm1
  have hN25 : N ≤ 25 := by rw [← eN]; exact Nat.mul_le_mul hn5 hm5
  have hN1 : 1 ≤ N := by rw [← eN]; exact Nat.mul_pos hn1 hm1
  obtain ⟨p, ep⟩ : ∃ p, h.flatten = p := ⟨_, rfl⟩
  rw [ep] at hpl hpn ⊢
  have HNM := Lib.hid (And.intro hn5 (And.intro hm5 (And.intro eN (And.intro hpl hpn))))
  obtain ⟨pf, hpf⟩ : ∃ pf : Nat → Int, ∀ i, pf i = p.getD i 0 := ⟨fun i => p.getD i 0, fun _ => rfl⟩
  have HPF := Lib.hid hpf
  have HS := Lib.hid (specH hv hg en em eN (by rw [ep]; exact hpf))
  have HE := Lib.hid fun I W (hW : Grew w W) (hI : I < N) => sonEdgeB hv hg en em I W hW (by rw [eN]; exact hI)
  obtain ⟨a, b, o, c, rfl, ⟨hlc, hcb⟩, _, _⟩ := hv.shape
  rw [en] at hlc HS HE ⊢
  clear hv hg G hm5 hm1 ep hpf hpl hpn en em eN
  go_enter Tryd.func59, Tryd.ntmps59
  go_wp2_with (fail)
  refine (HS.out.cells _ (Grew.refl _)).mono ?_
  rintro e w0 ⟨rfl, rfl⟩
  go_wp2_with (at_make; first
    | (refine wpList_make_ints rfl (.tmp 16) (.tmp 16) 26 rfl Tryd.underlying26 Tryd.infoI rfl rfl rfl rfl (by omega) ?_; intro w1 hO1 hg1 hs1)
    | (refine wpList_make_bools rfl (.tmp 18) (.tmp 18) 50 rfl Tryd.underlying50 Tryd.infoBool rfl rfl rfl rfl (by omega) ?_; intro w2 hO2 hg2 hs2))
  obtain ⟨B1, eB1⟩ : ∃ B1, w1.heap.size = B1 := ⟨_, rfl⟩
  obtain ⟨B2, eB2⟩ : ∃ B2, w2.heap.size = B2 := ⟨_, rfl⟩
  rw [eB1] at hO1 hO2 hs1 hs2 ⊢
  rw [eB2] at hO2 hs2
  have H0 : Hid (∃ lv dn low, IntsO 3 w.heap.size B1 w2 (.slice (some ⟨w.heap.size, 0, none⟩) N N) lv ∧ BoolsO 4 B1 B2 w2 (.slice (some ⟨B1, 0, none⟩) N N) dn ∧ Pick n m p lv dn low ∧ dn.count false + 0 = N ∧ Grew w w2 ∧ B2 ≤ w2.heap.size) := by
    have hP := pick_start (n := n) (m := m) (p := p) (fun i hi => (HNM.out.2.2.2.2 i (by rw [← HNM.out.2.2.1]; exact hi)).1)
    rw [HNM.out.2.2.1] at hP
    exact Lib.hid ⟨_, _, _, hO1.grew hg2, hO2, hP, by simp, hg1.trans hg2, Nat.le_of_eq eB2.symm⟩
  have HB := Lib.hid (And.intro hs1 hs2)
  clear hO1 hO2 hg1 hg2 hs1 hs2 eB1 eB2
  go_loopg [6] N (fun gk i wr => ∃ T : Nat, i = .int .i64 (T : Int) ∧ T ≤ N ∧ N ≤ gk + T ∧ Hid (∃ lv dn low, IntsO 3 w.heap.size B1 wr (.slice (some ⟨w.heap.size, 0, none⟩) N N) lv ∧ BoolsO 4 B1 B2 wr (.slice (some ⟨B1, 0, none⟩) N N) dn ∧ Pick n m p lv dn low ∧ dn.count false + T = N ∧ Grew w wr ∧ B2 ≤ wr.heap.size))
  case atStart => exact ⟨0, rfl, Nat.zero_le _, Nat.le_refl _, H0.out⟩
  case round =>
    obtain ⟨T, rfl, hT1, hT2, HT⟩ := hrel
    clear H0
    by_cases hT : T < N
    · obtain ⟨lv, dn, low0, HX⟩ : ∃ lv dn low, Hid (IntsO 3 w.heap.size B1 wr (.slice (some ⟨w.heap.size, 0, none⟩) N N) lv ∧ BoolsO 4 B1 B2 wr (.slice (some ⟨B1, 0, none⟩) N N) dn ∧ Pick n m p lv dn low ∧ dn.count false + T = N ∧ Grew w wr ∧ B2 ≤ wr.heap.size) := by
        obtain ⟨lv, dn, low, h⟩ := HT.out
        exact ⟨lv, dn, low, Lib.hid h⟩
      have HDL : Hid (dn.length = N ∧ lv.length = N) := Lib.hid ⟨by rw [HX.out.2.2.1.lenB, HNM.out.2.2.1], by rw [HX.out.2.2.1.len, HNM.out.2.2.1]⟩
      clear HT
      obtain ⟨gO, rfl⟩ : ∃ gO : Nat, gO = gk := ⟨_, rfl⟩
      obtain ⟨wO, rfl⟩ : ∃ wO : World, wO = wr := ⟨_, rfl⟩
      go_wp2
      go_loopg [7, 8, 9] N (fun gk bv lw i wi => ∃ (best low : Int) (I : Nat), bv = .int .i64 best ∧ lw = .int .i64 low ∧ i = .int .i64 (I : Int) ∧ I ≤ N ∧ N ≤ gk + I ∧
        Hid (IntsO 3 w.heap.size B1 wi (.slice (some ⟨w.heap.size, 0, none⟩) N N) lv ∧ BoolsO 4 B1 B2 wi (.slice (some ⟨B1, 0, none⟩) N N) dn ∧ Best n m p lv dn I best low ∧ Grew w wi ∧ B2 ≤ wi.heap.size))
      case atStart => exact ⟨-1, 0, 0, rfl, rfl, rfl, Nat.zero_le _, Nat.le_refl _, HX.out.1, HX.out.2.1, best_start _ _ _ _ _ _, HX.out.2.2.2.2.1, HX.out.2.2.2.2.2⟩
      case round =>
        obtain ⟨best, low, I, rfl, rfl, rfl, hI1, hI2, HY⟩ := hrel
        by_cases hI : I < N
        · obtain ⟨hcD, _⟩ := HY.out.2.1.at rfl (i := I) (by rw [HDL.out.1]; exact hI)
          have hIi : (I : Int) < (N : Int) := by omega
          cases hd : dn.getD I false with
          | true =>
            rw [hd] at hcD
            have HF : Hid (IntsO 3 w.heap.size B1 wr (.slice (some ⟨w.heap.size, 0, none⟩) N N) lv ∧ BoolsO 4 B1 B2 wr (.slice (some ⟨B1, 0, none⟩) N N) dn ∧ Best n m p lv dn (I + 1) best low ∧ Grew w wr ∧ B2 ≤ wr.heap.size) := Lib.hid ⟨HY.out.1, HY.out.2.1, HY.out.2.2.1.done hd, HY.out.2.2.2⟩
            clear HY hd
            go_wp2
            go_roundg (gk - 1)
            case measure => omega
            case rel => exact ⟨best, low, I + 1, rfl, rfl, by go_num, by omega, by omega, HF.out⟩
          | false =>
            rw [hd] at hcD
            have HDI := Lib.hid hd
            clear hd
            have HEI := HE.out I wr HY.out.2.2.2.1 hI
            obtain ⟨gb, rfl⟩ : ∃ gb : Nat, gb = gk := ⟨_, rfl⟩
            obtain ⟨wb, rfl⟩ : ∃ wb : World, wb = wr := ⟨_, rfl⟩
            cases he : edgeL n m I
            case' false =>
              rw [he] at HEI
              have HEI2 := Lib.hid HEI
              have HC0 : Hid (Cand n m p lv dn I 0 (-1)) := Lib.hid (cand_none he)
              clear HEI he
              go_wp2_with (fail)
              refine HEI2.out.mono ?_
              rintro e w3 ⟨rfl, hg3⟩
              have H3 : Hid (IntsO 3 w.heap.size B1 w3 (.slice (some ⟨w.heap.size, 0, none⟩) N N) lv ∧ BoolsO 4 B1 B2 w3 (.slice (some ⟨B1, 0, none⟩) N N) dn ∧ Best n m p lv dn I best low ∧ Grew w w3 ∧ B2 ≤ w3.heap.size) :=
                Lib.hid ⟨HY.out.1.grew hg3, HY.out.2.1.grew hg3, HY.out.2.2.1, HY.out.2.2.2.1.trans hg3, Nat.le_trans HY.out.2.2.2.2 hg3.size⟩
              clear hg3 HY HEI2 hcD
            case' true =>
              rw [he] at HEI
              have HEI2 := Lib.hid HEI
              have HC0 : Hid (Cand n m p lv dn I 0 (pf I)) := Lib.hid (by
                rw [HPF.out I]
                exact cand_edge he (HNM.out.2.2.2.2 I hI).1)
              clear HEI he
              go_wp2_with (fail)
              refine HEI2.out.mono ?_
              rintro e w2a ⟨rfl, hg2a⟩
              have H2a := Lib.hid hg2a
              clear hg2a
              go_wp2_with (fail)
              refine (HS.out.hat I _ (HY.out.2.2.2.1.trans H2a.out) hI).mono ?_
              rintro e w3 ⟨rfl, hq⟩
              have hg3 := H2a.out.trans (quiet_grew hq)
              have H3 : Hid (IntsO 3 w.heap.size B1 w3 (.slice (some ⟨w.heap.size, 0, none⟩) N N) lv ∧ BoolsO 4 B1 B2 w3 (.slice (some ⟨B1, 0, none⟩) N N) dn ∧ Best n m p lv dn I best low ∧ Grew w w3 ∧ B2 ≤ w3.heap.size) :=
                Lib.hid ⟨HY.out.1.grew hg3, HY.out.2.1.grew hg3, HY.out.2.2.1, HY.out.2.2.2.1.trans hg3, Nat.le_trans HY.out.2.2.2.2 hg3.size⟩
              clear hg3 HY HEI2 hcD hq H2a
            all_goals
              have HA := Lib.hid (HS.out.around I w3 H3.out.2.2.2.1 hI)
              have HL4 : Hid ((aroundL n m I).length ≤ 4) := Lib.hid (around_facts HNM.out.1 HNM.out.2.1 (by rw [HNM.out.2.2.1]; exact hI)).2.2
              go_wp2_with (fail)
              refine HA.out.mono ?_
              rintro e w4 ho4
              obtain ⟨a4, c4, rfl, hw4, hg4⟩ := ho4.shape
              obtain ⟨L, eL⟩ : ∃ L, aroundL n m I = L := ⟨_, rfl⟩
              rw [eL] at hw4 HL4 ⊢
              have hl4 := HL4.out
              have HEL := Lib.hid eL
              have H4 : Hid (IntsO 3 w.heap.size B1 w4 (.slice (some ⟨w.heap.size, 0, none⟩) N N) lv ∧ BoolsO 4 B1 B2 w4 (.slice (some ⟨B1, 0, none⟩) N N) dn ∧ IntsO 3 w3.heap.size w4.heap.size w4 (.slice a4 L.length c4) L ∧ Grew w w4 ∧ B2 ≤ w4.heap.size) :=
                Lib.hid ⟨H3.out.1.grew hg4, H3.out.2.1.grew hg4, hw4, H3.out.2.2.2.1.trans hg4, Nat.le_trans H3.out.2.2.2.2 hg4.size⟩
              have HBE := Lib.hid H3.out.2.2.1
              clear ho4 hw4 hg4 eL HA H3
              go_wp2
              go_loopg [10, 12] L.length (fun gl xv i wj => ∃ (x : Int) (t : Nat), xv = .int .i64 x ∧ i = .int .i64 (t : Int) ∧ t ≤ L.length ∧ L.length ≤ gl + t ∧
                Hid (IntsO 3 w.heap.size B1 wj (.slice (some ⟨w.heap.size, 0, none⟩) N N) lv ∧ BoolsO 4 B1 B2 wj (.slice (some ⟨B1, 0, none⟩) N N) dn ∧ IntsO 3 w3.heap.size w4.heap.size wj (.slice a4 L.length c4) L ∧ Cand n m p lv dn I t x ∧ Grew w wj ∧ B2 ≤ wj.heap.size))
              case atStart => exact ⟨_, 0, rfl, rfl, Nat.zero_le _, Nat.le_refl _, H4.out.1, H4.out.2.1, H4.out.2.2.1, HC0.out, H4.out.2.2.2⟩
              case round =>
                obtain ⟨x, t, rfl, rfl, ht1, ht2, HZ⟩ := hrel
                clear H4 HC0
                by_cases htl : t < L.length
                · obtain ⟨hlv, hdn, hL, hC, hgr, hsz⟩ := HZ.out
                  obtain ⟨a6, b6, o6, c6, e6, _, ha6, HC6⟩ := hL.toV.shape
                  obtain ⟨rfl, rfl⟩ : a4 = a6 ∧ c4 = c6 := by simp at e6; exact e6
                  obtain rfl := ha6 (by omega)
                  have hlc2 := HC6.out t htl
                  have hAf := (around_facts HNM.out.1 HNM.out.2.1 (I := I) (by rw [HNM.out.2.2.1]; exact hI)).1
                  rw [HEL.out] at hAf
                  have hmem : L.getD t 0 ∈ L := by
                    rw [List.getD_eq_getElem?_getD, List.getElem?_eq_getElem htl]; exact List.getElem_mem htl
                  obtain ⟨y, ey⟩ : ∃ y, L.getD t 0 = y := ⟨_, rfl⟩
                  rw [ey] at hlc2 hmem
                  have hy := hAf y hmem
                  obtain ⟨K, rfl⟩ := Int.eq_ofNat_of_zero_le hy.1
                  have hKN : K < N := by have := hy.2.1; rw [HNM.out.2.2.1] at this; omega
                  have hKi : (K : Int) < (N : Int) := by omega
                  have hti : (t : Int) < (L.length : Int) := by omega
                  have hEY : (aroundL n m I).getD t 0 = K := by rw [HEL.out]; exact ey
                  have hEL2 : t < (aroundL n m I).length := by rw [HEL.out]; exact htl
                  obtain ⟨hcK, _⟩ := hdn.at rfl (i := K) (by rw [HDL.out.1]; exact hKN)
                  have HR : Hid (∀ W, Grew wr W → ∀ x', Cand n m p lv dn I (t + 1) x' → IntsO 3 w.heap.size B1 W (.slice (some ⟨w.heap.size, 0, none⟩) N N) lv ∧ BoolsO 4 B1 B2 W (.slice (some ⟨B1, 0, none⟩) N N) dn ∧ IntsO 3 w3.heap.size w4.heap.size W (.slice (some ⟨b6, o6, none⟩) L.length c4) L ∧ Cand n m p lv dn I (t + 1) x' ∧ Grew w W ∧ B2 ≤ W.heap.size) :=
                    Lib.hid fun W hW x' hx' => ⟨hlv.grew hW, hdn.grew hW, hL.grew hW, hx', hgr.trans hW, Nat.le_trans hsz hW.size⟩
                  cases hdk : dn.getD K false with
                  | false =>
                    rw [hdk] at hcK
                    have HCS := Lib.hid (hC.skip hEY hdk)
                    clear hlv hdn hL hC hgr hsz e6 ha6 HC6 hAf hmem ey hy hEY hEL2 hdk HZ
                    go_wp2
                    go_roundg (gk - 1)
                    case measure => omega
                    case rel => exact ⟨x, t + 1, rfl, by go_num, by omega, by omega, HR.out _ (Grew.refl _) _ HCS.out⟩
                  | true =>
                    rw [hdk] at hcK
                    obtain ⟨hcV, _⟩ := hlv.at rfl (i := K) (by rw [HDL.out.2]; exact hKN)
                    obtain ⟨xk, exk⟩ : ∃ xk, lv.getD K 0 = xk := ⟨_, rfl⟩
                    obtain ⟨pi, epi⟩ : ∃ pi, pf I = pi := ⟨_, rfl⟩
                    rw [exk] at hcV
                    have epi2 : p.getD I 0 = pi := by rw [← epi, HPF.out]
                    have HAT : Hid (∀ (q : Nat), Calls Tryd.prog 66 #[.slice a n c, .int .i64 I] (wr.drewN q) fun e w' => e = .returned (.int .i64 pi) ∧ ∃ m, w' = (wr.drewN q).drewN m) :=
                      Lib.hid fun q => by
                        have := HS.out.hat I _ (hgr.drewN q) hI
                        rwa [epi] at this
                    have HCT : Hid (∀ y, max xk pi = y → (x < 0 ∨ y < x) → Cand n m p lv dn I (t + 1) y) := Lib.hid fun y hy hx => by
                      have := hC.take (by have := (HNM.out.2.2.2.2 I hI).1; exact this) hEL2 hEY hdk (by rw [exk, epi2, hy]; exact hx)
                      rwa [exk, epi2, hy] at this
                    have HCK : Hid (∀ y, max xk pi = y → ¬ x < 0 → ¬ y < x → Cand n m p lv dn I (t + 1) x) := Lib.hid fun y hy hx hyx => hC.keep hEY hx (by rw [exk, epi2, hy]; exact hyx)
                    clear hlv hdn hL hC hgr hsz e6 ha6 HC6 hAf hmem ey hy hEY hEL2 hdk HZ exk epi epi2
                    by_cases hxp : xk < pi
                    · have HCT2 := Lib.hid (HCT.out pi (by omega))
                      have HCK2 := Lib.hid (HCK.out pi (by omega))
                      clear HCT HCK
                      by_cases hx0 : x < 0
                      · go_wp2
                        go_quiet ((go_at_call 66; exact Calls.quiet_of (HAT.out _)))
                        go_wp2
                        go_roundg (gk - 1)
                        case measure => omega
                        case rel => exact ⟨pi, t + 1, rfl, by go_num, by omega, by omega, HR.out _ ((Grew.refl _).drewN _) _ (HCT2.out (.inl hx0))⟩
                      · by_cases hyx : pi < x
                        · go_wp2
                          go_quiet ((go_at_call 66; exact Calls.quiet_of (HAT.out _)))
                          go_wp2
                          go_roundg (gk - 1)
                          case measure => omega
                          case rel => exact ⟨pi, t + 1, rfl, by go_num, by omega, by omega, HR.out _ ((Grew.refl _).drewN _) _ (HCT2.out (.inr hyx))⟩
                        · go_wp2
                          go_quiet ((go_at_call 66; exact Calls.quiet_of (HAT.out _)))
                          go_wp2
                          go_roundg (gk - 1)
                          case measure => omega
                          case rel => exact ⟨x, t + 1, rfl, by go_num, by omega, by omega, HR.out _ ((Grew.refl _).drewN _) _ (HCK2.out hx0 hyx)⟩
                    · have HCT2 := Lib.hid (HCT.out xk (by omega))
                      have HCK2 := Lib.hid (HCK.out xk (by omega))
                      clear HCT HCK
                      by_cases hx0 : x < 0
                      · go_wp2
                        go_quiet ((go_at_call 66; exact Calls.quiet_of (HAT.out _)))
                        go_wp2
                        go_roundg (gk - 1)
                        case measure => omega
                        case rel => exact ⟨xk, t + 1, rfl, by go_num, by omega, by omega, HR.out _ ((Grew.refl _).drewN _) _ (HCT2.out (.inl hx0))⟩
                      · by_cases hyx : xk < x
                        · go_wp2
                          go_quiet ((go_at_call 66; exact Calls.quiet_of (HAT.out _)))
                          go_wp2
                          go_roundg (gk - 1)
                          case measure => omega
                          case rel => exact ⟨xk, t + 1, rfl, by go_num, by omega, by omega, HR.out _ ((Grew.refl _).drewN _) _ (HCT2.out (.inr hyx))⟩
                        · go_wp2
                          go_quiet ((go_at_call 66; exact Calls.quiet_of (HAT.out _)))
                          go_wp2
                          go_roundg (gk - 1)
                          case measure => omega
                          case rel => exact ⟨x, t + 1, rfl, by go_num, by omega, by omega, HR.out _ ((Grew.refl _).drewN _) _ (HCK2.out hx0 hyx)⟩
                · have HC : Hid (Cand n m p lv dn I (aroundL n m I).length x) := by
                    have : t = L.length := by omega
                    have h := HZ.out.2.2.2.1
                    rw [this, ← HEL.out] at h
                    exact Lib.hid h
                  have HF : Hid (∀ b' l', Best n m p lv dn (I + 1) b' l' → IntsO 3 w.heap.size B1 wr (.slice (some ⟨w.heap.size, 0, none⟩) N N) lv ∧ BoolsO 4 B1 B2 wr (.slice (some ⟨B1, 0, none⟩) N N) dn ∧ Best n m p lv dn (I + 1) b' l' ∧ Grew w wr ∧ B2 ≤ wr.heap.size) :=
                    Lib.hid fun b' l' hb => ⟨HZ.out.1, HZ.out.2.1, hb, HZ.out.2.2.2.2⟩
                  clear HZ
                  have HTK : Hid (0 ≤ x → (best < 0 ∨ x < low) → Best n m p lv dn (I + 1) I x) := Lib.hid fun h0 h1 => HBE.out.take (by rw [HNM.out.2.2.1]; exact hI) HDI.out HC.out h0 h1
                  have HSK : Hid (x < 0 ∨ ¬ best < 0 ∧ ¬ x < low → Best n m p lv dn (I + 1) best low) := Lib.hid fun h => HBE.out.skip HC.out h
                  by_cases hx0 : 0 ≤ x
                  · by_cases hb0 : best < 0
                    · go_wp2
                      go_roundg (gb - 1)
                      case measure => omega
                      case rel => exact ⟨_, x, I + 1, rfl, rfl, by go_num, by omega, by omega, HF.out _ _ (HTK.out hx0 (.inl hb0))⟩
                    · by_cases hlw : x < low
                      · go_wp2
                        go_roundg (gb - 1)
                        case measure => omega
                        case rel => exact ⟨_, x, I + 1, rfl, rfl, by go_num, by omega, by omega, HF.out _ _ (HTK.out hx0 (.inr hlw))⟩
                      · go_wp2
                        go_roundg (gb - 1)
                        case measure => omega
                        case rel => exact ⟨best, low, I + 1, rfl, rfl, by go_num, by omega, by omega, HF.out _ _ (HSK.out (.inr ⟨hb0, hlw⟩))⟩
                  · go_wp2
                    go_roundg (gb - 1)
                    case measure => omega
                    case rel => exact ⟨best, low, I + 1, rfl, rfl, by go_num, by omega, by omega, HF.out _ _ (HSK.out (.inl (by omega)))⟩
        · have hIN : I = N := by omega
          have hBe := HY.out.2.2.1
          rw [hIN, ← HNM.out.2.2.1] at hBe
          have hP := HX.out.2.2.1
          have hb0 : 0 ≤ best := by
            obtain ⟨i, hi1, hi2⟩ := undone_of_count dn (by have := HX.out.2.2.2.1; omega)
            rw [hP.lenB] at hi1
            exact hP.some (fun i hi => (HNM.out.2.2.2.2 i (by rw [← HNM.out.2.2.1]; exact hi)).2) hBe i hi1 hi2
          obtain ⟨k, rfl⟩ := Int.eq_ofNat_of_zero_le hb0
          obtain ⟨hkN, hkd, hP2⟩ := hP.tell HNM.out.1 HNM.out.2.1 hBe
          rw [HNM.out.2.2.1] at hkN
          have hki : (k : Int) < (N : Int) := by omega
          obtain ⟨hcd, hfd⟩ := HY.out.2.1.at rfl (i := k) (by rw [HDL.out.1]; exact hkN)
          have hbd := HY.out.2.1.blk
          have hbl := HY.out.1.blk
          have hw1 : Within B1 B2 wr (wr.setCell ⟨B1, k, none⟩ (.bool true)) := (Within.refl _ _ _).setCell (p := ⟨B1, k, none⟩) hbd.1 hbd.2 _
          have hO2 := HY.out.1.within hw1 (.inl (Nat.le_refl _))
          obtain ⟨hcl, hfl⟩ := hO2.at rfl (i := k) (by rw [HDL.out.2]; exact hkN)
          have hw2 : Within w.heap.size B1 (wr.setCell ⟨B1, k, none⟩ (.bool true)) ((wr.setCell ⟨B1, k, none⟩ (.bool true)).setCell ⟨w.heap.size, k, none⟩ (.int .i64 low)) := (Within.refl _ _ _).setCell (p := ⟨w.heap.size, k, none⟩) hbl.1 hbl.2 _
          have hcnt := count_setB dn k (by rw [HDL.out.1]; exact hkN) hkd
          have HF : Hid (∃ lv dn low', IntsO 3 w.heap.size B1 ((wr.setCell ⟨B1, k, none⟩ (.bool true)).setCell ⟨w.heap.size, k, none⟩ (.int .i64 low)) (.slice (some ⟨w.heap.size, 0, none⟩) N N) lv ∧ BoolsO 4 B1 B2 ((wr.setCell ⟨B1, k, none⟩ (.bool true)).setCell ⟨w.heap.size, k, none⟩ (.int .i64 low)) (.slice (some ⟨B1, 0, none⟩) N N) dn ∧ Pick n m p lv dn low' ∧ dn.count false + (T + 1) = N ∧ Grew w ((wr.setCell ⟨B1, k, none⟩ (.bool true)).setCell ⟨w.heap.size, k, none⟩ (.int .i64 low)) ∧ B2 ≤ ((wr.setCell ⟨B1, k, none⟩ (.bool true)).setCell ⟨w.heap.size, k, none⟩ (.int .i64 low)).heap.size) := by
            refine Lib.hid ⟨_, _, _, hO2.set rfl k low, (HY.out.2.1.set rfl k true).within hw2 (.inr (Nat.le_refl _)), hP2, ?_, ?_, Nat.le_trans HY.out.2.2.2.2 (Nat.le_trans hw1.size hw2.size)⟩
            · have := HX.out.2.2.2.1
              omega
            · exact Within.grew (Within.grew HY.out.2.2.2.1 hw1 (Nat.le_of_lt HB.out.1)) hw2 (Nat.le_refl _)
          clear hBe hP hP2 hkd hb0 hbd hbl hw1 hO2 hw2 hcnt HY HX
          go_wp2
          go_roundg (gO - 1)
          case measure => omega
          case rel => exact ⟨T + 1, by go_num, by omega, by omega, HF.out⟩
    · have HF : Hid (∃ ys, IntsO 3 w.heap.size wr.heap.size wr (.slice (some ⟨w.heap.size, 0, none⟩) N N) ys ∧ Level n m p ys ∧ Grew w wr) := by
        obtain ⟨lv, dn, low, h1, h2, h3, h4, h5, h6⟩ := HT.out
        exact Lib.hid ⟨lv, h1.wide (Nat.le_refl _) (by have := HB.out; omega), h3.level HNM.out.1 HNM.out.2.1 (by omega), h5⟩
      clear HT
      go_wp2
      go_ret
      obtain ⟨ys, hO, hLv, hG⟩ := HF.out
      exact ⟨_, _, ys, rfl, hO, hLv, hG⟩

end Go.Proofs.YtgecghngfonejaaDoor
