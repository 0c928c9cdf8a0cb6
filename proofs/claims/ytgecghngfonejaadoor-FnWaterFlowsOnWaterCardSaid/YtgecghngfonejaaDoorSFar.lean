/- The contract of spec.far. -/
import Derived.Test.YtgecghngfonejaaDoorFarM
import Derived.Test.YtgecghngfonejaaDoorSBySinking
namespace Go.Proofs.YtgecghngfonejaaDoor
open Go.RowKit

/-- What spec's functions on flow call and read. -/
structure SFlowH (v : Value) (n m N : Nat) (ws : List Int) (gw cw : Nat) (w : World) : Prop where
  n5 : n ≤ 5
  m5 : m ≤ 5
  eN : n * m = N
  wl : ws.length = N
  wat : IntsV w (.slice (some ⟨gw, 0, none⟩) N cw) ws
  cells : ∀ W, Grew w W → Calls Tryd.prog 65 #[v] W fun e w' => e = .returned (.int .i64 (N : Int)) ∧ W = w'
  around : ∀ (I : Nat) W, Grew w W → I < N → Calls Tryd.prog 67 #[v, .int .i64 I] W (OwnI W (aroundL n m I))
  edge : ∀ (I : Nat) W, Grew w W → I < N → Calls Tryd.prog 82 #[v, .int .i64 I] W fun e w' => e = .returned (.bool (edgeL n m I)) ∧ Grew W w'
theorem sflowH {v : Value} {h : List (List Int)} {n m N gw cw : Nat} {ws : List Int} {w : World} (hv : RowsV w v h) (hg : vGrid h = true) (en : h.length = n) (em : (h.getD 0 []).length = m) (eN : n * m = N) (hwl : ws.length = N)
    (hw : IntsV w (.slice (some ⟨gw, 0, none⟩) N cw) ws) : SFlowH v n m N ws gw cw w := by
  have G := Grid.of hg
  have H := specH hv hg en em eN (pf := fun i => h.flatten.getD i 0) (fun _ => rfl)
  exact ⟨by rw [← en]; exact G.n5, by rw [← em]; exact G.m5, eN, hwl, hw, H.cells, H.around, fun I W hW hI => sonEdgeB hv hg en em I W hW (by rw [eN]; exact hI)⟩
/-- The place t of the cells beside I. -/
theorem SFlowH.beside {v : Value} {n m N gw cw : Nat} {ws L : List Int} {w : World} (h : SFlowH v n m N ws gw cw w) {I t : Nat} (hI : I < N) (eL : aroundL n m I = L) (ht : t < L.length) : ∃ K : Nat, L.getD t 0 = K ∧ K < N ∧ (K : Int) ∈ aroundL n m I := by
  have hA := (around_facts h.n5 h.m5 (I := I) (by rw [h.eN]; exact hI)).1
  rw [eL] at hA ⊢
  have hmem : L.getD t 0 ∈ L := by
    rw [List.getD_eq_getElem?_getD, List.getElem?_eq_getElem ht]; exact List.getElem_mem ht
  have hy := hA _ hmem
  obtain ⟨K, eK⟩ := Int.eq_ofNat_of_zero_le hy.1
  rw [eK] at hmem hy
  exact ⟨K, eK, by have := hy.2.1; rw [h.eN] at this; omega, hmem⟩

set_option maxRecDepth 100000 in
set_option maxHeartbeats 8000000 in
theorem far_any (v : Value) (n m N gw cw : Nat) (p ws : List Int) (w : World) (hF : SFlowH v n m N ws gw cw w) (hN1 : 1 ≤ N) (hN25 : N ≤ 25) (W : Level n m p ws) :
    Calls Tryd.prog 102 #[v, .slice (some ⟨gw, 0, none⟩) N cw] w fun e w' => ∃ ds, Away n m ws ds ∧ ds.length = N ∧ OwnI w ds e w' := by
  have HF := Lib.hid hF
  have HW := Lib.hid W
  clear hF W
  go_enter Tryd.func102, Tryd.ntmps102
  go_wp2_with (fail)
  refine (HF.out.cells _ (Grew.refl _)).mono ?_
  rintro e w1 ⟨rfl, rfl⟩
  have hlit := IntsO.lit 3 w.heap.size w [] #[] rfl (Nat.le_refl _) (show 0 ≤ maxLen by decide)
  have H3 : Hid (IntsO 3 w.heap.size (w.alloc (.cells #[] 3)).heap.size (w.alloc (.cells #[] 3)) (.slice (some ⟨w.heap.size, 0, none⟩) 0 0) [] ∧ FStart n m ws [] 0 ∧ Grew w (w.alloc (.cells #[] 3))) :=
    Lib.hid ⟨by simpa using hlit, fStart n m ws, (Grew.refl _).alloc _⟩
  clear hlit
  go_wp2
  go_loopg [6, 7] N (fun gk v i wi => ∃ (a5 : Option Addr) (ln c5 : Nat), v = .slice a5 ln c5 ∧ i = .int .i64 ((ln : Nat) : Int) ∧ ln ≤ N ∧ N ≤ gk + ln ∧
    Hid (∃ ds : List Int, ln = List.length ds ∧ IntsO 3 w.heap.size wi.heap.size wi v ds ∧ FStart n m ws ds ln ∧ Grew w wi))
  case atStart => exact ⟨_, 0, 0, rfl, rfl, Nat.zero_le _, Nat.le_refl _, [], rfl, H3.out⟩
  case round =>
    obtain ⟨a5, ln, c5, rfl, rfl, hk1, hk2, HZ⟩ := hrel
    clear H3
    by_cases hlt : ln < N
    · have HGR : Hid (Grew w wr) := by obtain ⟨_, _, _, _, h⟩ := HZ.out; exact Lib.hid h
      have HEI := Lib.hid (HF.out.edge ln wr HGR.out hlt)
      have hli : (ln : Int) < (N : Int) := by omega
      obtain ⟨go, rfl⟩ : ∃ go : Nat, go = gk := ⟨_, rfl⟩
      obtain ⟨eb, eeb⟩ : ∃ eb, edgeL n m ln = eb := ⟨_, rfl⟩
      have HEB := Lib.hid eeb
      rw [eeb] at HEI
      clear eeb
      go_wp2_with (fail)
      refine HEI.out.mono ?_
      rintro e w2 ⟨rfl, hg2⟩
      have HG2 : Hid (Grew w w2 ∧ Grew wr w2) := Lib.hid ⟨HGR.out.trans hg2, hg2⟩
      have HA := Lib.hid (HF.out.around ln w2 HG2.out.1 hlt)
      clear hg2 HEI
      obtain ⟨L, eL⟩ : ∃ L, aroundL n m ln = L := ⟨_, rfl⟩
      have HEL := Lib.hid eL
      have hl4 : L.length ≤ 4 := by rw [← eL]; exact (around_facts HF.out.n5 HF.out.m5 (by rw [HF.out.eN]; exact hlt)).2.2
      rw [eL] at HA
      obtain ⟨K, eK⟩ : ∃ K, L.length = K := ⟨_, rfl⟩
      have HEK := Lib.hid eK
      rw [eK] at hl4
      clear eL eK
      have key : ∀ x0 : Int, (x0 = 0 ∧ eb = true ∨ x0 = -1 ∧ eb = false) → Hid ((x0 = 0 ∧ (edgeL n m ln = true ∨ LowB n m ws ln 0)) ∨ (x0 = -1 ∧ ¬ (edgeL n m ln = true ∨ LowB n m ws ln 0))) := fun x0 h => by
        rw [HEB.out]
        rcases h with ⟨h1, h2⟩ | ⟨h1, h2⟩
        · exact Lib.hid (.inl ⟨h1, .inl h2⟩)
        · exact Lib.hid (.inr ⟨h1, fun h3 => by
            rcases h3 with h3 | h3
            · rw [h2] at h3; cases h3
            · exact lowB_zero _ _ _ _ h3⟩)
      cases eb
      all_goals
        go_wp2_with (fail)
        refine HA.out.mono ?_
        rintro e w3 ho3
        obtain ⟨a3, c3, rfl, hO3, hg3⟩ := ho3.shape
        rw [HEK.out] at hO3 ⊢
        have H4 : Hid (IntsV w3 (.slice a3 K c3) L ∧ Grew w w3 ∧ Grew wr w3) := Lib.hid ⟨hO3.toV, HG2.out.1.trans hg3, HG2.out.2.trans hg3⟩
        obtain ⟨a6, b6, o6, c6, e6, _, ha6, HC6⟩ := NumsV.shape H4.out.1
        rw [HEK.out] at e6 ha6
        obtain ⟨rfl, rfl⟩ : a3 = a6 ∧ c3 = c6 := by simpa using e6
        obtain ⟨wo, ewo⟩ : ∃ wo : World, wo = wr := ⟨_, rfl⟩
        rw [← ewo] at HZ H4 HGR HG2
        clear hO3 hg3 ho3 HA e6 ewo
        go_wp2
        go_loopw [8, 10] (fun xv j wi => ∃ T : Nat, ∃ x : Int, T ≤ K ∧ j = .int .i64 (T : Int) ∧ xv = .int .i64 x ∧ Hid ((x = 0 ∧ (edgeL n m ln = true ∨ LowB n m ws ln T)) ∨ (x = -1 ∧ ¬ (edgeL n m ln = true ∨ LowB n m ws ln T))) ∧ Hid (Grew w3 wi)) (fun _ j _ => K - (intOf j).toNat)
        case atStart => first | exact ⟨0, 0, Nat.zero_le _, rfl, rfl, key 0 (by simp), Grew.refl _⟩ | exact ⟨0, -1, Nat.zero_le _, rfl, rfl, key (-1) (by simp), Grew.refl _⟩
        case round =>
          obtain ⟨T, x, hT, rfl, rfl, HX, HG⟩ := hrel
          by_cases hlt2 : T < K
          · obtain ⟨kk, hk1', hk2', _⟩ := HF.out.beside hlt HEL.out (t := T) (by rw [HEK.out]; exact hlt2)
            obtain rfl := ha6 (by omega)
            have hlc := HG.out.cell (HC6.out T (by rw [HEK.out]; exact hlt2))
            rw [hk1'] at hlc
            have hgw := H4.out.2.1.trans HG.out
            have hc1 := hgw.cell (NumsV.at HF.out.wat kk (by rw [HF.out.wl]; exact hk2'))
            have hc2 := hgw.cell (NumsV.at HF.out.wat ln (by rw [HF.out.wl]; exact hlt))
            obtain ⟨x1, e1⟩ : ∃ x1, ws.getD kk 0 = x1 := ⟨_, rfl⟩
            obtain ⟨x2, e2⟩ : ∃ x2, ws.getD ln 0 = x2 := ⟨_, rfl⟩
            rw [e1] at hc1
            rw [e2] at hc2
            have hki : (kk : Int) < (N : Int) := by omega
            have hTi : (T : Int) < (K : Int) := by omega
            have hEY : (aroundL n m ln).getD T 0 = kk := by rw [HEL.out]; exact hk1'
            have hEL2 : T < (aroundL n m ln).length := by rw [HEL.out, HEK.out]; exact hlt2
            by_cases hx : x1 < x2
            · have HN : Hid (edgeL n m ln = true ∨ LowB n m ws ln (T + 1)) := Lib.hid (.inr (LowB.hit hEL2 hEY (by rw [e1, e2]; exact hx)))
              clear hk1' e1 e2 HX hgw hEY hEL2
              go_wp2
              go_quiet (fail)
              go_wp2
              go_roundw
              case rel => exact ⟨T + 1, 0, by omega, by go_num, rfl, Lib.hid (.inl ⟨rfl, HN.out⟩), HG.out.drewN _⟩
              case measure => simp [intOf]; omega
            · have HN : Hid ((x = 0 ∧ (edgeL n m ln = true ∨ LowB n m ws ln (T + 1))) ∨ (x = -1 ∧ ¬ (edgeL n m ln = true ∨ LowB n m ws ln (T + 1)))) := by
                rcases HX.out with ⟨h1, h2⟩ | ⟨h1, h2⟩
                · exact Lib.hid (.inl ⟨h1, h2.imp id LowB.more⟩)
                · exact Lib.hid (.inr ⟨h1, fun h3 => by
                    rcases h3 with h3 | h3
                    · exact h2 (.inl h3)
                    · exact lowB_skip (fun h4 => h2 (.inr h4)) hEY (by rw [e1, e2]; exact hx) h3⟩)
              clear hk1' e1 e2 HX hgw hEY hEL2
              go_wp2
              go_quiet (fail)
              go_wp2
              go_roundw
              case rel => exact ⟨T + 1, x, by omega, by go_num, rfl, HN, HG.out.drewN _⟩
              case measure => simp [intOf]; omega
          · obtain rfl : T = K := by omega
            have HB : Hid ((x = 0 ∧ BaseF n m ws ln) ∨ (x = -1 ∧ ¬ BaseF n m ws ln)) := by
              have := HX.out
              have e : T = (aroundL n m ln).length := by rw [HEL.out, HEK.out]
              rw [e, lowB_base] at this
              exact Lib.hid this
            obtain ⟨ds, HZ2⟩ : ∃ ds : List Int, Hid (ln = List.length ds ∧ IntsO 3 w.heap.size wr.heap.size wr (.slice a5 ln c5) ds ∧ FStart n m ws ds ln ∧ Grew w wr) := by
              obtain ⟨ds, z1, z2, z3, z4⟩ := HZ.out
              have hg := H4.out.2.2.trans HG.out
              exact ⟨ds, Lib.hid ⟨z1, (z2.grew hg).wide (Nat.le_refl _) hg.size, z3, z4.trans hg⟩⟩
            have HLN := Lib.hid HZ2.out.1
            clear HZ HX HG
            go_wp2_with (at_builtin; refine wpList_append_int rfl (.tmp 47) (.tmp 49) 26 rfl Tryd.underlying26 Tryd.infoI rfl rfl (by simp) HZ2.out.2.1 (by rw [← HLN.out]; omega) HZ2.out.2.2.2.size ?_; intro g5 c5' w5 hO5 hW5 hS5; rw [← HLN.out] at hO5 ⊢)
            have H5 : Hid (∃ ds : List Int, ln + 1 = List.length ds ∧ IntsO 3 w.heap.size w5.heap.size w5 (.slice (some ⟨g5, 0, none⟩) (ln + 1) c5') ds ∧ FStart n m ws ds (ln + 1) ∧ Grew w w5) :=
              Lib.hid ⟨ds ++ [x], by rw [List.length_append, ← HLN.out]; rfl, hO5, HZ2.out.2.2.1.snoc HB.out, hW5.grew HZ2.out.2.2.2 (Nat.le_refl _)⟩
            clear hO5 hW5
            go_wp2
            go_roundg (go - 1)
            case measure => omega
            case rel => exact ⟨_, ln + 1, c5', rfl, by go_num, by omega, by omega, H5.out⟩
    · obtain rfl : ln = N := by omega
      obtain ⟨g6, c6, rfl, rfl, HD⟩ : ∃ (g6 c6 : Nat), a5 = some ⟨g6, 0, none⟩ ∧ c5 = c6 ∧ Hid (∃ ds : List Int, IntsO 3 g6 (g6 + 1) wr (.slice (some ⟨g6, 0, none⟩) ln c6) ds ∧ FRound n m ws ds 0 0 ∧ Grew w wr ∧ w.heap.size ≤ g6 ∧ g6 < wr.heap.size) := by
        obtain ⟨ds, z1, z2, z3, z4⟩ := HZ.out
        obtain ⟨g, c', e, hb, _⟩ := z2.pos (by omega)
        rw [← z1] at e
        simp only [Value.slice.injEq] at e
        obtain ⟨rfl, _, rfl⟩ := e
        exact ⟨g, c5, rfl, rfl, Lib.hid ⟨ds, z2.at1, FStart.round (by rw [HF.out.eN]; exact z3), z4, hb, z2.blkLt⟩⟩
      have HB6 : Hid (w.heap.size ≤ g6) := by obtain ⟨_, _, _, _, h, _⟩ := HD.out; exact Lib.hid h
      clear HZ
      go_wp2
      go_loopg [11] ln (fun gk i wi => ∃ d : Nat, d ≤ ln ∧ ln ≤ gk + d ∧ i = .int .i64 (d : Int) ∧ Hid (∃ ds : List Int, IntsO 3 g6 (g6 + 1) wi (.slice (some ⟨g6, 0, none⟩) ln c5) ds ∧ FRound n m ws ds d 0 ∧ Grew w wi ∧ g6 < wi.heap.size))
      case atStart =>
        obtain ⟨ds, z1, z2, z3, z4, z5⟩ := HD.out
        exact ⟨0, Nat.zero_le _, Nat.le_refl _, rfl, ds, z1, z2, z3, z5⟩
      case round =>
        obtain ⟨d, hd1, hd2, rfl, HZ⟩ := hrel
        clear HD
        by_cases hdl : d < ln
        · obtain ⟨g0, rfl⟩ : ∃ g0 : Nat, g0 = gk := ⟨_, rfl⟩
          have hdi : (d : Int) < (ln : Int) := by omega
          go_wp2
          go_loopg [12] ln (fun gk i wi => ∃ I : Nat, I ≤ ln ∧ ln ≤ gk + I ∧ i = .int .i64 (I : Int) ∧ Hid (∃ ds : List Int, IntsO 3 g6 (g6 + 1) wi (.slice (some ⟨g6, 0, none⟩) ln c5) ds ∧ FRound n m ws ds d I ∧ Grew w wi ∧ g6 < wi.heap.size))
          case atStart => exact ⟨0, Nat.zero_le _, Nat.le_refl _, rfl, HZ.out⟩
          case round =>
            obtain ⟨I, hI1, hI2, rfl, HY⟩ := hrel
            clear HZ
            by_cases hI : I < ln
            · obtain ⟨g1, rfl⟩ : ∃ g1 : Nat, g1 = gk := ⟨_, rfl⟩
              have hIi : (I : Int) < (ln : Int) := by omega
              have HGR : Hid (Grew w wr ∧ g6 < wr.heap.size) := by obtain ⟨_, _, _, h1, h2⟩ := HY.out; exact Lib.hid ⟨h1, h2⟩
              have HA := Lib.hid (HF.out.around I wr HGR.out.1 hI)
              obtain ⟨L, eL⟩ : ∃ L, aroundL n m I = L := ⟨_, rfl⟩
              have HEL := Lib.hid eL
              have hl4 : L.length ≤ 4 := by rw [← eL]; exact (around_facts HF.out.n5 HF.out.m5 (by rw [HF.out.eN]; exact hI)).2.2
              rw [eL] at HA
              obtain ⟨K, eK⟩ : ∃ K, L.length = K := ⟨_, rfl⟩
              have HEK := Lib.hid eK
              rw [eK] at hl4
              clear eL eK
              go_wp2_with (fail)
              refine HA.out.mono ?_
              rintro e w3 ho3
              obtain ⟨a3, c3, rfl, hO3, hg3⟩ := ho3.shape
              rw [HEK.out] at hO3 ⊢
              obtain ⟨Z0, eZ0⟩ : ∃ Z0, wr.heap.size = Z0 := ⟨_, rfl⟩
              obtain ⟨Z1, eZ1⟩ : ∃ Z1, w3.heap.size = Z1 := ⟨_, rfl⟩
              have HZ0 : Hid (g6 < Z0 ∧ Z0 ≤ Z1) := Lib.hid ⟨by rw [← eZ0]; exact HGR.out.2, by rw [← eZ0, ← eZ1]; exact hg3.size⟩
              have H4 : Hid (∃ ds : List Int, IntsO 3 g6 (g6 + 1) w3 (.slice (some ⟨g6, 0, none⟩) ln c5) ds ∧ FRound n m ws ds d I ∧ (ds.getD I 0 ≠ -1 ∨ FNo n m ws ds d I 0) ∧ IntsO 3 Z0 Z1 w3 (.slice a3 K c3) L ∧ Grew w w3 ∧ Z1 ≤ w3.heap.size) := by
                obtain ⟨ds, z1, z2, z3, z4⟩ := HY.out
                exact Lib.hid ⟨ds, z1.grew hg3, z2, .inr (fNo_zero _ _ _ _ _ _), by rw [← eZ0, ← eZ1]; exact hO3, z3.trans hg3, by omega⟩
              clear hO3 hg3 ho3 HA HY HGR eZ0 eZ1
              go_wp2
              go_loopg [14] K (fun gl j wi => ∃ T : Nat, T ≤ K ∧ K ≤ gl + T ∧ j = .int .i64 (T : Int) ∧ Hid (∃ ds : List Int, IntsO 3 g6 (g6 + 1) wi (.slice (some ⟨g6, 0, none⟩) ln c5) ds ∧ FRound n m ws ds d I ∧ (ds.getD I 0 ≠ -1 ∨ FNo n m ws ds d I T) ∧ IntsO 3 Z0 Z1 wi (.slice a3 K c3) L ∧ Grew w wi ∧ Z1 ≤ wi.heap.size))
              case atStart => exact ⟨0, Nat.zero_le _, Nat.le_refl _, rfl, H4.out⟩
              case round =>
                obtain ⟨T, hT1, hT2, rfl, HX⟩ := hrel
                clear H4
                obtain ⟨ds, HX2⟩ : ∃ ds : List Int, Hid (IntsO 3 g6 (g6 + 1) wr (.slice (some ⟨g6, 0, none⟩) ln c5) ds ∧ FRound n m ws ds d I ∧ (ds.getD I 0 ≠ -1 ∨ FNo n m ws ds d I T) ∧ IntsO 3 Z0 Z1 wr (.slice a3 K c3) L ∧ Grew w wr ∧ Z1 ≤ wr.heap.size) := by
                  obtain ⟨ds, h⟩ := HX.out
                  exact ⟨ds, Lib.hid h⟩
                clear HX
                have hdsl : ds.length = ln := by rw [HX2.out.2.1.len]; exact HF.out.eN
                have HDL := Lib.hid hdsl
                obtain ⟨hcI, hfI⟩ := HX2.out.1.at rfl (i := I) (by omega)
                clear hdsl
                by_cases hT : T < K
                · have hTi : (T : Int) < (K : Int) := by omega
                  by_cases hu : ds.getD I 0 = -1
                  · obtain ⟨kk, hk1', hk2', _⟩ := HF.out.beside hI HEL.out (t := T) (by rw [HEK.out]; exact hT)
                    obtain ⟨a6, b6, o6, c6, e6, _, ha6, HC6⟩ := HX2.out.2.2.2.1.toV.shape
                    rw [HEK.out] at e6 ha6
                    obtain ⟨rfl, rfl⟩ : a3 = a6 ∧ c3 = c6 := by simpa using e6
                    obtain rfl := ha6 (by omega)
                    have hlc := HC6.out T (by rw [HEK.out]; exact hT)
                    rw [hk1'] at hlc
                    have hck := (HX2.out.1.at rfl (i := kk) (by rw [HDL.out]; exact hk2')).1
                    have hw1 := HX2.out.2.2.2.2.1.cell (NumsV.at HF.out.wat kk (by rw [HF.out.wl]; exact hk2'))
                    have hw2 := HX2.out.2.2.2.2.1.cell (NumsV.at HF.out.wat I (by rw [HF.out.wl]; exact hI))
                    obtain ⟨u, eu⟩ : ∃ u, ds.getD kk 0 = u := ⟨_, rfl⟩
                    obtain ⟨x1, e1⟩ : ∃ x1, ws.getD kk 0 = x1 := ⟨_, rfl⟩
                    obtain ⟨x2, e2⟩ : ∃ x2, ws.getD I 0 = x2 := ⟨_, rfl⟩
                    rw [eu] at hck
                    rw [e1] at hw1
                    rw [e2] at hw2
                    have hcI0 := hcI
                    rw [hu] at hcI
                    have hki : (kk : Int) < (ln : Int) := by omega
                    have HU := Lib.hid hu
                    have HKE : Hid ((aroundL n m I).getD T 0 = kk ∧ T < (aroundL n m I).length) := Lib.hid ⟨by rw [HEL.out]; exact hk1', by rw [HEL.out, HEK.out]; exact hT⟩
                    have HEU := Lib.hid (And.intro eu (And.intro e1 e2))
                    clear e6 ha6 HC6 hk1' eu e1 e2 hu hcI0
                    by_cases hud : u = d
                    · by_cases hx : x1 = x2
                      · subst hx
                        have HR2 : Hid (∀ q, ∃ ds : List Int, IntsO 3 g6 (g6 + 1) ((wr.drewN q).setCell ⟨g6, I, none⟩ (.int .i64 ((d : Int) + 1))) (.slice (some ⟨g6, 0, none⟩) ln c5) ds ∧ FRound n m ws ds d I ∧ (ds.getD I 0 ≠ -1 ∨ FNo n m ws ds d I (T + 1)) ∧ IntsO 3 Z0 Z1 ((wr.drewN q).setCell ⟨g6, I, none⟩ (.int .i64 ((d : Int) + 1))) (.slice (some ⟨b6, o6, none⟩) K c3) L ∧ Grew w ((wr.drewN q).setCell ⟨g6, I, none⟩ (.int .i64 ((d : Int) + 1))) ∧ Z1 ≤ ((wr.drewN q).setCell ⟨g6, I, none⟩ (.int .i64 ((d : Int) + 1))).heap.size) := Lib.hid fun q => by
                          obtain ⟨z1, z2, z3, z4, z5, z6⟩ := HX2.out
                          have hdr : Grew wr (wr.drewN q) := (Grew.refl _).drewN q
                          have hwi : Within g6 (g6 + 1) wr ((wr.drewN q).setCell ⟨g6, I, none⟩ (.int .i64 ((d : Int) + 1))) := (hdr.within _ _).trans ((Within.refl _ _ _).setCell (p := ⟨g6, I, none⟩) (Nat.le_refl _) (Nat.lt_succ_self _) _)
                          have hz := HZ0.out
                          refine ⟨ds.set I ((d : Int) + 1), (z1.grew hdr).set rfl I _, z2.tell HF.out.n5 HF.out.m5 (by rw [HF.out.eN]; exact hI) HU.out HKE.out.2 HKE.out.1 (by rw [HEU.out.1]; exact hud) (by rw [HEU.out.2.1, HEU.out.2.2]), .inl ?_, z4.within hwi (.inr (by omega)), Within.grew z5 hwi HB6.out, by simpa using z6⟩
                          rw [getD_set _ _ _ _ (by rw [HDL.out]; exact hI), if_pos rfl]
                          omega
                        have hud2 : (u == (d : Int)) = true := by rw [hud]; simp
                        have hdw : IntKind.i64.wrap ((d : Int) + 1) = (d : Int) + 1 := IntWalk.i64_in _ (by omega)
                        subst hud
                        clear HX2 HEU
                        go_wp2
                        go_quiet (fail)
                        go_wp2
                        go_roundg (gk - 1)
                        case measure => omega
                        case rel => exact ⟨T + 1, by omega, by omega, by go_num, HR2.out _⟩
                      · have HR2 : Hid (∀ W, Grew wr W → ∃ ds : List Int, IntsO 3 g6 (g6 + 1) W (.slice (some ⟨g6, 0, none⟩) ln c5) ds ∧ FRound n m ws ds d I ∧ (ds.getD I 0 ≠ -1 ∨ FNo n m ws ds d I (T + 1)) ∧ IntsO 3 Z0 Z1 W (.slice (some ⟨b6, o6, none⟩) K c3) L ∧ Grew w W ∧ Z1 ≤ W.heap.size) := Lib.hid fun W hW => by
                          obtain ⟨z1, z2, z3, z4, z5, z6⟩ := HX2.out
                          exact ⟨ds, z1.grew hW, z2, z3.imp id fun h => h.skip HKE.out.1 (by rw [HEU.out.2.1, HEU.out.2.2]; exact fun h => hx h.2), z4.grew hW, z5.trans hW, Nat.le_trans z6 hW.size⟩
                        have hbe : (x1 == x2) = false := beq_eq_false_iff_ne.2 hx
                        subst hud
                        clear HX2 HEU
                        go_wp2
                        go_quiet (fail)
                        go_wp2
                        go_roundg (gk - 1)
                        case measure => omega
                        case rel => exact ⟨T + 1, by omega, by omega, by go_num, HR2.out _ ((Grew.refl _).drewN _)⟩
                    · have HR2 : Hid (∀ W, Grew wr W → ∃ ds : List Int, IntsO 3 g6 (g6 + 1) W (.slice (some ⟨g6, 0, none⟩) ln c5) ds ∧ FRound n m ws ds d I ∧ (ds.getD I 0 ≠ -1 ∨ FNo n m ws ds d I (T + 1)) ∧ IntsO 3 Z0 Z1 W (.slice (some ⟨b6, o6, none⟩) K c3) L ∧ Grew w W ∧ Z1 ≤ W.heap.size) := Lib.hid fun W hW => by
                        obtain ⟨z1, z2, z3, z4, z5, z6⟩ := HX2.out
                        exact ⟨ds, z1.grew hW, z2, z3.imp id fun h => h.skip HKE.out.1 (by rw [HEU.out.1]; exact fun h => hud h.1), z4.grew hW, z5.trans hW, Nat.le_trans z6 hW.size⟩
                      have hbe : (u == (d : Int)) = false := beq_eq_false_iff_ne.2 hud
                      clear HX2 HEU
                      go_wp2
                      go_quiet (fail)
                      go_wp2
                      go_roundg (gk - 1)
                      case measure => omega
                      case rel => exact ⟨T + 1, by omega, by omega, by go_num, HR2.out _ ((Grew.refl _).drewN _)⟩
                  · have hv := HX2.out.2.1.vals I (by rw [HF.out.eN]; exact hI)
                    have HR2 : Hid (∃ ds : List Int, IntsO 3 g6 (g6 + 1) wr (.slice (some ⟨g6, 0, none⟩) ln c5) ds ∧ FRound n m ws ds d (I + 1) ∧ Grew w wr ∧ g6 < wr.heap.size) := by
                      obtain ⟨z1, z2, z3, z4, z5, z6⟩ := HX2.out
                      have hz := HZ0.out
                      exact Lib.hid ⟨ds, z1, z2.next (.inl hu), z5, by omega⟩
                    obtain ⟨u, eu⟩ : ∃ u, ds.getD I 0 = u := ⟨_, rfl⟩
                    rw [eu] at hcI hv hu
                    have hu0 : ¬ u < 0 := by omega
                    clear HX2 eu hu hv
                    go_wp2
                    go_roundg (g1 - 1)
                    case measure => omega
                    case rel => exact ⟨I + 1, by omega, by omega, by go_num, HR2.out⟩
                · obtain rfl : T = K := by omega
                  have HR2 : Hid (∃ ds : List Int, IntsO 3 g6 (g6 + 1) wr (.slice (some ⟨g6, 0, none⟩) ln c5) ds ∧ FRound n m ws ds d (I + 1) ∧ Grew w wr ∧ g6 < wr.heap.size) := by
                    obtain ⟨z1, z2, z3, z4, z5, z6⟩ := HX2.out
                    have hz := HZ0.out
                    exact Lib.hid ⟨ds, z1, z2.next (by rw [HEL.out, HEK.out]; exact z3), z5, by omega⟩
                  clear HX2 hcI hfI
                  go_wp2
                  go_roundg (g1 - 1)
                  case measure => omega
                  case rel => exact ⟨I + 1, by omega, by omega, by go_num, HR2.out⟩
            · obtain rfl : I = ln := by omega
              have HR2 : Hid (∃ ds : List Int, IntsO 3 g6 (g6 + 1) wr (.slice (some ⟨g6, 0, none⟩) I c5) ds ∧ FRound n m ws ds (d + 1) 0 ∧ Grew w wr ∧ g6 < wr.heap.size) := by
                obtain ⟨ds, z1, z2, z3, z4⟩ := HY.out
                exact Lib.hid ⟨ds, z1, FRound.again (by rw [HF.out.eN]; exact z2) HF.out.n5 HF.out.m5, z3, z4⟩
              clear HY
              go_wp2
              go_roundg (g0 - 1)
              case measure => omega
              case rel => exact ⟨d + 1, by omega, by omega, by go_num, HR2.out⟩
        · obtain rfl : d = ln := by omega
          have HR : Hid (∃ ds : List Int, Away n m ws ds ∧ ds.length = d ∧ IntsO 3 w.heap.size wr.heap.size wr (.slice (some ⟨g6, 0, none⟩) d c5) ds ∧ Grew w wr) := by
            obtain ⟨ds, z1, z2, z3, z4⟩ := HZ.out
            exact Lib.hid ⟨ds, FRound.away (by rw [HF.out.eN]; exact z2) HW.out HF.out.n5 HF.out.m5, by rw [z2.len]; exact HF.out.eN, z1.wide HB6.out z4, z3⟩
          clear HZ
          go_wp2
          go_ret
          obtain ⟨ds, z1, z2, z3, z4⟩ := HR.out
          refine ⟨ds, z1, z2, some ⟨g6, 0, none⟩, c5, ret_slice z2.symm, by rw [z2]; exact z3, z4⟩
end Go.Proofs.YtgecghngfonejaaDoor
