/- The contracts of impl.lowestAt and impl.awayOf. -/
import Derived.Test.YtgecghngfonejaaDoorFlowM
import Derived.Test.YtgecghngfonejaaDoorRepeat
import Derived.Test.YtgecghngfonejaaDoorAroundOf
namespace Go.Proofs.YtgecghngfonejaaDoor
open Go.RowKit

/-- What the functions on flow call and read. -/
structure FlowH (v : Value) (n m N : Nat) (ws : List Int) (gw cw : Nat) (w : World) : Prop where
  n5 : n ≤ 5
  m5 : m ≤ 5
  eN : n * m = N
  wl : ws.length = N
  wat : IntsV w (.slice (some ⟨gw, 0, none⟩) N cw) ws
  around : ∀ (I : Nat) W, Grew w W → I < N → Calls Tryd.prog 62 #[v, .int .i64 I] W (OwnI W (aroundL n m I))
  edge : ∀ (I : Nat) W, Grew w W → I < N → Calls Tryd.prog 70 #[v, .int .i64 I] W fun e w' => e = .returned (.bool (edgeL n m I)) ∧ Grew W w'
theorem FlowH.grew {v : Value} {n m N gw cw : Nat} {ws : List Int} {w w' : World} (h : FlowH v n m N ws gw cw w) (hg : Grew w w') : FlowH v n m N ws gw cw w' :=
  ⟨h.n5, h.m5, h.eN, h.wl, NumsV.grew h.wat hg, fun I W hW hI => h.around I W (hg.trans hW) hI, fun I W hW hI => h.edge I W (hg.trans hW) hI⟩
theorem flowH {v : Value} {h : List (List Int)} {n m N gw cw : Nat} {ws : List Int} {w : World} (hv : RowsV w v h) (hS : Steps w) (hg : vGrid h = true) (en : h.length = n) (em : (h.getD 0 []).length = m) (eN : n * m = N) (hwl : ws.length = N)
    (hw : IntsV w (.slice (some ⟨gw, 0, none⟩) N cw) ws) : FlowH v n m N ws gw cw w := by
  have G := Grid.of hg
  refine ⟨by rw [← en]; exact G.n5, by rw [← em]; exact G.m5, eN, hwl, hw, fun I W hW hI => ?_, fun I W hW hI => ?_⟩
  · have := cellsBeside_any v h I W (hv.grew hW) hg (by rw [en, em, eN]; exact hI) (hS.grew hW)
    rwa [en, em] at this
  · have := atEdge_any v h I W (hv.grew hW) hg (by rw [en, em, eN]; exact hI) (hS.grew hW)
    rwa [en, em] at this
/-- The place t of the cells beside I. -/
theorem FlowH.beside {v : Value} {n m N gw cw : Nat} {ws L : List Int} {w : World} (h : FlowH v n m N ws gw cw w) {I t : Nat} (hI : I < N) (eL : aroundL n m I = L) (ht : t < L.length) : ∃ K : Nat, L.getD t 0 = K ∧ K < N ∧ (K : Int) ∈ aroundL n m I := by
  have hA := (around_facts h.n5 h.m5 (I := I) (by rw [h.eN]; exact hI)).1
  rw [eL] at hA ⊢
  have hmem : L.getD t 0 ∈ L := by
    rw [List.getD_eq_getElem?_getD, List.getElem?_eq_getElem ht]; exact List.getElem_mem ht
  have hy := hA _ hmem
  obtain ⟨K, eK⟩ := Int.eq_ofNat_of_zero_le hy.1
  rw [eK] at hmem hy
  exact ⟨K, eK, by have := hy.2.1; rw [h.eN] at this; omega, hmem⟩

set_option maxRecDepth 100000 in
set_option maxHeartbeats 2000000 in
theorem lowestAt_any (v : Value) (n m N I gw cw : Nat) (ws : List Int) (w : World) (hF : FlowH v n m N ws gw cw w) (hI : I < N) :
    Calls Tryd.prog 112 #[v, .slice (some ⟨gw, 0, none⟩) N cw, .int .i64 I] w fun e w' => e = .returned (.int .i64 (lowU ws (aroundL n m I) I (aroundL n m I).length : Nat)) ∧ Grew w w' := by
  have HF := Lib.hid hF
  have HC := Lib.hid (hF.around I w (Grew.refl _) hI)
  obtain ⟨L, eL⟩ : ∃ L, aroundL n m I = L := ⟨_, rfl⟩
  have HEL := Lib.hid eL
  have hl4 : L.length ≤ 4 := by rw [← eL]; exact (around_facts hF.n5 hF.m5 (by rw [hF.eN]; exact hI)).2.2
  rw [eL] at HC ⊢
  obtain ⟨K, eK⟩ : ∃ K, L.length = K := ⟨_, rfl⟩
  have HEK := Lib.hid eK
  obtain ⟨R, eR⟩ : ∃ R, lowU ws L I L.length = R := ⟨_, rfl⟩
  have HER := Lib.hid eR
  rw [eR]
  rw [eK] at hl4
  clear hF eL eK eR
  go_enter Tryd.func112, Tryd.ntmps112
  go_wp2_with (fail)
  refine HC.out.mono ?_
  rintro e w1 ho1
  obtain ⟨a1, c1, rfl, hO1, hg1⟩ := ho1.shape
  rw [HEK.out] at hO1 ⊢
  have H1 := Lib.hid (And.intro hO1.toV hg1)
  clear hO1 hg1 ho1 HC
  go_wp2
  go_loopw [7, 15] (fun lo j wr => ∃ T X : Nat, T ≤ K ∧ j = .int .i64 (T : Int) ∧ lo = .int .i64 (X : Int) ∧ X < N ∧ Hid (X = lowU ws L I T) ∧ Hid (Grew w1 wr)) (fun _ j _ => K - (intOf j).toNat)
  case atStart => exact ⟨0, I, Nat.zero_le _, rfl, rfl, hI, rfl, Grew.refl _⟩
  case round =>
    obtain ⟨T, X, hT, rfl, rfl, hX, HX, HG⟩ := hrel
    by_cases hlt : T < K
    · obtain ⟨kk, hk1, hk2, _⟩ := HF.out.beside hI HEL.out (t := T) (by rw [HEK.out]; exact hlt)
      obtain ⟨a6, b6, o6, c6, e6, _, ha6, HC6⟩ := NumsV.shape H1.out.1
      rw [HEK.out] at e6 ha6
      obtain ⟨rfl, rfl⟩ : a1 = a6 ∧ c1 = c6 := by simpa using e6
      obtain rfl := ha6 (by omega)
      have hlc := HG.out.cell (HC6.out T (by rw [HEK.out]; exact hlt))
      rw [hk1] at hlc
      have hgw := H1.out.2.trans HG.out
      have hc1 := hgw.cell (NumsV.at HF.out.wat kk (by rw [HF.out.wl]; exact hk2))
      have hc2 := hgw.cell (NumsV.at HF.out.wat X (by rw [HF.out.wl]; exact hX))
      obtain ⟨x1, e1⟩ : ∃ x1, ws.getD kk 0 = x1 := ⟨_, rfl⟩
      obtain ⟨x2, e2⟩ : ∃ x2, ws.getD X 0 = x2 := ⟨_, rfl⟩
      rw [e1] at hc1
      rw [e2] at hc2
      have hki : (kk : Int) < (N : Int) := by omega
      have hXi : (X : Int) < (N : Int) := by omega
      have hTi : (T : Int) < (K : Int) := by omega
      have hst : lowU ws L I (T + 1) = if x1 < x2 then kk else X := by rw [lowU, hk1, Int.toNat_natCast, ← HX.out, e1, e2]
      by_cases hx : x1 < x2
      · rw [if_pos hx] at hst
        have HN := Lib.hid hst.symm
        clear e6 ha6 HC6 hk1 e1 e2 hst HX hgw
        go_wp2
        go_quiet (fail)
        go_wp2
        go_roundw
        case rel => exact ⟨T + 1, kk, by omega, by go_num, rfl, hk2, HN, HG.out.drewN _⟩
        case measure => simp [intOf]; omega
      · rw [if_neg hx] at hst
        have HN := Lib.hid hst.symm
        clear e6 ha6 HC6 hk1 e1 e2 hst HX hgw
        go_wp2
        go_quiet (fail)
        go_wp2
        go_roundw
        case rel => exact ⟨T + 1, X, by omega, by go_num, rfl, hX, HN, HG.out.drewN _⟩
        case measure => simp [intOf]; omega
    · obtain rfl : T = K := by omega
      have HR : Hid (R = X ∧ Grew w wr) := Lib.hid ⟨by rw [HX.out, ← HER.out, HEK.out], H1.out.2.trans HG.out⟩
      clear HX HG
      obtain rfl := HR.out.1
      go_wp2
      go_ret
      exact ⟨rfl, HR.out.2⟩

/-- Lower beside: the lowest of a cell and those beside it is another. -/
theorem low_base {n m i : Nat} {ws : List Int} (hn : n ≤ 5) (hm : m ≤ 5) (hi : i < n * m) : lowU ws (aroundL n m i) i (aroundL n m i).length ≠ i ↔ ∃ k : Nat, (k : Int) ∈ aroundL n m i ∧ ws.getD k 0 < ws.getD i 0 := by
  constructor
  · intro h
    have h1 := (lowU_le ws (aroundL n m i) i (aroundL n m i).length).2.resolve_left h
    rcases lowU_mem ws (aroundL n m i) i (aroundL n m i).length (Nat.le_refl _) with h2 | ⟨s, hs, h2⟩
    · exact absurd h2 h
    · have hmem : (aroundL n m i).getD s 0 ∈ aroundL n m i := by
        rw [List.getD_eq_getElem?_getD, List.getElem?_eq_getElem hs]; exact List.getElem_mem hs
      obtain ⟨k, ek⟩ := Int.eq_ofNat_of_zero_le ((around_facts hn hm hi).1 _ hmem).1
      rw [ek] at hmem h2
      rw [Int.toNat_natCast] at h2
      exact ⟨k, hmem, by rw [← h2]; exact h1⟩
  · rintro ⟨k, hk, hlt⟩ he
    obtain ⟨s, hs1, hs2⟩ := List.getElem_of_mem hk
    have h1 := lowU_least ws (aroundL n m i) i (aroundL n m i).length s hs1
    have e : (aroundL n m i).getD s 0 = (k : Int) := by simp [hs1, hs2]
    rw [he, e, Int.toNat_natCast] at h1
    omega
set_option maxRecDepth 100000 in
set_option maxHeartbeats 8000000 in
theorem awayOf_any (v : Value) (n m N gw cw : Nat) (p ws : List Int) (w : World) (hF : FlowH v n m N ws gw cw w) (hN1 : 1 ≤ N) (hN25 : N ≤ 25) (W : Level n m p ws) :
    Calls Tryd.prog 100 #[v, .slice (some ⟨gw, 0, none⟩) N cw] w fun e w' => ∃ ds, Away n m ws ds ∧ ds.length = N ∧ OwnI w ds e w' := by
  have HF := Lib.hid hF
  have HW := Lib.hid W
  have HLO := Lib.hid fun (I : Nat) W (hW : Grew w W) (hI : I < N) => lowestAt_any v n m N I gw cw ws W (hF.grew hW) hI
  have HREP := Lib.hid (slicesRepeat_any w.heap.size 0 1 (-1) N (w.alloc (.cells #[.int .i64 (-1)] 3)) (by simp) hN1 hN25)
  clear hF W
  go_enter Tryd.func100, Tryd.ntmps100
  go_wp2_with (fail)
  refine HREP.out.mono ?_
  rintro e w2 ⟨g2, c2, rfl, hO2, hg2⟩
  rw [List.length_replicate] at hO2 ⊢
  obtain ⟨B, eB⟩ : ∃ B, w2.heap.size = B := ⟨_, rfl⟩
  have hst : AStart n m ws (List.replicate N (-1)) [] 0 := by
    have := aStart n m ws
    rwa [HF.out.eN] at this
  have H2 : Hid (IntsO 3 w.heap.size B w2 (.slice (some ⟨g2, 0, none⟩) N c2) (List.replicate N (-1)) ∧ Grew w w2 ∧ w2.heap.size = B ∧ w.heap.size ≤ B) := by
    have hgg : Grew w w2 := ((Grew.refl w).alloc _).trans hg2
    refine Lib.hid ⟨hO2.wide (by simp) (by omega), hgg, eB, ?_⟩
    have := hgg.size
    omega
  have HST := Lib.hid hst
  clear hO2 hg2 HREP hst eB
  go_wp2
  go_loopg [6, 18] N (fun gk v i wi => ∃ a5 ln c5 I, v = .slice a5 ln c5 ∧ i = .int .i64 ((I : Nat) : Int) ∧ I ≤ N ∧ N ≤ gk + I ∧ ln ≤ N ∧
    Hid (∃ ds ls : List Int, ln = List.length ls ∧ IntsO 3 B wi.heap.size wi v ls ∧ IntsO 3 w.heap.size B wi (.slice (some ⟨g2, 0, none⟩) N c2) ds ∧ AStart n m ws ds ls I ∧ Grew w wi ∧ B ≤ wi.heap.size))
  case atStart => exact ⟨none, 0, 0, 0, rfl, rfl, Nat.zero_le _, Nat.le_refl _, Nat.zero_le _, _, [], rfl, ⟨World.ownsRow_nil _ _ _ _, fun g e => by simp [Value.ownBlock] at e⟩, H2.out.1, HST.out, H2.out.2.1, by rw [H2.out.2.2.1]; exact Nat.le_refl _⟩
  case round =>
    obtain ⟨a5, ln, c5, I, rfl, rfl, hI1, hI2, hln, HZ⟩ := hrel
    clear HST
    by_cases hI : I < N
    · have HGR : Hid (Grew w wr) := by obtain ⟨ds, ls, _, _, _, _, h, _⟩ := HZ.out; exact Lib.hid h
      have hEI := HF.out.edge I wr HGR.out hI
      have hB2 := H2.out.2.2.2
      cases he : edgeL n m I with
      | true =>
        rw [he] at hEI
        have HEI := Lib.hid hEI
        have HBS : Hid (BaseF n m ws I) := Lib.hid (.inl he)
        clear hEI he
        go_wp2_with (fail)
        refine HEI.out.mono ?_
        rintro e w4 ⟨rfl, hg4⟩
        have HE : Hid (∃ ds ls : List Int, ln = List.length ls ∧ List.length ls + 1 ≤ N ∧ ds.length = N ∧ IntsO 3 B w4.heap.size (w4.setCell ⟨g2, I, none⟩ (.int .i64 0)) (.slice a5 ln c5) ls ∧ IntsO 3 w.heap.size B (w4.setCell ⟨g2, I, none⟩ (.int .i64 0)) (.slice (some ⟨g2, 0, none⟩) N c2) (ds.set I 0) ∧ AStart n m ws (ds.set I 0) (ls ++ [(I : Int)]) (I + 1) ∧ Grew w (w4.setCell ⟨g2, I, none⟩ (.int .i64 0)) ∧ B ≤ w4.heap.size ∧ w4.cell? ⟨g2, I, none⟩ = some (.int .i64 (ds.getD I 0)) ∧ w4.frozen? ⟨g2, I, none⟩ = false) := by
          obtain ⟨ds, ls, z1, z2, z3, z4, z5, z6⟩ := HZ.out
          have hdl : ds.length = N := by rw [z4.len]; exact HF.out.eN
          have h3 := z3.grew hg4
          have hgb := h3.blk
          have hc := h3.at rfl (i := I) (by omega)
          have hwi : Within w.heap.size B w4 (w4.setCell ⟨g2, I, none⟩ (.int .i64 0)) := (Within.refl _ _ _).setCell (p := ⟨g2, I, none⟩) hgb.1 hgb.2 _
          have hA := z4.tell (by rw [HF.out.eN]; exact hI) HBS.out
          have hro := hA.room
          rw [HF.out.eN, List.length_append, List.length_singleton] at hro
          exact Lib.hid ⟨ds, ls, z1, by omega, hdl, ((z2.grew hg4).wide (Nat.le_refl _) hg4.size).within hwi (.inr (Nat.le_refl _)), h3.set rfl I 0, hA, Within.grew (z5.trans hg4) hwi (Nat.le_refl _), Nat.le_trans z6 hg4.size, hc.1, hc.2⟩
        obtain ⟨ds, ls, HE2⟩ : ∃ ds ls : List Int, Hid (ln = List.length ls ∧ List.length ls + 1 ≤ N ∧ ds.length = N ∧ IntsO 3 B w4.heap.size (w4.setCell ⟨g2, I, none⟩ (.int .i64 0)) (.slice a5 ln c5) ls ∧ IntsO 3 w.heap.size B (w4.setCell ⟨g2, I, none⟩ (.int .i64 0)) (.slice (some ⟨g2, 0, none⟩) N c2) (ds.set I 0) ∧ AStart n m ws (ds.set I 0) (ls ++ [(I : Int)]) (I + 1) ∧ Grew w (w4.setCell ⟨g2, I, none⟩ (.int .i64 0)) ∧ B ≤ w4.heap.size ∧ w4.cell? ⟨g2, I, none⟩ = some (.int .i64 (ds.getD I 0)) ∧ w4.frozen? ⟨g2, I, none⟩ = false) := by
          obtain ⟨ds, ls, h⟩ := HE.out
          exact ⟨ds, ls, Lib.hid h⟩
        have HLN := Lib.hid HE2.out.1
        have hl1 : ln + 1 ≤ N := by rw [HE2.out.1]; exact HE2.out.2.1
        have hcI := HE2.out.2.2.2.2.2.2.2.2.1
        have hfI := HE2.out.2.2.2.2.2.2.2.2.2
        have hIi : (I : Int) < (N : Int) := by omega
        clear hg4 HE HZ
        go_wp2_with (at_builtin; refine wpList_append_int rfl (.tmp 35) (.tmp 37) 26 rfl Tryd.underlying26 Tryd.infoI rfl rfl (by simp) HE2.out.2.2.2.1 (by rw [← HLN.out]; omega) (by simpa using HE2.out.2.2.2.2.2.2.2.1) ?_; intro g5 c5' w5 hO5 hW5 hS5; rw [← HLN.out] at hO5 ⊢)
        have H5 : Hid (∃ ds ls : List Int, ln + 1 = List.length ls ∧ IntsO 3 B w5.heap.size w5 (.slice (some ⟨g5, 0, none⟩) (ln + 1) c5') ls ∧ IntsO 3 w.heap.size B w5 (.slice (some ⟨g2, 0, none⟩) N c2) ds ∧ AStart n m ws ds ls (I + 1) ∧ Grew w w5 ∧ B ≤ w5.heap.size) := by
          obtain ⟨z1, z2, z3, z4, z5, z6, z7, z8, _⟩ := HE2.out
          have := hS5
          have hb2 := H2.out.2.2.2
          have hsz : (w4.setCell ⟨g2, I, none⟩ (.int .i64 0)).heap.size = w4.heap.size := by simp
          refine Lib.hid ⟨ds.set I 0, ls ++ [(I : Int)], by rw [List.length_append, z1]; rfl, hO5, z5.within hW5 (.inl (Nat.le_refl _)), z6, hW5.grew z7 hb2, by omega⟩
        clear hO5 hW5 HE2
        go_wp2
        go_roundg (gk - 1)
        case measure => omega
        case rel => exact ⟨_, ln + 1, c5', I + 1, rfl, by go_num, by omega, by omega, by omega, H5.out⟩
      | false =>
        rw [he] at hEI
        have HEI := Lib.hid hEI
        have HEF := Lib.hid he
        clear hEI he
        go_wp2_with (fail)
        refine HEI.out.mono ?_
        rintro e w3 ⟨rfl, hg3⟩
        have HG3 := Lib.hid (HGR.out.trans hg3)
        have hLO := HLO.out I w3 HG3.out hI
        have hlb := low_base HF.out.n5 HF.out.m5 (ws := ws) (i := I) (by rw [HF.out.eN]; exact hI)
        obtain ⟨X, eX⟩ : ∃ X, lowU ws (aroundL n m I) I (aroundL n m I).length = X := ⟨_, rfl⟩
        rw [eX] at hLO hlb
        by_cases hX : X = I
        · subst hX
          have HLO2 := Lib.hid hLO
          have HNB : Hid (¬ BaseF n m ws X) := Lib.hid fun h => by
            rcases h with h | h
            · rw [HEF.out] at h; cases h
            · exact hlb.2 h rfl
          have HG3b := Lib.hid hg3
          clear hLO hlb eX hg3
          go_wp2_with (fail)
          refine HLO2.out.mono ?_
          rintro e w4 ⟨rfl, hg4⟩
          have HE : Hid (∃ ds ls : List Int, ln = List.length ls ∧ IntsO 3 B w4.heap.size w4 (.slice a5 ln c5) ls ∧ IntsO 3 w.heap.size B w4 (.slice (some ⟨g2, 0, none⟩) N c2) ds ∧ AStart n m ws ds ls (X + 1) ∧ Grew w w4 ∧ B ≤ w4.heap.size) := by
            obtain ⟨ds, ls, z1, z2, z3, z4, z5, z6⟩ := HZ.out
            have hg := HG3b.out.trans hg4
            exact Lib.hid ⟨ds, ls, z1, (z2.grew hg).wide (Nat.le_refl _) hg.size, z3.grew hg, z4.skip (by rw [HF.out.eN]; exact hI) HNB.out, z5.trans hg, Nat.le_trans z6 hg.size⟩
          clear hg4 HZ
          go_wp2
          go_roundg (gk - 1)
          case measure => omega
          case rel => exact ⟨a5, ln, c5, X + 1, rfl, by go_num, by omega, by omega, hln, HE.out⟩
        · have HLO2 := Lib.hid hLO
          have HBS : Hid (BaseF n m ws I) := Lib.hid (.inr (hlb.1 hX))
          have HG3b := Lib.hid hg3
          have hne : ((X : Int) != (I : Int)) = true := by rw [bne_iff_ne]; omega
          clear hLO hlb eX hg3
          go_wp2_with (fail)
          refine HLO2.out.mono ?_
          rintro e w4 ⟨rfl, hg40⟩
          have hg4 := HG3b.out.trans hg40
          clear hg40
          have HE : Hid (∃ ds ls : List Int, ln = List.length ls ∧ List.length ls + 1 ≤ N ∧ ds.length = N ∧ IntsO 3 B w4.heap.size (w4.setCell ⟨g2, I, none⟩ (.int .i64 0)) (.slice a5 ln c5) ls ∧ IntsO 3 w.heap.size B (w4.setCell ⟨g2, I, none⟩ (.int .i64 0)) (.slice (some ⟨g2, 0, none⟩) N c2) (ds.set I 0) ∧ AStart n m ws (ds.set I 0) (ls ++ [(I : Int)]) (I + 1) ∧ Grew w (w4.setCell ⟨g2, I, none⟩ (.int .i64 0)) ∧ B ≤ w4.heap.size ∧ w4.cell? ⟨g2, I, none⟩ = some (.int .i64 (ds.getD I 0)) ∧ w4.frozen? ⟨g2, I, none⟩ = false) := by
            obtain ⟨ds, ls, z1, z2, z3, z4, z5, z6⟩ := HZ.out
            have hdl : ds.length = N := by rw [z4.len]; exact HF.out.eN
            have h3 := z3.grew hg4
            have hgb := h3.blk
            have hc := h3.at rfl (i := I) (by omega)
            have hwi : Within w.heap.size B w4 (w4.setCell ⟨g2, I, none⟩ (.int .i64 0)) := (Within.refl _ _ _).setCell (p := ⟨g2, I, none⟩) hgb.1 hgb.2 _
            have hA := z4.tell (by rw [HF.out.eN]; exact hI) HBS.out
            have hro := hA.room
            rw [HF.out.eN, List.length_append, List.length_singleton] at hro
            exact Lib.hid ⟨ds, ls, z1, by omega, hdl, ((z2.grew hg4).wide (Nat.le_refl _) hg4.size).within hwi (.inr (Nat.le_refl _)), h3.set rfl I 0, hA, Within.grew (z5.trans hg4) hwi (Nat.le_refl _), Nat.le_trans z6 hg4.size, hc.1, hc.2⟩
          obtain ⟨ds, ls, HE2⟩ : ∃ ds ls : List Int, Hid (ln = List.length ls ∧ List.length ls + 1 ≤ N ∧ ds.length = N ∧ IntsO 3 B w4.heap.size (w4.setCell ⟨g2, I, none⟩ (.int .i64 0)) (.slice a5 ln c5) ls ∧ IntsO 3 w.heap.size B (w4.setCell ⟨g2, I, none⟩ (.int .i64 0)) (.slice (some ⟨g2, 0, none⟩) N c2) (ds.set I 0) ∧ AStart n m ws (ds.set I 0) (ls ++ [(I : Int)]) (I + 1) ∧ Grew w (w4.setCell ⟨g2, I, none⟩ (.int .i64 0)) ∧ B ≤ w4.heap.size ∧ w4.cell? ⟨g2, I, none⟩ = some (.int .i64 (ds.getD I 0)) ∧ w4.frozen? ⟨g2, I, none⟩ = false) := by
            obtain ⟨ds, ls, h⟩ := HE.out
            exact ⟨ds, ls, Lib.hid h⟩
          have HLN := Lib.hid HE2.out.1
          have hl1 : ln + 1 ≤ N := by rw [HE2.out.1]; exact HE2.out.2.1
          have hcI := HE2.out.2.2.2.2.2.2.2.2.1
          have hfI := HE2.out.2.2.2.2.2.2.2.2.2
          have hIi : (I : Int) < (N : Int) := by omega
          clear hg4 HE HZ
          go_wp2_with (at_builtin; refine wpList_append_int rfl (.tmp 35) (.tmp 37) 26 rfl Tryd.underlying26 Tryd.infoI rfl rfl (by simp) HE2.out.2.2.2.1 (by rw [← HLN.out]; omega) (by simpa using HE2.out.2.2.2.2.2.2.2.1) ?_; intro g5 c5' w5 hO5 hW5 hS5; rw [← HLN.out] at hO5 ⊢)
          have H5 : Hid (∃ ds ls : List Int, ln + 1 = List.length ls ∧ IntsO 3 B w5.heap.size w5 (.slice (some ⟨g5, 0, none⟩) (ln + 1) c5') ls ∧ IntsO 3 w.heap.size B w5 (.slice (some ⟨g2, 0, none⟩) N c2) ds ∧ AStart n m ws ds ls (I + 1) ∧ Grew w w5 ∧ B ≤ w5.heap.size) := by
            obtain ⟨z1, z2, z3, z4, z5, z6, z7, z8, _⟩ := HE2.out
            have := hS5
            have hb2 := H2.out.2.2.2
            have hsz : (w4.setCell ⟨g2, I, none⟩ (.int .i64 0)).heap.size = w4.heap.size := by simp
            refine Lib.hid ⟨ds.set I 0, ls ++ [(I : Int)], by rw [List.length_append, z1]; rfl, hO5, z5.within hW5 (.inl (Nat.le_refl _)), z6, hW5.grew z7 hb2, by omega⟩
          clear hO5 hW5 HE2
          go_wp2
          go_roundg (gk - 1)
          case measure => omega
          case rel => exact ⟨_, ln + 1, c5', I + 1, rfl, by go_num, by omega, by omega, by omega, H5.out⟩
    · obtain rfl : I = N := by omega
      have HF2 : Hid (∃ (ds ls : List Int) (g c' : Nat), .slice a5 ln c5 = Value.slice (some ⟨g, 0, none⟩) (List.length ls) c' ∧ ln = List.length ls ∧ 0 < List.length ls ∧ List.length ls ≤ I ∧ IntsO 3 w.heap.size B wr (.slice (some ⟨g2, 0, none⟩) I c2) ds ∧ IntsO 3 g (g + 1) wr (.slice (some ⟨g, 0, none⟩) (List.length ls) c') ls ∧ AGo n m ws ds ls 0 ∧ Grew w wr ∧ B ≤ wr.heap.size ∧ B ≤ g) := by
        obtain ⟨ds, ls, z1, z2, z3, z4, z5, z6⟩ := HZ.out
        have hgo : AGo n m ws ds ls 0 := AStart.go (by rw [HF.out.eN]; exact z4)
        have h0 : 0 < n * m := by rw [HF.out.eN]; omega
        have hb0 := (hgo.zero 0 h0).2 (.inl (left_edge n m 0 (Nat.zero_mod m)))
        obtain ⟨s, hs, _⟩ := hgo.all 0 h0 (by omega)
        have hro := hgo.room
        rw [HF.out.eN] at hro
        obtain ⟨g, c', e, hb, _⟩ := z2.pos (by omega)
        rw [e] at z2
        exact Lib.hid ⟨ds, ls, g, c', e, z1, by omega, by omega, z3, z2.at1, hgo, z5, z6, hb⟩
      obtain ⟨g0, c0, l0, rfl, rfl, HF3⟩ : ∃ g0 c0 l0, a5 = some ⟨g0, 0, none⟩ ∧ c5 = c0 ∧ Hid (∃ ds ls : List Int, ln = List.length ls ∧ l0 = ln ∧ 0 < List.length ls ∧ List.length ls ≤ I ∧ IntsO 3 w.heap.size B wr (.slice (some ⟨g2, 0, none⟩) I c2) ds ∧ IntsO 3 g0 (g0 + 1) wr (.slice (some ⟨g0, 0, none⟩) (List.length ls) c0) ls ∧ AGo n m ws ds ls 0 ∧ Grew w wr ∧ B ≤ wr.heap.size ∧ B ≤ g0) := by
        obtain ⟨ds, ls, g, c', e, z1, z⟩ := HF2.out
        simp only [Value.slice.injEq] at e
        obtain ⟨rfl, _, rfl⟩ := e
        exact ⟨g, _, ln, rfl, rfl, Lib.hid ⟨ds, ls, z1, rfl, z⟩⟩
      have HB2 := Lib.hid H2.out.2.2.2
      clear HF2 HZ
      go_wp2
      go_loopg [6, 8] I (fun gk v i wm => ∃ (q : Nat) (ls : List Int) (g c' : Nat), v = .slice (some ⟨g, 0, none⟩) (List.length ls) c' ∧ i = .int .i64 ((q : Nat) : Int) ∧ q ≤ List.length ls ∧ List.length ls ≤ I ∧ I ≤ gk + q ∧
        Hid (∃ ds : List Int, IntsO 3 w.heap.size B wm (.slice (some ⟨g2, 0, none⟩) I c2) ds ∧ IntsO 3 g (g + 1) wm v ls ∧ AGo n m ws ds ls q ∧ Grew w wm ∧ B ≤ wm.heap.size ∧ B ≤ g))
      case atStart =>
        obtain ⟨ds, ls, z1, _, z0, z2, z⟩ := HF3.out
        refine ⟨0, ls, g0, c5, by rw [z1], rfl, Nat.zero_le _, z2, by omega, ds, z.1, ?_, z.2.2⟩
        rw [z1]; exact z.2.1
      case round =>
        obtain ⟨q, ls, g, c', rfl, rfl, hq1, hq3, hq2, HM⟩ := hrel
        clear HF3
        by_cases hlq : q < ls.length
        · obtain ⟨X, HX⟩ : ∃ X : Nat, Hid (ls.getD q 0 = X ∧ X < I) := by
            obtain ⟨ds, _, _, hG, _⟩ := HM.out
            obtain ⟨X, h1, h2, _⟩ := hG.cell hlq
            rw [HF.out.eN] at h2
            exact ⟨X, Lib.hid ⟨h1, h2⟩⟩
          have hel : wr.cell? ⟨g, q, none⟩ = some (.int .i64 (X : Int)) := by
            obtain ⟨_, _, hm, _⟩ := HM.out
            rw [← HX.out.1]
            exact (hm.at rfl hlq).1
          have hgr : Grew w wr := by obtain ⟨_, _, _, _, h, _⟩ := HM.out; exact h
          have hB4 : B ≤ wr.heap.size := by obtain ⟨_, _, _, _, _, h, _⟩ := HM.out; exact h
          obtain ⟨wr0, ewr0⟩ : ∃ wr0, wr = wr0 := ⟨_, rfl⟩
          rw [ewr0] at HM hel hgr hB4 ⊢
          clear ewr0
          have HBX := Lib.hid (HF.out.around X wr0 hgr HX.out.2)
          have HL4 : Hid ((aroundL n m X).length ≤ 4) := Lib.hid (around_facts HF.out.n5 HF.out.m5 (by rw [HF.out.eN]; exact HX.out.2)).2.2
          obtain ⟨go, rfl⟩ : ∃ go : Nat, go = gk := ⟨_, rfl⟩
          have hqi : (q : Int) < (ls.length : Int) := by omega
          clear hgr
          go_wp2_with (fail)
          refine HBX.out.mono ?_
          rintro e w5 ho5
          obtain ⟨a5, c5', rfl, hw5, hg5⟩ := ho5.shape
          obtain ⟨L, eL⟩ : ∃ L, aroundL n m X = L := ⟨_, rfl⟩
          rw [eL] at hw5 HL4 ⊢
          have hl4 := HL4.out
          have H5 : Hid (∃ ds : List Int, IntsO 3 w.heap.size B w5 (.slice (some ⟨g2, 0, none⟩) I c2) ds ∧ IntsO 3 wr0.heap.size w5.heap.size w5 (.slice a5 L.length c5') L ∧ IntsO 3 g (g + 1) w5 (.slice (some ⟨g, 0, none⟩) ls.length c') ls ∧ AGo n m ws ds ls q ∧ ASeen n m ws ds X 0 ∧ ls.getD q 0 = X ∧ Grew w w5 ∧ w5.heap.size ≤ w5.heap.size ∧ B ≤ g ∧ (g < wr0.heap.size ∨ w5.heap.size ≤ g)) := by
            obtain ⟨ds, h1, h2, h3, h4, h5, h6⟩ := HM.out
            exact Lib.hid ⟨ds, h1.grew hg5, hw5, h2.grew hg5, h3, aSeen_zero _ _ _ _ _, HX.out.1, h4.trans hg5, Nat.le_refl _, h6, .inl h2.blkLt⟩
          have HEL := Lib.hid eL
          have HZ5 : Hid (B ≤ wr0.heap.size ∧ wr0.heap.size ≤ w5.heap.size) := Lib.hid ⟨hB4, hg5.size⟩
          clear hw5 eL ho5 hg5 HM HBX hB4 hel
          go_wp2
          go_loopg [6, 54] L.length (fun gl v i wi => ∃ (t : Nat) (ls : List Int) (g c' : Nat), v = .slice (some ⟨g, 0, none⟩) (List.length ls) c' ∧ i = .int .i64 ((t : Nat) : Int) ∧ t ≤ L.length ∧ q < List.length ls ∧ List.length ls ≤ I ∧ L.length ≤ gl + t ∧
            Hid (∃ ds : List Int, IntsO 3 w.heap.size B wi (.slice (some ⟨g2, 0, none⟩) I c2) ds ∧ IntsO 3 wr0.heap.size w5.heap.size wi (.slice a5 L.length c5') L ∧ IntsO 3 g (g + 1) wi v ls ∧ AGo n m ws ds ls q ∧ ASeen n m ws ds X t ∧ ls.getD q 0 = X ∧ Grew w wi ∧ w5.heap.size ≤ wi.heap.size ∧ B ≤ g ∧ (g < wr0.heap.size ∨ w5.heap.size ≤ g)))
          case atStart => exact ⟨0, ls, _, _, rfl, rfl, Nat.zero_le _, hlq, hq3, Nat.le_refl _, H5.out⟩
          case round =>
            obtain ⟨t, ls1, gm, c6, rfl, rfl, ht1, hqm, hm3, ht2, HT⟩ := hrel
            clear H5
            by_cases hlt2 : t < L.length
            · obtain ⟨ds, hf, hL, hm, hG, hD, hX, hgr, hsz, hgl, hgd⟩ := HT.out
              obtain ⟨a6, b6, o6, c7, e6, _, ha6, HC6⟩ := hL.toV.shape
              obtain ⟨rfl, rfl⟩ : a5 = a6 ∧ c5' = c7 := by simp at e6; exact e6
              obtain rfl := ha6 (by omega)
              have hlc := HC6.out t hlt2
              obtain ⟨K, ey, hKN, _⟩ := HF.out.beside HX.out.2 HEL.out hlt2
              rw [ey] at hlc
              have HKY := Lib.hid ey
              have hKi : (K : Int) < (I : Int) := by omega
              have hXi : (X : Int) < (I : Int) := by have := HX.out.2; omega
              have hdl : ds.length = I := by rw [hG.len]; exact HF.out.eN
              have hcK := (hf.at rfl (i := K) (by omega)).1
              have hcX := (hf.at rfl (i := X) (by have := HX.out.2; omega)).1
              have hfK := (hf.at rfl (i := K) (by omega)).2
              have hwK := hgr.cell (NumsV.at HF.out.wat K (by rw [HF.out.wl]; exact hKN))
              have hwX := hgr.cell (NumsV.at HF.out.wat X (by rw [HF.out.wl]; exact HX.out.2))
              have hEY : (aroundL n m X).getD t 0 = K := by rw [HEL.out]; exact ey
              have hEL2 : t < (aroundL n m X).length := by rw [HEL.out]; exact hlt2
              have hti : (t : Int) < (L.length : Int) := by omega
              obtain ⟨k1, ek1⟩ : ∃ k1, ws.getD K 0 = k1 := ⟨_, rfl⟩
              obtain ⟨k2, ek2⟩ : ∃ k2, ws.getD X 0 = k2 := ⟨_, rfl⟩
              rw [ek1] at hwK
              rw [ek2] at hwX
              by_cases hu : ds.getD K 0 = -1
              · rw [hu] at hcK
                by_cases hkk : k1 = k2
                · subst hkk
                  obtain ⟨hM1, hM3, hM2, hM4⟩ := hG.tell HF.out.n5 HF.out.m5 hqm hX hD hEL2 hEY hu (by rw [ek1, ek2])
                  have hroom : ls1.length + 1 ≤ I := by
                    have := hM1.room
                    rw [HF.out.eN, List.length_append, List.length_singleton] at this
                    omega
                  obtain ⟨_, hc1, _, hX0⟩ := hG.cell hqm
                  have hX0' : 0 ≤ ds.getD X 0 := by
                    obtain ⟨Y, a1, a2, a3⟩ := hG.cell hqm
                    have : Y = X := by omega
                    subst this; exact a3
                  have hXt : ds.getD X 0 ≤ 1000000 := by
                    have := hG.cap X (by rw [HF.out.eN]; exact HX.out.2)
                    omega
                  obtain ⟨z, ez⟩ : ∃ z, ds.getD X 0 = z := ⟨_, rfl⟩
                  rw [ez] at hcX hX0' hXt hM1 hM2
                  have hgb := hf.blk
                  have hdr : Grew wr wr.drew := (Grew.refl _).drew
                  have hwi : Within w.heap.size B wr (wr.drew.setCell ⟨g2, K, none⟩ (.int .i64 (z + 1))) := (hdr.within _ _).trans ((Within.refl _ _ _).setCell (p := ⟨g2, K, none⟩) hgb.1 hgb.2 _)
                  have HE1 : Hid (IntsO 3 w.heap.size B (wr.drew.setCell ⟨g2, K, none⟩ (.int .i64 (z + 1))) (.slice (some ⟨g2, 0, none⟩) I c2) (ds.set K (z + 1)) ∧ IntsO 3 wr0.heap.size w5.heap.size (wr.drew.setCell ⟨g2, K, none⟩ (.int .i64 (z + 1))) (.slice (some ⟨b6, o6, none⟩) L.length c5') L ∧ IntsO 3 gm (gm + 1) (wr.drew.setCell ⟨g2, K, none⟩ (.int .i64 (z + 1))) (.slice (some ⟨gm, 0, none⟩) ls1.length c6) ls1 ∧ Grew w (wr.drew.setCell ⟨g2, K, none⟩ (.int .i64 (z + 1))) ∧ w5.heap.size ≤ wr.heap.size ∧ (wr.drew.setCell ⟨g2, K, none⟩ (.int .i64 (z + 1))).heap.size = wr.heap.size) :=
                    Lib.hid ⟨(hf.grew hdr).set rfl K (z + 1), hL.within hwi (.inr HZ5.out.1), hm.within hwi (.inr hgl), Within.grew hgr hwi (Nat.le_refl _), hsz, by simp⟩
                  have hlc2 : (wr.drew.setCell ⟨g2, K, none⟩ (.int .i64 (z + 1))).cell? ⟨b6, o6 + t, none⟩ = some (.int .i64 (K : Int)) := by
                    obtain ⟨a8, b8, o8, c8, e8, _, ha8, HC8⟩ := HE1.out.2.1.toV.shape
                    obtain ⟨e9, _⟩ : some ⟨b6, o6, none⟩ = a8 ∧ c5' = c8 := by simpa using e8
                    have := ha8 (by omega)
                    rw [← e9] at this
                    simp only [Option.some.injEq, Addr.mk.injEq, and_true] at this
                    obtain ⟨rfl, rfl⟩ := this
                    rw [HC8.out t hlt2, HKY.out]
                  have HE0 := Lib.hid (And.intro hM1 (And.intro hM2 (And.intro hM3 (And.intro hgl hgd))))
                  clear hf hL hm hG hD hX hgr hsz hgl hgd e6 ha6 HC6 ey hdl hEY hEL2 hM1 hM2 hM3 hM4 ek1 ek2 ez hu hgb hdr hwi HT hc1 hX0
                  go_wp2_with (fail)
                  go_region_held3 (fun W => W.cell? ⟨g2, K, none⟩ = some (.int .i64 (-1)) ∧ W.cell? ⟨gw, K, none⟩ = some (.int .i64 k1) ∧ W.cell? ⟨gw, X, none⟩ = some (.int .i64 k1))
                    (first
                      | exact ⟨hcK, hwK, hwX⟩
                      | assumption)
                    (fail)
                  go_wp2_with (at_builtin; refine wpList_append_int_at rfl (.tmp 82) (.tmp 84) 26 rfl Tryd.underlying26 Tryd.infoI rfl rfl (by simp) HE1.out.2.2.1 (by omega) rfl ?_; intro g8 c8 w8 hO8 hW8 hat8 hlt8)
                  have HX2 : Hid (∃ ds : List Int, IntsO 3 w.heap.size B w8 (.slice (some ⟨g2, 0, none⟩) I c2) ds ∧ IntsO 3 wr0.heap.size w5.heap.size w8 (.slice (some ⟨b6, o6, none⟩) L.length c5') L ∧ IntsO 3 g8 (g8 + 1) w8 (.slice (some ⟨g8, 0, none⟩) (ls1.length + 1) c8) (ls1 ++ [(K : Int)]) ∧ AGo n m ws ds (ls1 ++ [(K : Int)]) q ∧ ASeen n m ws ds X (t + 1) ∧ (ls1 ++ [(K : Int)]).getD q 0 = X ∧ Grew w w8 ∧ w5.heap.size ≤ w8.heap.size ∧ B ≤ g8 ∧ (g8 < wr0.heap.size ∨ w5.heap.size ≤ g8)) := by
                    obtain ⟨e4, e5, e6, e9, e10⟩ := HE0.out
                    obtain ⟨d1, d2, d3, d4, d5, d6⟩ := HE1.out
                    have hww := hW8.size
                    have hz5 := HZ5.out
                    have hb0 := HB2.out
                    rw [d6] at hat8 hww
                    refine Lib.hid ⟨_, d1.within hW8 (.inl e9), d2.within hW8 ?_, hO8, e4, e5, e6, Within.grew d4 hW8 (by omega), by omega, ?_, ?_⟩
                    · rcases e10 with h | h
                      · exact .inr (by omega)
                      · exact .inl h
                    · rcases hat8 with h | h <;> omega
                    · rcases hat8 with h | h <;> omega
                  clear HE1 HE0 hO8 hW8 hat8
                  go_wp2
                  go_roundg (gk - 1)
                  case measure => omega
                  case rel => exact ⟨t + 1, ls1 ++ [(K : Int)], g8, c8, by simp, by go_num, by omega, by simp; omega, by simp; omega, by omega, HX2⟩
                · have HE0 : Hid (∀ W, Grew wr W → ∃ ds : List Int, IntsO 3 w.heap.size B W (.slice (some ⟨g2, 0, none⟩) I c2) ds ∧ IntsO 3 wr0.heap.size w5.heap.size W (.slice (some ⟨b6, o6, none⟩) L.length c5') L ∧ IntsO 3 gm (gm + 1) W (.slice (some ⟨gm, 0, none⟩) ls1.length c6) ls1 ∧ AGo n m ws ds ls1 q ∧ ASeen n m ws ds X (t + 1) ∧ ls1.getD q 0 = X ∧ Grew w W ∧ w5.heap.size ≤ W.heap.size ∧ B ≤ gm ∧ (gm < wr0.heap.size ∨ w5.heap.size ≤ gm)) :=
                    Lib.hid fun W hW => ⟨ds, hf.grew hW, hL.grew hW, hm.grew hW, hG, hG.skip HF.out.n5 HF.out.m5 hqm hX hD hEL2 hEY (.inr (by rw [ek1, ek2]; exact hkk)), hX, hgr.trans hW, Nat.le_trans hsz hW.size, hgl, hgd⟩
                  have hbe : (k1 == k2) = false := beq_eq_false_iff_ne.2 hkk
                  clear hf hL hm hG hD hX hgr hsz hgl hgd e6 ha6 HC6 ey hdl hEY hEL2 ek1 ek2 hu HT
                  go_wp2
                  go_quiet (fail)
                  go_wp2
                  go_roundg (gk - 1)
                  case measure => omega
                  case rel => exact ⟨t + 1, ls1, gm, c6, rfl, by go_num, by omega, hqm, hm3, by omega, HE0.out _ ((Grew.refl _).drewN _)⟩
              · have HE0 : Hid (∀ W, Grew wr W → ∃ ds : List Int, IntsO 3 w.heap.size B W (.slice (some ⟨g2, 0, none⟩) I c2) ds ∧ IntsO 3 wr0.heap.size w5.heap.size W (.slice (some ⟨b6, o6, none⟩) L.length c5') L ∧ IntsO 3 gm (gm + 1) W (.slice (some ⟨gm, 0, none⟩) ls1.length c6) ls1 ∧ AGo n m ws ds ls1 q ∧ ASeen n m ws ds X (t + 1) ∧ ls1.getD q 0 = X ∧ Grew w W ∧ w5.heap.size ≤ W.heap.size ∧ B ≤ gm ∧ (gm < wr0.heap.size ∨ w5.heap.size ≤ gm)) :=
                  Lib.hid fun W hW => ⟨ds, hf.grew hW, hL.grew hW, hm.grew hW, hG, hG.skip HF.out.n5 HF.out.m5 hqm hX hD hEL2 hEY (.inl hu), hX, hgr.trans hW, Nat.le_trans hsz hW.size, hgl, hgd⟩
                obtain ⟨u, eu⟩ : ∃ u, ds.getD K 0 = u := ⟨_, rfl⟩
                rw [eu] at hcK hu
                have hbe : (u == -1) = false := beq_eq_false_iff_ne.2 hu
                clear hf hL hm hG hD hX hgr hsz hgl hgd e6 ha6 HC6 ey hdl hEY hEL2 ek1 ek2 eu HT
                go_wp2
                go_quiet (fail)
                go_wp2
                go_roundg (gk - 1)
                case measure => omega
                case rel => exact ⟨t + 1, ls1, gm, c6, rfl, by go_num, by omega, hqm, hm3, by omega, HE0.out _ ((Grew.refl _).drewN _)⟩
            · have HE0 : Hid (∃ ds : List Int, IntsO 3 w.heap.size B wr (.slice (some ⟨g2, 0, none⟩) I c2) ds ∧ IntsO 3 gm (gm + 1) wr (.slice (some ⟨gm, 0, none⟩) ls1.length c6) ls1 ∧ AGo n m ws ds ls1 (q + 1) ∧ Grew w wr ∧ B ≤ wr.heap.size ∧ B ≤ gm) := by
                obtain ⟨ds, hf, hL, hm, hG, hD, hX, hgr, hsz, hgl, hgd⟩ := HT.out
                obtain rfl : t = L.length := by omega
                have hz5 := HZ5.out
                exact Lib.hid ⟨ds, hf, hm, hG.next hX (by rw [HEL.out]; exact hD), hgr, by omega, hgl⟩
              clear HT
              go_wp2
              go_roundg (go - 1)
              case measure => omega
              case rel => exact ⟨q + 1, ls1, gm, c6, rfl, by go_num, by omega, hm3, by omega, HE0.out⟩
        · have HR : Hid (∃ ds : List Int, Away n m ws ds ∧ ds.length = I ∧ IntsO 3 w.heap.size wr.heap.size wr (.slice (some ⟨g2, 0, none⟩) I c2) ds ∧ Grew w wr) := by
            obtain ⟨ds, h1, _, hG, hgr, h5, _⟩ := HM.out
            obtain rfl : q = ls.length := by omega
            exact Lib.hid ⟨ds, hG.away HW.out HF.out.n5 HF.out.m5, by rw [hG.len]; exact HF.out.eN, h1.wide (Nat.le_refl _) h5, hgr⟩
          clear HM
          go_wp2
          go_ret
          obtain ⟨ds, z1, z2, z3, z4⟩ := HR.out
          refine ⟨ds, z1, z2, some ⟨g2, 0, none⟩, c2, ret_slice z2.symm, by rw [z2]; exact z3, z4⟩
end Go.Proofs.YtgecghngfonejaaDoor
