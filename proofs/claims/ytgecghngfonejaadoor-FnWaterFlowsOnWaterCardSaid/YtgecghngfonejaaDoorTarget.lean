/- The contracts of impl.targetOf, impl.targetsOf and impl.FlowOf. -/
import Derived.Test.YtgecghngfonejaaDoorAway
import Derived.Test.YtgecghngfonejaaDoorFillByQueue
namespace Go.Proofs.YtgecghngfonejaaDoor
open Go.RowKit

theorem find_hit {q : Int → Bool} : ∀ (L : List Int) (t : Nat), t < L.length → (∀ s, s < t → q (L.getD s 0) = false) → q (L.getD t 0) = true → L.find? q = some (L.getD t 0)
  | [], _, ht, _, _ => absurd ht (Nat.not_lt_zero _)
  | a :: L, 0, _, _, h => by
    simp only [List.getD_cons_zero] at h ⊢
    rw [List.find?_cons_of_pos h]
  | a :: L, t + 1, ht, h0, h => by
    have ha : q a = false := h0 0 (by omega)
    rw [List.find?_cons_of_neg (by rw [ha]; simp), List.getD_cons_succ]
    exact find_hit L t (by simpa using ht) (fun s hs => by simpa using h0 (s + 1) (by omega)) (by simpa using h)
theorem nearU_hit {ws ds L : List Int} {i t k : Nat} (ht : t < L.length) (hk : L.getD t 0 = (k : Int)) (h0 : ∀ s, s < t → nearB ws ds i (L.getD s 0).toNat = false) (h1 : nearB ws ds i k = true) : nearU ws ds L i = k := by
  rw [nearU, find_hit L t ht h0 (by rw [hk, Int.toNat_natCast]; exact h1), hk]
  rfl
theorem nearU_none {ws ds L : List Int} {i : Nat} (h0 : ∀ s, s < L.length → nearB ws ds i (L.getD s 0).toNat = false) : nearU ws ds L i = -1 := by
  have : L.find? (fun x => nearB ws ds i x.toNat) = none := by
    rw [List.find?_eq_none]
    intro x hx
    obtain ⟨s, hs, e⟩ := List.getElem_of_mem hx
    have := h0 s hs
    rw [List.getD_eq_getElem?_getD, List.getElem?_eq_getElem hs, Option.getD_some, e] at this
    rw [this]
    simp
  rw [nearU, this]
  rfl

set_option maxRecDepth 100000 in
set_option maxHeartbeats 2000000 in
theorem targetOf_any (v : Value) (n m N I gw cw ga ca : Nat) (ws ds : List Int) (w : World) (hF : FlowH v n m N ws gw cw w) (hA : IntsV w (.slice (some ⟨ga, 0, none⟩) N ca) ds) (hdl : ds.length = N) (hI : I < N) :
    Calls Tryd.prog 101 #[v, .slice (some ⟨gw, 0, none⟩) N cw, .slice (some ⟨ga, 0, none⟩) N ca, .int .i64 I] w fun e w' => e = .returned (.int .i64 (tgtU ws ds (aroundL n m I) I)) ∧ Grew w w' := by
  have HF := Lib.hid hF
  have HA := Lib.hid (And.intro hA hdl)
  have HLO := Lib.hid (lowestAt_any v n m N I gw cw ws w hF hI)
  have HC := Lib.hid fun W (hW : Grew w W) => hF.around I W hW hI
  obtain ⟨L, eL⟩ : ∃ L, aroundL n m I = L := ⟨_, rfl⟩
  have HEL := Lib.hid eL
  have hl4 : L.length ≤ 4 := by rw [← eL]; exact (around_facts hF.n5 hF.m5 (by rw [hF.eN]; exact hI)).2.2
  rw [eL] at HC HLO ⊢
  obtain ⟨K, eK⟩ : ∃ K, L.length = K := ⟨_, rfl⟩
  have HEK := Lib.hid eK
  rw [eK] at hl4 HLO
  obtain ⟨X, eX⟩ : ∃ X, lowU ws L I K = X := ⟨_, rfl⟩
  have HTG : Hid (tgtU ws ds L I = if X = I then nearU ws ds L I else (X : Nat)) := Lib.hid (by rw [tgtU, eK, eX])
  rw [eX] at HLO
  obtain ⟨R, eR⟩ : ∃ R, tgtU ws ds L I = R := ⟨_, rfl⟩
  rw [eR] at HTG ⊢
  have hIi : (I : Int) < (N : Int) := by omega
  clear hF hA hdl eL eK eX eR
  by_cases hXI : X = I
  · subst hXI
    have HR : Hid (R = nearU ws ds L X) := Lib.hid (by rw [HTG.out, if_pos rfl])
    clear HTG
    go_enter Tryd.func101, Tryd.ntmps101
    go_wp2_with (fail)
    refine HLO.out.mono ?_
    rintro e w1 ⟨rfl, hg1⟩
    have H1 := Lib.hid hg1
    clear hg1
    go_wp2_with (fail)
    refine (HC.out _ H1.out).mono ?_
    rintro e w2 ho2
    obtain ⟨a2, c2, rfl, hO2, hg2⟩ := ho2.shape
    rw [HEK.out] at hO2 ⊢
    have H2 := Lib.hid (And.intro hO2.toV (H1.out.trans hg2))
    clear hO2 hg2 ho2
    go_wp2
    go_loopw [24] (fun j wr => ∃ T : Nat, T ≤ K ∧ j = .int .i64 (T : Int) ∧ Hid (∀ s, s < T → nearB ws ds X (L.getD s 0).toNat = false) ∧ Hid (Grew w2 wr)) (fun j _ => K - (intOf j).toNat)
    case atStart => exact ⟨0, Nat.zero_le _, rfl, fun _ h => absurd h (Nat.not_lt_zero _), Grew.refl _⟩
    case round =>
      obtain ⟨T, hT, rfl, HN, HG⟩ := hrel
      by_cases hlt : T < K
      · obtain ⟨kk, hk1, hk2, _⟩ := HF.out.beside hI HEL.out (t := T) (by rw [HEK.out]; exact hlt)
        obtain ⟨a6, b6, o6, c6, e6, _, ha6, HC6⟩ := NumsV.shape H2.out.1
        rw [HEK.out] at e6 ha6
        obtain ⟨rfl, rfl⟩ : a2 = a6 ∧ c2 = c6 := by simpa using e6
        obtain rfl := ha6 (by omega)
        have hlc := HG.out.cell (HC6.out T (by rw [HEK.out]; exact hlt))
        rw [hk1] at hlc
        have hgw := H2.out.2.trans HG.out
        have hc1 := hgw.cell (NumsV.at HF.out.wat kk (by rw [HF.out.wl]; exact hk2))
        have hc2 := hgw.cell (NumsV.at HF.out.wat X (by rw [HF.out.wl]; exact hI))
        have hd1 := hgw.cell (NumsV.at HA.out.1 kk (by rw [HA.out.2]; exact hk2))
        have hd2 := hgw.cell (NumsV.at HA.out.1 X (by rw [HA.out.2]; exact hI))
        obtain ⟨x1, e1⟩ : ∃ x1, ws.getD kk 0 = x1 := ⟨_, rfl⟩
        obtain ⟨x2, e2⟩ : ∃ x2, ws.getD X 0 = x2 := ⟨_, rfl⟩
        obtain ⟨y1, f1⟩ : ∃ y1, ds.getD kk 0 = y1 := ⟨_, rfl⟩
        obtain ⟨y2, f2⟩ : ∃ y2, ds.getD X 0 = y2 := ⟨_, rfl⟩
        rw [e1] at hc1
        rw [e2] at hc2
        rw [f1] at hd1
        rw [f2] at hd2
        have hki : (kk : Int) < (N : Int) := by omega
        have hTi : (T : Int) < (K : Int) := by omega
        have hnb : nearB ws ds X kk = (decide (x1 = x2) && decide (y1 < y2)) := by rw [nearB, e1, e2, f1, f2]
        have HKK := Lib.hid hk1
        have hno : nearB ws ds X kk = false → Hid (∀ s, s < T + 1 → nearB ws ds X (L.getD s 0).toNat = false) := fun h => Lib.hid fun s hs => by
          by_cases e : s = T
          · subst e; rw [HKK.out, Int.toNat_natCast]; exact h
          · exact HN.out s (by omega)
        have HGW := Lib.hid hgw
        by_cases hx : x1 = x2
        · subst hx
          by_cases hy : y1 < y2
          · have HRK : Hid (R = (kk : Int)) := Lib.hid (by
              rw [HR.out]
              exact nearU_hit (by rw [HEK.out]; exact hlt) HKK.out HN.out (by rw [hnb]; simp [hy]))
            clear e6 ha6 HC6 hk1 e1 e2 f1 f2 hnb hno hgw
            go_wp2
            go_quiet (fail)
            go_wp2
            go_ret
            exact ⟨ret_int HRK.out.symm, HGW.out.drewN _⟩
          · have HNO := hno (by rw [hnb]; simp [hy])
            clear e6 ha6 HC6 hk1 e1 e2 f1 f2 hnb hno hgw
            go_wp2
            go_quiet (fail)
            go_wp2
            go_roundw
            case rel => exact ⟨T + 1, by omega, by go_num, HNO, HG.out.drewN _⟩
            case measure => simp [intOf]; omega
        · have HNO := hno (by rw [hnb]; simp [hx])
          have hbe : (x1 == x2) = false := beq_eq_false_iff_ne.2 hx
          clear e6 ha6 HC6 hk1 e1 e2 f1 f2 hnb hno hgw
          go_wp2
          go_quiet (fail)
          go_wp2
          go_roundw
          case rel => exact ⟨T + 1, by omega, by go_num, HNO, HG.out.drewN _⟩
          case measure => simp [intOf]; omega
      · obtain rfl : T = K := by omega
        have HRN : Hid (R = -1) := Lib.hid (by
          rw [HR.out]
          exact nearU_none fun s hs => HN.out s (by rw [← HEK.out]; exact hs))
        have HGW := Lib.hid (H2.out.2.trans HG.out)
        clear HN HG
        go_wp2
        go_ret
        exact ⟨ret_int HRN.out.symm, HGW.out⟩
  · have HR : Hid (R = (X : Int)) := Lib.hid (by rw [HTG.out, if_neg hXI])
    have hne : ((X : Int) != (I : Int)) = true := by rw [bne_iff_ne]; omega
    clear HTG HC
    go_enter Tryd.func101, Tryd.ntmps101
    go_wp2_with (fail)
    refine HLO.out.mono ?_
    rintro e w1 ⟨rfl, hg1⟩
    have H1 := Lib.hid hg1
    clear hg1
    go_wp2
    go_ret
    exact ⟨ret_int HR.out.symm, H1.out⟩

set_option maxRecDepth 100000 in
set_option maxHeartbeats 4000000 in
theorem targetsOf_any (v : Value) (h : List (List Int)) (w : World) (hv : RowsV w v h) (hS : Steps w) (hg : vGrid h = true) :
    Calls Tryd.prog 74 #[v] w (OwnI w (tgtsL h)) := by
  have G := Grid.of hg
  obtain ⟨n, en⟩ : ∃ n, h.length = n := ⟨_, rfl⟩
  obtain ⟨m, em⟩ : ∃ m, (h.getD 0 []).length = m := ⟨_, rfl⟩
  obtain ⟨N, eN⟩ : ∃ N, n * m = N := ⟨_, rfl⟩
  have HFB := Lib.hid (FillByQueue_any v h w hv hS)
  obtain ⟨f1, f2, f3⟩ := fill_grid hg
  have hW := grid_level hg
  have hCat := fun u W (hu : RowsV W u (fillL h)) => slicesConcat_any u (fillL h) W hu f1.n1 (Nat.le_trans f1.n5 (by decide)) (fun r hr => by have := f1.len r hr; have := f1.m1; have := f1.m5; omega)
  have hn5 := G.n5
  have hm5 := G.m5
  have hN1 := Nat.mul_pos G.n1 G.m1
  rw [en] at hn5
  rw [em] at hm5
  rw [en, em] at f3 hW
  rw [en, em, eN] at hN1
  obtain ⟨ws, ews⟩ : ∃ ws, levelL n m h.flatten = ws := ⟨_, rfl⟩
  rw [ews] at f3 hW
  have hwl : ws.length = N := by rw [hW.len, eN]
  have hN25 : N ≤ 25 := by rw [← eN]; exact Nat.mul_le_mul hn5 hm5
  obtain ⟨F, eF⟩ : ∃ F, fillL h = F := ⟨_, rfl⟩
  rw [eF] at HFB hCat f3
  rw [f3] at hCat
  have HCAT := Lib.hid hCat
  have HFL := Lib.hid fun gw cw W (hWw : Grew w W) (hi : IntsV W (.slice (some ⟨gw, 0, none⟩) N cw) ws) => flowH (hv.grew hWw) (hS.grew hWw) hg en em eN hwl hi
  have HTT : Hid (∀ ds, Away n m ws ds → tgtsL h = tgtsU n m ws ds N) := Lib.hid fun ds hA => by rw [tgtsL, en, em, ews, hA.eq hn5 hm5, eN]
  have HWL := Lib.hid (And.intro hwl hW)
  obtain ⟨R, eR⟩ : ∃ R, tgtsL h = R := ⟨_, rfl⟩
  rw [eR] at HTT ⊢
  obtain ⟨a, b, o, c, rfl, _, _, _⟩ := hv.shape
  clear hv hS hg G en em eN f1 f2 f3 hCat hn5 hm5 ews hwl eF eR hW
  go_enter Tryd.func74, Tryd.ntmps74
  go_wp2_with (fail)
  refine HFB.out.mono ?_
  rintro e w1 ⟨v1, rfl, hO1, hg1⟩
  obtain ⟨a1, c1, rfl⟩ := hO1.sh
  have H1 := Lib.hid (And.intro hO1.toV hg1)
  clear hO1 hg1 HFB
  go_wp2_with (fail)
  refine (HCAT.out _ _ H1.out.1).mono ?_
  rintro e w2 ⟨gw, cw, rfl, hO2, hg2⟩
  rw [HWL.out.1] at hO2 ⊢
  have H2 := Lib.hid (And.intro hO2 (H1.out.2.trans hg2))
  clear hO2 hg2 H1 HCAT
  have HAW := Lib.hid (awayOf_any _ n m N gw cw _ ws w2 (HFL.out gw cw w2 H2.out.2 H2.out.1.toV) hN1 hN25 HWL.out.2)
  go_wp2_with (fail)
  refine HAW.out.mono ?_
  rintro e w3 ⟨ds, hAw, hdl, a3, c3, rfl, hO3, hg3⟩
  rw [hdl] at hO3 ⊢
  have HR : Hid (R = tgtsU n m ws ds N) := Lib.hid (HTT.out ds hAw)
  obtain ⟨ga, c3', e3, _⟩ := hO3.pos (by rw [hdl]; omega)
  rw [hdl] at e3
  obtain ⟨rfl, rfl⟩ : a3 = some ⟨ga, 0, none⟩ ∧ c3 = c3' := by simpa using e3
  have H3 : Hid (IntsV w3 (.slice (some ⟨gw, 0, none⟩) N cw) ws ∧ IntsV w3 (.slice (some ⟨ga, 0, none⟩) N c3) ds ∧ Grew w w3) := Lib.hid ⟨(H2.out.1.grew hg3).toV, hO3.toV, H2.out.2.trans hg3⟩
  have HDL := Lib.hid hdl
  clear hO3 hg3 H2 HAW e3 hAw hdl HTT
  go_wp2_with (at_make; refine wpList_make_ints rfl (.tmp 14) (.tmp 14) 26 rfl Tryd.underlying26 Tryd.infoI rfl rfl rfl rfl (by omega) ?_; intro w4 hO4 hg4 hs4)
  obtain ⟨B, eB⟩ : ∃ B, w3.heap.size = B := ⟨_, rfl⟩
  obtain ⟨C, eC⟩ : ∃ C, w4.heap.size = C := ⟨_, rfl⟩
  rw [eB] at hO4 hs4 ⊢
  have H4 : Hid (IntsO 3 B C w4 (.slice (some ⟨B, 0, none⟩) N N) (List.replicate N 0) ∧ Grew w3 w4 ∧ w.heap.size ≤ B ∧ B < C ∧ w4.heap.size = C ∧ w3.heap.size = B) := Lib.hid ⟨by rw [← eC]; exact hO4, hg4, by rw [← eB]; exact H3.out.2.2.size, by omega, eC, eB⟩
  clear hO4 hg4 hs4 eB eC
  go_wp2
  go_loopw [18] (fun i wr => ∃ k : Nat, k ≤ N ∧ i = .int .i64 (k : Int) ∧ Hid (∃ xs : List Int, xs.length = N ∧ (∀ i, i < k → xs.getD i 0 = tgtU ws ds (aroundL n m i) i) ∧ IntsO 3 B C wr (.slice (some ⟨B, 0, none⟩) N N) xs ∧ Grew w3 wr ∧ C ≤ wr.heap.size)) (fun i _ => N - (intOf i).toNat)
  case atStart => exact ⟨0, Nat.zero_le _, rfl, _, by simp, fun _ h => absurd h (Nat.not_lt_zero _), H4.out.1, H4.out.2.1, by rw [H4.out.2.2.2.2.1]; exact Nat.le_refl _⟩
  case round =>
    obtain ⟨k, hk, rfl, HX⟩ := hrel
    by_cases hlt : k < N
    · have HGW : Hid (Grew w3 wr) := by obtain ⟨_, _, _, _, h, _⟩ := HX.out; exact Lib.hid h
      have HTG := Lib.hid (targetOf_any _ n m N k gw cw ga c3 ws ds wr (HFL.out gw cw wr (H3.out.2.2.trans HGW.out) (NumsV.grew H3.out.1 HGW.out)) (NumsV.grew H3.out.2.1 HGW.out) HDL.out hlt)
      obtain ⟨y, ey⟩ : ∃ y, tgtU ws ds (aroundL n m k) k = y := ⟨_, rfl⟩
      have HEY := Lib.hid ey
      rw [ey] at HTG
      have hki : (k : Int) < (N : Int) := by omega
      clear ey
      go_wp2_with (fail)
      refine HTG.out.mono ?_
      rintro e w5 ⟨rfl, hg5⟩
      have HE : Hid (∃ xs : List Int, xs.length = N ∧ (∀ i, i < k → xs.getD i 0 = tgtU ws ds (aroundL n m i) i) ∧ IntsO 3 B C w5 (.slice (some ⟨B, 0, none⟩) N N) xs ∧ Grew w3 w5 ∧ C ≤ w5.heap.size) := by
        obtain ⟨xs, z1, z2, z3, z4, z5⟩ := HX.out
        exact Lib.hid ⟨xs, z1, z2, z3.grew hg5, z4.trans hg5, Nat.le_trans z5 hg5.size⟩
      obtain ⟨xs, HE2⟩ : ∃ xs : List Int, Hid (xs.length = N ∧ (∀ i, i < k → xs.getD i 0 = tgtU ws ds (aroundL n m i) i) ∧ IntsO 3 B C w5 (.slice (some ⟨B, 0, none⟩) N N) xs ∧ Grew w3 w5 ∧ C ≤ w5.heap.size) := by
        obtain ⟨xs, h⟩ := HE.out
        exact ⟨xs, Lib.hid h⟩
      obtain ⟨hcx, hfx⟩ := HE2.out.2.2.1.at rfl (i := k) (by rw [HE2.out.1]; exact hlt)
      have HF : Hid (∃ xs : List Int, xs.length = N ∧ (∀ i, i < k + 1 → xs.getD i 0 = tgtU ws ds (aroundL n m i) i) ∧ IntsO 3 B C (w5.setCell ⟨B, k, none⟩ (.int .i64 y)) (.slice (some ⟨B, 0, none⟩) N N) xs ∧ Grew w3 (w5.setCell ⟨B, k, none⟩ (.int .i64 y)) ∧ C ≤ (w5.setCell ⟨B, k, none⟩ (.int .i64 y)).heap.size) := by
        obtain ⟨z1, z2, z3, z4, z5⟩ := HE2.out
        have hwi : Within B C w5 (w5.setCell ⟨B, k, none⟩ (.int .i64 y)) := (Within.refl _ _ _).setCell (p := ⟨B, k, none⟩) (Nat.le_refl _) H4.out.2.2.2.1 _
        refine Lib.hid ⟨xs.set k y, by rw [List.length_set]; exact z1, fun i hi => ?_, z3.set rfl k y, Within.grew z4 hwi (by rw [H4.out.2.2.2.2.2]; exact Nat.le_refl _), by simpa using z5⟩
        rw [getD_set _ _ _ _ (by omega)]
        by_cases e : i = k
        · subst e; rw [if_pos rfl]; exact HEY.out.symm
        · rw [if_neg e]; exact z2 i (by omega)
      clear hg5 HE HE2 HX
      go_wp2
      go_roundw
      case rel => exact ⟨k + 1, by omega, by go_num, HF.out⟩
      case measure => simp [intOf]; omega
    · obtain rfl : k = N := by omega
      have HF : Hid (IntsO 3 w.heap.size wr.heap.size wr (.slice (some ⟨B, 0, none⟩) k k) R ∧ k = R.length ∧ Grew w wr) := by
        obtain ⟨xs, z1, z2, z3, z4, z5⟩ := HX.out
        have e : xs = R := by
          rw [HR.out]
          exact ext_getD (n := k) z1 (tgtsU_len _ _ _ _ _) fun i hi => by rw [z2 i hi, tgtsU_at _ _ _ _ _ _ hi]
        rw [e] at z3
        exact Lib.hid ⟨z3.wide H4.out.2.2.1 z5, by rw [HR.out, tgtsU_len], H3.out.2.2.trans z4⟩
      clear HX
      go_wp2
      go_ret
      refine ⟨some ⟨B, 0, none⟩, k, ret_slice HF.out.2.1, ?_, HF.out.2.2⟩
      rw [← HF.out.2.1]
      exact HF.out.1

set_option maxRecDepth 100000 in
set_option maxHeartbeats 2000000 in
theorem FlowOf_any (v : Value) (h : List (List Int)) (w : World) (hv : RowsV w v h) (hS : Steps w) :
    Calls Tryd.prog 28 #[v] w (NewRows w (flowL h)) := by
  have HK := ValidGrid_any v h w hv
  cases hg : vGrid h with
  | false =>
    rw [hg] at HK
    have HK2 := Lib.hid HK
    rw [flowL_no hg]
    obtain ⟨a, b, o, c, rfl, _, _, _⟩ := hv.shape
    clear hv hS HK hg
    go_enter Tryd.func28, Tryd.ntmps28
    go_wp2_with (fail)
    refine HK2.out.mono ?_
    rintro e w1 ⟨rfl, rfl⟩
    go_wp2
    go_ret
    exact ⟨_, rfl, RowsO.nil _ _ _ _ _, Grew.refl _⟩
  | true =>
    rw [hg] at HK
    have HK2 := Lib.hid HK
    have G := Grid.of hg
    obtain ⟨n, en⟩ : ∃ n, h.length = n := ⟨_, rfl⟩
    obtain ⟨m, em⟩ : ∃ m, (h.getD 0 []).length = m := ⟨_, rfl⟩
    obtain ⟨N, eN⟩ : ∃ N, n * m = N := ⟨_, rfl⟩
    have HT := Lib.hid fun W (hW : Grew w W) => targetsOf_any v h W (hv.grew hW) (hS.grew hW) hg
    have hTl : (tgtsL h).length = N := by rw [tgtsL, tgtsU_len, en, em, eN]
    obtain ⟨ts, ets⟩ : ∃ ts, tgtsL h = ts := ⟨_, rfl⟩
    have HR : Hid (flowL h = shapeL ts m n) := Lib.hid (by rw [flowL, if_pos hg, ets, en, em])
    rw [ets] at HT hTl
    obtain ⟨R, eR⟩ : ∃ R, flowL h = R := ⟨_, rfl⟩
    rw [eR] at HR ⊢
    have hn5 := G.n5
    have hn1 := G.n1
    have hm5 := G.m5
    have hm1 := G.m1
    rw [en] at hn5 hn1
    rw [em] at hm5 hm1
    have hN1 : 1 ≤ N := by rw [← eN]; exact Nat.mul_pos hn1 hm1
    have HNM := Lib.hid (And.intro hn5 (And.intro hm5 (And.intro eN (And.intro hm1 hTl))))
    obtain ⟨a, b, o, c, rfl, ⟨hlc, hcb⟩, ha, HCR⟩ := hv.shape
    obtain rfl := ha (by omega)
    obtain ⟨u0, hcu0, hu0⟩ := HCR.out 0 (by omega)
    rw [Nat.add_zero] at hcu0
    obtain ⟨a0, b0, o0, c0, rfl, _, _, _⟩ := hu0.shape
    rw [em] at hcu0
    rw [en] at HK2 HT hlc ⊢
    have hn0 : (0 : Int) < (n : Int) := by omega
    have hn2 : 0 < n := by omega
    have hn3 : ¬ n = 0 := by omega
    have hn4 : ¬ (n : Int) ≤ 0 := by omega
    have HF := Lib.hid (HT.out w.drew (Grew.refl w).drew)
    have HIR := Lib.hid fun g c W (hO : IntsO 3 w.drew.heap.size W.heap.size W (.slice (some ⟨g, 0, none⟩) N c) ts) => inRows_own hO HNM.out.1 HNM.out.2.2.2.1 HNM.out.2.1 HNM.out.2.2.1
    have HSL : Hid (∀ (a : Option Addr) (c : Nat) W, IntsO 3 w.drew.heap.size W.heap.size W (.slice a N c) ts → ∃ g, a = some ⟨g, 0, none⟩) := Lib.hid fun a c W hO => by
      obtain ⟨g, c', e, _⟩ := hO.pos (by rw [HNM.out.2.2.2.2]; omega)
      simp only [Value.slice.injEq] at e
      exact ⟨g, e.1⟩
    clear hv hS HK hg G ha HCR hu0 en em eN ets eR hn5 hm5 hm1 hTl HT
    go_enter Tryd.func28, Tryd.ntmps28
    go_wp2_with (fail)
    refine HK2.out.mono ?_
    rintro e w0 ⟨rfl, rfl⟩
    go_wp2_with (fail)
    go_region_held3 (fun W => W.cell? ⟨b, o, none⟩ = some (.slice a0 m c0))
      (first
        | exact hcu0
        | assumption
        | exact hg4.cell (by assumption)
        | exact hg5.cell (by assumption))
      (first
        | (go_at_call 74; refine HF.out.mono ?_; rintro e w4 ⟨a4, c4, rfl, hO4, hg4⟩; rw [HNM.out.2.2.2.2] at hO4 ⊢; obtain ⟨g4, rfl⟩ := HSL.out a4 c4 w4 hO4)
        | (go_at_call 71; refine (HIR.out g4 c4 w4 hO4).mono ?_; rintro e w5 ⟨v5, rfl, hO5, hg5⟩; obtain ⟨a5', c5', rfl⟩ := hO5.sh))
    have HG4 := Lib.hid ((Grew.refl w).drew.trans hg4)
    have H5 := Lib.hid (And.intro hO5 hg5)
    clear hO5 hg5 hO4 hg4
    go_wp2
    go_ret
    rw [HR.out]
    exact ⟨_, rfl, H5.out.1.wide HG4.out.size (Nat.le_refl _), HG4.out.trans H5.out.2⟩
end Go.Proofs.YtgecghngfonejaaDoor
