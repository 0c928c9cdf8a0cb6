/- The contracts of spec.flow and spec.FlowOf. -/
import Derived.Test.YtgecghngfonejaaDoorSFar
import Derived.Test.YtgecghngfonejaaDoorTarget
import Derived.Test.YtgecghngfonejaaDoorSByQueue
namespace Go.Proofs.YtgecghngfonejaaDoor
open Go.RowKit

set_option maxRecDepth 100000 in
set_option maxHeartbeats 8000000 in
theorem sflow_any (v : Value) (h : List (List Int)) (n m N : Nat) (w : World) (hv : RowsV w v h) (hg : vGrid h = true) (en : h.length = n) (em : (h.getD 0 []).length = m) (eN : n * m = N) :
    Calls Tryd.prog 75 #[v] w (OwnI w (tgtsL h)) := by
  have G := Grid.of hg
  have hn5 := G.n5
  have hm5 := G.m5
  have hN1 := Nat.mul_pos G.n1 G.m1
  rw [en] at hn5
  rw [em] at hm5
  rw [en, em, eN] at hN1
  have hN25 : N ≤ 25 := by rw [← eN]; exact Nat.mul_le_mul hn5 hm5
  have HBQ := Lib.hid (byQueue_any v h n m N w hv hg en em eN)
  have HCE := Lib.hid fun W (hW : Grew w W) => (specH (hv.grew hW) hg en em eN (pf := fun i => h.flatten.getD i 0) (fun _ => rfl)).cells W (Grew.refl _)
  have HSF := Lib.hid fun (ws : List Int) gw cw W (hWw : Grew w W) (hwl : ws.length = N) (hi : IntsV W (.slice (some ⟨gw, 0, none⟩) N cw) ws) => sflowH (hv.grew hWw) hg en em eN hwl hi
  have HTT : Hid (∀ ws ds, Level n m h.flatten ws → Away n m ws ds → tgtsL h = tgtsU n m ws ds N) := Lib.hid fun ws ds hL hA => by rw [tgtsL, en, em, hL.eq, hA.eq hn5 hm5, eN]
  obtain ⟨R, eR⟩ : ∃ R, tgtsL h = R := ⟨_, rfl⟩
  rw [eR] at HTT ⊢
  obtain ⟨p, ep⟩ : ∃ p, h.flatten = p := ⟨_, rfl⟩
  rw [ep] at HBQ HTT
  obtain ⟨a, b, o, c, rfl, _, _, _⟩ := hv.shape
  clear hv hg G en em eN hn5 hm5 eR ep
  go_enter Tryd.func75, Tryd.ntmps75
  go_wp2_with (fail)
  refine HBQ.out.mono ?_
  rintro e w1 ⟨gw, cw, ws, rfl, hO1, hLv, hg1⟩
  have hwl : ws.length = N := by
    rcases hO1.shape with ⟨e, _⟩ | ⟨_, _, e, _⟩
    · cases e
    · simp only [Value.slice.injEq] at e; exact e.2.1.symm
  have HFH := Lib.hid (HSF.out ws gw cw w1 hg1 hwl hO1.toV)
  have HLV := Lib.hid hLv
  have H1 := Lib.hid hg1
  have HFA := Lib.hid (far_any _ n m N gw cw p ws w1 HFH.out hN1 hN25 hLv)
  clear hO1 hLv hg1 HBQ HSF
  go_wp2_with (fail)
  refine HFA.out.mono ?_
  rintro e w2 ⟨ds, hAw, hdl, a2, c2, rfl, hO2, hg2⟩
  rw [hdl] at hO2 ⊢
  obtain ⟨ga, c2', e2, _⟩ := hO2.pos (by rw [hdl]; omega)
  rw [hdl] at e2
  obtain ⟨rfl, rfl⟩ : a2 = some ⟨ga, 0, none⟩ ∧ c2 = c2' := by simpa using e2
  have H2 : Hid (IntsV w2 (.slice (some ⟨ga, 0, none⟩) N c2) ds ∧ Grew w1 w2 ∧ Grew w w2) := Lib.hid ⟨hO2.toV, hg2, H1.out.trans hg2⟩
  have HA := Lib.hid (And.intro hAw hdl)
  have HR : Hid (R = tgtsU n m ws ds N) := Lib.hid (HTT.out ws ds HLV.out hAw)
  clear hO2 hg2 e2 hAw HTT HFA hdl hwl
  have hlit := IntsO.lit 3 w2.heap.size w2 [] #[] rfl (Nat.le_refl _) (show 0 ≤ maxLen by decide)
  have H3 : Hid (IntsO 3 w2.heap.size (w2.alloc (.cells #[] 3)).heap.size (w2.alloc (.cells #[] 3)) (.slice (some ⟨w2.heap.size, 0, none⟩) 0 0) [] ∧ Grew w2 (w2.alloc (.cells #[] 3))) :=
    Lib.hid ⟨by simpa using hlit, (Grew.refl _).alloc _⟩
  clear hlit
  go_wp2
  go_loopg [5, 6] N (fun gk v i wi => ∃ (a5 : Option Addr) (ln c5 : Nat), v = .slice a5 ln c5 ∧ i = .int .i64 ((ln : Nat) : Int) ∧ ln ≤ N ∧ N ≤ gk + ln ∧
    Hid (IntsO 3 w2.heap.size wi.heap.size wi v (tgtsU n m ws ds ln) ∧ Grew w2 wi))
  case atStart => exact ⟨_, 0, 0, rfl, rfl, Nat.zero_le _, Nat.le_refl _, H3.out⟩
  case round =>
    obtain ⟨a5, I, c5, rfl, rfl, hk1, hk2, HZ⟩ := hrel
    clear H3
    have HCW := Lib.hid (HCE.out wr (H2.out.2.2.trans HZ.out.2))
    by_cases hI : I < N
    · have HAR := Lib.hid (HFH.out.around I wr (H2.out.2.1.trans HZ.out.2) hI)
      have hIi : (I : Int) < (N : Int) := by omega
      obtain ⟨go, rfl⟩ : ∃ go : Nat, go = gk := ⟨_, rfl⟩
      obtain ⟨L, eL⟩ : ∃ L, aroundL n m I = L := ⟨_, rfl⟩
      have HEL := Lib.hid eL
      have hl4 : L.length ≤ 4 := by rw [← eL]; exact (around_facts HFH.out.n5 HFH.out.m5 (by rw [HFH.out.eN]; exact hI)).2.2
      rw [eL] at HAR
      obtain ⟨K, eK⟩ : ∃ K, L.length = K := ⟨_, rfl⟩
      have HEK := Lib.hid eK
      rw [eK] at hl4
      have HTG : Hid (tgtU ws ds (aroundL n m I) I = if lowU ws L I K = I then nearU ws ds L I else (lowU ws L I K : Nat)) := Lib.hid (by rw [tgtU, eL, eK])
      clear eL eK
      go_wp2_with (fail)
      refine HCW.out.mono ?_
      rintro e w3 ⟨rfl, rfl⟩
      go_wp2_with (fail)
      refine HAR.out.mono ?_
      rintro e w3 ho3
      obtain ⟨a3, c3, rfl, hO3, hg3⟩ := ho3.shape
      rw [HEK.out] at hO3 ⊢
      obtain ⟨wo, ewo⟩ : ∃ wo : World, wo = wr := ⟨_, rfl⟩
      rw [← ewo] at HZ hg3
      have H4 : Hid (IntsV w3 (.slice a3 K c3) L ∧ Grew wo w3 ∧ Grew w1 w3 ∧ Grew w2 w3) := Lib.hid ⟨hO3.toV, hg3, H2.out.2.1.trans (HZ.out.2.trans hg3), HZ.out.2.trans hg3⟩
      obtain ⟨a6, b6, o6, c6, e6, _, ha6, HC6⟩ := NumsV.shape H4.out.1
      rw [HEK.out] at e6 ha6
      obtain ⟨rfl, rfl⟩ : a3 = a6 ∧ c3 = c6 := by simpa using e6
      -- what is read, at any later world
      have HRD : Hid (∀ W, Grew w3 W → (∀ x, x < N → W.cell? ⟨gw, x, none⟩ = some (.int .i64 (ws.getD x 0)) ∧ W.cell? ⟨ga, x, none⟩ = some (.int .i64 (ds.getD x 0)))) := Lib.hid fun W hW x hx =>
        ⟨(H4.out.2.2.1.trans hW).cell (NumsV.at HFH.out.wat x (by rw [HFH.out.wl]; exact hx)), (H4.out.2.2.2.trans hW).cell (NumsV.at H2.out.1 x (by rw [HA.out.2]; exact hx))⟩
      clear hO3 hg3 ho3 HAR HCW e6 ewo
      go_wp2
      go_loopw [7, 9] (fun tv j wi => ∃ T : Nat, ∃ y : Int, T ≤ K ∧ j = .int .i64 (T : Int) ∧ tv = .int .i64 y ∧ Hid ((y = -1 ∧ lowU ws L I T = I) ∨ (∃ X : Nat, y = X ∧ X < N ∧ lowU ws L I T = X ∧ ws.getD X 0 < ws.getD I 0)) ∧ Hid (Grew w3 wi)) (fun _ j _ => K - (intOf j).toNat)
      case atStart => exact ⟨0, -1, Nat.zero_le _, rfl, rfl, Lib.hid (.inl ⟨rfl, rfl⟩), Grew.refl _⟩
      case round =>
        obtain ⟨T, y, hT, rfl, rfl, HX, HG⟩ := hrel
        by_cases hT2 : T < K
        · obtain ⟨kk, hk1', hk2', _⟩ := HFH.out.beside hI HEL.out (t := T) (by rw [HEK.out]; exact hT2)
          obtain rfl := ha6 (by omega)
          have hlc := HG.out.cell (HC6.out T (by rw [HEK.out]; exact hT2))
          rw [hk1'] at hlc
          have hc1 := (HRD.out wr HG.out kk hk2').1
          have hc2 := (HRD.out wr HG.out I hI).1
          have hki : (kk : Int) < (N : Int) := by omega
          have hTi : (T : Int) < (K : Int) := by omega
          have hst : lowU ws L I (T + 1) = if ws.getD kk 0 < ws.getD (lowU ws L I T) 0 then kk else lowU ws L I T := by rw [lowU, hk1', Int.toNat_natCast]
          obtain ⟨x1, e1⟩ : ∃ x1, ws.getD kk 0 = x1 := ⟨_, rfl⟩
          obtain ⟨x2, e2⟩ : ∃ x2, ws.getD I 0 = x2 := ⟨_, rfl⟩
          rw [e1] at hc1 hst
          rw [e2] at hc2
          by_cases hx : x1 < x2
          · rcases HX.out with ⟨hy, hl⟩ | ⟨X, hy, hX, hl, hlt⟩
            · subst hy
              rw [hl, e2, if_pos hx] at hst
              have HN : Hid (lowU ws L I (T + 1) = kk ∧ ws.getD kk 0 < ws.getD I 0) := Lib.hid ⟨hst, by rw [e1, e2]; exact hx⟩
              clear hk1' e1 e2 hst HX hl
              go_wp2
              go_quiet (fail)
              go_wp2
              go_roundw
              case rel => exact ⟨T + 1, kk, by omega, by go_num, rfl, Lib.hid (.inr ⟨kk, rfl, hk2', HN.out⟩), HG.out.drewN _⟩
              case measure => simp [intOf]; omega
            · subst hy
              have hc3 := (HRD.out wr HG.out X hX).1
              have hXi : (X : Int) < (N : Int) := by omega
              have hX0 : ¬ (X : Int) < 0 := by omega
              obtain ⟨x3, e3⟩ : ∃ x3, ws.getD X 0 = x3 := ⟨_, rfl⟩
              rw [e3] at hc3
              rw [hl, e3] at hst
              by_cases hx3 : x1 < x3
              · rw [if_pos hx3] at hst
                have HN : Hid (lowU ws L I (T + 1) = kk ∧ ws.getD kk 0 < ws.getD I 0) := Lib.hid ⟨hst, by rw [e1, e2]; exact hx⟩
                clear hk1' e1 e2 e3 hst HX hl hlt
                go_wp2
                go_quiet (fail)
                go_wp2
                go_roundw
                case rel => exact ⟨T + 1, kk, by omega, by go_num, rfl, Lib.hid (.inr ⟨kk, rfl, hk2', HN.out⟩), HG.out.drewN _⟩
                case measure => simp [intOf]; omega
              · rw [if_neg hx3] at hst
                have HN : Hid (lowU ws L I (T + 1) = X ∧ ws.getD X 0 < ws.getD I 0) := Lib.hid ⟨hst, hlt⟩
                clear hk1' e1 e2 e3 hst HX hl hlt
                go_wp2
                go_quiet (fail)
                go_wp2
                go_roundw
                case rel => exact ⟨T + 1, X, by omega, by go_num, rfl, Lib.hid (.inr ⟨X, rfl, hX, HN.out⟩), HG.out.drewN _⟩
                case measure => simp [intOf]; omega
          · have hle := (lowU_le ws L I T).1
            rw [if_neg (by omega)] at hst
            have HN : Hid ((y = -1 ∧ lowU ws L I (T + 1) = I) ∨ (∃ X : Nat, y = X ∧ X < N ∧ lowU ws L I (T + 1) = X ∧ ws.getD X 0 < ws.getD I 0)) := by
              rw [hst]; exact HX
            clear hk1' e1 e2 hst HX hle
            have hdx : decide (x1 < x2) = false := decide_eq_false hx
            go_wp2_with (fail)
            refine wp_region_noPanic ?_
            refine wp_region_held_drew (S := fun W => W.cell? ⟨gw, kk, none⟩ = some (.int .i64 x1) ∧ W.cell? ⟨gw, I, none⟩ = some (.int .i64 x2)) (by kernel_rfl) (by exact ⟨hc1, hc2⟩) (fun hHeld => ?_)
            refine wpAnyH_take (i := 0) (oi := { dst := some 38, op := Op.move (Operand.tmp 3), type := 26, pos := _, after := #[], guard := none }) (v := ?_) rfl (by kernel_rfl) (by kernel_rfl) (by kernel_rfl) (fun _ _ _ h => h) (Or.inl ⟨by rfl, ?hy⟩) (by assumption) ?_
            case hy => (intro w hSw; (try dsimp only at hSw); go_simp; try with_reducible rfl)
            try simp only [Act.put, List.setIfInBounds_toArray, List.set_cons_zero, List.set_cons_succ]
            refine wpAnyH_take (i := 1) (oi := { dst := some 39, op := Op.move (Operand.tmp 10), type := 3, pos := _, after := #[], guard := none }) (v := ?_) rfl (by kernel_rfl) (by kernel_rfl) (by kernel_rfl) (fun _ _ _ h => h) (Or.inl ⟨by rfl, ?hy⟩) (by assumption) ?_
            case hy => (intro w hSw; (try dsimp only at hSw); go_simp; try with_reducible rfl)
            try simp only [Act.put, List.setIfInBounds_toArray, List.set_cons_zero, List.set_cons_succ]
            refine wpAnyH_take (i := 2) (oi := { dst := some 40, op := Op.indexAddr 26 (Operand.tmp 38) (Operand.tmp 39), type := 0, pos := _, after := #[{ on := 0, ground := Ground.data }, { on := 1, ground := Ground.data }], guard := none }) (v := ?_) rfl (by kernel_rfl) (by kernel_rfl) (by kernel_rfl) (fun _ _ _ h => h) (Or.inl ⟨by rfl, ?hy⟩) (by assumption) ?_
            case hy => (intro w hSw; (try dsimp only at hSw); go_simp; try with_reducible rfl)
            try simp only [Act.put, List.setIfInBounds_toArray, List.set_cons_zero, List.set_cons_succ]
            refine wpAnyH_take (i := 3) (oi := { dst := some 41, op := Op.load 3 (Operand.tmp 40), type := 3, pos := _, after := #[{ on := 2, ground := Ground.data }], guard := none }) (v := ?_) rfl (by kernel_rfl) (by kernel_rfl) (by kernel_rfl) (fun _ _ _ h => h) (Or.inl ⟨by rfl, ?hy⟩) (by assumption) ?_
            case hy => (intro w hSw; (try dsimp only at hSw); go_simp; try with_reducible rfl)
            try simp only [Act.put, List.setIfInBounds_toArray, List.set_cons_zero, List.set_cons_succ]
            refine wpAnyH_take (i := 4) (oi := { dst := some 42, op := Op.move (Operand.tmp 3), type := 26, pos := _, after := #[], guard := none }) (v := ?_) rfl (by kernel_rfl) (by kernel_rfl) (by kernel_rfl) (fun _ _ _ h => h) (Or.inl ⟨by rfl, ?hy⟩) (by assumption) ?_
            case hy => (intro w hSw; (try dsimp only at hSw); go_simp; try with_reducible rfl)
            try simp only [Act.put, List.setIfInBounds_toArray, List.set_cons_zero, List.set_cons_succ]
            refine wpAnyH_take (i := 5) (oi := { dst := some 43, op := Op.move (Operand.tmp 6), type := 3, pos := _, after := #[], guard := none }) (v := ?_) rfl (by kernel_rfl) (by kernel_rfl) (by kernel_rfl) (fun _ _ _ h => h) (Or.inl ⟨by rfl, ?hy⟩) (by assumption) ?_
            case hy => (intro w hSw; (try dsimp only at hSw); go_simp; try with_reducible rfl)
            try simp only [Act.put, List.setIfInBounds_toArray, List.set_cons_zero, List.set_cons_succ]
            refine wpAnyH_take (i := 6) (oi := { dst := some 44, op := Op.indexAddr 26 (Operand.tmp 42) (Operand.tmp 43), type := 0, pos := _, after := #[{ on := 4, ground := Ground.data }, { on := 5, ground := Ground.data }], guard := none }) (v := ?_) rfl (by kernel_rfl) (by kernel_rfl) (by kernel_rfl) (fun _ _ _ h => h) (Or.inl ⟨by rfl, ?hy⟩) (by assumption) ?_
            case hy => (intro w hSw; (try dsimp only at hSw); go_simp; try with_reducible rfl)
            try simp only [Act.put, List.setIfInBounds_toArray, List.set_cons_zero, List.set_cons_succ]
            refine wpAnyH_take (i := 7) (oi := { dst := some 45, op := Op.load 3 (Operand.tmp 44), type := 3, pos := _, after := #[{ on := 6, ground := Ground.data }], guard := none }) (v := ?_) rfl (by kernel_rfl) (by kernel_rfl) (by kernel_rfl) (fun _ _ _ h => h) (Or.inl ⟨by rfl, ?hy⟩) (by assumption) ?_
            case hy => (intro w hSw; (try dsimp only at hSw); go_simp; try with_reducible rfl)
            try simp only [Act.put, List.setIfInBounds_toArray, List.set_cons_zero, List.set_cons_succ]
            refine wpAnyH_take (i := 8) (oi := { dst := some 46, op := Op.binOp BinOp.lss 3 (Operand.tmp 41) (Operand.tmp 45) 3, type := 4, pos := _, after := #[{ on := 3, ground := Ground.data }, { on := 7, ground := Ground.data }], guard := none }) (v := .bool false) rfl (by kernel_rfl) (by kernel_rfl) (by kernel_rfl) (fun _ _ _ h => h) (Or.inl ⟨by rfl, ?hy⟩) (by assumption) ?_
            case hy => (intro w hSw; (try dsimp only at hSw); go_simp <;> (try with_reducible rfl) <;> (try simp [hdx]))
            try simp only [Act.put, List.setIfInBounds_toArray, List.set_cons_zero, List.set_cons_succ]
            refine wpAnyH_take (i := 9) (oi := { dst := some 47, op := Op.move (Operand.tmp 46), type := 4, pos := _, after := #[{ on := 8, ground := Ground.data }], guard := none }) (v := ?_) rfl (by kernel_rfl) (by kernel_rfl) (by kernel_rfl) (fun _ _ _ h => h) (Or.inl ⟨by rfl, ?hy⟩) (by assumption) ?_
            case hy => (intro w hSw; (try dsimp only at hSw); go_simp; try with_reducible rfl)
            try simp only [Act.put, List.setIfInBounds_toArray, List.set_cons_zero, List.set_cons_succ]
            refine wpAnyH_take (i := 10) (oi := { dst := some 48, op := Op.move (Operand.tmp 7), type := 3, pos := _, after := #[{ on := 9, ground := Ground.guard }], guard := some (9, true) }) (v := undef) rfl (by kernel_rfl) (by kernel_rfl) (by kernel_rfl) (fun _ _ _ h => h) (Or.inr ⟨by rfl, rfl⟩) (by assumption) ?_
            try simp only [Act.put, List.setIfInBounds_toArray, List.set_cons_zero, List.set_cons_succ]
            refine wpAnyH_take (i := 11) (oi := { dst := some 49, op := Op.binOp BinOp.lss 3 (Operand.tmp 48) (Operand.const (Value.int IntKind.i64 0)) 3, type := 4, pos := _, after := #[{ on := 10, ground := Ground.data }, { on := 9, ground := Ground.guard }], guard := some (9, true) }) (v := undef) rfl (by kernel_rfl) (by kernel_rfl) (by kernel_rfl) (fun _ _ _ h => h) (Or.inr ⟨by rfl, rfl⟩) (by assumption) ?_
            try simp only [Act.put, List.setIfInBounds_toArray, List.set_cons_zero, List.set_cons_succ]
            refine wpAnyH_take (i := 12) (oi := { dst := some 50, op := Op.move (Operand.tmp 49), type := 4, pos := _, after := #[{ on := 11, ground := Ground.data }, { on := 9, ground := Ground.chain }, { on := 9, ground := Ground.guard }], guard := some (9, true) }) (v := undef) rfl (by kernel_rfl) (by kernel_rfl) (by kernel_rfl) (fun _ _ _ h => h) (Or.inr ⟨by rfl, rfl⟩) (by assumption) ?_
            try simp only [Act.put, List.setIfInBounds_toArray, List.set_cons_zero, List.set_cons_succ]
            refine wpAnyH_take (i := 13) (oi := { dst := some 51, op := Op.move (Operand.tmp 3), type := 26, pos := _, after := #[{ on := 12, ground := Ground.guard }], guard := some (12, false) }) (v := undef) rfl (by kernel_rfl) (by kernel_rfl) (by kernel_rfl) (fun _ _ _ h => h) (Or.inr ⟨by rfl, rfl⟩) (by assumption) ?_
            try simp only [Act.put, List.setIfInBounds_toArray, List.set_cons_zero, List.set_cons_succ]
            refine wpAnyH_take (i := 14) (oi := { dst := some 52, op := Op.move (Operand.tmp 10), type := 3, pos := _, after := #[{ on := 12, ground := Ground.guard }], guard := some (12, false) }) (v := undef) rfl (by kernel_rfl) (by kernel_rfl) (by kernel_rfl) (fun _ _ _ h => h) (Or.inr ⟨by rfl, rfl⟩) (by assumption) ?_
            try simp only [Act.put, List.setIfInBounds_toArray, List.set_cons_zero, List.set_cons_succ]
            refine wpAnyH_take (i := 15) (oi := { dst := some 53, op := Op.indexAddr 26 (Operand.tmp 51) (Operand.tmp 52), type := 0, pos := _, after := #[{ on := 13, ground := Ground.data }, { on := 14, ground := Ground.data }, { on := 12, ground := Ground.guard }], guard := some (12, false) }) (v := undef) rfl (by kernel_rfl) (by kernel_rfl) (by kernel_rfl) (fun _ _ _ h => h) (Or.inr ⟨by rfl, rfl⟩) (by assumption) ?_
            try simp only [Act.put, List.setIfInBounds_toArray, List.set_cons_zero, List.set_cons_succ]
            refine wpAnyH_take (i := 16) (oi := { dst := some 54, op := Op.load 3 (Operand.tmp 53), type := 3, pos := _, after := #[{ on := 15, ground := Ground.data }, { on := 12, ground := Ground.guard }], guard := some (12, false) }) (v := undef) rfl (by kernel_rfl) (by kernel_rfl) (by kernel_rfl) (fun _ _ _ h => h) (Or.inr ⟨by rfl, rfl⟩) (by assumption) ?_
            try simp only [Act.put, List.setIfInBounds_toArray, List.set_cons_zero, List.set_cons_succ]
            refine wpAnyH_take (i := 17) (oi := { dst := some 55, op := Op.move (Operand.tmp 3), type := 26, pos := _, after := #[{ on := 12, ground := Ground.guard }], guard := some (12, false) }) (v := undef) rfl (by kernel_rfl) (by kernel_rfl) (by kernel_rfl) (fun _ _ _ h => h) (Or.inr ⟨by rfl, rfl⟩) (by assumption) ?_
            try simp only [Act.put, List.setIfInBounds_toArray, List.set_cons_zero, List.set_cons_succ]
            refine wpAnyH_take (i := 18) (oi := { dst := some 56, op := Op.move (Operand.tmp 7), type := 3, pos := _, after := #[{ on := 12, ground := Ground.guard }], guard := some (12, false) }) (v := undef) rfl (by kernel_rfl) (by kernel_rfl) (by kernel_rfl) (fun _ _ _ h => h) (Or.inr ⟨by rfl, rfl⟩) (by assumption) ?_
            try simp only [Act.put, List.setIfInBounds_toArray, List.set_cons_zero, List.set_cons_succ]
            refine wpAnyH_take (i := 19) (oi := { dst := some 57, op := Op.indexAddr 26 (Operand.tmp 55) (Operand.tmp 56), type := 0, pos := _, after := #[{ on := 17, ground := Ground.data }, { on := 18, ground := Ground.data }, { on := 12, ground := Ground.guard }], guard := some (12, false) }) (v := undef) rfl (by kernel_rfl) (by kernel_rfl) (by kernel_rfl) (fun _ _ _ h => h) (Or.inr ⟨by rfl, rfl⟩) (by assumption) ?_
            try simp only [Act.put, List.setIfInBounds_toArray, List.set_cons_zero, List.set_cons_succ]
            refine wpAnyH_take (i := 20) (oi := { dst := some 58, op := Op.load 3 (Operand.tmp 57), type := 3, pos := _, after := #[{ on := 19, ground := Ground.data }, { on := 12, ground := Ground.guard }], guard := some (12, false) }) (v := undef) rfl (by kernel_rfl) (by kernel_rfl) (by kernel_rfl) (fun _ _ _ h => h) (Or.inr ⟨by rfl, rfl⟩) (by assumption) ?_
            try simp only [Act.put, List.setIfInBounds_toArray, List.set_cons_zero, List.set_cons_succ]
            refine wpAnyH_take (i := 21) (oi := { dst := some 59, op := Op.binOp BinOp.lss 3 (Operand.tmp 54) (Operand.tmp 58) 3, type := 4, pos := _, after := #[{ on := 16, ground := Ground.data }, { on := 20, ground := Ground.data }, { on := 12, ground := Ground.guard }], guard := some (12, false) }) (v := undef) rfl (by kernel_rfl) (by kernel_rfl) (by kernel_rfl) (fun _ _ _ h => h) (Or.inr ⟨by rfl, rfl⟩) (by assumption) ?_
            try simp only [Act.put, List.setIfInBounds_toArray, List.set_cons_zero, List.set_cons_succ]
            refine wpAnyH_take (i := 22) (oi := { dst := some 60, op := Op.pick (Operand.tmp 50) (Operand.const (Value.bool true)) (Operand.tmp 59), type := 4, pos := _, after := #[{ on := 12, ground := Ground.data }, { on := 21, ground := Ground.data }, { on := 9, ground := Ground.guard }], guard := some (9, true) }) (v := undef) rfl (by kernel_rfl) (by kernel_rfl) (by kernel_rfl) (fun _ _ _ h => h) (Or.inr ⟨by rfl, rfl⟩) (by assumption) ?_
            try simp only [Act.put, List.setIfInBounds_toArray, List.set_cons_zero, List.set_cons_succ]
            refine wpAnyH_take (i := 23) (oi := { dst := some 61, op := Op.pick (Operand.tmp 47) (Operand.tmp 60) (Operand.const (Value.bool false)), type := 4, pos := _, after := #[{ on := 9, ground := Ground.data }, { on := 22, ground := Ground.data }], guard := none }) (v := ?_) rfl (by kernel_rfl) (by kernel_rfl) (by kernel_rfl) (fun _ _ _ h => h) (Or.inl ⟨by rfl, ?hy⟩) (by assumption) ?_
            case hy => (intro w hSw; (try dsimp only at hSw); go_simp; try with_reducible rfl)
            try simp only [Act.put, List.setIfInBounds_toArray, List.set_cons_zero, List.set_cons_succ]
            refine wpAnyH_done (by kernel_rfl) ?_ _
            refine NoPanic.normal ?_
            go_wp2
            go_roundw
            case rel => exact ⟨T + 1, y, by omega, by go_num, rfl, HN, HG.out.drew⟩
            case measure => simp [intOf]; omega
        · obtain rfl : T = K := by omega
          have HX3 : Hid ((y = -1 ∧ lowU ws L I T = I ∧ ∀ s, s < 0 → nearB ws ds I (L.getD s 0).toNat = false) ∨ (∃ X : Nat, y = X ∧ tgtU ws ds (aroundL n m I) I = X)) := by
            rcases HX.out with ⟨h1, h2⟩ | ⟨X, h1, h2, h3, h4⟩
            · exact Lib.hid (.inl ⟨h1, h2, fun _ h => absurd h (Nat.not_lt_zero _)⟩)
            · refine Lib.hid (.inr ⟨X, h1, ?_⟩)
              rw [HTG.out, h3, if_neg]
              intro e
              rw [e] at h4
              omega
          obtain ⟨y0, ey0⟩ : ∃ y0, y0 = y := ⟨_, rfl⟩
          rw [← ey0] at HX3 ⊢
          have HG0 := Lib.hid HG.out
          clear HX HG ey0
          obtain ⟨wm, ewm⟩ : ∃ wm : World, wm = wr := ⟨_, rfl⟩
          go_wp2
          go_loopw [7, 11] (fun tv j wi => ∃ S : Nat, ∃ y : Int, S ≤ T ∧ j = .int .i64 (S : Int) ∧ tv = .int .i64 y ∧ Hid ((y = -1 ∧ lowU ws L I T = I ∧ ∀ s, s < S → nearB ws ds I (L.getD s 0).toNat = false) ∨ (∃ X : Nat, y = X ∧ tgtU ws ds (aroundL n m I) I = X)) ∧ Hid (Grew w3 wi)) (fun _ j _ => T - (intOf j).toNat)
          case atStart => exact ⟨0, y0, Nat.zero_le _, rfl, rfl, HX3, HG0.out⟩
          case round =>
            obtain ⟨S, y, hS, rfl, rfl, HX, HG⟩ := hrel
            clear HX3
            have hcd := (HRD.out wr HG.out I hI).2
            have hpd := HA.out.1.pos I (by rw [HFH.out.eN]; exact hI)
            have HEND : ∀ z : Int, Hid (y = z ∧ tgtU ws ds (aroundL n m I) I = z) → Hid (tgtsU n m ws ds (I + 1) = tgtsU n m ws ds I ++ [y]) := fun z hz => Lib.hid (by rw [tgtsU_succ, hz.out.2, ← hz.out.1])
            by_cases hgo : S < T ∧ y < 0 ∧ 0 < ds.getD I 0
            · obtain ⟨hS2, hy0, hd0⟩ := hgo
              obtain ⟨hy, hl, hn⟩ := HX.out.resolve_right (fun ⟨X, h1, _⟩ => by omega)
              subst hy
              obtain ⟨kk, hk1', hk2', hkm⟩ := HFH.out.beside hI HEL.out (t := S) (by rw [HEK.out]; exact hS2)
              obtain rfl := ha6 (by omega)
              have hlc := HG.out.cell (HC6.out S (by rw [HEK.out]; exact hS2))
              rw [hk1'] at hlc
              have hc1 := (HRD.out wr HG.out kk hk2').1
              have hc2 := (HRD.out wr HG.out I hI).1
              have hc3 := (HRD.out wr HG.out kk hk2').2
              have hki : (kk : Int) < (N : Int) := by omega
              have hSi : (S : Int) < (T : Int) := by omega
              have hnear := HA.out.1.near I (by rw [HFH.out.eN]; exact hI) kk hkm
              have hcap := HA.out.1.cap HFH.out.n5 HFH.out.m5 I (by rw [HFH.out.eN]; exact hI)
              rw [HFH.out.eN] at hcap
              have hnb : nearB ws ds I kk = (decide (ws.getD kk 0 = ws.getD I 0) && decide (ds.getD kk 0 < ds.getD I 0)) := rfl
              have HKK := Lib.hid hk1'
              have hno : nearB ws ds I kk = false → Hid (lowU ws L I T = I ∧ ∀ s, s < S + 1 → nearB ws ds I (L.getD s 0).toNat = false) := fun h => Lib.hid (And.intro hl fun s hs => by
                by_cases e : s = S
                · subst e; rw [HKK.out, Int.toNat_natCast]; exact h
                · exact hn s (by omega))
              have hkp := HA.out.1.pos kk (by rw [HFH.out.eN]; exact hk2')
              obtain ⟨x1, e1⟩ : ∃ x1, ws.getD kk 0 = x1 := ⟨_, rfl⟩
              obtain ⟨x2, e2⟩ : ∃ x2, ws.getD I 0 = x2 := ⟨_, rfl⟩
              obtain ⟨d1, f1⟩ : ∃ d1, ds.getD kk 0 = d1 := ⟨_, rfl⟩
              obtain ⟨d2, f2⟩ : ∃ d2, ds.getD I 0 = d2 := ⟨_, rfl⟩
              rw [e1] at hc1 hnb hnear
              rw [e2] at hc2 hnb hnear
              rw [f1] at hc3 hnb hnear hkp
              rw [f2] at hcd hnb hnear hd0 hpd hcap
              have hwr : IntKind.i64.wrap (d2 - 1) = d2 - 1 := IntWalk.i64_in _ (by omega)
              by_cases hx : x1 = x2
              · subst hx
                by_cases hd : d1 < d2
                · have hde : d1 = d2 - 1 := by have := hnear rfl; omega
                  have HT : Hid (tgtU ws ds (aroundL n m I) I = (kk : Int)) := Lib.hid (by
                    rw [HTG.out, if_pos hl]
                    exact nearU_hit (by rw [HEK.out]; exact hS2) HKK.out hn (by rw [hnb]; simp [hd]))
                  have HN := HT
                  have hbe : (d1 == d2 - 1) = true := by rw [hde]; simp
                  clear hk1' e1 e2 f1 f2 HX hl hn hnb hno HEND hnear
                  go_wp2
                  go_quiet (fail)
                  go_wp2
                  go_roundw
                  case rel => exact ⟨S + 1, kk, by omega, by go_num, rfl, Lib.hid (.inr ⟨kk, rfl, HN.out⟩), HG.out.drewN _⟩
                  case measure => simp [intOf]; omega
                · have HN := hno (by rw [hnb]; simp [hd])
                  have hbe : (d1 == d2 - 1) = false := beq_eq_false_iff_ne.2 (by omega)
                  clear hk1' e1 e2 f1 f2 HX hl hn hnb hno HEND hnear
                  go_wp2
                  go_quiet (fail)
                  go_wp2
                  go_roundw
                  case rel => exact ⟨S + 1, -1, by omega, by go_num, rfl, Lib.hid (.inl ⟨rfl, HN.out⟩), HG.out.drewN _⟩
                  case measure => simp [intOf]; omega
              · have HN := hno (by rw [hnb]; simp [hx])
                have hbe : (x1 == x2) = false := beq_eq_false_iff_ne.2 hx
                clear hk1' e1 e2 f1 f2 HX hl hn hnb hno HEND hnear
                go_wp2
                go_quiet (fail)
                go_wp2
                go_roundw
                case rel => exact ⟨S + 1, -1, by omega, by go_num, rfl, Lib.hid (.inl ⟨rfl, HN.out⟩), HG.out.drewN _⟩
                case measure => simp [intOf]; omega
            · have HTY : Hid (tgtsU n m ws ds (I + 1) = tgtsU n m ws ds I ++ [y]) := by
                rcases HX.out with ⟨h1, h2, h3⟩ | ⟨X, h1, h2⟩
                · refine HEND (-1) (Lib.hid ⟨h1, ?_⟩)
                  rw [HTG.out, if_pos h2]
                  by_cases hST : S < T
                  · have hd0 : ds.getD I 0 = 0 := by omega
                    refine nearU_none fun s hs => ?_
                    obtain ⟨j, j1, j2, _⟩ := HFH.out.beside hI HEL.out (t := s) hs
                    have := HA.out.1.pos j (by rw [HFH.out.eN]; exact j2)
                    rw [j1, Int.toNat_natCast, nearB, hd0, decide_eq_false (by omega : ¬ ds.getD j 0 < 0), Bool.and_false]
                  · obtain rfl : S = T := by omega
                    exact nearU_none fun s hs => h3 s (by rw [← HEK.out]; exact hs)
                · exact HEND X (Lib.hid ⟨h1, h2⟩)
              have HO : Hid (IntsO 3 w2.heap.size wr.heap.size wr (.slice a5 I c5) (tgtsU n m ws ds I) ∧ Grew w2 wr) := by
                have hg := H4.out.2.1.trans HG.out
                exact Lib.hid ⟨(HZ.out.1.grew hg).wide (Nat.le_refl _) hg.size, HZ.out.2.trans hg⟩
              obtain ⟨d2, f2⟩ : ∃ d2, ds.getD I 0 = d2 := ⟨_, rfl⟩
              rw [f2] at hcd hgo
              have hTL := Lib.hid (tgtsU_len n m ws ds I)
              clear HX HG hpd f2 HEND
              by_cases q1 : S < T
              · have hSi : (S : Int) < (T : Int) := by omega
                by_cases q2 : y < 0
                · have q3 : ¬ 0 < d2 := fun h => hgo ⟨q1, q2, h⟩
                  go_wp2_with (at_builtin; refine wpList_append_int rfl (.tmp 106) (.tmp 108) 26 rfl Tryd.underlying26 Tryd.infoI rfl rfl (by simp) HO.out.1 (by rw [hTL.out]; omega) HO.out.2.size ?_; intro g5 c5' w5 hO5 hW5 hS5; rw [hTL.out] at hO5 ⊢)
                  have H5 : Hid (IntsO 3 w2.heap.size w5.heap.size w5 (.slice (some ⟨g5, 0, none⟩) (I + 1) c5') (tgtsU n m ws ds (I + 1)) ∧ Grew w2 w5) := by
                    rw [HTY.out]
                    exact Lib.hid ⟨hO5, hW5.grew HO.out.2 (Nat.le_refl _)⟩
                  clear hO5 hW5
                  go_wp2
                  go_roundg (go - 1)
                  case measure => omega
                  case rel => exact ⟨_, I + 1, c5', rfl, by go_num, by omega, by omega, H5.out⟩
                · go_wp2_with (at_builtin; refine wpList_append_int rfl (.tmp 106) (.tmp 108) 26 rfl Tryd.underlying26 Tryd.infoI rfl rfl (by simp) HO.out.1 (by rw [hTL.out]; omega) HO.out.2.size ?_; intro g5 c5' w5 hO5 hW5 hS5; rw [hTL.out] at hO5 ⊢)
                  have H5 : Hid (IntsO 3 w2.heap.size w5.heap.size w5 (.slice (some ⟨g5, 0, none⟩) (I + 1) c5') (tgtsU n m ws ds (I + 1)) ∧ Grew w2 w5) := by
                    rw [HTY.out]
                    exact Lib.hid ⟨hO5, hW5.grew HO.out.2 (Nat.le_refl _)⟩
                  clear hO5 hW5
                  go_wp2
                  go_roundg (go - 1)
                  case measure => omega
                  case rel => exact ⟨_, I + 1, c5', rfl, by go_num, by omega, by omega, H5.out⟩
              · obtain rfl : S = T := by omega
                go_wp2_with (at_builtin; refine wpList_append_int rfl (.tmp 106) (.tmp 108) 26 rfl Tryd.underlying26 Tryd.infoI rfl rfl (by simp) HO.out.1 (by rw [hTL.out]; omega) HO.out.2.size ?_; intro g5 c5' w5 hO5 hW5 hS5; rw [hTL.out] at hO5 ⊢)
                have H5 : Hid (IntsO 3 w2.heap.size w5.heap.size w5 (.slice (some ⟨g5, 0, none⟩) (I + 1) c5') (tgtsU n m ws ds (I + 1)) ∧ Grew w2 w5) := by
                  rw [HTY.out]
                  exact Lib.hid ⟨hO5, hW5.grew HO.out.2 (Nat.le_refl _)⟩
                clear hO5 hW5
                go_wp2
                go_roundg (go - 1)
                case measure => omega
                case rel => exact ⟨_, I + 1, c5', rfl, by go_num, by omega, by omega, H5.out⟩
    · obtain rfl : I = N := by omega
      have H6 : Hid (IntsO 3 w.heap.size wr.heap.size wr (.slice a5 I c5) R ∧ I = R.length ∧ Grew w wr) := by
        have z1 := HZ.out.1
        rw [← HR.out] at z1
        exact Lib.hid ⟨z1.wide H2.out.2.2.size (Nat.le_refl _), by rw [HR.out, tgtsU_len], H2.out.2.2.trans HZ.out.2⟩
      clear HZ
      go_wp2_with (fail)
      refine HCW.out.mono ?_
      rintro e w3 ⟨rfl, rfl⟩
      go_wp2
      go_ret
      refine ⟨a5, c5, ret_slice H6.out.2.1, ?_, H6.out.2.2⟩
      rw [← H6.out.2.1]
      exact H6.out.1

set_option maxRecDepth 100000 in
set_option maxHeartbeats 2000000 in
theorem SFlowOf_any (v : Value) (h : List (List Int)) (w : World) (hv : RowsV w v h) :
    Calls Tryd.prog 29 #[v] w (NewRows w (flowL h)) := by
  have HK := sValidGrid_any v h w hv
  cases hg : vGrid h with
  | false =>
    rw [hg] at HK
    have HK2 := Lib.hid HK
    rw [flowL_no hg]
    obtain ⟨a, b, o, c, rfl, _, _, _⟩ := hv.shape
    clear hv HK hg
    go_enter Tryd.func29, Tryd.ntmps29
    go_wp2_with (fail)
    refine HK2.out.mono ?_
    rintro e w1 ⟨rfl, hG⟩
    have HG := Lib.hid hG
    clear hG
    go_wp2
    go_ret
    exact ⟨_, rfl, RowsO.nil _ _ _ _ _, HG.out⟩
  | true =>
    rw [hg] at HK
    have HK2 := Lib.hid HK
    have G := Grid.of hg
    obtain ⟨n, en⟩ : ∃ n, h.length = n := ⟨_, rfl⟩
    obtain ⟨m, em⟩ : ∃ m, (h.getD 0 []).length = m := ⟨_, rfl⟩
    obtain ⟨N, eN⟩ : ∃ N, n * m = N := ⟨_, rfl⟩
    have HF := Lib.hid fun W (hW : Grew w W) => sflow_any v h n m N W (hv.grew hW) hg en em eN
    have hTl : (tgtsL h).length = N := by rw [tgtsL, tgtsU_len, en, em, eN]
    obtain ⟨ts, ets⟩ : ∃ ts, tgtsL h = ts := ⟨_, rfl⟩
    have HR : Hid (flowL h = shapeL ts m n) := Lib.hid (by rw [flowL, if_pos hg, ets, en, em])
    rw [ets] at HF hTl
    have hn5 := G.n5
    have hn1 := G.n1
    have hm5 := G.m5
    have hm1 := G.m1
    rw [en] at hn5 hn1
    rw [em] at hm5 hm1
    have hN1 : 1 ≤ N := by rw [← eN]; exact Nat.mul_pos hn1 hm1
    obtain ⟨a, b, o, c, rfl, ⟨hlc, hcb⟩, ha, HCR⟩ := hv.shape
    obtain rfl := ha (by omega)
    obtain ⟨u0, hcu0, hu0⟩ := HCR.out 0 (by omega)
    rw [Nat.add_zero] at hcu0
    obtain ⟨a0, b0, o0, c0, rfl, _, _, _⟩ := hu0.shape
    rw [em] at hcu0
    rw [en] at HK2 HF hlc ⊢
    have hn0 : (0 : Int) < (n : Int) := by omega
    have HNM : Hid (n ≤ 5 ∧ 1 ≤ m ∧ m ≤ 5 ∧ n * m = N ∧ ts.length = N) := Lib.hid ⟨hn5, hm1, hm5, eN, hTl⟩
    have HSL : Hid (∀ (lo hi : Nat) (a : Option Addr) (c : Nat) W, IntsO 3 lo hi W (.slice a N c) ts → ∃ g, a = some ⟨g, 0, none⟩) := Lib.hid fun lo hi a c W hO => by
      obtain ⟨g, c', e, _⟩ := hO.pos (by rw [HNM.out.2.2.2.2]; omega)
      simp only [Value.slice.injEq] at e
      exact ⟨g, e.1⟩
    obtain ⟨R, eR⟩ : ∃ R, flowL h = R := ⟨_, rfl⟩
    rw [eR] at HR ⊢
    clear hv HK hg G ha HCR hu0 en em eN ets hTl eR
    go_enter Tryd.func29, Tryd.ntmps29
    go_wp2_with (fail)
    refine HK2.out.mono ?_
    rintro e w1 ⟨rfl, hG1⟩
    have HG1 := Lib.hid hG1
    have H0 := Lib.hid (hG1.cell hcu0)
    have hcu1 := H0.out
    clear hG1 hcu0
    go_wp2
    go_region_with (first
      | (go_at_call 75; refine (HF.out _ (HG1.out.drew)).mono ?_; rintro e w2 ⟨a2, c2, rfl, hO2, hg2⟩; rw [HNM.out.2.2.2.2] at hO2 ⊢; obtain ⟨g2, rfl⟩ := HSL.out _ _ a2 c2 w2 hO2; have H2 := Lib.hid (And.intro hO2 hg2); have hcu2 := hg2.cell H0.out; clear hO2 hg2)
      | (go_at_call 64; refine (shaped_own H2.out.1 (by rw [HNM.out.2.2.2.2, HNM.out.2.2.2.1]) HNM.out.1 HNM.out.2.1 HNM.out.2.2.1).mono ?_; rintro e w3 ⟨v3, rfl, hO3, hg3⟩; obtain ⟨a3, c3, rfl⟩ := hO3.sh; have H3 := Lib.hid (And.intro hO3 hg3); clear hO3 hg3))
    all_goals
      go_wp2
      go_ret
      rw [HR.out]
      exact ⟨_, rfl, H3.out.1.wide (Nat.le_trans HG1.out.size (Nat.le_trans H2.out.2.size (Nat.le_refl _))) (Nat.le_refl _), HG1.out.drew.trans (H2.out.2.trans H3.out.2)⟩

theorem flowL_total (h : List (List Int)) : total (flowL h) ≤ 1000000 := by
  unfold flowL
  by_cases hg : vGrid h = true
  · rw [if_pos hg]; exact shape_grid_total hg _
  · rw [if_neg hg]; simp [total]
end Go.Proofs.YtgecghngfonejaaDoor
