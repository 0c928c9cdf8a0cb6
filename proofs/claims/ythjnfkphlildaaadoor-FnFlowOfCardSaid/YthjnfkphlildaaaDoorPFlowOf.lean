/- FnFlowOf: for every input the law returns true, and the input reads as it did, where the table of steps reads as the program's text lays it; tied to that text. Its conditions: that one listed variable, tied. -/
import Derived.Test.YthjnfkphlildaaaDoorSFlow
import Derived.Test.YthjnfkphlildaaaDoorDraws
import Derived.Test.YthjnfkphlildaaaDoorEqualRows
import Derived.Test.YthjnfkphlildaaaDoorRowOf
import Derived.Test.YthjnfkphlildaaaDoorIsIn
import Derived.Test.YthjnfkphlildaaaDoorFlowFacts
import Derived.Test.YthjnfkphlildaaaDoorCameRows
import Derived.Test.YthjnfkphlildaaaDoorTied
import Derived.Test.YthjnfkphlildaaaDoorWords
import Derived.Test.YthjnfkphlildaaaDoorTie
import Derived.Test.YthjnfkphlildaaaDoorCards
import Derived.SevenTiedAt
/- The law FnFlowOf returns true. -/
namespace Go.Proofs.YthjnfkphlildaaaDoor
open Go.RowKit

set_option maxRecDepth 100000 in
set_option maxHeartbeats 8000000 in
theorem FnFlowOf_any (v : Value) (bs : List Int) (w : World) (hv : NumsV .u8 w v bs) (hb : ∀ i, i < bs.length → 0 ≤ bs.getD i 0 ∧ bs.getD i 0 ≤ 255) (hS : Steps w) :
    Calls Tryd.prog 8 #[v] w fun e w' => e = .returned (.bool true) ∧ Grew w w' := by
  have HD := Lib.hid (DrawFlowOf_any v bs w hv hb)
  have HS := Lib.hid hS
  obtain ⟨a, b, o, c, rfl, ⟨hlc, hcb⟩, _, _⟩ := hv.shape
  clear hv hb hS
  by_cases hbig : 1048576 < bs.length
  · go_enter Tryd.func8, Tryd.ntmps8
    go_wp2
    go_ret
    exact ⟨rfl, Grew.refl _⟩
  · go_enter Tryd.func8, Tryd.ntmps8
    go_wp2_with (fail)
    refine HD.out.mono ?_
    rintro e w1 ⟨v1, H, rfl, hO, hd, hg1⟩
    have HV := Lib.hid (And.intro hO.toV hg1)
    obtain ⟨a1, c1, rfl⟩ := hO.sh
    obtain ⟨M, eM⟩ : ∃ M, flowL H = M := ⟨_, rfl⟩
    have HM := Lib.hid eM
    clear hO hd hg1 HD
    go_wp2_with (fail)
    refine (FlowOf_any _ H _ HV.out.1 (HS.out.grew HV.out.2)).mono ?_
    rw [eM]
    rintro e w2 ⟨v2, rfl, hO2, hg2⟩
    obtain ⟨a2, c2, rfl⟩ := hO2.sh
    have H2 := Lib.hid (And.intro hO2.toV hg2)
    clear hO2 hg2
    go_wp2_with (fail)
    refine (SFlowOf_any _ H _ (HV.out.1.grew H2.out.2)).mono ?_
    rw [eM]
    rintro e w3 ⟨v3, rfl, hO3, hg3⟩
    obtain ⟨a3, c3, rfl⟩ := hO3.sh
    have H3 : Hid (RowsV w3 (.slice a2 M.length c2) M ∧ RowsV w3 (.slice a3 M.length c3) M ∧ RowsV w3 (.slice a1 H.length c1) H ∧ Grew w w3) :=
      Lib.hid ⟨H2.out.1.grew hg3, hO3.toV, HV.out.1.grew (H2.out.2.trans hg3), HV.out.2.trans (H2.out.2.trans hg3)⟩
    clear hO3 hg3 H2 HV eM
    go_wp2_with (fail)
    refine (equalRows_any _ _ M M _ H3.out.1 H3.out.2.1).mono ?_
    rw [decide_eq_true (rfl : M = M)]
    rintro e w4 ⟨rfl, hq4⟩
    have hg4 := quiet_grew hq4
    have H4 : Hid (RowsV w4 (.slice a2 M.length c2) M ∧ RowsV w4 (.slice a1 H.length c1) H ∧ Grew w w4) :=
      Lib.hid ⟨H3.out.1.grew hg4, H3.out.2.2.1.grew hg4, H3.out.2.2.2.trans hg4⟩
    clear hq4 hg4 H3
    cases hvg : vGrid H with
    | false =>
      have eM0 : M = [] := by rw [← HM.out, flowL_no hvg]
      have ht : ((M.length : Int) == 0) = true := by simp [eM0]
      clear hvg eM0
      go_wp2_with (fail)
      refine (SFlowOf_any _ H _ H4.out.2.1).mono ?_
      rw [HM.out]
      rintro e w5 ⟨v5, rfl, hO5, hg5⟩
      obtain ⟨a5, c5, rfl⟩ := hO5.sh
      have H5 := Lib.hid (And.intro hO5.toV hg5)
      clear hO5 hg5
      go_wp2_with (fail)
      refine (equalRows_any _ _ M M _ (H4.out.1.grew H5.out.2) H5.out.1).mono ?_
      rw [decide_eq_true (rfl : M = M)]
      rintro e w6 ⟨rfl, hq6⟩
      have H6 := Lib.hid (quiet_grew hq6)
      clear hq6
      go_wp2
      go_ret
      exact ⟨rfl, H4.out.2.2.trans (H5.out.2.trans H6.out)⟩
    | true =>
      have G := Grid.of hvg
      obtain ⟨n, en⟩ : ∃ n, H.length = n := ⟨_, rfl⟩
      obtain ⟨m, em⟩ : ∃ m, (H.getD 0 []).length = m := ⟨_, rfl⟩
      obtain ⟨N, eN⟩ : ∃ N, n * m = N := ⟨_, rfl⟩
      obtain ⟨ds, FF⟩ := flow_facts hvg en em eN
      have hMr : M.length = n ∧ ∀ r, r < M.length → (M.getD r []).length = m := by
        have e : M = shapeL (tgtsL H) m n := by rw [← HM.out, flowL, if_pos hvg, en, em]
        rw [e, shapeL_len]
        exact ⟨rfl, fun r hr => shapeL_row _ _ _ _ (by rw [tgtsL, tgtsU_len, en, em]) hr⟩
      obtain ⟨f1, f2, f3⟩ := fill_grid hvg
      have hn5 := G.n5
      have hn1 := G.n1
      have hm5 := G.m5
      have hm1 := G.m1
      rw [en] at hn5 hn1
      rw [em] at hm5 hm1
      have hN25 : N ≤ 25 := by rw [← eN]; exact Nat.mul_le_mul hn5 hm5
      have hRM := fun W (hW : Grew w4 W) => rowOf_any _ M W (H4.out.1.grew hW) (by rw [hMr.1]; omega) (fun r hr => by rw [hMr.2 r hr]; omega)
      have hRF := fun v W (hW : RowsV W v (fillL H)) => rowOf_any v (fillL H) W hW (by have := f1.n5; omega) (fun r hr => by have := f1.len r hr; have := f1.m1; have := f1.m5; omega)
      have hFB := fun W (hW : Grew w4 W) => FillByQueue_any _ H W (H4.out.2.1.grew hW) (HS.out.grew (H4.out.2.2.trans hW))
      have hvc : ∀ x : Nat, x < N → vCell H (x : Int) = true := fun x hx => by
        rw [vCell, hvg, Bool.true_and, Bool.and_eq_true, decide_eq_true_eq, decide_eq_true_eq]
        have : ((n * m : Nat) : Int) = (n : Int) * m := by simp
        rw [en, em]
        omega
      have HED : Hid (∀ (x : Nat) W, Grew w4 W → x < N → edgeL n m x = true → Calls Tryd.prog 34 #[.slice a1 H.length c1, .int .i64 x] W fun e w' => e = .returned (.bool true) ∧ Grew W w') := Lib.hid fun x W hW hx he => by
        have h0 := OnEdge_any _ H (x : Int) W (H4.out.2.1.grew hW) (HS.out.grew (H4.out.2.2.trans hW))
        rw [edgeL] at he
        have he2 : edgeB H (x : Int) = true := by rw [edgeB, hvc x hx, en, em, Int.toNat_natCast, Bool.true_and, he]
        rw [he2] at h0
        exact h0
      have HAO : Hid (∀ (x : Nat) W, Grew w4 W → x < N → Calls Tryd.prog 20 #[.slice a1 H.length c1, .int .i64 x] W (OwnI W (aroundL n m x))) := Lib.hid fun x W hW hx => by
        have h0 := AroundOf_any _ H (x : Int) W (H4.out.2.1.grew hW) (HS.out.grew (H4.out.2.2.trans hW))
        have h1 : aroundOfL H (x : Int) = aroundL n m x := by rw [aroundOfL, if_pos (hvc x hx), en, em, Int.toNat_natCast]
        rw [h1] at h0
        exact h0
      rw [HM.out] at FF
      obtain ⟨ts, ets⟩ : ∃ ts, M.flatten = ts := ⟨_, rfl⟩
      obtain ⟨F, eF⟩ : ∃ F, fillL H = F := ⟨_, rfl⟩
      obtain ⟨ws, ews⟩ : ∃ ws, F.flatten = ws := ⟨_, rfl⟩
      rw [eF] at FF hRF hFB
      rw [ets] at FF hRM
      rw [ews] at FF hRF
      have HFF := Lib.hid FF
      have HRM := Lib.hid hRM
      have HRF := Lib.hid hRF
      have HFB := Lib.hid hFB
      have HNM := Lib.hid (And.intro hn5 (And.intro hm5 eN))
      have ht : ((M.length : Int) == 0) = false := beq_eq_false_iff_ne.2 (by have := hMr.1; omega)
      clear hvg G en em eN FF hMr f1 f2 f3 hn5 hm5 hn1 hm1 hRM hRF hFB hvc ets eF ews HM
      go_wp2_with (fail)
      refine (HRM.out _ (Grew.refl _)).mono ?_
      rintro e w5 ⟨gt, ct, rfl, hO5, hg5⟩
      rw [HFF.out.tl] at hO5 ⊢
      have H5 := Lib.hid (And.intro hO5.toV hg5)
      clear hO5 hg5
      go_wp2_with (fail)
      refine (HFB.out _ H5.out.2).mono ?_
      rintro e w6 ⟨v6, rfl, hO6, hg6⟩
      obtain ⟨a6, c6, rfl⟩ := hO6.sh
      have H6 := Lib.hid (And.intro hO6.toV (And.intro (NumsV.grew H5.out.1 hg6) (H5.out.2.trans hg6)))
      clear hO6 hg6 H5
      go_wp2_with (fail)
      refine (HRF.out _ _ H6.out.1).mono ?_
      rintro e w9 ⟨gf, cf, rfl, hO9, hg9⟩
      rw [HFF.out.wl] at hO9 ⊢
      have H9 : Hid (IntsV w9 (.slice (some ⟨gt, 0, none⟩) N ct) ts ∧ IntsV w9 (.slice (some ⟨gf, 0, none⟩) N cf) ws ∧ Grew w4 w9) := Lib.hid ⟨NumsV.grew H6.out.2.1 hg9, hO9.toV, H6.out.2.2.trans hg9⟩
      clear hO9 hg9 H6 HRM HRF HFB ht
      go_wp2
      go_loopg [7] N (fun gk i wr => ∃ I : Nat, I ≤ N ∧ N ≤ gk + I ∧ i = .int .i64 (I : Int) ∧ Hid (Grew w9 wr))
      case atStart => exact ⟨0, Nat.zero_le _, Nat.le_refl _, rfl, Grew.refl _⟩
      case round =>
        obtain ⟨I, hI1, hI2, rfl, HG⟩ := hrel
        by_cases hI : I < N
        · obtain ⟨go, rfl⟩ : ∃ go : Nat, go = gk := ⟨_, rfl⟩
          have hIi : (I : Int) < (N : Int) := by omega
          go_wp2
          go_loopg [8, 9] N (fun gj xv nv wi => ∃ X k : Nat, X < N ∧ k ≤ N ∧ N ≤ gj + k ∧ xv = .int .i64 (X : Int) ∧ nv = .int .i64 (k : Int) ∧ Hid (Gone ws ds N X k) ∧ Hid (Grew w9 wi))
          case atStart => exact ⟨I, 0, hI, Nat.zero_le _, Nat.le_refl _, rfl, rfl, Lib.hid ⟨[], rfl, List.nodup_nil, fun _ h => by cases h⟩, HG⟩
          case round =>
            obtain ⟨X, k, hX, hk1, hk2, rfl, rfl, HGo, HG⟩ := hrel
            have hk3 := HGo.out.few hX
            have hXi : (X : Int) < (N : Int) := by omega
            have hct := HG.out.cell (NumsV.at H9.out.1 X (by rw [HFF.out.tl]; exact hX))
            rcases HFF.out.run X hX with ⟨kk, h1, h2, h3, h4⟩ | ⟨h1, h2⟩
            · rw [h1] at hct
              have hcf := HG.out.cell (NumsV.at H9.out.2.1 kk (by rw [HFF.out.wl]; exact h3))
              have hcx := HG.out.cell (NumsV.at H9.out.2.1 X (by rw [HFF.out.wl]; exact hX))
              have hle : ws.getD kk 0 ≤ ws.getD X 0 := by
                unfold Below' at h4
                omega
              obtain ⟨y1, e1⟩ : ∃ y1, ws.getD kk 0 = y1 := ⟨_, rfl⟩
              obtain ⟨y2, e2⟩ : ∃ y2, ws.getD X 0 = y2 := ⟨_, rfl⟩
              rw [e1] at hcf hle
              rw [e2] at hcx hle
              have HN := Lib.hid (HGo.out.next hX h4)
              have HA := Lib.hid (HAO.out X wr.drew (H9.out.2.2.trans HG.out.drew) hX)
              have HIN : Hid (decide ((kk : Int) ∈ aroundL n m X) = true) := Lib.hid (decide_eq_true h2)
              have hki : (kk : Int) < (N : Int) := by omega
              have hk0 : ¬ (kk : Int) < 0 := by omega
              have d1 : decide (y2 < y1) = false := decide_eq_false (by omega)
              have HSS : Hid (∀ W W' : World, (W.cell? ⟨gt, X, none⟩ = some (.int .i64 (kk : Int)) ∧ W.cell? ⟨gf, kk, none⟩ = some (.int .i64 y1) ∧ W.cell? ⟨gf, X, none⟩ = some (.int .i64 y2)) → Grew W W' → (W'.cell? ⟨gt, X, none⟩ = some (.int .i64 (kk : Int)) ∧ W'.cell? ⟨gf, kk, none⟩ = some (.int .i64 y1) ∧ W'.cell? ⟨gf, X, none⟩ = some (.int .i64 y2))) := Lib.hid fun W W' q g => ⟨g.cell q.1, g.cell q.2.1, g.cell q.2.2⟩
              have HGD : Hid (Grew w9 wr.drew) := Lib.hid HG.out.drew
              obtain ⟨L, eL⟩ : ∃ L, aroundL n m X = L := ⟨_, rfl⟩
              rw [eL] at HA HIN
              clear h1 h2 h4 e1 e2 HGo HG eL
              go_wp2_with (fail)
              refine wp_region_noPanic ?_
              refine wp_region_held_drew (S := fun W => W.cell? ⟨gt, X, none⟩ = some (.int .i64 (kk : Int)) ∧ W.cell? ⟨gf, kk, none⟩ = some (.int .i64 y1) ∧ W.cell? ⟨gf, X, none⟩ = some (.int .i64 y2)) (by kernel_rfl) (by exact ⟨hct, hcf, hcx⟩) (fun hHeld => ?_)
              refine wpAnyH_take (i := 0) (oi := { dst := some 54, op := Op.move (Operand.tmp 3), type := 23, pos := _, after := #[], guard := none }) (v := ?_) rfl (by kernel_rfl) (by kernel_rfl) (by kernel_rfl) (fun _ _ _ h => h) (Or.inl ⟨by rfl, ?hy⟩) (by assumption) ?_
              case hy => (intro w hSw; (try dsimp only at hSw); go_simp; try with_reducible rfl)
              try simp only [Act.put, List.setIfInBounds_toArray, List.set_cons_zero, List.set_cons_succ]
              refine wpAnyH_take (i := 1) (oi := { dst := some 55, op := Op.move (Operand.tmp 8), type := 3, pos := _, after := #[], guard := none }) (v := ?_) rfl (by kernel_rfl) (by kernel_rfl) (by kernel_rfl) (fun _ _ _ h => h) (Or.inl ⟨by rfl, ?hy⟩) (by assumption) ?_
              case hy => (intro w hSw; (try dsimp only at hSw); go_simp; try with_reducible rfl)
              try simp only [Act.put, List.setIfInBounds_toArray, List.set_cons_zero, List.set_cons_succ]
              refine wpAnyH_take (i := 3) (oi := { dst := some 57, op := Op.move (Operand.tmp 5), type := 27, pos := _, after := #[], guard := none }) (v := ?_) rfl (by kernel_rfl) (by kernel_rfl) (by kernel_rfl) (fun _ _ _ h => h) (Or.inl ⟨by rfl, ?hy⟩) (by assumption) ?_
              case hy => (intro w hSw; (try dsimp only at hSw); go_simp; try with_reducible rfl)
              try simp only [Act.put, List.setIfInBounds_toArray, List.set_cons_zero, List.set_cons_succ]
              refine wpAnyH_take (i := 4) (oi := { dst := some 58, op := Op.move (Operand.tmp 8), type := 3, pos := _, after := #[], guard := none }) (v := ?_) rfl (by kernel_rfl) (by kernel_rfl) (by kernel_rfl) (fun _ _ _ h => h) (Or.inl ⟨by rfl, ?hy⟩) (by assumption) ?_
              case hy => (intro w hSw; (try dsimp only at hSw); go_simp; try with_reducible rfl)
              try simp only [Act.put, List.setIfInBounds_toArray, List.set_cons_zero, List.set_cons_succ]
              refine wpAnyH_take (i := 5) (oi := { dst := some 59, op := Op.indexAddr 27 (Operand.tmp 57) (Operand.tmp 58), type := 0, pos := _, after := #[{ on := 3, ground := Ground.data }, { on := 4, ground := Ground.data }], guard := none }) (v := ?_) rfl (by kernel_rfl) (by kernel_rfl) (by kernel_rfl) (fun _ _ _ h => h) (Or.inl ⟨by rfl, ?hy⟩) (by assumption) ?_
              case hy => (intro w hSw; (try dsimp only at hSw); go_simp; try with_reducible rfl)
              try simp only [Act.put, List.setIfInBounds_toArray, List.set_cons_zero, List.set_cons_succ]
              refine wpAnyH_take (i := 6) (oi := { dst := some 60, op := Op.load 3 (Operand.tmp 59), type := 3, pos := _, after := #[{ on := 5, ground := Ground.data }], guard := none }) (v := ?_) rfl (by kernel_rfl) (by kernel_rfl) (by kernel_rfl) (fun _ _ _ h => h) (Or.inl ⟨by rfl, ?hy⟩) (by assumption) ?_
              case hy => (intro w hSw; (try dsimp only at hSw); go_simp; try with_reducible rfl)
              try simp only [Act.put, List.setIfInBounds_toArray, List.set_cons_zero, List.set_cons_succ]
              refine wpAnyH_ready (rs := [2]) (by kernel_rfl) (by simp) ?_
              refine AllReadyH.cons (i := 2) (o := { dst := some 56, op := Op.call { callee := Callee.value (Operand.func 20), args := #[Operand.tmp 54, Operand.tmp 55], argTypes := #[23, 3] }, type := 27, pos := _, after := #[{ on := 0, ground := Ground.data }, { on := 1, ground := Ground.data }], guard := none }) rfl (fun K hK => ?_) AllReadyH.nil
              go_simp
              go_at_call 20
              refine HA.out.mono ?_
              rintro e w10 hoA
              obtain ⟨aA, cA, rfl, hOA, hgA⟩ := hoA.shape
              refine hK.out _ _ (HSS.out _ _ (by assumption) hgA) (fun hHeld => ?_)
              clear hK K
              try simp only [Act.put, List.setIfInBounds_toArray, List.set_cons_zero, List.set_cons_succ]
              refine wpAnyH_ready (rs := [7]) (by kernel_rfl) (by simp) ?_
              refine AllReadyH.cons (i := 7) (o := { dst := some 61, op := Op.call { callee := Callee.value (Operand.func 42), args := #[Operand.tmp 56, Operand.tmp 60], argTypes := #[27, 3] }, type := 4, pos := _, after := #[{ on := 2, ground := Ground.data }, { on := 6, ground := Ground.data }, { on := 2, ground := Ground.chain }], guard := none }) rfl (fun K hK => ?_) AllReadyH.nil
              go_simp
              go_at_call 42
              refine (isIn_any _ L (kk : Int) _ hOA.toV).mono ?_
              rw [HIN.out]
              rintro e w11 ⟨rfl, rfl⟩
              refine hK.out _ _ (by assumption) (fun hHeld => ?_)
              clear hK K
              try simp only [Act.put, List.setIfInBounds_toArray, List.set_cons_zero, List.set_cons_succ]
              refine wpAnyH_take (i := 8) (oi := { dst := some 62, op := Op.unOp UnOp.not 4 (Operand.tmp 61), type := 4, pos := _, after := #[{ on := 7, ground := Ground.data }], guard := none }) (v := .bool false) rfl (by kernel_rfl) (by kernel_rfl) (by kernel_rfl) (fun _ _ _ h => h) (Or.inl ⟨by rfl, ?hy⟩) (by assumption) ?_
              case hy => (intro w hSw; (try dsimp only at hSw); go_simp <;> (try with_reducible rfl) <;> (try simp [d1]))
              try simp only [Act.put, List.setIfInBounds_toArray, List.set_cons_zero, List.set_cons_succ]
              refine wpAnyH_take (i := 9) (oi := { dst := some 63, op := Op.move (Operand.tmp 62), type := 4, pos := _, after := #[{ on := 8, ground := Ground.data }, { on := 7, ground := Ground.chain }], guard := none }) (v := .bool false) rfl (by kernel_rfl) (by kernel_rfl) (by kernel_rfl) (fun _ _ _ h => h) (Or.inl ⟨by rfl, ?hy⟩) (by assumption) ?_
              case hy => (intro w hSw; (try dsimp only at hSw); go_simp <;> (try with_reducible rfl) <;> (try simp [d1]))
              try simp only [Act.put, List.setIfInBounds_toArray, List.set_cons_zero, List.set_cons_succ]
              refine wpAnyH_take (i := 10) (oi := { dst := some 64, op := Op.move (Operand.tmp 6), type := 27, pos := _, after := #[{ on := 9, ground := Ground.guard }], guard := some (9, false) }) (v := ?_) rfl (by kernel_rfl) (by kernel_rfl) (by kernel_rfl) (fun _ _ _ h => h) (Or.inl ⟨by rfl, ?hy⟩) (by assumption) ?_
              case hy => (intro w hSw; (try dsimp only at hSw); go_simp; try with_reducible rfl)
              try simp only [Act.put, List.setIfInBounds_toArray, List.set_cons_zero, List.set_cons_succ]
              refine wpAnyH_take (i := 11) (oi := { dst := some 65, op := Op.move (Operand.tmp 5), type := 27, pos := _, after := #[{ on := 9, ground := Ground.guard }], guard := some (9, false) }) (v := ?_) rfl (by kernel_rfl) (by kernel_rfl) (by kernel_rfl) (fun _ _ _ h => h) (Or.inl ⟨by rfl, ?hy⟩) (by assumption) ?_
              case hy => (intro w hSw; (try dsimp only at hSw); go_simp; try with_reducible rfl)
              try simp only [Act.put, List.setIfInBounds_toArray, List.set_cons_zero, List.set_cons_succ]
              refine wpAnyH_take (i := 12) (oi := { dst := some 66, op := Op.move (Operand.tmp 8), type := 3, pos := _, after := #[{ on := 9, ground := Ground.guard }], guard := some (9, false) }) (v := ?_) rfl (by kernel_rfl) (by kernel_rfl) (by kernel_rfl) (fun _ _ _ h => h) (Or.inl ⟨by rfl, ?hy⟩) (by assumption) ?_
              case hy => (intro w hSw; (try dsimp only at hSw); go_simp; try with_reducible rfl)
              try simp only [Act.put, List.setIfInBounds_toArray, List.set_cons_zero, List.set_cons_succ]
              refine wpAnyH_take (i := 13) (oi := { dst := some 67, op := Op.indexAddr 27 (Operand.tmp 65) (Operand.tmp 66), type := 0, pos := _, after := #[{ on := 11, ground := Ground.data }, { on := 12, ground := Ground.data }, { on := 9, ground := Ground.guard }], guard := some (9, false) }) (v := ?_) rfl (by kernel_rfl) (by kernel_rfl) (by kernel_rfl) (fun _ _ _ h => h) (Or.inl ⟨by rfl, ?hy⟩) (by assumption) ?_
              case hy => (intro w hSw; (try dsimp only at hSw); go_simp; try with_reducible rfl)
              try simp only [Act.put, List.setIfInBounds_toArray, List.set_cons_zero, List.set_cons_succ]
              refine wpAnyH_take (i := 14) (oi := { dst := some 68, op := Op.load 3 (Operand.tmp 67), type := 3, pos := _, after := #[{ on := 13, ground := Ground.data }, { on := 9, ground := Ground.guard }], guard := some (9, false) }) (v := ?_) rfl (by kernel_rfl) (by kernel_rfl) (by kernel_rfl) (fun _ _ _ h => h) (Or.inl ⟨by rfl, ?hy⟩) (by assumption) ?_
              case hy => (intro w hSw; (try dsimp only at hSw); go_simp; try with_reducible rfl)
              try simp only [Act.put, List.setIfInBounds_toArray, List.set_cons_zero, List.set_cons_succ]
              refine wpAnyH_take (i := 15) (oi := { dst := some 69, op := Op.indexAddr 27 (Operand.tmp 64) (Operand.tmp 68), type := 0, pos := _, after := #[{ on := 10, ground := Ground.data }, { on := 14, ground := Ground.data }, { on := 9, ground := Ground.guard }], guard := some (9, false) }) (v := ?_) rfl (by kernel_rfl) (by kernel_rfl) (by kernel_rfl) (fun _ _ _ h => h) (Or.inl ⟨by rfl, ?hy⟩) (by assumption) ?_
              case hy => (intro w hSw; (try dsimp only at hSw); go_simp; try with_reducible rfl)
              try simp only [Act.put, List.setIfInBounds_toArray, List.set_cons_zero, List.set_cons_succ]
              refine wpAnyH_take (i := 16) (oi := { dst := some 70, op := Op.load 3 (Operand.tmp 69), type := 3, pos := _, after := #[{ on := 15, ground := Ground.data }, { on := 9, ground := Ground.guard }], guard := some (9, false) }) (v := ?_) rfl (by kernel_rfl) (by kernel_rfl) (by kernel_rfl) (fun _ _ _ h => h) (Or.inl ⟨by rfl, ?hy⟩) (by assumption) ?_
              case hy => (intro w hSw; (try dsimp only at hSw); go_simp; try with_reducible rfl)
              try simp only [Act.put, List.setIfInBounds_toArray, List.set_cons_zero, List.set_cons_succ]
              refine wpAnyH_take (i := 17) (oi := { dst := some 71, op := Op.move (Operand.tmp 6), type := 27, pos := _, after := #[{ on := 9, ground := Ground.guard }], guard := some (9, false) }) (v := ?_) rfl (by kernel_rfl) (by kernel_rfl) (by kernel_rfl) (fun _ _ _ h => h) (Or.inl ⟨by rfl, ?hy⟩) (by assumption) ?_
              case hy => (intro w hSw; (try dsimp only at hSw); go_simp; try with_reducible rfl)
              try simp only [Act.put, List.setIfInBounds_toArray, List.set_cons_zero, List.set_cons_succ]
              refine wpAnyH_take (i := 18) (oi := { dst := some 72, op := Op.move (Operand.tmp 8), type := 3, pos := _, after := #[{ on := 9, ground := Ground.guard }], guard := some (9, false) }) (v := ?_) rfl (by kernel_rfl) (by kernel_rfl) (by kernel_rfl) (fun _ _ _ h => h) (Or.inl ⟨by rfl, ?hy⟩) (by assumption) ?_
              case hy => (intro w hSw; (try dsimp only at hSw); go_simp; try with_reducible rfl)
              try simp only [Act.put, List.setIfInBounds_toArray, List.set_cons_zero, List.set_cons_succ]
              refine wpAnyH_take (i := 19) (oi := { dst := some 73, op := Op.indexAddr 27 (Operand.tmp 71) (Operand.tmp 72), type := 0, pos := _, after := #[{ on := 17, ground := Ground.data }, { on := 18, ground := Ground.data }, { on := 9, ground := Ground.guard }], guard := some (9, false) }) (v := ?_) rfl (by kernel_rfl) (by kernel_rfl) (by kernel_rfl) (fun _ _ _ h => h) (Or.inl ⟨by rfl, ?hy⟩) (by assumption) ?_
              case hy => (intro w hSw; (try dsimp only at hSw); go_simp; try with_reducible rfl)
              try simp only [Act.put, List.setIfInBounds_toArray, List.set_cons_zero, List.set_cons_succ]
              refine wpAnyH_take (i := 20) (oi := { dst := some 74, op := Op.load 3 (Operand.tmp 73), type := 3, pos := _, after := #[{ on := 19, ground := Ground.data }, { on := 9, ground := Ground.guard }], guard := some (9, false) }) (v := ?_) rfl (by kernel_rfl) (by kernel_rfl) (by kernel_rfl) (fun _ _ _ h => h) (Or.inl ⟨by rfl, ?hy⟩) (by assumption) ?_
              case hy => (intro w hSw; (try dsimp only at hSw); go_simp; try with_reducible rfl)
              try simp only [Act.put, List.setIfInBounds_toArray, List.set_cons_zero, List.set_cons_succ]
              refine wpAnyH_take (i := 21) (oi := { dst := some 75, op := Op.binOp BinOp.gtr 3 (Operand.tmp 70) (Operand.tmp 74) 3, type := 4, pos := _, after := #[{ on := 16, ground := Ground.data }, { on := 20, ground := Ground.data }, { on := 9, ground := Ground.guard }], guard := some (9, false) }) (v := .bool false) rfl (by kernel_rfl) (by kernel_rfl) (by kernel_rfl) (fun _ _ _ h => h) (Or.inl ⟨by rfl, ?hy⟩) (by assumption) ?_
              case hy => (intro w hSw; (try dsimp only at hSw); go_simp <;> (try with_reducible rfl) <;> (try simp [d1]))
              try simp only [Act.put, List.setIfInBounds_toArray, List.set_cons_zero, List.set_cons_succ]
              refine wpAnyH_take (i := 22) (oi := { dst := some 76, op := Op.pick (Operand.tmp 63) (Operand.const (Value.bool true)) (Operand.tmp 75), type := 4, pos := _, after := #[{ on := 9, ground := Ground.data }, { on := 21, ground := Ground.data }], guard := none }) (v := .bool false) rfl (by kernel_rfl) (by kernel_rfl) (by kernel_rfl) (fun _ _ _ h => h) (Or.inl ⟨by rfl, ?hy⟩) (by assumption) ?_
              case hy => (intro w hSw; (try dsimp only at hSw); go_simp <;> (try with_reducible rfl) <;> (try simp [d1]))
              try simp only [Act.put, List.setIfInBounds_toArray, List.set_cons_zero, List.set_cons_succ]
              refine wpAnyH_done (by kernel_rfl) ?_ _
              refine NoPanic.normal ?_
              have HG2 := Lib.hid (HGD.out.trans hgA)
              have hct2 := hgA.cell (((Grew.refl wr).drew).cell hct)
              clear hOA hgA hoA
              go_wp2
              go_roundg (gk - 1)
              case measure => omega
              case rel => exact ⟨kk, k + 1, h3, by omega, by omega, rfl, by go_num, HN, HG2⟩
            · rw [h1] at hct
              have HE := Lib.hid (HED.out X wr (H9.out.2.2.trans HG.out) hX h2)
              have HGW := Lib.hid HG.out
              clear h1 h2 HGo HG
              go_wp2_with (fail)
              refine HE.out.mono ?_
              rintro e w10 ⟨rfl, hg10⟩
              have HG2 := Lib.hid (HGW.out.trans hg10)
              clear hg10
              go_wp2
              go_roundg (go - 1)
              case measure => omega
              case rel => exact ⟨I + 1, by omega, by omega, by go_num, HG2⟩
        · obtain rfl : I = N := by omega
          have HF := Lib.hid (H4.out.2.2.trans (H9.out.2.2.trans HG.out))
          go_wp2
          go_ret
          exact ⟨rfl, HF.out⟩
end Go.Proofs.YthjnfkphlildaaaDoor
namespace Go.Proofs.YthjnfkphlildaaaDoor.pFlowOf
open Go.RowKit Go.ChangeShapes Go.WideShapes Go.ChangeAt

set_option maxRecDepth 100000 in
theorem lifted (os : Os) (started : os.Started) (H : Type) (enc : TypeId × Value → H) :
    ReturnsInHanded {} Tryd.checked os 8 .any (fun w args => (Rows.fnFlowOfSpec.pre enc Tryd.prog Tryd.f8 [] false w args ∧ laidMetH Tryd.prog laid1 w) ∧ sizedMet enc Tryd.prog Tryd.f8 (OpenSpec.ofChange Rows.fnFlowOfSpec) false w args)
      (Rows.fnFlowOfSpec.post enc Tryd.prog Tryd.f8 false true false false) := by
  refine returnsInHanded_of_change_and (C := Tryd.checked) (X := fun w _ => laidMetH Tryd.prog laid1 w) (fun _ _ _ hh h => h.of_heap hh) Tryd.own started (by kernel_rfl) Tryd.func8
    (ChangeSpec.witness_shaped (enc := enc) (C := Tryd.checked) (os := os) (X := fun w _ => laidMetH Tryd.prog laid1 w) false (World.doorLaid Tryd.prog 400 os) #[.slice none 0 0] 8 rfl (World.shaped_of_RefB (by kernel_rfl) (by kernel_rfl)) (by kernel_rfl) (by kernel_rfl) (by kernel_rfl) (door_met os _)) ?_
  intro W base args ds gs before hval0 hW _ _ hL _
  have hval : ∀ (j : Nat) t v, Tryd.f8.params[j]? = some t → args[j]? = some v → Value.okWide Tryd.prog W .any base t v := hval0
  have hW' := hW
  obtain ⟨p, q, hA0, hV, rfl, _, _⟩ := hW
  have hA : DataW.TrodAll enc Tryd.prog W 0 (fun _ => true) true Tryd.f8.params.toList args.toList ds p := hA0
  rw [Tryd.params8] at hA hval
  obtain ⟨v0, d0, rfl, rfl, h0⟩ := trodAll_one hA
  have hV' := hV
  obtain ⟨_, _, _, _, dv, _, rfl, _⟩ := trodVars_one hV
  obtain ⟨a0, len0, cap0, rfl⟩ := okWide_slice Tryd.underlying22 (hval 0 22 v0 rfl rfl)
  have k0 := h0
  have lt0 : ∀ x ∈ p, x.block < W.heap.size := by obtain ⟨m, hm⟩ := k0; exact DataW.trod_lt m _ _ _ hm
  obtain ⟨bs0, hn0, hb0⟩ := bytes_came h0
  have HS := steps_of_laid hL
  clear hA0 hval0
  refine (FnFlowOf_any _ bs0 W hn0 hb0 HS).mono fun e W' ⟨he, bel⟩ => ?_
  subst he
  exact ⟨_, rfl, _, _, _, [], _, q, hW', trodAll_mk1 (shut_bool Tryd.underlying4 _), (trodAll_mk1 (Below.trod Tryd.laidOut (by kernel_rfl) (of_decide_eq_true (by kernel_rfl)) k0 bel lt0)), Below.trodVars Tryd.laidOut bel (by kernel_rfl) hV', Below.frame bel _, fun h => by cases h⟩

theorem row_proved : Rows.FnFlowOfSaid :=
  OpenClaim.holds_of_wide 8 Tryd.f8 rfl rfl rfl rfl rfl rfl rfl ⟨rfl, rfl, rfl, rfl, rfl⟩ rfl rfl rfl rfl rfl (by kernel_rfl) Tryd.func8
    (show joinedFacts Tryd.prog 8 Tryd.f8 Rows.fnFlowOfSpec Rows.fnFlowOfRow = true by unfold joinedFacts; rw [Tryd.makeG, Tryd.liftsG, Tryd.enterG]; kernel_rfl)
    (of_decide_eq_true (by kernel_rfl)) (by unfold Func.isWrapper; first | (rw [if_pos (by decide +kernel)]; kernel_rfl) | (rw [if_neg (by decide +kernel)]; exact ⟨rfl, rfl⟩))
    (fun os started H enc _ => lifted os started H enc)

theorem proved : Rows.FnFlowOfCardSaid :=
  Claim7.holds_tied_plain_at .later [] [.data] true Rows.fnFlowOfCard.stood.harness Rows.fnFlowOfCard.stood.looks
    row_proved (fun _ h => by cases h) (by kernel_rfl) (fun _ h => by cases h) fnFlowOf_row_tie rfl ⟨rfl, rfl⟩ (show Tryd.prog.mainIs = some (Rows.fnFlowOfCard.stood.harness.1, Rows.fnFlowOfCard.stood.harness.2.toList) from Tryd.mainG) rfl
    (fun f fn hf hfn => by
      obtain rfl : f = 8 := Option.some.inj ((show Tryd.prog.funcNamed "loop.example/wateronheights/laws.FnFlowOf" = some 8 by kernel_rfl).symm.trans hf) |>.symm
      obtain rfl : fn = Tryd.f8 := (Option.some.inj (Tryd.func8.symm.trans hfn)).symm
      exact ⟨by kernel_rfl, fun j t ht => by
        rw [Tryd.params8] at ht
        have hm : t ∈ [22] := by simpa using Array.mem_of_getElem? ht
        have hall : ([22].all fun u => !Tryd.prog.wantsStandIn u) = true := by kernel_rfl
        exact (show Tryd.prog.wantsStandIn t = false by simpa using List.all_eq_true.1 hall t hm)⟩)
    (by kernel_rfl)
#print axioms proved
end Go.Proofs.YthjnfkphlildaaaDoor.pFlowOf
