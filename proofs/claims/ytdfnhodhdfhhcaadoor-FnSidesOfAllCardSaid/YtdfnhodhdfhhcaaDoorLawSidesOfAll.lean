/- The law FnSidesOfAll returns true. -/
import Derived.Test.YtdfnhodhdfhhcaaDoorRimS
import Derived.Test.YtdfnhodhdfhhcaaDoorDrawsL
import Derived.Test.YtdfnhodhdfhhcaaDoorRowOf
import Derived.Test.YtdfnhodhdfhhcaaDoorAroundOf
import Derived.Lib.MinMax
namespace Go.Proofs.YtdfnhodhdfhhcaaDoor
open Go.RowKit

theorem grid_hts {h : List (List Int)} (hv : vGrid h = true) : ∀ i, 0 ≤ h.flatten.getD i 0 ∧ h.flatten.getD i 0 ≤ 12 := by
  intro i
  have G := Grid.of hv
  have hl := flat_grid_len G
  by_cases hi : i < h.flatten.length
  · rw [flat_at G i (by omega)]
    have hm := G.m1
    exact G.num (i / (h.getD 0 []).length) (div_lt_of h.length _ i (by omega)) (i % (h.getD 0 []).length) (Nat.mod_lt _ hm)
  · rw [List.getD_eq_getElem?_getD, List.getElem?_eq_none (by omega)]
    exact ⟨by decide, by decide⟩

set_option maxRecDepth 100000 in
set_option maxHeartbeats 4000000 in
theorem FnSidesOfAll_any (v : Value) (bs : List Int) (w : World) (hv : NumsV .u8 w v bs) (hb : ∀ i, i < bs.length → 0 ≤ bs.getD i 0 ∧ bs.getD i 0 ≤ 255) (hS : Steps w) :
    Calls Tryd.prog 4 #[v] w fun e w' => e = .returned (.bool true) ∧ Grew w w' := by
  have HD := Lib.hid (DrawRimAt_any v bs w hv hb)
  have HS := Lib.hid hS
  obtain ⟨a, b, o, c, rfl, ⟨hlc, hcb⟩, _, _⟩ := hv.shape
  clear hv hb hS
  by_cases hbig : 1048576 < bs.length
  · go_enter Tryd.func4, Tryd.ntmps4
    go_wp2
    go_ret
    exact ⟨rfl, Grew.refl _⟩
  · go_enter Tryd.func4, Tryd.ntmps4
    go_wp2_with (fail)
    refine HD.out.mono ?_
    rintro e w1 ⟨v1, h, t, rfl, hO, hd, ht, hg1⟩
    have HV := Lib.hid (And.intro hO.toV hg1)
    have HS1 : Hid (Steps w1) := Lib.hid (HS.out.grew hg1)
    obtain ⟨a3, c3, rfl⟩ := hO.sh
    obtain ⟨X, eX⟩ : ∃ X, rimX h t = X := ⟨_, rfl⟩
    have HX := Lib.hid eX
    have HVG : Hid (∀ W, Grew w1 W → Calls Tryd.prog 14 #[.slice a3 h.length c3] W fun e w' => e = .returned (.bool (vGrid h)) ∧ W = w') := fun W hW => ValidGrid_any _ h W (HV.out.1.grew hW)
    clear hO hd hg1 HD eX
    go_wp2_with (fail)
    (with_reducible refine (RimAt_any _ h t _ HV.out.1 HS1.out).mono ?_)
    rw [HX.out]
    rintro e w2 ⟨rfl, hg2⟩
    have HG2 := Lib.hid hg2
    clear hg2
    go_wp2_with (fail)
    (with_reducible refine (SRimAt_any _ h t _ (HV.out.1.grew HG2.out)).mono ?_)
    rw [HX.out]
    rintro e w3 ⟨rfl, hg3⟩
    have HG3 := Lib.hid (HG2.out.trans hg3)
    clear hg3
    have exx : (X != X) = false := by simp
    go_wp2_with (fail)
    refine (HVG.out _ HG3.out).mono ?_
    cases hp : vGrid h with
    | false =>
      rintro e w4 ⟨rfl, rfl⟩
      clear hp
      go_wp2
      go_ret
      exact ⟨rfl, HV.out.2.trans HG3.out⟩
    | true =>
      rintro e w4 ⟨rfl, rfl⟩
      have G := Grid.of hp
      have hpl := flat_grid_len G
      obtain ⟨n, en⟩ : ∃ n, h.length = n := ⟨_, rfl⟩
      obtain ⟨m, em⟩ : ∃ m, (h.getD 0 []).length = m := ⟨_, rfl⟩
      obtain ⟨N, eN⟩ : ∃ N, n * m = N := ⟨_, rfl⟩
      rw [en, em, eN] at hpl
      have hn5 := G.n5
      have hm5 := G.m5
      rw [en] at hn5
      rw [em] at hm5
      have hN25 : N ≤ 25 := by rw [← eN]; exact Nat.mul_le_mul hn5 hm5
      have hvc : ∀ x : Nat, x < N → vCell h (x : Int) = true := fun x hx => by
        rw [vCell, hp, Bool.true_and, Bool.and_eq_true, decide_eq_true_eq, decide_eq_true_eq]
        have : ((n * m : Nat) : Int) = (n : Int) * m := by simp
        rw [en, em]
        omega
      have HAO : Hid (∀ (x : Nat) W, Grew w1 W → x < N → Calls Tryd.prog 16 #[.slice a3 h.length c3, .int .i64 x] W (OwnI W (aroundL n m x))) := Lib.hid fun x W hW hx => by
        have h0 := AroundOf_any _ h (x : Int) W (HV.out.1.grew hW) (HS1.out.grew hW)
        have h1 : aroundOfL h (x : Int) = aroundL n m x := by rw [aroundOfL, if_pos (hvc x hx), en, em, Int.toNat_natCast]
        rw [h1] at h0
        exact h0
      have hhe := grid_hts hp
      have HRO := Lib.hid (rowOf_any _ h w3 (HV.out.1.grew HG3.out) (Nat.le_trans G.n5 (by decide)) (fun r hr => by have := G.len r hr; have := G.m1; have := G.m5; omega))
      obtain ⟨p, ep⟩ : ∃ p, h.flatten = p := ⟨_, rfl⟩
      rw [ep] at hpl hhe HRO
      have HRT : Hid (∀ k : Nat, k ≤ 12 → ∀ W, Grew w1 W → Calls Tryd.prog 11 #[.slice a3 h.length c3, .int .i64 k] W fun e w' => e = .returned (.int .i64 (rimL p (k : Int) n m N)) ∧ Grew W w') := Lib.hid fun k hk W hW => by
        have h0 := RimAt_any _ h (k : Int) W (HV.out.1.grew hW) (HS1.out.grew hW)
        have h1 : rimX h (k : Int) = rimL p (k : Int) n m N := by
          unfold rimX
          rw [if_pos (by simp only [vLevel, hp, inR, Bool.true_and, Bool.and_eq_true, decide_eq_true_eq]; omega), en, em, ep, hpl]
        rw [h1] at h0
        exact h0
      have HRB : Hid (∀ k : Nat, 0 ≤ rimL p (k : Int) n m N ∧ rimL p (k : Int) n m N ≤ 100) := Lib.hid fun k => by
        have := rim_area (p := p) (k : Int) hn5 hm5 (by rw [hpl, eN])
        rw [eN] at this
        omega
      have HAF : Hid (∀ x, x < N → (aroundL n m x).length ≤ 4 ∧ ∀ K, K < (aroundL n m x).length → ∃ j : Nat, (aroundL n m x).getD K 0 = j ∧ j < N) := Lib.hid fun x hx => by
        obtain ⟨f1, _, f3⟩ := around_facts hn5 hm5 (show x < n * m by omega)
        refine ⟨f3, fun K hK => ?_⟩
        have hmem : (aroundL n m x).getD K 0 ∈ aroundL n m x := by
          rw [List.getD_eq_getElem?_getD, List.getElem?_eq_getElem hK]
          exact List.getElem_mem hK
        have := f1 _ hmem
        exact ⟨((aroundL n m x).getD K 0).toNat, by omega, by omega⟩
      have HSUM := Lib.hid (rims_sides (n := n) (m := m) hhe N)
      have HPB := Lib.hid hhe
      have HPL := Lib.hid hpl
      clear hp G en em eN hn5 hm5 hvc hhe ep hpl
      go_wp2_with (fail)
      refine HRO.out.mono ?_
      rintro e w4 ⟨g4, c4, rfl, hO4, hg4⟩
      rw [HPL.out] at hO4 ⊢
      have H4 : Hid ((∀ i, i < N → w4.cell? ⟨g4, i, none⟩ = some (.int .i64 (p.getD i 0))) ∧ Grew w1 w4) := Lib.hid ⟨fun i hi => (hO4.at rfl (by rw [HPL.out]; exact hi)).1, HG3.out.trans hg4⟩
      clear hO4 hg4 HRO HVG
      go_wp2
      go_loopw [6, 7] (fun sv iv wr => ∃ (I : Nat) (q : Int), I ≤ N ∧ iv = .int .i64 (I : Int) ∧ sv = .int .i64 q ∧ 0 ≤ q ∧ q ≤ 96 * (I : Int) ∧ Hid (q = sumTo (sideC p n m) I ∧ Grew w4 wr)) (fun _ i _ => N - (intOf i).toNat)
      case atStart => exact ⟨0, 0, Nat.zero_le _, rfl, rfl, by omega, by omega, rfl, Grew.refl _⟩
      case round =>
        obtain ⟨I, q, hI1, rfl, rfl, hq0, hq1, HI⟩ := hrel
        by_cases hI : I < N
        · have HA := Lib.hid (HAO.out I wr (H4.out.2.trans HI.out.2) hI)
          obtain ⟨hl4, hLM⟩ := HAF.out I hI
          have hsc : sideC p n m I = (4 - ((aroundL n m I).length : Int)) * p.getD I 0 + sumTo (fun k => max (p.getD I 0 - p.getD ((aroundL n m I).getD k 0).toNat 0) 0) (aroundL n m I).length := rfl
          obtain ⟨L, eL⟩ : ∃ L, aroundL n m I = L := ⟨_, rfl⟩
          rw [eL] at HA hl4 hLM hsc
          obtain ⟨l, el⟩ : ∃ l, L.length = l := ⟨_, rfl⟩
          rw [el] at hl4 hLM hsc
          have hx := HPB.out I
          have hcI := HI.out.2.cell (H4.out.1 I hI)
          obtain ⟨x, ex⟩ : ∃ x, p.getD I 0 = x := ⟨_, rfl⟩
          rw [ex] at hx hcI hsc
          obtain ⟨hx0, hx12⟩ := hx
          have hD0 : 0 ≤ (4 - (l : Int)) * x := Int.mul_nonneg (by omega) hx0
          have hD1 : (4 - (l : Int)) * x ≤ 4 * 12 := Int.mul_le_mul (by omega) hx12 hx0 (by decide)
          obtain ⟨D, eD⟩ : ∃ D, (4 - (l : Int)) * x = D := ⟨_, rfl⟩
          rw [eD] at hD0 hD1 hsc
          have wl : IntKind.i64.wrap (4 - (l : Int)) = 4 - (l : Int) := IntWalk.i64_in _ (by omega)
          have wD : IntKind.i64.wrap ((4 - (l : Int)) * x) = D := by rw [eD]; exact IntWalk.i64_in _ (by omega)
          have HSC := Lib.hid hsc
          have HLM := Lib.hid hLM
          have HEL := Lib.hid el
          have hIi : (I : Int) < (N : Int) := by omega
          clear hsc hLM el eL ex eD
          go_wp2_with (fail)
          refine HA.out.mono ?_
          rintro e w5 ⟨a5, c5, rfl, hO5, hg5⟩
          rw [HEL.out] at hO5 ⊢
          have H5 := Lib.hid (And.intro hO5.toV (HI.out.2.trans hg5))
          have hcI2 := hg5.cell hcI
          clear hcI hO5 hg5 HA
          go_wp2
          go_loopw [6, 9] (fun sv kv wr2 => ∃ (K : Nat) (q2 : Int), K ≤ l ∧ kv = .int .i64 (K : Int) ∧ sv = .int .i64 (q + D + q2) ∧ 0 ≤ q2 ∧ q2 ≤ 12 * (K : Int) ∧ Hid (q2 = sumTo (fun k => max (x - p.getD (L.getD k 0).toNat 0) 0) K ∧ Grew w5 wr2)) (fun _ k _ => l - (intOf k).toNat)
          case atStart => exact ⟨0, 0, Nat.zero_le _, rfl, by first | (simp; done) | (go_simp; done) | (rw [IntWalk.i64_in _ (by omega)]; simp), by omega, by omega, rfl, Grew.refl _⟩
          case round =>
            obtain ⟨K, q2, hK1, rfl, rfl, hq20, hq21, HI2⟩ := hrel
            by_cases hK : K < l
            · obtain ⟨j, ej, hj⟩ := HLM.out K hK
              have hy := HPB.out j
              have hcj := HI2.out.2.cell (H5.out.2.cell (H4.out.1 j hj))
              obtain ⟨y, ey⟩ : ∃ y, p.getD j 0 = y := ⟨_, rfl⟩
              rw [ey] at hy hcj
              obtain ⟨hy0, hy12⟩ := hy
              have hcI3 := HI2.out.2.cell hcI2
              obtain ⟨a6, b5, o5, c6, e6, _, ha6, hc6⟩ := H5.out.1.shape
              obtain rfl := ha6 (by rw [HEL.out]; omega)
              rw [HEL.out] at e6
              simp only [Value.slice.injEq, true_and] at e6
              obtain ⟨rfl, rfl⟩ := e6
              have hcL := HI2.out.2.cell (hc6.out K (by rw [HEL.out]; omega))
              rw [ej] at hcL
              have HEJ := Lib.hid (And.intro ej ey)
              have hji : (j : Int) < (N : Int) := by omega
              have hKi : (K : Int) < (l : Int) := by omega
              have hj0 : (0 : Int) ≤ (j : Int) := by omega
              have wxy : IntKind.i64.wrap (x - y) = x - y := IntWalk.i64_in _ (by omega)
              clear ej ey ha6 hc6
              go_wp2_with (fail)
              refine wp_region_noPanic ?_
              refine wp_region_held_drew (S := fun W => W.cell? ⟨g4, I, none⟩ = some (.int .i64 x) ∧ W.cell? ⟨b5, o5 + K, none⟩ = some (.int .i64 (j : Int)) ∧ W.cell? ⟨g4, j, none⟩ = some (.int .i64 y) ∧ Grew w5 W) (by kernel_rfl) (by exact ⟨hcI3, hcL, hcj, HI2.out.2.drew⟩) (fun hHeld => ?_)
              refine wpAnyH_take (i := 0) (oi := { dst := some 57, op := Op.move (Operand.tmp 6), type := 3, pos := _, after := #[], guard := none }) (v := ?_) rfl (by kernel_rfl) (by kernel_rfl) (by kernel_rfl) (fun _ _ _ h => h) (Or.inl ⟨by rfl, ?hy⟩) (by assumption) ?_
              case hy => (intro w hSw; (try dsimp only at hSw); go_simp; try with_reducible rfl)
              try simp only [Act.put, List.setIfInBounds_toArray, List.set_cons_zero, List.set_cons_succ]
              refine wpAnyH_take (i := 1) (oi := { dst := some 58, op := Op.move (Operand.tmp 5), type := 29, pos := _, after := #[], guard := none }) (v := ?_) rfl (by kernel_rfl) (by kernel_rfl) (by kernel_rfl) (fun _ _ _ h => h) (Or.inl ⟨by rfl, ?hy⟩) (by assumption) ?_
              case hy => (intro w hSw; (try dsimp only at hSw); go_simp; try with_reducible rfl)
              try simp only [Act.put, List.setIfInBounds_toArray, List.set_cons_zero, List.set_cons_succ]
              refine wpAnyH_take (i := 2) (oi := { dst := some 59, op := Op.move (Operand.tmp 7), type := 3, pos := _, after := #[], guard := none }) (v := ?_) rfl (by kernel_rfl) (by kernel_rfl) (by kernel_rfl) (fun _ _ _ h => h) (Or.inl ⟨by rfl, ?hy⟩) (by assumption) ?_
              case hy => (intro w hSw; (try dsimp only at hSw); go_simp; try with_reducible rfl)
              try simp only [Act.put, List.setIfInBounds_toArray, List.set_cons_zero, List.set_cons_succ]
              refine wpAnyH_take (i := 3) (oi := { dst := some 60, op := Op.indexAddr 29 (Operand.tmp 58) (Operand.tmp 59), type := 0, pos := _, after := #[{ on := 1, ground := Ground.data }, { on := 2, ground := Ground.data }], guard := none }) (v := ?_) rfl (by kernel_rfl) (by kernel_rfl) (by kernel_rfl) (fun _ _ _ h => h) (Or.inl ⟨by rfl, ?hy⟩) (by assumption) ?_
              case hy => (intro w hSw; (try dsimp only at hSw); go_simp; try with_reducible rfl)
              try simp only [Act.put, List.setIfInBounds_toArray, List.set_cons_zero, List.set_cons_succ]
              refine wpAnyH_take (i := 4) (oi := { dst := some 61, op := Op.load 3 (Operand.tmp 60), type := 3, pos := _, after := #[{ on := 3, ground := Ground.data }], guard := none }) (v := ?_) rfl (by kernel_rfl) (by kernel_rfl) (by kernel_rfl) (fun _ _ _ h => h) (Or.inl ⟨by rfl, ?hy⟩) (by assumption) ?_
              case hy => (intro w hSw; (try dsimp only at hSw); go_simp; try with_reducible rfl)
              try simp only [Act.put, List.setIfInBounds_toArray, List.set_cons_zero, List.set_cons_succ]
              refine wpAnyH_take (i := 5) (oi := { dst := some 62, op := Op.move (Operand.tmp 5), type := 29, pos := _, after := #[], guard := none }) (v := ?_) rfl (by kernel_rfl) (by kernel_rfl) (by kernel_rfl) (fun _ _ _ h => h) (Or.inl ⟨by rfl, ?hy⟩) (by assumption) ?_
              case hy => (intro w hSw; (try dsimp only at hSw); go_simp; try with_reducible rfl)
              try simp only [Act.put, List.setIfInBounds_toArray, List.set_cons_zero, List.set_cons_succ]
              refine wpAnyH_take (i := 6) (oi := { dst := some 63, op := Op.move (Operand.tmp 8), type := 29, pos := _, after := #[], guard := none }) (v := ?_) rfl (by kernel_rfl) (by kernel_rfl) (by kernel_rfl) (fun _ _ _ h => h) (Or.inl ⟨by rfl, ?hy⟩) (by assumption) ?_
              case hy => (intro w hSw; (try dsimp only at hSw); go_simp; try with_reducible rfl)
              try simp only [Act.put, List.setIfInBounds_toArray, List.set_cons_zero, List.set_cons_succ]
              refine wpAnyH_take (i := 7) (oi := { dst := some 64, op := Op.move (Operand.tmp 9), type := 3, pos := _, after := #[], guard := none }) (v := ?_) rfl (by kernel_rfl) (by kernel_rfl) (by kernel_rfl) (fun _ _ _ h => h) (Or.inl ⟨by rfl, ?hy⟩) (by assumption) ?_
              case hy => (intro w hSw; (try dsimp only at hSw); go_simp; try with_reducible rfl)
              try simp only [Act.put, List.setIfInBounds_toArray, List.set_cons_zero, List.set_cons_succ]
              refine wpAnyH_take (i := 8) (oi := { dst := some 65, op := Op.indexAddr 29 (Operand.tmp 63) (Operand.tmp 64), type := 0, pos := _, after := #[{ on := 6, ground := Ground.data }, { on := 7, ground := Ground.data }], guard := none }) (v := ?_) rfl (by kernel_rfl) (by kernel_rfl) (by kernel_rfl) (fun _ _ _ h => h) (Or.inl ⟨by rfl, ?hy⟩) (by assumption) ?_
              case hy => (intro w hSw; (try dsimp only at hSw); go_simp; try with_reducible rfl)
              try simp only [Act.put, List.setIfInBounds_toArray, List.set_cons_zero, List.set_cons_succ]
              refine wpAnyH_take (i := 9) (oi := { dst := some 66, op := Op.load 3 (Operand.tmp 65), type := 3, pos := _, after := #[{ on := 8, ground := Ground.data }], guard := none }) (v := ?_) rfl (by kernel_rfl) (by kernel_rfl) (by kernel_rfl) (fun _ _ _ h => h) (Or.inl ⟨by rfl, ?hy⟩) (by assumption) ?_
              case hy => (intro w hSw; (try dsimp only at hSw); go_simp; try with_reducible rfl)
              try simp only [Act.put, List.setIfInBounds_toArray, List.set_cons_zero, List.set_cons_succ]
              refine wpAnyH_take (i := 10) (oi := { dst := some 67, op := Op.indexAddr 29 (Operand.tmp 62) (Operand.tmp 66), type := 0, pos := _, after := #[{ on := 5, ground := Ground.data }, { on := 9, ground := Ground.data }], guard := none }) (v := ?_) rfl (by kernel_rfl) (by kernel_rfl) (by kernel_rfl) (fun _ _ _ h => h) (Or.inl ⟨by rfl, ?hy⟩) (by assumption) ?_
              case hy => (intro w hSw; (try dsimp only at hSw); go_simp; try with_reducible rfl)
              try simp only [Act.put, List.setIfInBounds_toArray, List.set_cons_zero, List.set_cons_succ]
              refine wpAnyH_take (i := 11) (oi := { dst := some 68, op := Op.load 3 (Operand.tmp 67), type := 3, pos := _, after := #[{ on := 10, ground := Ground.data }], guard := none }) (v := ?_) rfl (by kernel_rfl) (by kernel_rfl) (by kernel_rfl) (fun _ _ _ h => h) (Or.inl ⟨by rfl, ?hy⟩) (by assumption) ?_
              case hy => (intro w hSw; (try dsimp only at hSw); go_simp; try with_reducible rfl)
              try simp only [Act.put, List.setIfInBounds_toArray, List.set_cons_zero, List.set_cons_succ]
              refine wpAnyH_take (i := 12) (oi := { dst := some 69, op := Op.binOp BinOp.sub 3 (Operand.tmp 61) (Operand.tmp 68) 3, type := 3, pos := _, after := #[{ on := 4, ground := Ground.data }, { on := 11, ground := Ground.data }], guard := none }) (v := ?_) rfl (by kernel_rfl) (by kernel_rfl) (by kernel_rfl) (fun _ _ _ h => h) (Or.inl ⟨by rfl, ?hy⟩) (by assumption) ?_
              case hy => (intro w hSw; (try dsimp only at hSw); go_simp; try with_reducible rfl)
              try simp only [Act.put, List.setIfInBounds_toArray, List.set_cons_zero, List.set_cons_succ]
              refine wpAnyH_take (i := 13) (oi := { dst := some 70, op := Op.call { callee := Callee.builtin Builtin.max, args := #[Operand.tmp 69, Operand.const (Value.int IntKind.i64 0)], argTypes := #[3, 3] }, type := 3, pos := _, after := #[{ on := 12, ground := Ground.data }], guard := none }) (v := ?_) rfl (by kernel_rfl) (by kernel_rfl) (by kernel_rfl) (fun _ _ _ h => h) (Or.inl ⟨by rfl, ?hy⟩) (by assumption) ?_
              case hy => (intro w hSw; (try dsimp only at hSw); go_simp; try with_reducible rfl)
              try simp only [Act.put, List.setIfInBounds_toArray, List.set_cons_zero, List.set_cons_succ]
              refine wpAnyH_take (i := 14) (oi := { dst := some 71, op := Op.binOp BinOp.add 3 (Operand.tmp 57) (Operand.tmp 70) 3, type := 3, pos := _, after := #[{ on := 0, ground := Ground.data }, { on := 13, ground := Ground.data }], guard := none }) (v := ?_) rfl (by kernel_rfl) (by kernel_rfl) (by kernel_rfl) (fun _ _ _ h => h) (Or.inl ⟨by rfl, ?hy⟩) (by assumption) ?_
              case hy => (intro w hSw; (try dsimp only at hSw); go_simp; try with_reducible rfl)
              try simp only [Act.put, List.setIfInBounds_toArray, List.set_cons_zero, List.set_cons_succ]
              refine wpAnyH_take (i := 15) (oi := { dst := some 6, op := Op.assign (Operand.tmp 71), type := 3, pos := _, after := #[{ on := 14, ground := Ground.data }, { on := 0, ground := Ground.phase }, { on := 1, ground := Ground.phase }, { on := 2, ground := Ground.phase }, { on := 3, ground := Ground.phase }, { on := 4, ground := Ground.phase }, { on := 5, ground := Ground.phase }, { on := 6, ground := Ground.phase }, { on := 7, ground := Ground.phase }, { on := 8, ground := Ground.phase }, { on := 9, ground := Ground.phase }, { on := 10, ground := Ground.phase }, { on := 11, ground := Ground.phase }, { on := 12, ground := Ground.phase }, { on := 13, ground := Ground.phase }, { on := 14, ground := Ground.phase }], guard := none }) (v := ?_) rfl (by kernel_rfl) (by kernel_rfl) (by kernel_rfl) (fun _ _ _ h => h) (Or.inl ⟨by rfl, ?hy⟩) (by assumption) ?_
              case hy => (intro w hSw; (try dsimp only at hSw); go_simp; try with_reducible rfl)
              try simp only [Act.put, List.setIfInBounds_toArray, List.set_cons_zero, List.set_cons_succ]
              refine wpAnyH_done (by kernel_rfl) ?_ _
              refine NoPanic.normal ?_
              have HN := Lib.hid hHeld
              clear hHeld hcI3 hcj hcL
              go_wp2
              have hmx : 0 ≤ max (x - y) 0 ∧ max (x - y) 0 ≤ 12 := by omega
              have k1 : IntKind.i64.wrap (q + D + q2 + max (x - y) 0) = q + D + q2 + max (x - y) 0 := IntWalk.i64_in _ (by omega)
              go_roundw
              case rel => exact ⟨K + 1, q2 + max (x - y) 0, by omega, by go_num, by first | (rw [k1]; congr 1; omega) | (congr 1; omega), by omega, by omega, by show _ = _; rw [sumTo, ← HI2.out.1, HEJ.out.1, Int.toNat_natCast, HEJ.out.2], HN.out.2.2.2⟩
              case measure => simp [intOf]; omega
            · obtain rfl : K = l := by omega
              have HQ : Hid (q + D + q2 = sumTo (sideC p n m) (I + 1)) := Lib.hid (by rw [sumTo, ← HI.out.1, HSC.out, ← HI2.out.1]; omega)
              go_wp2
              go_roundw
              case rel => exact ⟨I + 1, q + D + q2, by omega, by go_num, rfl, by omega, by omega, HQ.out, H5.out.2.trans HI2.out.2⟩
              case measure => simp [intOf]; omega
        · obtain rfl : I = N := by omega
          have HQ : Hid (q = sumTo (fun k : Nat => rimL p (k : Int) n m I) 13) := Lib.hid (by rw [HSUM.out]; exact HI.out.1)
          go_wp2
          go_loopw [10, 11] (fun s i wr2 => ∃ (k : Nat) (z : Int), k ≤ 13 ∧ i = .int .i64 k ∧ s = .int .i64 z ∧ 0 ≤ z ∧ z ≤ 100 * (k : Int) ∧ Hid (z = sumTo (fun k : Nat => rimL p (k : Int) n m I) k ∧ Grew w4 wr2)) (fun _ i _ => 13 - (intOf i).toNat)
          case atStart => exact ⟨0, 0, Nat.zero_le _, rfl, rfl, by omega, by omega, rfl, HI.out.2⟩
          case round =>
            obtain ⟨k, z, hk, rfl, rfl, hz0, hz1, HI2⟩ := hrel
            by_cases hlt : k < 13
            · have HL := Lib.hid (HRT.out k (by omega) _ (H4.out.2.trans HI2.out.2))
              have hb := HRB.out k
              obtain ⟨C, eC⟩ : ∃ C, rimL p (k : Int) n m I = C := ⟨_, rfl⟩
              rw [eC] at hb HL
              obtain ⟨hb0, hb1⟩ := hb
              have HE := Lib.hid eC
              clear eC
              go_wp2_with (fail)
              refine HL.out.mono ?_
              rintro e w6 ⟨rfl, hg6⟩
              have HG6 := Lib.hid (HI2.out.2.trans hg6)
              clear hg6
              go_wp2
              go_roundw
              case rel => exact ⟨k + 1, z + C, by omega, by go_num, rfl, by omega, by omega, by show _ = _; rw [sumTo, ← HI2.out.1, HE.out], HG6.out⟩
              case measure => simp [intOf]; omega
            · obtain rfl : k = 13 := by omega
              have enq : z = q := by rw [HI2.out.1, HQ.out]
              have ebb : (z == q) = true := by simp [enq]
              go_wp2
              go_ret
              exact ⟨ret_bool (by first | (simp; done) | (simp [enq]; done) | exact ebb), HV.out.2.trans (H4.out.2.trans HI2.out.2)⟩
end Go.Proofs.YtdfnhodhdfhhcaaDoor
