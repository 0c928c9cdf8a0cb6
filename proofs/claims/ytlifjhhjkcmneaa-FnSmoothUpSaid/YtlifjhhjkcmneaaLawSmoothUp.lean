/- The law FnSmoothUp returns true. -/
import Derived.Test.YtlifjhhjkcmneaaSmoothUp
import Derived.Test.YtlifjhhjkcmneaaPlus2
import Derived.Test.YtlifjhhjkcmneaaEqF
import Derived.Test.YtlifjhhjkcmneaaTotal
import Derived.Test.YtlifjhhjkcmneaaDrawsP
namespace Go.Proofs.Ytlifjhhjkcmneaa
open Go.RowKit

theorem stackX_is {p : List Int} (h : vProf p = true) : (stackX p).length = p.length ∧ ∀ k, k < p.length → (stackX p).getD k (0, 0) = bestF' p k := by
  rw [stackX_means]
  unfold meansX
  rw [if_pos h]
  refine ⟨by simp, fun k hk => by simp [hk]⟩
theorem stackX_yes {p : List Int} (h : (stackX p).length ≠ 0) : vProf p = true := by
  unfold stackX at h
  cases hm : vProf p with
  | true => rfl
  | false => rw [hm, if_neg (by simp)] at h; exact absurd rfl h
theorem bestF_nats {p : List Int} (hp : vProf p = true) (i : Nat) (hi : i < p.length) : ∃ x y : Nat, bestF' p i = ((x : Int), (y : Int)) ∧ x ≤ 108 ∧ y ≤ 9 ∧ 1 ≤ y := by
  obtain ⟨_, _, a, b, h1, h2, h3, e⟩ := bestF_is p i hi
  have hb := mF_bd hp a b h3
  have ho := mF_one p a b (by omega)
  rw [← e] at hb ho
  obtain ⟨x, y, e2⟩ : ∃ x y : Nat, bestF' p i = ((x : Int), (y : Int)) := by
    rw [e]; exact frL_nat _ _
  rw [e2] at hb ho ⊢
  simp only at hb ho
  exact ⟨x, y, rfl, by omega, by omega, by omega⟩

set_option maxRecDepth 100000 in
set_option maxHeartbeats 8000000 in
theorem FnSmoothUp_any (v : Value) (bs : List Int) (w : World) (hv : NumsV .u8 w v bs) (hb : ∀ i, i < bs.length → 0 ≤ bs.getD i 0 ∧ bs.getD i 0 ≤ 255) :
    Calls Try.prog 3 #[v] w fun e w' => e = .returned (.bool true) ∧ Grew w w' := by
  have HD := Lib.hid (DrawSmoothUp_any v bs w hv hb)
  obtain ⟨a, b, o, c, rfl, ⟨hlc, hcb⟩, _, _⟩ := hv.shape
  clear hv hb
  by_cases hbig : 1048576 < bs.length
  · go_enter Try.func3, Try.ntmps3
    go_wp2
    go_ret
    exact ⟨rfl, Grew.refl _⟩
  · go_enter Try.func3, Try.ntmps3
    go_wp2_with (fail)
    refine HD.out.mono ?_
    rintro e w1 ⟨v1, p, rfl, hO, hd, hg1⟩
    have h9 := hd.1
    have HV := Lib.hid (And.intro hO.toV hg1)
    obtain ⟨a3, c3, rfl⟩ := hO.sh
    obtain ⟨M, eM⟩ : ∃ M, stackX p = M := ⟨_, rfl⟩
    have HM := Lib.hid eM
    clear hO hd hg1 HD eM
    go_wp2_with (fail)
    refine (SmoothUp_any _ p _ HV.out.1).mono ?_
    rw [HM.out]
    rintro e w2 ⟨v2, rfl, hO2, hg2⟩
    have H2 := Lib.hid (And.intro hO2.toV hg2)
    obtain ⟨a5, c5, rfl⟩ := hO2.sh
    clear hO2 hg2
    go_wp2_with (fail)
    refine (SSmoothUp_any _ p _ (HV.out.1.grew H2.out.2)).mono ?_
    rw [HM.out]
    rintro e w3 ⟨v3, rfl, hO3, hg3⟩
    have H3 := Lib.hid (And.intro hO3.toV (And.intro (H2.out.2.trans hg3) (H2.out.1.grew hg3)))
    obtain ⟨a6, c6, rfl⟩ := hO3.sh
    clear hO3 hg3
    go_wp2_with (fail)
    refine (equalFracs_any _ _ M M _ H3.out.2.2 H3.out.1).mono ?_
    rw [decide_eq_true (rfl : M = M)]
    rintro e w4 ⟨rfl, hq⟩
    have H4 := Lib.hid (And.intro (H3.out.2.2.grew (quiet_grew hq)) (H3.out.2.1.trans (quiet_grew hq)))
    clear hq
    by_cases hM : M.length = 0
    · have hM' : ((M.length : Int) == 0) = true := by simp [hM]
      clear hM
      go_wp2_with (fail)
      refine (SSmoothUp_any _ p _ (HV.out.1.grew H4.out.2)).mono ?_
      rw [HM.out]
      rintro e w5 ⟨v5, rfl, hO5, hg5⟩
      have H5 := Lib.hid (And.intro hO5.toV (And.intro (H4.out.1.grew hg5) (H4.out.2.trans hg5)))
      obtain ⟨a7, c7, rfl⟩ := hO5.sh
      clear hO5 hg5
      go_wp2_with (fail)
      refine (equalFracs_any _ _ M M _ H5.out.2.1 H5.out.1).mono ?_
      rw [decide_eq_true (rfl : M = M)]
      rintro e w6 ⟨rfl, hq⟩
      have H6 := Lib.hid (H5.out.2.2.trans (quiet_grew hq))
      clear hq
      go_wp2
      go_ret
      exact ⟨rfl, HV.out.2.trans H6.out⟩
    · have hp := stackX_yes (p := p) (by rw [HM.out]; exact hM)
      have hM' : ((M.length : Int) == 0) = false := beq_eq_false_iff_ne.2 (by omega)
      have hmi := stackX_is hp
      rw [HM.out] at hmi
      have hp0 := ((vProf_iff p).1 hp).1
      have HP := Lib.hid hp
      have HMI := Lib.hid hmi
      have HB := Lib.hid ((vProf_iff p).1 hp).2.2
      have HFO : Hid (∀ W, Calls Try.prog 21 #[.int .i64 0, .int .i64 1] W fun e w' => e = .returned (.agg #[.int .i64 0, .int .i64 1]) ∧ Grew W w') := fun W => lfracOf_any 0 1 W (by decide) (by decide) (by decide)
      clear hp hmi hM
      go_wp2_with (fail)
      refine (HFO.out _).mono ?_
      rintro e w5 ⟨rfl, hg5⟩
      have HG5 := Lib.hid (H4.out.2.trans hg5)
      have HMV := Lib.hid (H4.out.1.grew hg5)
      obtain ⟨ao, bo, oo, co, eo, _, hao, HCO⟩ := (H4.out.1.grew hg5).shape
      simp only [Value.slice.injEq] at eo
      obtain ⟨rfl, _, rfl⟩ := eo
      obtain rfl := hao (by have := HMI.out.1; omega)
      have H0 : Hid ((w5.alloc (.cells #[.int .i64 0, .int .i64 1] 29)).heap[w5.heap.size]? = some (.cells #[.int .i64 (sumS p 0).1, .int .i64 (sumS p 0).2] 29 (0, 0)) ∧ Grew w5 (w5.alloc (.cells #[.int .i64 0, .int .i64 1] 29))) := ⟨heap_alloc_new w5 _, (Grew.refl _).alloc _⟩
      clear hg5 hao
      go_wp2
      go_loopw [6] (fun iv wr => ∃ k : Nat, iv = .int .i64 k ∧ k ≤ p.length ∧ Hid (wr.heap[w5.heap.size]? = some (.cells #[.int .i64 (sumS p k).1, .int .i64 (sumS p k).2] 29 (0, 0)) ∧ Grew w5 wr)) (fun iv _ => p.length - (intOf iv).toNat)
      case atStart => exact ⟨0, rfl, Nat.zero_le _, H0.out⟩
      case round =>
        obtain ⟨k, rfl, hk, HK⟩ := hrel
        clear H0
        by_cases hltk : k < p.length
        · have hkM : k < M.length := by have := HMI.out.1; omega
          obtain ⟨nx1, ny1, ef, hx1, hy1, hz1⟩ := bestF_nats HP.out k hltk
          obtain ⟨nsx, nsy, es, hs1, hs2, hs3⟩ := sumS_small HP.out k hk (by omega)
          have hc1 := HK.out.2.cell (HCO.out k hkM).1
          have hc2 := HK.out.2.cell (HCO.out k hkM).2
          rw [HMI.out.2 k hltk, ef] at hc1 hc2
          simp only at hc1 hc2
          have hBr := HK.out.1
          rw [es] at hBr
          simp only at hBr
          have hPL := fun W => plusOf2_any nsx nsy nx1 ny1 W hs3 hs2 (by omega) hy1 hs1 hz1
          have hzz : sumS p (k + 1) = frL (nsx * ny1 + nx1 * nsy) (nsy * ny1) := by rw [sumS, es, ef]; rfl
          obtain ⟨Z, eZ⟩ : ∃ Z, frL (nsx * ny1 + nx1 * nsy) (nsy * ny1) = Z := ⟨_, rfl⟩
          rw [eZ] at hPL hzz
          obtain ⟨z1, z2⟩ := Z
          have HZZ := Lib.hid hzz
          have HEF := Lib.hid ef
          obtain ⟨sx, esx⟩ : ∃ sx : Int, (nsx : Int) = sx := ⟨_, rfl⟩
          obtain ⟨sy, esy⟩ : ∃ sy : Int, (nsy : Int) = sy := ⟨_, rfl⟩
          obtain ⟨x1, ex1⟩ : ∃ x1 : Int, (nx1 : Int) = x1 := ⟨_, rfl⟩
          obtain ⟨y1, ey1⟩ : ∃ y1 : Int, (ny1 : Int) = y1 := ⟨_, rfl⟩
          have HX1 := Lib.hid (And.intro ex1 (And.intro hx1 (And.intro ey1 hy1)))
          rw [esx, esy, ex1, ey1] at hPL
          rw [ex1] at hc1
          rw [ey1] at hc2
          rw [esx, esy] at hBr
          have HPL := Lib.hid hPL
          unfold frV at HPL
          have hblr : w5.heap.size < wr.heap.size := (Array.getElem?_eq_some_iff.1 hBr).1
          have HBR := Lib.hid hBr
          have HSW : Hid (∀ W, Grew w5 W → Grew w5 W ∧ W.cell? ⟨bo, oo + k * 2, none⟩ = some (.int .i64 x1) ∧ W.cell? ⟨bo, oo + k * 2 + 1, none⟩ = some (.int .i64 y1)) := fun W h => by
            refine ⟨h, ?_⟩
            have h1 := h.cell (HCO.out k hkM).1
            have h2 := h.cell (HCO.out k hkM).2
            rw [HMI.out.2 k hltk, ef] at h1 h2
            rw [← ex1, ← ey1]
            exact ⟨h1, h2⟩
          have w4' : IntKind.i64.wrap ((k : Int) + 1) = (k : Int) + 1 := wrap_12 _ (by omega) (by omega)
          have r1 : (k : Int) < M.length := by omega
          have r2 : (0 : Int) ≤ k := by omega
          clear eZ hzz es hs1 hs2 hs3 hPL hBr esx esy ef hx1 hy1 hz1 ex1 ey1
          rcases Nat.eq_zero_or_pos k with hk0 | hkp
          · have hz : ¬ (0 : Int) < (k : Int) := by omega
            have hz2 : ¬ 0 < k := by omega
            clear hk0 hc1 hc2
            ( go_wp2
              refine wp_region_noPanic ?_
              refine wp_region_held_drew (S := fun W => Grew wr W) (by kernel_rfl) (by exact (Grew.refl wr).drew) (fun hHeld => ?_)
              refine wpAnyH_take (i := 0) (oi := { dst := some 35, op := Op.move (Operand.tmp 6), type := 3, pos := _, after := #[], guard := none }) (v := ?_) rfl (by kernel_rfl) (by kernel_rfl) (by kernel_rfl) (fun _ _ _ h => h) (Or.inl ⟨by rfl, ?hy⟩) (by assumption) ?_
              case hy => (intro w hSw; (try dsimp only at hSw); go_simp; try with_reducible rfl)
              try simp only [Act.put, List.setIfInBounds_toArray, List.set_cons_zero, List.set_cons_succ]
              refine wpAnyH_take (i := 1) (oi := { dst := some 36, op := Op.binOp BinOp.gtr 3 (Operand.tmp 35) (Operand.const (Value.int IntKind.i64 0)) 3, type := 4, pos := _, after := #[{ on := 0, ground := Ground.data }], guard := none }) (v := .bool false) rfl (by kernel_rfl) (by kernel_rfl) (by kernel_rfl) (fun _ _ _ h => h) (Or.inl ⟨by rfl, ?hy⟩) (by assumption) ?_
              case hy => (intro w hSw; (try dsimp only at hSw); go_simp <;> (try with_reducible rfl) <;> (try simp [hz, hz2]))
              try simp only [Act.put, List.setIfInBounds_toArray, List.set_cons_zero, List.set_cons_succ]
              refine wpAnyH_take (i := 2) (oi := { dst := some 37, op := Op.move (Operand.tmp 36), type := 4, pos := _, after := #[{ on := 1, ground := Ground.data }], guard := none }) (v := ?_) rfl (by kernel_rfl) (by kernel_rfl) (by kernel_rfl) (fun _ _ _ h => h) (Or.inl ⟨by rfl, ?hy⟩) (by assumption) ?_
              case hy => (intro w hSw; (try dsimp only at hSw); go_simp; try with_reducible rfl)
              try simp only [Act.put, List.setIfInBounds_toArray, List.set_cons_zero, List.set_cons_succ]
              refine wpAnyH_take (i := 3) (oi := { dst := some 38, op := Op.move (Operand.tmp 4), type := 25, pos := _, after := #[{ on := 2, ground := Ground.guard }], guard := some (2, true) }) (v := undef) rfl (by kernel_rfl) (by kernel_rfl) (by kernel_rfl) (fun _ _ _ h => h) (Or.inr ⟨by rfl, rfl⟩) (by assumption) ?_
              try simp only [Act.put, List.setIfInBounds_toArray, List.set_cons_zero, List.set_cons_succ]
              refine wpAnyH_take (i := 4) (oi := { dst := some 39, op := Op.move (Operand.tmp 6), type := 3, pos := _, after := #[{ on := 2, ground := Ground.guard }], guard := some (2, true) }) (v := undef) rfl (by kernel_rfl) (by kernel_rfl) (by kernel_rfl) (fun _ _ _ h => h) (Or.inr ⟨by rfl, rfl⟩) (by assumption) ?_
              try simp only [Act.put, List.setIfInBounds_toArray, List.set_cons_zero, List.set_cons_succ]
              refine wpAnyH_take (i := 5) (oi := { dst := some 40, op := Op.indexAddr 25 (Operand.tmp 38) (Operand.tmp 39), type := 0, pos := _, after := #[{ on := 3, ground := Ground.data }, { on := 4, ground := Ground.data }, { on := 2, ground := Ground.guard }], guard := some (2, true) }) (v := undef) rfl (by kernel_rfl) (by kernel_rfl) (by kernel_rfl) (fun _ _ _ h => h) (Or.inr ⟨by rfl, rfl⟩) (by assumption) ?_
              try simp only [Act.put, List.setIfInBounds_toArray, List.set_cons_zero, List.set_cons_succ]
              refine wpAnyH_take (i := 6) (oi := { dst := some 41, op := Op.load 29 (Operand.tmp 40), type := 29, pos := _, after := #[{ on := 5, ground := Ground.data }, { on := 2, ground := Ground.guard }], guard := some (2, true) }) (v := undef) rfl (by kernel_rfl) (by kernel_rfl) (by kernel_rfl) (fun _ _ _ h => h) (Or.inr ⟨by rfl, rfl⟩) (by assumption) ?_
              try simp only [Act.put, List.setIfInBounds_toArray, List.set_cons_zero, List.set_cons_succ]
              refine wpAnyH_take (i := 7) (oi := { dst := some 42, op := Op.move (Operand.tmp 4), type := 25, pos := _, after := #[{ on := 2, ground := Ground.guard }], guard := some (2, true) }) (v := undef) rfl (by kernel_rfl) (by kernel_rfl) (by kernel_rfl) (fun _ _ _ h => h) (Or.inr ⟨by rfl, rfl⟩) (by assumption) ?_
              try simp only [Act.put, List.setIfInBounds_toArray, List.set_cons_zero, List.set_cons_succ]
              refine wpAnyH_take (i := 8) (oi := { dst := some 43, op := Op.move (Operand.tmp 6), type := 3, pos := _, after := #[{ on := 2, ground := Ground.guard }], guard := some (2, true) }) (v := undef) rfl (by kernel_rfl) (by kernel_rfl) (by kernel_rfl) (fun _ _ _ h => h) (Or.inr ⟨by rfl, rfl⟩) (by assumption) ?_
              try simp only [Act.put, List.setIfInBounds_toArray, List.set_cons_zero, List.set_cons_succ]
              refine wpAnyH_take (i := 9) (oi := { dst := some 44, op := Op.binOp BinOp.sub 3 (Operand.tmp 43) (Operand.const (Value.int IntKind.i64 1)) 3, type := 3, pos := _, after := #[{ on := 8, ground := Ground.data }, { on := 2, ground := Ground.guard }], guard := some (2, true) }) (v := undef) rfl (by kernel_rfl) (by kernel_rfl) (by kernel_rfl) (fun _ _ _ h => h) (Or.inr ⟨by rfl, rfl⟩) (by assumption) ?_
              try simp only [Act.put, List.setIfInBounds_toArray, List.set_cons_zero, List.set_cons_succ]
              refine wpAnyH_take (i := 10) (oi := { dst := some 45, op := Op.indexAddr 25 (Operand.tmp 42) (Operand.tmp 44), type := 0, pos := _, after := #[{ on := 7, ground := Ground.data }, { on := 9, ground := Ground.data }, { on := 2, ground := Ground.guard }], guard := some (2, true) }) (v := undef) rfl (by kernel_rfl) (by kernel_rfl) (by kernel_rfl) (fun _ _ _ h => h) (Or.inr ⟨by rfl, rfl⟩) (by assumption) ?_
              try simp only [Act.put, List.setIfInBounds_toArray, List.set_cons_zero, List.set_cons_succ]
              refine wpAnyH_take (i := 11) (oi := { dst := some 46, op := Op.load 29 (Operand.tmp 45), type := 29, pos := _, after := #[{ on := 10, ground := Ground.data }, { on := 2, ground := Ground.guard }], guard := some (2, true) }) (v := undef) rfl (by kernel_rfl) (by kernel_rfl) (by kernel_rfl) (fun _ _ _ h => h) (Or.inr ⟨by rfl, rfl⟩) (by assumption) ?_
              try simp only [Act.put, List.setIfInBounds_toArray, List.set_cons_zero, List.set_cons_succ]
              refine wpAnyH_take (i := 12) (oi := { dst := some 47, op := Op.call { callee := Callee.value (Operand.func 22), args := #[Operand.tmp 41, Operand.tmp 46], argTypes := #[29, 29] }, type := 4, pos := _, after := #[{ on := 6, ground := Ground.data }, { on := 11, ground := Ground.data }, { on := 2, ground := Ground.chain }, { on := 2, ground := Ground.guard }], guard := some (2, true) }) (v := undef) rfl (by kernel_rfl) (by kernel_rfl) (by kernel_rfl) (fun _ _ _ h => h) (Or.inr ⟨by rfl, rfl⟩) (by assumption) ?_
              try simp only [Act.put, List.setIfInBounds_toArray, List.set_cons_zero, List.set_cons_succ]
              refine wpAnyH_take (i := 13) (oi := { dst := some 48, op := Op.pick (Operand.tmp 37) (Operand.tmp 47) (Operand.const (Value.bool false)), type := 4, pos := _, after := #[{ on := 2, ground := Ground.data }, { on := 12, ground := Ground.data }], guard := none }) (v := ?_) rfl (by kernel_rfl) (by kernel_rfl) (by kernel_rfl) (fun _ _ _ h => h) (Or.inl ⟨by rfl, ?hy⟩) (by assumption) ?_
              case hy => (intro w hSw; (try dsimp only at hSw); go_simp; try with_reducible rfl)
              try simp only [Act.put, List.setIfInBounds_toArray, List.set_cons_zero, List.set_cons_succ]
              refine wpAnyH_done (by kernel_rfl) ?_ _
              refine NoPanic.normal ?_
              generalize hW7 : wr.drew = w7
              have hG7 : Grew wr w7 := by rw [← hW7]; exact (Grew.refl _).drew
              have HG7 := Lib.hid hG7
              clear hG7 hW7 hz hz2
              have HG7o := Lib.hid (HK.out.2.trans HG7.out)
              have hbl7 : w5.heap.size < w7.heap.size := Nat.lt_of_lt_of_le hblr HG7.out.size
              have hB7 : w7.heap[w5.heap.size]? = some (.cells #[.int .i64 sx, .int .i64 sy] 29 (0, 0)) := by rw [HG7.out.block hblr]; exact HBR.out
              have hb71 : w7.cell? ⟨w5.heap.size, 0, none⟩ = some (.int .i64 sx) := by simp [World.cell?, hB7]
              have hb72 : w7.cell? ⟨w5.heap.size, 1, none⟩ = some (.int .i64 sy) := by simp [World.cell?, hB7]
              have HB7 := Lib.hid hB7
              clear hB7 hHeld
              go_wp2
              refine wp_region_noPanic ?_
              refine wp_region_held_drew (S := fun W => Grew w5 W ∧ W.cell? ⟨bo, oo + k * 2, none⟩ = some (.int .i64 x1) ∧ W.cell? ⟨bo, oo + k * 2 + 1, none⟩ = some (.int .i64 y1)) (by kernel_rfl) (by exact HSW.out _ HG7o.out.drew) (fun hHeld => ?_)
              refine wpAnyH_take (i := 1) (oi := { dst := some 50, op := Op.move (Operand.tmp 4), type := 25, pos := _, after := #[], guard := none }) (v := ?_) rfl (by kernel_rfl) (by kernel_rfl) (by kernel_rfl) (fun _ _ _ h => h) (Or.inl ⟨by rfl, ?hy⟩) (by assumption) ?_
              case hy => (intro w hSw; (try dsimp only at hSw); go_simp; try with_reducible rfl)
              try simp only [Act.put, List.setIfInBounds_toArray, List.set_cons_zero, List.set_cons_succ]
              refine wpAnyH_take (i := 2) (oi := { dst := some 51, op := Op.move (Operand.tmp 6), type := 3, pos := _, after := #[], guard := none }) (v := ?_) rfl (by kernel_rfl) (by kernel_rfl) (by kernel_rfl) (fun _ _ _ h => h) (Or.inl ⟨by rfl, ?hy⟩) (by assumption) ?_
              case hy => (intro w hSw; (try dsimp only at hSw); go_simp; try with_reducible rfl)
              try simp only [Act.put, List.setIfInBounds_toArray, List.set_cons_zero, List.set_cons_succ]
              refine wpAnyH_take (i := 3) (oi := { dst := some 52, op := Op.indexAddr 25 (Operand.tmp 50) (Operand.tmp 51), type := 0, pos := _, after := #[{ on := 1, ground := Ground.data }, { on := 2, ground := Ground.data }], guard := none }) (v := ?_) rfl (by kernel_rfl) (by kernel_rfl) (by kernel_rfl) (fun _ _ _ h => h) (Or.inl ⟨by rfl, ?hy⟩) (by assumption) ?_
              case hy => (intro w hSw; (try dsimp only at hSw); go_simp; try with_reducible rfl)
              try simp only [Act.put, List.setIfInBounds_toArray, List.set_cons_zero, List.set_cons_succ]
              refine wpAnyH_take (i := 4) (oi := { dst := some 53, op := Op.load 29 (Operand.tmp 52), type := 29, pos := _, after := #[{ on := 3, ground := Ground.data }], guard := none }) (v := ?_) rfl (by kernel_rfl) (by kernel_rfl) (by kernel_rfl) (fun _ _ _ h => h) (Or.inl ⟨by rfl, ?hy⟩) (by assumption) ?_
              case hy => (intro w hSw; (try dsimp only at hSw); go_simp; try with_reducible rfl)
              try simp only [Act.put, List.setIfInBounds_toArray, List.set_cons_zero, List.set_cons_succ]
              refine wpAnyH_ready (rs := [0]) (by kernel_rfl) (by simp) ?_
              refine AllReadyH.cons (i := 0) (o := { dst := some 49, op := Op.load 29 (Operand.tmp 5), type := 29, pos := _, after := #[], guard := none }) rfl (fun KK hKK => ?_) AllReadyH.nil
              go_simp
              refine hKK.out _ _ (by exact hHeld) (fun hHeld => ?_)
              clear hKK KK
              try simp only [Act.put, List.setIfInBounds_toArray, List.set_cons_zero, List.set_cons_succ]
              refine wpAnyH_ready (rs := [5]) (by kernel_rfl) (by simp) ?_
              refine AllReadyH.cons (i := 5) (o := { dst := some 54, op := Op.call { callee := Callee.value (Operand.func 23), args := #[Operand.tmp 49, Operand.tmp 53], argTypes := #[29, 29] }, type := 29, pos := _, after := #[{ on := 0, ground := Ground.data }, { on := 4, ground := Ground.data }], guard := none }) rfl (fun KK hKK => ?_) AllReadyH.nil
              go_simp
              go_at_call 23
              refine (HPL.out _).mono ?_
              rintro e w8 ⟨rfl, hg8⟩
              have hB8 : w8.heap[w5.heap.size]? = some (.cells #[.int .i64 sx, .int .i64 sy] 29 (0, 0)) := by rw [(Grew.trans ((Grew.refl w7).drew) hg8).block hbl7]; exact HB7.out
              have hb81 : w8.cell? ⟨w5.heap.size, 0, none⟩ = some (.int .i64 sx) := by simp [World.cell?, hB8]
              have hb82 : w8.cell? ⟨w5.heap.size, 1, none⟩ = some (.int .i64 sy) := by simp [World.cell?, hB8]
              have hbf81 : w8.frozen? ⟨w5.heap.size, 0, none⟩ = false := by simp [World.frozen?, hB8]
              have hbf82 : w8.frozen? ⟨w5.heap.size, 1, none⟩ = false := by simp [World.frozen?, hB8]
              have HB8 := Lib.hid hB8
              have HG8 := Lib.hid (hHeld.1.trans hg8)
              clear hB8 hg8 hb71 hb72 hbl7
              refine hKK.out _ _ (by exact HSW.out _ HG8.out) (fun hHeld => ?_)
              clear hKK KK
              try simp only [Act.put, List.setIfInBounds_toArray, List.set_cons_zero, List.set_cons_succ]
              refine wpAnyH_ready (rs := [6]) (by kernel_rfl) (by simp) ?_
              refine AllReadyH.cons (i := 6) (o := { dst := none, op := Op.store 29 (Operand.tmp 5) (Operand.tmp 54), type := 0, pos := _, after := #[{ on := 5, ground := Ground.data }, { on := 5, ground := Ground.chain }, { on := 0, ground := Ground.phase }, { on := 1, ground := Ground.phase }, { on := 2, ground := Ground.phase }, { on := 3, ground := Ground.phase }, { on := 4, ground := Ground.phase }, { on := 5, ground := Ground.phase }], guard := none }) rfl (fun KK hKK => ?_) AllReadyH.nil
              go_simp
              refine hKK.out _ _ (by exact HSW.out _ (two_grewF (Nat.le_refl _) HG8.out)) (fun hHeld => ?_)
              clear hKK KK
              try simp only [Act.put, List.setIfInBounds_toArray, List.set_cons_zero, List.set_cons_succ]
              refine wpAnyH_done (by kernel_rfl) ?_ _
              refine NoPanic.normal ?_
              have HF : Hid (((w8.setCell ⟨w5.heap.size, 0, none⟩ (.int .i64 z1)).setCell ⟨w5.heap.size, 1, none⟩ (.int .i64 z2)).heap[w5.heap.size]? = some (.cells #[.int .i64 (sumS p (k + 1)).1, .int .i64 (sumS p (k + 1)).2] 29 (0, 0)) ∧ Grew w5 ((w8.setCell ⟨w5.heap.size, 0, none⟩ (.int .i64 z1)).setCell ⟨w5.heap.size, 1, none⟩ (.int .i64 z2))) := by
                rw [HZZ.out]
                exact ⟨two_heapF HB8.out, two_grewF (Nat.le_refl _) HG8.out⟩
              clear hHeld hb81 hb82 hbf81 hbf82
              go_wp2
              go_roundw
              case rel => exact ⟨k + 1, by go_num, by omega, HF.out⟩
              case measure => simp [intOf]; omega
            )
          · obtain ⟨q, eq⟩ : ∃ q, k = q + 1 := ⟨k - 1, by omega⟩
            have hqM : q < M.length := by omega
            have hqp : q < p.length := by omega
            have hz : (0 : Int) < (k : Int) := by omega
            have hz2 : 0 < k := hkp
            obtain ⟨nx0, ny0, eg, hx0, hy0, hz0⟩ := bestF_nats HP.out q hqp
            have hc3 := HK.out.2.cell (HCO.out q hqM).1
            have hc4 := HK.out.2.cell (HCO.out q hqM).2
            rw [HMI.out.2 q hqp, eg] at hc3 hc4
            simp only at hc3 hc4
            have hrise := best_rise (p := p) q (by omega)
            rw [← eq, eg, HEF.out] at hrise
            unfold leF at hrise
            simp only at hrise
            rw [HX1.out.1, HX1.out.2.2.1] at hrise
            obtain ⟨x0, ex0⟩ : ∃ x0 : Int, (nx0 : Int) = x0 := ⟨_, rfl⟩
            obtain ⟨y0, ey0⟩ : ∃ y0 : Int, (ny0 : Int) = y0 := ⟨_, rfl⟩
            rw [ex0] at hc3 hrise
            rw [ey0] at hc4 hrise
            have HLS : Hid (∀ W, Calls Try.prog 22 #[.agg #[.int .i64 x1, .int .i64 y1], .agg #[.int .i64 x0, .int .i64 y0]] W fun e w' => e = .returned (.bool false) ∧ Grew W w') := fun W => by
              have hX1 := HX1.out
              have := llessOf_any x1 y1 x0 y0 W (by omega) (by omega) (by omega) (by omega)
              rw [decide_eq_false (by omega)] at this
              exact this
            have HSG : Hid (∀ W, Grew wr W → Grew wr W ∧ (W.cell? ⟨bo, oo + k * 2, none⟩ = some (.int .i64 x1) ∧ W.cell? ⟨bo, oo + k * 2 + 1, none⟩ = some (.int .i64 y1)) ∧ W.cell? ⟨bo, oo + q * 2, none⟩ = some (.int .i64 x0) ∧ W.cell? ⟨bo, oo + q * 2 + 1, none⟩ = some (.int .i64 y0)) := fun W h => ⟨h, ⟨h.cell hc1, h.cell hc2⟩, h.cell hc3, h.cell hc4⟩
            have e1 : (k : Int) - 1 = (q : Int) := by omega
            have w3' : IntKind.i64.wrap (q : Int) = (q : Int) := wrap_12 _ (by omega) (by omega)
            have r3 : (q : Int) < M.length := by omega
            have r4 : (0 : Int) ≤ q := by omega
            have HEQ := Lib.hid eq
            clear hc1 hc2 hc3 hc4 eg hx0 hy0 hz0 hrise ex0 ey0 hkp eq
            ( go_wp2
              refine wp_region_noPanic ?_
              refine wp_region_held_drew (S := fun W => Grew wr W ∧ (W.cell? ⟨bo, oo + k * 2, none⟩ = some (.int .i64 x1) ∧ W.cell? ⟨bo, oo + k * 2 + 1, none⟩ = some (.int .i64 y1)) ∧ W.cell? ⟨bo, oo + q * 2, none⟩ = some (.int .i64 x0) ∧ W.cell? ⟨bo, oo + q * 2 + 1, none⟩ = some (.int .i64 y0)) (by kernel_rfl) (by exact HSG.out _ (Grew.refl wr).drew) (fun hHeld => ?_)
              refine wpAnyH_take (i := 0) (oi := { dst := some 35, op := Op.move (Operand.tmp 6), type := 3, pos := _, after := #[], guard := none }) (v := ?_) rfl (by kernel_rfl) (by kernel_rfl) (by kernel_rfl) (fun _ _ _ h => h) (Or.inl ⟨by rfl, ?hy⟩) (by assumption) ?_
              case hy => (intro w hSw; (try dsimp only at hSw); go_simp; try with_reducible rfl)
              try simp only [Act.put, List.setIfInBounds_toArray, List.set_cons_zero, List.set_cons_succ]
              refine wpAnyH_take (i := 1) (oi := { dst := some 36, op := Op.binOp BinOp.gtr 3 (Operand.tmp 35) (Operand.const (Value.int IntKind.i64 0)) 3, type := 4, pos := _, after := #[{ on := 0, ground := Ground.data }], guard := none }) (v := .bool true) rfl (by kernel_rfl) (by kernel_rfl) (by kernel_rfl) (fun _ _ _ h => h) (Or.inl ⟨by rfl, ?hy⟩) (by assumption) ?_
              case hy => (intro w hSw; (try dsimp only at hSw); go_simp <;> (try with_reducible rfl) <;> (try simp [hz, hz2]))
              try simp only [Act.put, List.setIfInBounds_toArray, List.set_cons_zero, List.set_cons_succ]
              refine wpAnyH_take (i := 2) (oi := { dst := some 37, op := Op.move (Operand.tmp 36), type := 4, pos := _, after := #[{ on := 1, ground := Ground.data }], guard := none }) (v := ?_) rfl (by kernel_rfl) (by kernel_rfl) (by kernel_rfl) (fun _ _ _ h => h) (Or.inl ⟨by rfl, ?hy⟩) (by assumption) ?_
              case hy => (intro w hSw; (try dsimp only at hSw); go_simp; try with_reducible rfl)
              try simp only [Act.put, List.setIfInBounds_toArray, List.set_cons_zero, List.set_cons_succ]
              refine wpAnyH_take (i := 3) (oi := { dst := some 38, op := Op.move (Operand.tmp 4), type := 25, pos := _, after := #[{ on := 2, ground := Ground.guard }], guard := some (2, true) }) (v := ?_) rfl (by kernel_rfl) (by kernel_rfl) (by kernel_rfl) (fun _ _ _ h => h) (Or.inl ⟨by rfl, ?hy⟩) (by assumption) ?_
              case hy => (intro w hSw; (try dsimp only at hSw); go_simp; try with_reducible rfl)
              try simp only [Act.put, List.setIfInBounds_toArray, List.set_cons_zero, List.set_cons_succ]
              refine wpAnyH_take (i := 4) (oi := { dst := some 39, op := Op.move (Operand.tmp 6), type := 3, pos := _, after := #[{ on := 2, ground := Ground.guard }], guard := some (2, true) }) (v := ?_) rfl (by kernel_rfl) (by kernel_rfl) (by kernel_rfl) (fun _ _ _ h => h) (Or.inl ⟨by rfl, ?hy⟩) (by assumption) ?_
              case hy => (intro w hSw; (try dsimp only at hSw); go_simp; try with_reducible rfl)
              try simp only [Act.put, List.setIfInBounds_toArray, List.set_cons_zero, List.set_cons_succ]
              refine wpAnyH_take (i := 5) (oi := { dst := some 40, op := Op.indexAddr 25 (Operand.tmp 38) (Operand.tmp 39), type := 0, pos := _, after := #[{ on := 3, ground := Ground.data }, { on := 4, ground := Ground.data }, { on := 2, ground := Ground.guard }], guard := some (2, true) }) (v := ?_) rfl (by kernel_rfl) (by kernel_rfl) (by kernel_rfl) (fun _ _ _ h => h) (Or.inl ⟨by rfl, ?hy⟩) (by assumption) ?_
              case hy => (intro w hSw; (try dsimp only at hSw); go_simp; try with_reducible rfl)
              try simp only [Act.put, List.setIfInBounds_toArray, List.set_cons_zero, List.set_cons_succ]
              refine wpAnyH_take (i := 6) (oi := { dst := some 41, op := Op.load 29 (Operand.tmp 40), type := 29, pos := _, after := #[{ on := 5, ground := Ground.data }, { on := 2, ground := Ground.guard }], guard := some (2, true) }) (v := ?_) rfl (by kernel_rfl) (by kernel_rfl) (by kernel_rfl) (fun _ _ _ h => h) (Or.inl ⟨by rfl, ?hy⟩) (by assumption) ?_
              case hy => (intro w hSw; (try dsimp only at hSw); go_simp; try with_reducible rfl)
              try simp only [Act.put, List.setIfInBounds_toArray, List.set_cons_zero, List.set_cons_succ]
              refine wpAnyH_take (i := 7) (oi := { dst := some 42, op := Op.move (Operand.tmp 4), type := 25, pos := _, after := #[{ on := 2, ground := Ground.guard }], guard := some (2, true) }) (v := ?_) rfl (by kernel_rfl) (by kernel_rfl) (by kernel_rfl) (fun _ _ _ h => h) (Or.inl ⟨by rfl, ?hy⟩) (by assumption) ?_
              case hy => (intro w hSw; (try dsimp only at hSw); go_simp; try with_reducible rfl)
              try simp only [Act.put, List.setIfInBounds_toArray, List.set_cons_zero, List.set_cons_succ]
              refine wpAnyH_take (i := 8) (oi := { dst := some 43, op := Op.move (Operand.tmp 6), type := 3, pos := _, after := #[{ on := 2, ground := Ground.guard }], guard := some (2, true) }) (v := ?_) rfl (by kernel_rfl) (by kernel_rfl) (by kernel_rfl) (fun _ _ _ h => h) (Or.inl ⟨by rfl, ?hy⟩) (by assumption) ?_
              case hy => (intro w hSw; (try dsimp only at hSw); go_simp; try with_reducible rfl)
              try simp only [Act.put, List.setIfInBounds_toArray, List.set_cons_zero, List.set_cons_succ]
              refine wpAnyH_take (i := 9) (oi := { dst := some 44, op := Op.binOp BinOp.sub 3 (Operand.tmp 43) (Operand.const (Value.int IntKind.i64 1)) 3, type := 3, pos := _, after := #[{ on := 8, ground := Ground.data }, { on := 2, ground := Ground.guard }], guard := some (2, true) }) (v := ?_) rfl (by kernel_rfl) (by kernel_rfl) (by kernel_rfl) (fun _ _ _ h => h) (Or.inl ⟨by rfl, ?hy⟩) (by assumption) ?_
              case hy => (intro w hSw; (try dsimp only at hSw); go_simp; try with_reducible rfl)
              try simp only [Act.put, List.setIfInBounds_toArray, List.set_cons_zero, List.set_cons_succ]
              refine wpAnyH_take (i := 10) (oi := { dst := some 45, op := Op.indexAddr 25 (Operand.tmp 42) (Operand.tmp 44), type := 0, pos := _, after := #[{ on := 7, ground := Ground.data }, { on := 9, ground := Ground.data }, { on := 2, ground := Ground.guard }], guard := some (2, true) }) (v := ?_) rfl (by kernel_rfl) (by kernel_rfl) (by kernel_rfl) (fun _ _ _ h => h) (Or.inl ⟨by rfl, ?hy⟩) (by assumption) ?_
              case hy => (intro w hSw; (try dsimp only at hSw); go_simp; try with_reducible rfl)
              try simp only [Act.put, List.setIfInBounds_toArray, List.set_cons_zero, List.set_cons_succ]
              refine wpAnyH_take (i := 11) (oi := { dst := some 46, op := Op.load 29 (Operand.tmp 45), type := 29, pos := _, after := #[{ on := 10, ground := Ground.data }, { on := 2, ground := Ground.guard }], guard := some (2, true) }) (v := ?_) rfl (by kernel_rfl) (by kernel_rfl) (by kernel_rfl) (fun _ _ _ h => h) (Or.inl ⟨by rfl, ?hy⟩) (by assumption) ?_
              case hy => (intro w hSw; (try dsimp only at hSw); go_simp; try with_reducible rfl)
              try simp only [Act.put, List.setIfInBounds_toArray, List.set_cons_zero, List.set_cons_succ]
              refine wpAnyH_ready (rs := [12]) (by kernel_rfl) (by simp) ?_
              refine AllReadyH.cons (i := 12) (o := { dst := some 47, op := Op.call { callee := Callee.value (Operand.func 22), args := #[Operand.tmp 41, Operand.tmp 46], argTypes := #[29, 29] }, type := 4, pos := _, after := #[{ on := 6, ground := Ground.data }, { on := 11, ground := Ground.data }, { on := 2, ground := Ground.chain }, { on := 2, ground := Ground.guard }], guard := some (2, true) }) rfl (fun KK hKK => ?_) AllReadyH.nil
              go_simp
              go_at_call 22
              refine (HLS.out _).mono ?_
              rintro e w7 ⟨rfl, hg7⟩
              have HG7 := Lib.hid (hHeld.1.trans hg7)
              clear hg7
              refine hKK.out _ _ (by exact HSG.out _ HG7.out) (fun hHeld => ?_)
              clear hKK KK
              try simp only [Act.put, List.setIfInBounds_toArray, List.set_cons_zero, List.set_cons_succ]
              refine wpAnyH_take (i := 13) (oi := { dst := some 48, op := Op.pick (Operand.tmp 37) (Operand.tmp 47) (Operand.const (Value.bool false)), type := 4, pos := _, after := #[{ on := 2, ground := Ground.data }, { on := 12, ground := Ground.data }], guard := none }) (v := ?_) rfl (by kernel_rfl) (by kernel_rfl) (by kernel_rfl) (fun _ _ _ h => h) (Or.inl ⟨by rfl, ?hy⟩) (by assumption) ?_
              case hy => (intro w hSw; (try dsimp only at hSw); go_simp; try with_reducible rfl)
              try simp only [Act.put, List.setIfInBounds_toArray, List.set_cons_zero, List.set_cons_succ]
              refine wpAnyH_done (by kernel_rfl) ?_ _
              refine NoPanic.normal ?_
              clear e1 w3' r3 r4 hz hz2
              have HG7o := Lib.hid (HK.out.2.trans HG7.out)
              have hbl7 : w5.heap.size < w7.heap.size := Nat.lt_of_lt_of_le hblr HG7.out.size
              have hB7 : w7.heap[w5.heap.size]? = some (.cells #[.int .i64 sx, .int .i64 sy] 29 (0, 0)) := by rw [HG7.out.block hblr]; exact HBR.out
              have hb71 : w7.cell? ⟨w5.heap.size, 0, none⟩ = some (.int .i64 sx) := by simp [World.cell?, hB7]
              have hb72 : w7.cell? ⟨w5.heap.size, 1, none⟩ = some (.int .i64 sy) := by simp [World.cell?, hB7]
              have HB7 := Lib.hid hB7
              clear hB7 hHeld
              go_wp2
              refine wp_region_noPanic ?_
              refine wp_region_held_drew (S := fun W => Grew w5 W ∧ W.cell? ⟨bo, oo + k * 2, none⟩ = some (.int .i64 x1) ∧ W.cell? ⟨bo, oo + k * 2 + 1, none⟩ = some (.int .i64 y1)) (by kernel_rfl) (by exact HSW.out _ HG7o.out.drew) (fun hHeld => ?_)
              refine wpAnyH_take (i := 1) (oi := { dst := some 50, op := Op.move (Operand.tmp 4), type := 25, pos := _, after := #[], guard := none }) (v := ?_) rfl (by kernel_rfl) (by kernel_rfl) (by kernel_rfl) (fun _ _ _ h => h) (Or.inl ⟨by rfl, ?hy⟩) (by assumption) ?_
              case hy => (intro w hSw; (try dsimp only at hSw); go_simp; try with_reducible rfl)
              try simp only [Act.put, List.setIfInBounds_toArray, List.set_cons_zero, List.set_cons_succ]
              refine wpAnyH_take (i := 2) (oi := { dst := some 51, op := Op.move (Operand.tmp 6), type := 3, pos := _, after := #[], guard := none }) (v := ?_) rfl (by kernel_rfl) (by kernel_rfl) (by kernel_rfl) (fun _ _ _ h => h) (Or.inl ⟨by rfl, ?hy⟩) (by assumption) ?_
              case hy => (intro w hSw; (try dsimp only at hSw); go_simp; try with_reducible rfl)
              try simp only [Act.put, List.setIfInBounds_toArray, List.set_cons_zero, List.set_cons_succ]
              refine wpAnyH_take (i := 3) (oi := { dst := some 52, op := Op.indexAddr 25 (Operand.tmp 50) (Operand.tmp 51), type := 0, pos := _, after := #[{ on := 1, ground := Ground.data }, { on := 2, ground := Ground.data }], guard := none }) (v := ?_) rfl (by kernel_rfl) (by kernel_rfl) (by kernel_rfl) (fun _ _ _ h => h) (Or.inl ⟨by rfl, ?hy⟩) (by assumption) ?_
              case hy => (intro w hSw; (try dsimp only at hSw); go_simp; try with_reducible rfl)
              try simp only [Act.put, List.setIfInBounds_toArray, List.set_cons_zero, List.set_cons_succ]
              refine wpAnyH_take (i := 4) (oi := { dst := some 53, op := Op.load 29 (Operand.tmp 52), type := 29, pos := _, after := #[{ on := 3, ground := Ground.data }], guard := none }) (v := ?_) rfl (by kernel_rfl) (by kernel_rfl) (by kernel_rfl) (fun _ _ _ h => h) (Or.inl ⟨by rfl, ?hy⟩) (by assumption) ?_
              case hy => (intro w hSw; (try dsimp only at hSw); go_simp; try with_reducible rfl)
              try simp only [Act.put, List.setIfInBounds_toArray, List.set_cons_zero, List.set_cons_succ]
              refine wpAnyH_ready (rs := [0]) (by kernel_rfl) (by simp) ?_
              refine AllReadyH.cons (i := 0) (o := { dst := some 49, op := Op.load 29 (Operand.tmp 5), type := 29, pos := _, after := #[], guard := none }) rfl (fun KK hKK => ?_) AllReadyH.nil
              go_simp
              refine hKK.out _ _ (by exact hHeld) (fun hHeld => ?_)
              clear hKK KK
              try simp only [Act.put, List.setIfInBounds_toArray, List.set_cons_zero, List.set_cons_succ]
              refine wpAnyH_ready (rs := [5]) (by kernel_rfl) (by simp) ?_
              refine AllReadyH.cons (i := 5) (o := { dst := some 54, op := Op.call { callee := Callee.value (Operand.func 23), args := #[Operand.tmp 49, Operand.tmp 53], argTypes := #[29, 29] }, type := 29, pos := _, after := #[{ on := 0, ground := Ground.data }, { on := 4, ground := Ground.data }], guard := none }) rfl (fun KK hKK => ?_) AllReadyH.nil
              go_simp
              go_at_call 23
              refine (HPL.out _).mono ?_
              rintro e w8 ⟨rfl, hg8⟩
              have hB8 : w8.heap[w5.heap.size]? = some (.cells #[.int .i64 sx, .int .i64 sy] 29 (0, 0)) := by rw [(Grew.trans ((Grew.refl w7).drew) hg8).block hbl7]; exact HB7.out
              have hb81 : w8.cell? ⟨w5.heap.size, 0, none⟩ = some (.int .i64 sx) := by simp [World.cell?, hB8]
              have hb82 : w8.cell? ⟨w5.heap.size, 1, none⟩ = some (.int .i64 sy) := by simp [World.cell?, hB8]
              have hbf81 : w8.frozen? ⟨w5.heap.size, 0, none⟩ = false := by simp [World.frozen?, hB8]
              have hbf82 : w8.frozen? ⟨w5.heap.size, 1, none⟩ = false := by simp [World.frozen?, hB8]
              have HB8 := Lib.hid hB8
              have HG8 := Lib.hid (hHeld.1.trans hg8)
              clear hB8 hg8 hb71 hb72 hbl7
              refine hKK.out _ _ (by exact HSW.out _ HG8.out) (fun hHeld => ?_)
              clear hKK KK
              try simp only [Act.put, List.setIfInBounds_toArray, List.set_cons_zero, List.set_cons_succ]
              refine wpAnyH_ready (rs := [6]) (by kernel_rfl) (by simp) ?_
              refine AllReadyH.cons (i := 6) (o := { dst := none, op := Op.store 29 (Operand.tmp 5) (Operand.tmp 54), type := 0, pos := _, after := #[{ on := 5, ground := Ground.data }, { on := 5, ground := Ground.chain }, { on := 0, ground := Ground.phase }, { on := 1, ground := Ground.phase }, { on := 2, ground := Ground.phase }, { on := 3, ground := Ground.phase }, { on := 4, ground := Ground.phase }, { on := 5, ground := Ground.phase }], guard := none }) rfl (fun KK hKK => ?_) AllReadyH.nil
              go_simp
              refine hKK.out _ _ (by exact HSW.out _ (two_grewF (Nat.le_refl _) HG8.out)) (fun hHeld => ?_)
              clear hKK KK
              try simp only [Act.put, List.setIfInBounds_toArray, List.set_cons_zero, List.set_cons_succ]
              refine wpAnyH_done (by kernel_rfl) ?_ _
              refine NoPanic.normal ?_
              have HF : Hid (((w8.setCell ⟨w5.heap.size, 0, none⟩ (.int .i64 z1)).setCell ⟨w5.heap.size, 1, none⟩ (.int .i64 z2)).heap[w5.heap.size]? = some (.cells #[.int .i64 (sumS p (k + 1)).1, .int .i64 (sumS p (k + 1)).2] 29 (0, 0)) ∧ Grew w5 ((w8.setCell ⟨w5.heap.size, 0, none⟩ (.int .i64 z1)).setCell ⟨w5.heap.size, 1, none⟩ (.int .i64 z2))) := by
                rw [HZZ.out]
                exact ⟨two_heapF HB8.out, two_grewF (Nat.le_refl _) HG8.out⟩
              clear hHeld hb81 hb82 hbf81 hbf82
              go_wp2
              go_roundw
              case rel => exact ⟨k + 1, by go_num, by omega, HF.out⟩
              case measure => simp [intOf]; omega
            )
        · obtain rfl : k = p.length := by omega
          have hB := HK.out.1
          rw [sumS_all HP.out] at hB
          simp only at hB
          have hT0 : 0 ≤ sumK p p.length ∧ sumK p p.length ≤ 108 := by
            have := sumP_bd HP.out 0 p.length (Nat.le_refl _)
            have e := sumP_K p 0 p.length
            rw [Nat.zero_add] at e
            have e0 : sumK p 0 = 0 := rfl
            omega
          obtain ⟨T, eT⟩ : ∃ T, sumK p p.length = T := ⟨_, rfl⟩
          rw [eT] at hB hT0
          have HSB : Hid (∀ W, Grew w5 W → Calls Try.prog 24 #[.slice a3 p.length c3] W (FracPost W M)) := fun W hW => by
            have := SmoothByMeans_any _ p W (HV.out.1.grew (HG5.out.trans hW))
            rw [← stackX_means, HM.out] at this
            exact this
          have HTO : Hid (∀ W, Grew w5 W → Calls Try.prog 25 #[.slice a3 p.length c3] W fun e w' => e = .returned (.int .i64 T) ∧ W = w') := fun W hW => by
            have := totalOf_any _ p W (HV.out.1.grew (HG5.out.trans hW)) (by omega) (fun i hi => by have := HB.out i hi; omega)
            have e : sumTo (fun i => p.getD i 0) p.length = T := eT
            rw [e] at this
            exact this
          have HFT : Hid (∀ W, Calls Try.prog 21 #[.int .i64 T, .int .i64 1] W fun e w' => e = .returned (.agg #[.int .i64 T, .int .i64 1]) ∧ Grew W w') := fun W => by
            obtain ⟨n, rfl⟩ := Int.eq_ofNat_of_zero_le hT0.1
            have := lfracOf_any n 1 W (by omega) (by decide) (by decide)
            have e : frL n 1 = ((n : Int), 1) := by have := frL_whole n 1 (by decide); rwa [Nat.mul_one] at this
            rw [e] at this
            exact this
          have heq : ∀ W, (binOp .eql 29 (.agg #[.int .i64 T, .int .i64 1]) (.agg #[.int .i64 T, .int .i64 1])).run Try.prog W = .ok (.bool true) W := fun W => by
            have := eqlFr T 1 T 1 W
            simpa using this
          have hgd := fun op x y xs ys W => guardFr op x y xs ys W
          have hc1 : wr.cell? ⟨w5.heap.size, 0, none⟩ = some (.int .i64 T) := by simp [World.cell?, hB]
          have hc2 : wr.cell? ⟨w5.heap.size, 1, none⟩ = some (.int .i64 1) := by simp [World.cell?, hB]
          have r1 : ¬ ((p.length : Int) < (M.length : Int)) := by have := HMI.out.1; omega
          clear hB hT0 eT
          go_wp2
          refine wp_region_noPanic ?_
          refine wp_region_held_drew (S := fun W => Grew w5 W ∧ W.cell? ⟨w5.heap.size, 0, none⟩ = some (.int .i64 T) ∧ W.cell? ⟨w5.heap.size, 1, none⟩ = some (.int .i64 1)) (by kernel_rfl) (by exact ⟨HK.out.2.drew, ((Grew.refl wr).drew).cell hc1, ((Grew.refl wr).drew).cell hc2⟩) (fun hHeld => ?_)
          refine wpAnyH_take (i := 0) (oi := { dst := some 55, op := Op.move (Operand.tmp 3), type := 23, pos := _, after := #[], guard := none }) (v := ?_) rfl (by kernel_rfl) (by kernel_rfl) (by kernel_rfl) (fun _ _ _ h => h) (Or.inl ⟨by rfl, ?hy⟩) (by assumption) ?_
          case hy => (intro w hSw; (try dsimp only at hSw); go_simp; try with_reducible rfl)
          try simp only [Act.put, List.setIfInBounds_toArray, List.set_cons_zero, List.set_cons_succ]
          refine wpAnyH_take (i := 2) (oi := { dst := some 57, op := Op.move (Operand.tmp 4), type := 25, pos := _, after := #[], guard := none }) (v := ?_) rfl (by kernel_rfl) (by kernel_rfl) (by kernel_rfl) (fun _ _ _ h => h) (Or.inl ⟨by rfl, ?hy⟩) (by assumption) ?_
          case hy => (intro w hSw; (try dsimp only at hSw); go_simp; try with_reducible rfl)
          try simp only [Act.put, List.setIfInBounds_toArray, List.set_cons_zero, List.set_cons_succ]
          refine wpAnyH_ready (rs := [1]) (by kernel_rfl) (by simp) ?_
          refine AllReadyH.cons (i := 1) (o := { dst := some 56, op := Op.call { callee := Callee.value (Operand.func 24), args := #[Operand.tmp 55], argTypes := #[23] }, type := 25, pos := _, after := #[{ on := 0, ground := Ground.data }], guard := none }) rfl (fun KK hKK => ?_) AllReadyH.nil
          go_simp
          go_at_call 24
          refine (HSB.out _ hHeld.1).mono ?_
          rintro e w10 ⟨v10, rfl, hO10, hg10⟩
          obtain ⟨a10, c10, rfl⟩ := hO10.sh
          have HO10 := Lib.hid hO10
          have HG10 := Lib.hid hg10
          clear hO10 hg10
          refine hKK.out _ _ (by exact ⟨hHeld.1.trans HG10.out, (HG10.out).cell hHeld.2.1, (HG10.out).cell hHeld.2.2⟩) (fun hHeld => ?_)
          clear hKK KK
          try simp only [Act.put, List.setIfInBounds_toArray, List.set_cons_zero, List.set_cons_succ]
          refine wpAnyH_ready (rs := [3]) (by kernel_rfl) (by simp) ?_
          refine AllReadyH.cons (i := 3) (o := { dst := some 58, op := Op.call { callee := Callee.value (Operand.func 19), args := #[Operand.tmp 56, Operand.tmp 57], argTypes := #[25, 25] }, type := 4, pos := _, after := #[{ on := 1, ground := Ground.data }, { on := 2, ground := Ground.data }, { on := 1, ground := Ground.chain }], guard := none }) rfl (fun KK hKK => ?_) AllReadyH.nil
          go_simp
          go_at_call 19
          refine (equalFracs_any _ _ M M _ HO10.out.toV (HMV.out.grew hHeld.1)).mono ?_
          rw [decide_eq_true (rfl : M = M)]
          rintro e w11 ⟨rfl, hq11⟩
          have HG11 := Lib.hid (quiet_grew hq11)
          clear hq11
          refine hKK.out _ _ (by exact ⟨hHeld.1.trans HG11.out, (HG11.out).cell hHeld.2.1, (HG11.out).cell hHeld.2.2⟩) (fun hHeld => ?_)
          clear hKK KK
          try simp only [Act.put, List.setIfInBounds_toArray, List.set_cons_zero, List.set_cons_succ]
          refine wpAnyH_take (i := 4) (oi := { dst := some 59, op := Op.move (Operand.tmp 58), type := 4, pos := _, after := #[{ on := 3, ground := Ground.data }, { on := 3, ground := Ground.chain }], guard := none }) (v := .bool true) rfl (by kernel_rfl) (by kernel_rfl) (by kernel_rfl) (fun _ _ _ h => h) (Or.inl ⟨by rfl, ?hy⟩) (by assumption) ?_
          case hy => (intro w hSw; (try dsimp only at hSw); go_simp <;> (try with_reducible rfl) <;> (try simp [*]))
          try simp only [Act.put, List.setIfInBounds_toArray, List.set_cons_zero, List.set_cons_succ]
          refine wpAnyH_take (i := 5) (oi := { dst := some 60, op := Op.load 29 (Operand.tmp 5), type := 29, pos := _, after := #[{ on := 4, ground := Ground.guard }], guard := some (4, true) }) (v := ?_) rfl (by kernel_rfl) (by kernel_rfl) (by kernel_rfl) (fun _ _ _ h => h) (Or.inl ⟨by rfl, ?hy⟩) (by assumption) ?_
          case hy => (intro w hSw; (try dsimp only at hSw); go_simp; try with_reducible rfl)
          try simp only [Act.put, List.setIfInBounds_toArray, List.set_cons_zero, List.set_cons_succ]
          refine wpAnyH_take (i := 6) (oi := { dst := some 61, op := Op.move (Operand.tmp 3), type := 23, pos := _, after := #[{ on := 4, ground := Ground.guard }], guard := some (4, true) }) (v := ?_) rfl (by kernel_rfl) (by kernel_rfl) (by kernel_rfl) (fun _ _ _ h => h) (Or.inl ⟨by rfl, ?hy⟩) (by assumption) ?_
          case hy => (intro w hSw; (try dsimp only at hSw); go_simp; try with_reducible rfl)
          try simp only [Act.put, List.setIfInBounds_toArray, List.set_cons_zero, List.set_cons_succ]
          refine wpAnyH_ready (rs := [7]) (by kernel_rfl) (by simp) ?_
          refine AllReadyH.cons (i := 7) (o := { dst := some 62, op := Op.call { callee := Callee.value (Operand.func 25), args := #[Operand.tmp 61], argTypes := #[23] }, type := 3, pos := _, after := #[{ on := 6, ground := Ground.data }, { on := 4, ground := Ground.chain }, { on := 4, ground := Ground.guard }], guard := some (4, true) }) rfl (fun KK hKK => ?_) AllReadyH.nil
          go_simp
          go_at_call 25
          refine (HTO.out _ hHeld.1).mono ?_
          rintro e w12 ⟨rfl, rfl⟩
          refine hKK.out _ _ (by exact hHeld) (fun hHeld => ?_)
          clear hKK KK
          try simp only [Act.put, List.setIfInBounds_toArray, List.set_cons_zero, List.set_cons_succ]
          refine wpAnyH_ready (rs := [8]) (by kernel_rfl) (by simp) ?_
          refine AllReadyH.cons (i := 8) (o := { dst := some 63, op := Op.call { callee := Callee.value (Operand.func 21), args := #[Operand.tmp 62, Operand.const (Value.int IntKind.i64 1)], argTypes := #[3, 3] }, type := 29, pos := _, after := #[{ on := 7, ground := Ground.data }, { on := 7, ground := Ground.chain }, { on := 4, ground := Ground.guard }], guard := some (4, true) }) rfl (fun KK hKK => ?_) AllReadyH.nil
          go_simp
          go_at_call 21
          refine (HFT.out _).mono ?_
          rintro e w13 ⟨rfl, hg13⟩
          have HG13 := Lib.hid hg13
          clear hg13
          refine hKK.out _ _ (by exact ⟨hHeld.1.trans HG13.out, (HG13.out).cell hHeld.2.1, (HG13.out).cell hHeld.2.2⟩) (fun hHeld => ?_)
          clear hKK KK
          try simp only [Act.put, List.setIfInBounds_toArray, List.set_cons_zero, List.set_cons_succ]
          refine wpAnyH_take (i := 9) (oi := { dst := some 64, op := Op.binOp BinOp.eql 29 (Operand.tmp 60) (Operand.tmp 63) 29, type := 4, pos := _, after := #[{ on := 5, ground := Ground.data }, { on := 8, ground := Ground.data }, { on := 4, ground := Ground.guard }], guard := some (4, true) }) (v := ?_) rfl (by kernel_rfl) (by kernel_rfl) (by kernel_rfl) (fun _ _ _ h => h) (Or.inl ⟨by rfl, ?hy⟩) (by assumption) ?_
          case hy => (intro w hSw; (try dsimp only at hSw); go_simp; try with_reducible rfl)
          try simp only [Act.put, List.setIfInBounds_toArray, List.set_cons_zero, List.set_cons_succ]
          refine wpAnyH_take (i := 10) (oi := { dst := some 65, op := Op.pick (Operand.tmp 59) (Operand.tmp 64) (Operand.const (Value.bool false)), type := 4, pos := _, after := #[{ on := 4, ground := Ground.data }, { on := 9, ground := Ground.data }], guard := none }) (v := ?_) rfl (by kernel_rfl) (by kernel_rfl) (by kernel_rfl) (fun _ _ _ h => h) (Or.inl ⟨by rfl, ?hy⟩) (by assumption) ?_
          case hy => (intro w hSw; (try dsimp only at hSw); go_simp; try with_reducible rfl)
          try simp only [Act.put, List.setIfInBounds_toArray, List.set_cons_zero, List.set_cons_succ]
          refine wpAnyH_take (i := 11) (oi := { dst := some 2, op := Op.assign (Operand.tmp 65), type := 4, pos := _, after := #[{ on := 10, ground := Ground.data }, { on := 8, ground := Ground.chain }, { on := 0, ground := Ground.phase }, { on := 1, ground := Ground.phase }, { on := 2, ground := Ground.phase }, { on := 3, ground := Ground.phase }, { on := 4, ground := Ground.phase }, { on := 5, ground := Ground.phase }, { on := 6, ground := Ground.phase }, { on := 7, ground := Ground.phase }, { on := 8, ground := Ground.phase }, { on := 9, ground := Ground.phase }, { on := 10, ground := Ground.phase }], guard := none }) (v := ?_) rfl (by kernel_rfl) (by kernel_rfl) (by kernel_rfl) (fun _ _ _ h => h) (Or.inl ⟨by rfl, ?hy⟩) (by assumption) ?_
          case hy => (intro w hSw; (try dsimp only at hSw); go_simp; try with_reducible rfl)
          try simp only [Act.put, List.setIfInBounds_toArray, List.set_cons_zero, List.set_cons_succ]
          refine wpAnyH_done (by kernel_rfl) ?_ _
          refine NoPanic.normal ?_
          have HF := Lib.hid hHeld.1
          clear hHeld
          go_wp2
          go_ret
          exact ⟨rfl, HV.out.2.trans (HG5.out.trans HF.out)⟩
end Go.Proofs.Ytlifjhhjkcmneaa
