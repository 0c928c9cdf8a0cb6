/- The law FnPyramidsAreSums returns true. -/
import Derived.Test.YtkeeonjbkfgeeaaPyr
import Derived.Test.YtkeeonjbkfgeeaaLawSumsOf
import Derived.Test.YtkeeonjbkfgeeaaSumIn
namespace Go.Proofs.Ytkeeonjbkfgeeaa
open Go.RowKit

set_option maxRecDepth 100000 in
set_option maxHeartbeats 8000000 in
theorem FnPyramidsAreSums_any (v : Value) (bs : List Int) (w : World) (hv : NumsV .u8 w v bs) (hb : ∀ i, i < bs.length → 0 ≤ bs.getD i 0 ∧ bs.getD i 0 ≤ 255) :
    Calls Try.prog 7 #[v] w fun e w' => e = .returned (.bool true) ∧ Grew w w' := by
  have HD := Lib.hid (DrawPyramidOf_any v bs w hv hb)
  obtain ⟨a, b', o, c, rfl, ⟨hlc, hcb⟩, _, _⟩ := hv.shape
  clear hv hb
  by_cases hbig : 1048576 < bs.length
  · go_enter Try.func7, Try.ntmps7
    go_wp2
    go_ret
    exact ⟨rfl, Grew.refl _⟩
  · go_enter Try.func7, Try.ntmps7
    go_wp2_with (fail)
    refine HD.out.mono ?_
    rintro e w1 ⟨v1, H, rfl, hO, hd, hg1⟩
    have HV := Lib.hid (And.intro hO.toV hg1)
    obtain ⟨a3, c3, rfl⟩ := hO.sh
    obtain ⟨Q, eQ⟩ : ∃ Q, sumsX H = Q := ⟨_, rfl⟩
    have HQ := Lib.hid eQ
    clear hO hd hg1 HD eQ
    go_wp2_with (fail)
    refine (SumsOf_any _ H _ HV.out.1).mono ?_
    rw [HQ.out]
    rintro e w2 ⟨v2, rfl, hO2, hg2⟩
    have H2 := Lib.hid (And.intro hO2 hg2)
    obtain ⟨a2, c2, rfl⟩ := hO2.sh
    clear hO2 hg2
    go_wp2_with (fail)
    refine (SSumsOf_any _ H _ (HV.out.1.grew H2.out.2)).mono ?_
    rw [HQ.out]
    rintro e w3 ⟨v3, rfl, hO3, hg3⟩
    have H3 := Lib.hid (And.intro hO3.toV (H2.out.2.trans hg3))
    have H23 := Lib.hid (H2.out.1.grew hg3)
    obtain ⟨a4, c4, rfl⟩ := hO3.sh
    clear hO3 hg3
    go_wp2_with (fail)
    refine (equalRows_any _ _ Q Q _ H23.out.toV H3.out.1).mono ?_
    rw [decide_eq_true (rfl : Q = Q)]
    rintro e w4 ⟨rfl, hq⟩
    have HG4 := Lib.hid (H3.out.2.trans (quiet_grew hq))
    clear hq H2 H23 H3 HQ
    obtain ⟨R, eR⟩ : ∃ R, pyrX H = R := ⟨_, rfl⟩
    have HR := Lib.hid eR
    clear eR
    go_wp2_with (fail)
    refine (PyramidOf_any _ H _ (HV.out.1.grew HG4.out)).mono ?_
    rw [HR.out]
    rintro e w5 ⟨v5, rfl, hO5, hg5⟩
    have H5 := Lib.hid (And.intro hO5 (HG4.out.trans hg5))
    obtain ⟨a5, c5, rfl⟩ := hO5.sh
    clear hO5 hg5
    by_cases hS : R.length < 2
    · have hS' : (R.length : Int) < 2 := by omega
      clear hS
      go_wp2
      go_ret
      exact ⟨rfl, HV.out.2.trans H5.out.2⟩
    · have hvg : vGrid H = true := by
        cases hx : vGrid H with
        | true => rfl
        | false =>
          exfalso
          apply hS
          rw [← HR.out]
          unfold pyrX
          rw [hx]
          simp
      have G := Grid.of hvg
      obtain ⟨m, em⟩ : ∃ m, (H.getD 0 []).length = m := ⟨_, rfl⟩
      obtain ⟨n, en⟩ : ∃ n, H.length = n := ⟨_, rfl⟩
      rw [em] at G
      have hRe : R = pyrL H m := by
        rw [← HR.out]
        unfold pyrX
        rw [if_pos hvg, em]
      have hn1 := G.n1
      have hn5 := G.n5
      have hm1 := G.m1
      have hm5 := G.m5
      have hRl : R.length = deps H.length m + 1 := by rw [hRe]; exact pyrL_len _ _
      have hRa : R.getD 1 [] = pyrLv (cellS H) H.length m 1 := by rw [hRe]; exact pyrL_at _ _ _ (by omega)
      obtain ⟨gO, cO, eO, _⟩ := H5.out.1.pos (by omega)
      simp only [Value.slice.injEq, true_and] at eO
      obtain ⟨rfl, rfl⟩ := eO
      obtain ⟨u, hcu, hu⟩ := H5.out.1.at rfl (j := 1) (by omega)
      rw [hRa] at hu
      have huV := hu.toV
      unfold pyrLv at huV
      rw [show hlfN 1 H.length = hlf H.length from rfl, show hlfN 1 m = hlf m from rfl, show pyrF (cellS H) 1 = quadS (cellS H) from rfl] at huV
      have hqp := fun r c h1 h2 => quad_part (h := H) G.len r c h1 h2
      have hpb := fun t l b r h1 h2 => partS_bd G t l b r h1 h2
      rw [en] at huV hqp hn1 hn5 hpb
      obtain ⟨n2, en2⟩ : ∃ n2, hlf n = n2 := ⟨_, rfl⟩
      obtain ⟨m2, em2⟩ : ∃ m2, hlf m = m2 := ⟨_, rfl⟩
      have hn2 : 1 ≤ n2 ∧ n2 ≤ 3 ∧ ∀ k, k < n2 → 2 * k < n := by rw [← en2]; unfold hlf; exact ⟨by omega, by omega, fun k hk => by omega⟩
      have hm2 : 1 ≤ m2 ∧ m2 ≤ 3 ∧ ∀ k, k < m2 → 2 * k < m := by rw [← em2]; unfold hlf; exact ⟨by omega, by omega, fun k hk => by omega⟩
      rw [en2, em2] at huV
      obtain ⟨b6, o6, c6, rfl, _, HC6⟩ := tab_cells huV hn2.1 hm2.1
      have HCU : Hid (∀ W, Grew w5 W → W.cell? ⟨gO, 1, none⟩ = some (.slice (some ⟨b6, o6, none⟩) n2 c6)) := Lib.hid fun W hW => hW.cell hcu
      have HQP := Lib.hid hqp
      have HSI : Hid (∀ (t l b r : Nat) W, t ≤ b → b ≤ n → l ≤ r → r ≤ m → Grew w5 W → Calls Try.prog 19 #[.slice a3 n c3, .int .i64 t, .int .i64 l, .int .i64 b, .int .i64 r] W fun e w' => e = .returned (.int .i64 (partS H t l b r)) ∧ Grew W w') := Lib.hid fun t l b r W h1 h2 h3 h4 hW => by
        have := SumIn_any _ H t l b r W (HV.out.1.grew (H5.out.2.trans hW))
        unfold sumX at this
        rw [if_pos (by simp only [vPart, Bool.and_eq_true, spanB_iff]; rw [em, en]; exact ⟨⟨hvg, by omega, by omega, by omega⟩, by omega, by omega, by omega⟩), en] at this
        simpa using this
      obtain ⟨bH, oH, a0, c0, rfl, hrow⟩ : ∃ bH oH a0 c0, a3 = some ⟨bH, oH, none⟩ ∧ ∀ W, Grew w5 W → W.cell? ⟨bH, oH, none⟩ = some (.slice a0 m c0) := by
        obtain ⟨a', b', o', c', e', _, ha', HC'⟩ := HV.out.1.shape
        obtain ⟨u, hc, hu⟩ := HC'.out 0 (by omega)
        obtain ⟨ax, bx, ox, cx, rfl, _, _, _⟩ := hu.shape
        rw [em] at hc
        simp only [Value.slice.injEq] at e'
        exact ⟨b', o', ax, cx, by rw [e'.1]; exact ha' (by omega), fun W hW => by simpa using (H5.out.2.trans hW).cell hc⟩
      have HROW := Lib.hid hrow
      have HN2 := Lib.hid hn2.2.2
      have HM2 := Lib.hid hm2.2.2
      have hn23 := hn2.2.1
      have hm23 := hm2.2.1
      have hn0 : (0 : Int) < n := by omega
      have hn0' : 0 < n := hn1
      have hR1 : (1 : Int) < R.length := by omega
      have hR1' : 1 < R.length := by omega
      have hRS : ¬ (R.length : Int) < 2 := by omega
      rw [en]
      clear hvg G em en hRe hRl hRa hS hqp hpb en2 em2 hn2 hm2 hrow hcu hu huV HR
      go_wp2
      go_loopw [5] (fun i wr => ∃ r : Nat, r ≤ n2 ∧ i = .int .i64 r ∧ Hid (Grew w5 wr)) (fun i _ => n2 - (intOf i).toNat)
      case atStart => exact ⟨0, Nat.zero_le _, rfl, Grew.refl _⟩
      case round =>
        obtain ⟨r, hr, rfl, HW⟩ := hrel
        have hcu := HCU.out _ HW.out
        by_cases hlt : r < n2
        · have hri : (r : Int) < n2 := by omega
          obtain ⟨gr, gro, cr, hcr, _, _, hcells⟩ := HC6.out r hlt
          have HCR : Hid (∀ W, Grew w5 W → W.cell? ⟨b6, o6 + r, none⟩ = some (.slice (some ⟨gr, gro, none⟩) m2 cr)) := Lib.hid fun W hW => hW.cell hcr
          have HCC : Hid (∀ W, Grew w5 W → ∀ j, j < m2 → W.cell? ⟨gr, gro + j, none⟩ = some (.int .i64 (quadS (cellS H) r j))) := Lib.hid fun W hW j hj => hW.cell (hcells j hj)
          clear hcr hcells
          go_wp2
          clear hcu
          go_loopw [6] (fun i wr => ∃ k : Nat, k ≤ m2 ∧ i = .int .i64 k ∧ Hid (Grew w5 wr)) (fun i _ => m2 - (intOf i).toNat)
          case atStart => exact ⟨0, Nat.zero_le _, rfl, HW.out⟩
          case round =>
            obtain ⟨k, hk, rfl, HW⟩ := hrel
            have hcu := HCU.out _ HW.out
            have hcr := HCR.out _ HW.out
            by_cases hkt : k < m2
            · have hki : (k : Int) < m2 := by omega
              have h2r := HN2.out r hlt
              have h2k := HM2.out k hkt
              have hqp := HQP.out r k h2r h2k
              obtain ⟨E, eE⟩ : ∃ E, min (2 * r + 2) n = E := ⟨_, rfl⟩
              obtain ⟨F, eF⟩ : ∃ F, min (2 * k + 2) m = F := ⟨_, rfl⟩
              rw [eE, eF] at hqp
              obtain ⟨R2, eR2⟩ : ∃ R2, 2 * r = R2 := ⟨_, rfl⟩
              obtain ⟨K2, eK2⟩ : ∃ K2, 2 * k = K2 := ⟨_, rfl⟩
              rw [eR2, eK2] at hqp
              rw [eR2] at h2r eE
              rw [eK2] at h2k eF
              have HSC := Lib.hid (fun W (hW : Grew w5 W) => HSI.out R2 K2 E F W (by omega) (by omega) (by omega) (by omega) hW)
              rw [← hqp] at HSC
              obtain ⟨x, ex⟩ : ∃ x, quadS (cellS H) r k = x := ⟨_, rfl⟩
              rw [ex] at HSC
              have hcx := HCC.out (wr.drew) HW.out.drew k hkt
              rw [ex] at hcx
              have p1 : IntKind.i64.wrap (2 * (r : Int)) = (R2 : Int) := by rw [IntWalk.i64_in _ (by omega)]; omega
              have p2 : IntKind.i64.wrap (2 * (k : Int)) = (K2 : Int) := by rw [IntWalk.i64_in _ (by omega)]; omega
              have p3 : IntKind.i64.wrap ((R2 : Int) + 2) = (R2 : Int) + 2 := IntWalk.i64_in _ (by omega)
              have p4 : IntKind.i64.wrap ((K2 : Int) + 2) = (K2 : Int) + 2 := IntWalk.i64_in _ (by omega)
              have p5 : min ((R2 : Int) + 2) (n : Int) = (E : Int) := by omega
              have p6 : min ((K2 : Int) + 2) (m : Int) = (F : Int) := by omega
              have hxx : (x != x) = false := by simp
              have hcu4 := HCU.out (wr.drew) HW.out.drew
              have hcr4 := HCR.out (wr.drew) HW.out.drew
              have hrw4 := HROW.out (wr.drew) HW.out.drew
              clear eE eF eR2 eK2 hqp ex
              go_wp2
              refine wp_region_noPanic ?_
              refine wp_region_held_drew (S := fun W => (W.cell? ⟨gO, 1, none⟩ = some (.slice (some ⟨b6, o6, none⟩) n2 c6) ∧ W.cell? ⟨b6, o6 + r, none⟩ = some (.slice (some ⟨gr, gro, none⟩) m2 cr) ∧ W.cell? ⟨gr, gro + k, none⟩ = some (.int .i64 x) ∧ W.cell? ⟨bH, oH, none⟩ = some (.slice a0 m c0)) ∧ Grew w5 W) (by kernel_rfl) (by exact ⟨⟨hcu4, hcr4, hcx, hrw4⟩, HW.out.drew⟩) (fun hHeld => ?_)
              refine wpAnyH_take (i := 0) (oi := { dst := some 42, op := Op.move (Operand.tmp 4), type := 37, pos := _, after := #[], guard := none }) (v := ?_) rfl (by kernel_rfl) (by kernel_rfl) (by kernel_rfl) (fun _ _ _ h => h) (Or.inl ⟨by rfl, ?hy⟩) (by assumption) ?_
              case hy => (intro w hSw; (try dsimp only at hSw); go_simp; try with_reducible rfl)
              try simp only [Act.put, List.setIfInBounds_toArray, List.set_cons_zero, List.set_cons_succ]
              refine wpAnyH_take (i := 1) (oi := { dst := some 43, op := Op.indexAddr 37 (Operand.tmp 42) (Operand.const (Value.int IntKind.i64 1)), type := 0, pos := _, after := #[{ on := 0, ground := Ground.data }], guard := none }) (v := ?_) rfl (by kernel_rfl) (by kernel_rfl) (by kernel_rfl) (fun _ _ _ h => h) (Or.inl ⟨by rfl, ?hy⟩) (by assumption) ?_
              case hy => (intro w hSw; (try dsimp only at hSw); go_simp; try with_reducible rfl)
              try simp only [Act.put, List.setIfInBounds_toArray, List.set_cons_zero, List.set_cons_succ]
              refine wpAnyH_take (i := 2) (oi := { dst := some 44, op := Op.load 23 (Operand.tmp 43), type := 23, pos := _, after := #[{ on := 1, ground := Ground.data }], guard := none }) (v := ?_) rfl (by kernel_rfl) (by kernel_rfl) (by kernel_rfl) (fun _ _ _ h => h) (Or.inl ⟨by rfl, ?hy⟩) (by assumption) ?_
              case hy => (intro w hSw; (try dsimp only at hSw); go_simp; try with_reducible rfl)
              try simp only [Act.put, List.setIfInBounds_toArray, List.set_cons_zero, List.set_cons_succ]
              refine wpAnyH_take (i := 3) (oi := { dst := some 45, op := Op.move (Operand.tmp 5), type := 3, pos := _, after := #[], guard := none }) (v := ?_) rfl (by kernel_rfl) (by kernel_rfl) (by kernel_rfl) (fun _ _ _ h => h) (Or.inl ⟨by rfl, ?hy⟩) (by assumption) ?_
              case hy => (intro w hSw; (try dsimp only at hSw); go_simp; try with_reducible rfl)
              try simp only [Act.put, List.setIfInBounds_toArray, List.set_cons_zero, List.set_cons_succ]
              refine wpAnyH_take (i := 4) (oi := { dst := some 46, op := Op.indexAddr 23 (Operand.tmp 44) (Operand.tmp 45), type := 0, pos := _, after := #[{ on := 2, ground := Ground.data }, { on := 3, ground := Ground.data }], guard := none }) (v := ?_) rfl (by kernel_rfl) (by kernel_rfl) (by kernel_rfl) (fun _ _ _ h => h) (Or.inl ⟨by rfl, ?hy⟩) (by assumption) ?_
              case hy => (intro w hSw; (try dsimp only at hSw); go_simp; try with_reducible rfl)
              try simp only [Act.put, List.setIfInBounds_toArray, List.set_cons_zero, List.set_cons_succ]
              refine wpAnyH_take (i := 5) (oi := { dst := some 47, op := Op.load 27 (Operand.tmp 46), type := 27, pos := _, after := #[{ on := 4, ground := Ground.data }], guard := none }) (v := ?_) rfl (by kernel_rfl) (by kernel_rfl) (by kernel_rfl) (fun _ _ _ h => h) (Or.inl ⟨by rfl, ?hy⟩) (by assumption) ?_
              case hy => (intro w hSw; (try dsimp only at hSw); go_simp; try with_reducible rfl)
              try simp only [Act.put, List.setIfInBounds_toArray, List.set_cons_zero, List.set_cons_succ]
              refine wpAnyH_take (i := 6) (oi := { dst := some 48, op := Op.move (Operand.tmp 6), type := 3, pos := _, after := #[], guard := none }) (v := ?_) rfl (by kernel_rfl) (by kernel_rfl) (by kernel_rfl) (fun _ _ _ h => h) (Or.inl ⟨by rfl, ?hy⟩) (by assumption) ?_
              case hy => (intro w hSw; (try dsimp only at hSw); go_simp; try with_reducible rfl)
              try simp only [Act.put, List.setIfInBounds_toArray, List.set_cons_zero, List.set_cons_succ]
              refine wpAnyH_take (i := 7) (oi := { dst := some 49, op := Op.indexAddr 27 (Operand.tmp 47) (Operand.tmp 48), type := 0, pos := _, after := #[{ on := 5, ground := Ground.data }, { on := 6, ground := Ground.data }], guard := none }) (v := ?_) rfl (by kernel_rfl) (by kernel_rfl) (by kernel_rfl) (fun _ _ _ h => h) (Or.inl ⟨by rfl, ?hy⟩) (by assumption) ?_
              case hy => (intro w hSw; (try dsimp only at hSw); go_simp; try with_reducible rfl)
              try simp only [Act.put, List.setIfInBounds_toArray, List.set_cons_zero, List.set_cons_succ]
              refine wpAnyH_take (i := 8) (oi := { dst := some 50, op := Op.load 3 (Operand.tmp 49), type := 3, pos := _, after := #[{ on := 7, ground := Ground.data }], guard := none }) (v := ?_) rfl (by kernel_rfl) (by kernel_rfl) (by kernel_rfl) (fun _ _ _ h => h) (Or.inl ⟨by rfl, ?hy⟩) (by assumption) ?_
              case hy => (intro w hSw; (try dsimp only at hSw); go_simp; try with_reducible rfl)
              try simp only [Act.put, List.setIfInBounds_toArray, List.set_cons_zero, List.set_cons_succ]
              refine wpAnyH_take (i := 9) (oi := { dst := some 51, op := Op.move (Operand.tmp 3), type := 23, pos := _, after := #[], guard := none }) (v := ?_) rfl (by kernel_rfl) (by kernel_rfl) (by kernel_rfl) (fun _ _ _ h => h) (Or.inl ⟨by rfl, ?hy⟩) (by assumption) ?_
              case hy => (intro w hSw; (try dsimp only at hSw); go_simp; try with_reducible rfl)
              try simp only [Act.put, List.setIfInBounds_toArray, List.set_cons_zero, List.set_cons_succ]
              refine wpAnyH_take (i := 10) (oi := { dst := some 52, op := Op.move (Operand.tmp 5), type := 3, pos := _, after := #[], guard := none }) (v := ?_) rfl (by kernel_rfl) (by kernel_rfl) (by kernel_rfl) (fun _ _ _ h => h) (Or.inl ⟨by rfl, ?hy⟩) (by assumption) ?_
              case hy => (intro w hSw; (try dsimp only at hSw); go_simp; try with_reducible rfl)
              try simp only [Act.put, List.setIfInBounds_toArray, List.set_cons_zero, List.set_cons_succ]
              refine wpAnyH_take (i := 11) (oi := { dst := some 53, op := Op.binOp BinOp.mul 3 (Operand.const (Value.int IntKind.i64 2)) (Operand.tmp 52) 3, type := 3, pos := _, after := #[{ on := 10, ground := Ground.data }], guard := none }) (v := ?_) rfl (by kernel_rfl) (by kernel_rfl) (by kernel_rfl) (fun _ _ _ h => h) (Or.inl ⟨by rfl, ?hy⟩) (by assumption) ?_
              case hy => (intro w hSw; (try dsimp only at hSw); go_simp; try with_reducible rfl)
              try simp only [Act.put, List.setIfInBounds_toArray, List.set_cons_zero, List.set_cons_succ]
              refine wpAnyH_take (i := 12) (oi := { dst := some 54, op := Op.move (Operand.tmp 6), type := 3, pos := _, after := #[], guard := none }) (v := ?_) rfl (by kernel_rfl) (by kernel_rfl) (by kernel_rfl) (fun _ _ _ h => h) (Or.inl ⟨by rfl, ?hy⟩) (by assumption) ?_
              case hy => (intro w hSw; (try dsimp only at hSw); go_simp; try with_reducible rfl)
              try simp only [Act.put, List.setIfInBounds_toArray, List.set_cons_zero, List.set_cons_succ]
              refine wpAnyH_take (i := 13) (oi := { dst := some 55, op := Op.binOp BinOp.mul 3 (Operand.const (Value.int IntKind.i64 2)) (Operand.tmp 54) 3, type := 3, pos := _, after := #[{ on := 12, ground := Ground.data }], guard := none }) (v := ?_) rfl (by kernel_rfl) (by kernel_rfl) (by kernel_rfl) (fun _ _ _ h => h) (Or.inl ⟨by rfl, ?hy⟩) (by assumption) ?_
              case hy => (intro w hSw; (try dsimp only at hSw); go_simp; try with_reducible rfl)
              try simp only [Act.put, List.setIfInBounds_toArray, List.set_cons_zero, List.set_cons_succ]
              refine wpAnyH_take (i := 14) (oi := { dst := some 56, op := Op.move (Operand.tmp 5), type := 3, pos := _, after := #[], guard := none }) (v := ?_) rfl (by kernel_rfl) (by kernel_rfl) (by kernel_rfl) (fun _ _ _ h => h) (Or.inl ⟨by rfl, ?hy⟩) (by assumption) ?_
              case hy => (intro w hSw; (try dsimp only at hSw); go_simp; try with_reducible rfl)
              try simp only [Act.put, List.setIfInBounds_toArray, List.set_cons_zero, List.set_cons_succ]
              refine wpAnyH_take (i := 15) (oi := { dst := some 57, op := Op.binOp BinOp.mul 3 (Operand.const (Value.int IntKind.i64 2)) (Operand.tmp 56) 3, type := 3, pos := _, after := #[{ on := 14, ground := Ground.data }], guard := none }) (v := ?_) rfl (by kernel_rfl) (by kernel_rfl) (by kernel_rfl) (fun _ _ _ h => h) (Or.inl ⟨by rfl, ?hy⟩) (by assumption) ?_
              case hy => (intro w hSw; (try dsimp only at hSw); go_simp; try with_reducible rfl)
              try simp only [Act.put, List.setIfInBounds_toArray, List.set_cons_zero, List.set_cons_succ]
              refine wpAnyH_take (i := 16) (oi := { dst := some 58, op := Op.binOp BinOp.add 3 (Operand.tmp 57) (Operand.const (Value.int IntKind.i64 2)) 3, type := 3, pos := _, after := #[{ on := 15, ground := Ground.data }], guard := none }) (v := ?_) rfl (by kernel_rfl) (by kernel_rfl) (by kernel_rfl) (fun _ _ _ h => h) (Or.inl ⟨by rfl, ?hy⟩) (by assumption) ?_
              case hy => (intro w hSw; (try dsimp only at hSw); go_simp; try with_reducible rfl)
              try simp only [Act.put, List.setIfInBounds_toArray, List.set_cons_zero, List.set_cons_succ]
              refine wpAnyH_take (i := 17) (oi := { dst := some 59, op := Op.move (Operand.tmp 3), type := 23, pos := _, after := #[], guard := none }) (v := ?_) rfl (by kernel_rfl) (by kernel_rfl) (by kernel_rfl) (fun _ _ _ h => h) (Or.inl ⟨by rfl, ?hy⟩) (by assumption) ?_
              case hy => (intro w hSw; (try dsimp only at hSw); go_simp; try with_reducible rfl)
              try simp only [Act.put, List.setIfInBounds_toArray, List.set_cons_zero, List.set_cons_succ]
              refine wpAnyH_take (i := 18) (oi := { dst := some 60, op := Op.call { callee := Callee.builtin Builtin.len, args := #[Operand.tmp 59], argTypes := #[23] }, type := 3, pos := _, after := #[{ on := 17, ground := Ground.data }], guard := none }) (v := ?_) rfl (by kernel_rfl) (by kernel_rfl) (by kernel_rfl) (fun _ _ _ h => h) (Or.inl ⟨by rfl, ?hy⟩) (by assumption) ?_
              case hy => (intro w hSw; (try dsimp only at hSw); go_simp; try with_reducible rfl)
              try simp only [Act.put, List.setIfInBounds_toArray, List.set_cons_zero, List.set_cons_succ]
              refine wpAnyH_take (i := 19) (oi := { dst := some 61, op := Op.call { callee := Callee.builtin Builtin.min, args := #[Operand.tmp 58, Operand.tmp 60], argTypes := #[3, 3] }, type := 3, pos := _, after := #[{ on := 16, ground := Ground.data }, { on := 18, ground := Ground.data }], guard := none }) (v := ?_) rfl (by kernel_rfl) (by kernel_rfl) (by kernel_rfl) (fun _ _ _ h => h) (Or.inl ⟨by rfl, ?hy⟩) (by assumption) ?_
              case hy => (intro w hSw; (try dsimp only at hSw); go_simp; try with_reducible rfl)
              try simp only [Act.put, List.setIfInBounds_toArray, List.set_cons_zero, List.set_cons_succ]
              refine wpAnyH_take (i := 20) (oi := { dst := some 62, op := Op.move (Operand.tmp 6), type := 3, pos := _, after := #[], guard := none }) (v := ?_) rfl (by kernel_rfl) (by kernel_rfl) (by kernel_rfl) (fun _ _ _ h => h) (Or.inl ⟨by rfl, ?hy⟩) (by assumption) ?_
              case hy => (intro w hSw; (try dsimp only at hSw); go_simp; try with_reducible rfl)
              try simp only [Act.put, List.setIfInBounds_toArray, List.set_cons_zero, List.set_cons_succ]
              refine wpAnyH_take (i := 21) (oi := { dst := some 63, op := Op.binOp BinOp.mul 3 (Operand.const (Value.int IntKind.i64 2)) (Operand.tmp 62) 3, type := 3, pos := _, after := #[{ on := 20, ground := Ground.data }], guard := none }) (v := ?_) rfl (by kernel_rfl) (by kernel_rfl) (by kernel_rfl) (fun _ _ _ h => h) (Or.inl ⟨by rfl, ?hy⟩) (by assumption) ?_
              case hy => (intro w hSw; (try dsimp only at hSw); go_simp; try with_reducible rfl)
              try simp only [Act.put, List.setIfInBounds_toArray, List.set_cons_zero, List.set_cons_succ]
              refine wpAnyH_take (i := 22) (oi := { dst := some 64, op := Op.binOp BinOp.add 3 (Operand.tmp 63) (Operand.const (Value.int IntKind.i64 2)) 3, type := 3, pos := _, after := #[{ on := 21, ground := Ground.data }], guard := none }) (v := ?_) rfl (by kernel_rfl) (by kernel_rfl) (by kernel_rfl) (fun _ _ _ h => h) (Or.inl ⟨by rfl, ?hy⟩) (by assumption) ?_
              case hy => (intro w hSw; (try dsimp only at hSw); go_simp; try with_reducible rfl)
              try simp only [Act.put, List.setIfInBounds_toArray, List.set_cons_zero, List.set_cons_succ]
              refine wpAnyH_take (i := 23) (oi := { dst := some 65, op := Op.move (Operand.tmp 3), type := 23, pos := _, after := #[], guard := none }) (v := ?_) rfl (by kernel_rfl) (by kernel_rfl) (by kernel_rfl) (fun _ _ _ h => h) (Or.inl ⟨by rfl, ?hy⟩) (by assumption) ?_
              case hy => (intro w hSw; (try dsimp only at hSw); go_simp; try with_reducible rfl)
              try simp only [Act.put, List.setIfInBounds_toArray, List.set_cons_zero, List.set_cons_succ]
              refine wpAnyH_take (i := 24) (oi := { dst := some 66, op := Op.indexAddr 23 (Operand.tmp 65) (Operand.const (Value.int IntKind.i64 0)), type := 0, pos := _, after := #[{ on := 23, ground := Ground.data }], guard := none }) (v := ?_) rfl (by kernel_rfl) (by kernel_rfl) (by kernel_rfl) (fun _ _ _ h => h) (Or.inl ⟨by rfl, ?hy⟩) (by assumption) ?_
              case hy => (intro w hSw; (try dsimp only at hSw); go_simp; try with_reducible rfl)
              try simp only [Act.put, List.setIfInBounds_toArray, List.set_cons_zero, List.set_cons_succ]
              refine wpAnyH_take (i := 25) (oi := { dst := some 67, op := Op.load 27 (Operand.tmp 66), type := 27, pos := _, after := #[{ on := 24, ground := Ground.data }], guard := none }) (v := ?_) rfl (by kernel_rfl) (by kernel_rfl) (by kernel_rfl) (fun _ _ _ h => h) (Or.inl ⟨by rfl, ?hy⟩) (by assumption) ?_
              case hy => (intro w hSw; (try dsimp only at hSw); go_simp; try with_reducible rfl)
              try simp only [Act.put, List.setIfInBounds_toArray, List.set_cons_zero, List.set_cons_succ]
              refine wpAnyH_take (i := 26) (oi := { dst := some 68, op := Op.call { callee := Callee.builtin Builtin.len, args := #[Operand.tmp 67], argTypes := #[27] }, type := 3, pos := _, after := #[{ on := 25, ground := Ground.data }], guard := none }) (v := ?_) rfl (by kernel_rfl) (by kernel_rfl) (by kernel_rfl) (fun _ _ _ h => h) (Or.inl ⟨by rfl, ?hy⟩) (by assumption) ?_
              case hy => (intro w hSw; (try dsimp only at hSw); go_simp; try with_reducible rfl)
              try simp only [Act.put, List.setIfInBounds_toArray, List.set_cons_zero, List.set_cons_succ]
              refine wpAnyH_take (i := 27) (oi := { dst := some 69, op := Op.call { callee := Callee.builtin Builtin.min, args := #[Operand.tmp 64, Operand.tmp 68], argTypes := #[3, 3] }, type := 3, pos := _, after := #[{ on := 22, ground := Ground.data }, { on := 26, ground := Ground.data }], guard := none }) (v := ?_) rfl (by kernel_rfl) (by kernel_rfl) (by kernel_rfl) (fun _ _ _ h => h) (Or.inl ⟨by rfl, ?hy⟩) (by assumption) ?_
              case hy => (intro w hSw; (try dsimp only at hSw); go_simp; try with_reducible rfl)
              try simp only [Act.put, List.setIfInBounds_toArray, List.set_cons_zero, List.set_cons_succ]
              refine wpAnyH_ready (rs := [28]) (by kernel_rfl) (by simp) ?_
              refine AllReadyH.cons (i := 28) (o := { dst := some 70, op := Op.call { callee := Callee.value (Operand.func 19), args := #[Operand.tmp 51, Operand.tmp 53, Operand.tmp 55, Operand.tmp 61, Operand.tmp 69], argTypes := #[23, 3, 3, 3, 3] }, type := 3, pos := _, after := #[{ on := 9, ground := Ground.data }, { on := 11, ground := Ground.data }, { on := 13, ground := Ground.data }, { on := 19, ground := Ground.data }, { on := 27, ground := Ground.data }], guard := none }) rfl (fun KK hKK => ?_) (AllReadyH.nil)
              go_simp
              go_at_call 19
              (with_reducible refine (HSC.out _ hHeld.2).mono ?_)
              rintro e w9 ⟨rfl, hg9⟩
              have HG9 := Lib.hid hg9
              clear hg9
              refine hKK.out _ _ (by exact ⟨⟨HG9.out.cell hHeld.1.1, HG9.out.cell hHeld.1.2.1, HG9.out.cell hHeld.1.2.2.1, HG9.out.cell hHeld.1.2.2.2⟩, hHeld.2.trans HG9.out⟩) (fun hHeld => ?_)
              clear hKK KK
              try simp only [Act.put, List.setIfInBounds_toArray, List.set_cons_zero, List.set_cons_succ]
              refine wpAnyH_take (i := 29) (oi := { dst := some 71, op := Op.binOp BinOp.neq 3 (Operand.tmp 50) (Operand.tmp 70) 3, type := 4, pos := _, after := #[{ on := 8, ground := Ground.data }, { on := 28, ground := Ground.data }], guard := none }) (v := ?_) rfl (by kernel_rfl) (by kernel_rfl) (by kernel_rfl) (fun _ _ _ h => h) (Or.inl ⟨by rfl, ?hy⟩) (by assumption) ?_
              case hy => (intro w hSw; (try dsimp only at hSw); go_simp; try with_reducible rfl)
              try simp only [Act.put, List.setIfInBounds_toArray, List.set_cons_zero, List.set_cons_succ]
              refine wpAnyH_done (by kernel_rfl) ?_ _
              refine NoPanic.normal ?_
              have HGN := Lib.hid hHeld.2
              clear hHeld hcu hcr hcx p1 p2 p3 p4 p5 p6 hcu4 hcr4 hrw4
              go_wp2
              go_roundw
              case rel => exact ⟨k + 1, by omega, by go_num, HGN.out⟩
              case measure => simp [intOf]; omega
            · obtain rfl : k = m2 := by omega
              have hkn : ¬ (k : Int) < k := by omega
              go_wp2
              clear hcu hcr
              go_roundw
              case rel => exact ⟨r + 1, by omega, by go_num, HW.out⟩
              case measure => simp [intOf]; omega
        · obtain rfl : r = n2 := by omega
          have hkn : ¬ (r : Int) < r := by omega
          go_wp2
          go_ret
          exact ⟨rfl, HV.out.2.trans (H5.out.2.trans HW.out)⟩
end Go.Proofs.Ytkeeonjbkfgeeaa
