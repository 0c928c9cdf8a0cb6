/- The law FnRoofsSeeMost returns true. -/
import Derived.Test.YthljmolkicfdaaaSRoof
import Derived.Test.YthljmolkicfdaaaRoofI
import Derived.Test.YthljmolkicfdaaaFurthest
import Derived.Test.YthljmolkicfdaaaDrawsP
import Derived.Test.YthljmolkicfdaaaEqualInts
namespace Go.Proofs.Ythljmolkicfdaaa
open Go.RowKit

theorem dec_selfI (X : List Int) : decide (X = X) = true := by simp
theorem roofX_at {p : List Int} {j : Nat} (h : j + 1 < (roofX p).length) : vProf p = true ∧ ∃ A B : Nat, (roofX p).getD j 0 = A ∧ (roofX p).getD (j + 1) 0 = B ∧ A < B ∧ B < p.length ∧ Sees p A B := by
  unfold roofX at h ⊢
  by_cases hp : vProf p = true
  · rw [if_pos hp, asInts_len] at h
    rw [if_pos hp]
    have h1 := ((vProf_iff p).1 hp).1
    obtain ⟨hr, _, _⟩ := roofTo_roof p p.length h1
    have hlt := (roofTo_lt p p.length).2
    unfold roofL at h ⊢
    refine ⟨hp, (roofTo p p.length).getD j 0, (roofTo p p.length).getD (j + 1) 0, ?_, ?_, hr.asc j h, hlt (j + 1) h, hr.sees j h⟩
    · exact asInts_at _ j (by omega)
    · exact asInts_at _ (j + 1) h
  · rw [if_neg hp] at h
    simp at h

set_option maxRecDepth 100000 in
set_option maxHeartbeats 8000000 in
theorem FnRoofsSeeMost_any (v : Value) (bs : List Int) (w : World) (hv : NumsV .u8 w v bs) (hb : ∀ i, i < bs.length → 0 ≤ bs.getD i 0 ∧ bs.getD i 0 ≤ 255) :
    Calls Try.prog 7 #[v] w fun e w' => e = .returned (.bool true) ∧ Grew w w' := by
  have HD := Lib.hid (DrawRoofOf_any v bs w hv hb)
  obtain ⟨a, b, o, c, rfl, ⟨hlc, hcb⟩, _, _⟩ := hv.shape
  clear hv hb
  by_cases hbig : 1048576 < bs.length
  · go_enter Try.func7, Try.ntmps7
    go_wp2
    go_ret
    exact ⟨rfl, Grew.refl _⟩
  · go_enter Try.func7, Try.ntmps7
    go_wp2_with (fail)
    refine HD.out.mono ?_
    rintro e w1 ⟨v1, p, rfl, hO, hd, hg1⟩
    have h9 := hd.1
    have HV := Lib.hid (And.intro hO.toV hg1)
    obtain ⟨a3, c3, rfl⟩ := hO.sh
    obtain ⟨R, eR⟩ : ∃ R, roofX p = R := ⟨_, rfl⟩
    have hRl := roofX_len p
    rw [eR] at hRl
    have HR := Lib.hid eR
    clear hO hd hg1 HD eR
    go_wp2_with (fail)
    refine (RoofOf_any _ p _ HV.out.1).mono ?_
    rw [HR.out]
    rintro e w2 ⟨v2, rfl, hO2, hg2⟩
    have H2 := Lib.hid (And.intro hO2.toV hg2)
    obtain ⟨a2, c2, rfl⟩ := hO2.sh
    clear hO2 hg2
    go_wp2_with (fail)
    refine (SRoofOf_any _ p _ (HV.out.1.grew H2.out.2)).mono ?_
    rw [HR.out]
    rintro e w3 ⟨v3, rfl, hO3, hg3⟩
    have H3 := Lib.hid (And.intro hO3.toV (H2.out.2.trans hg3))
    have H23 := Lib.hid (H2.out.1.grew hg3)
    obtain ⟨a4, c4, rfl⟩ := hO3.sh
    clear hO3 hg3
    go_wp2_with (fail)
    refine (equalInts_any _ _ R R _ H23.out H3.out.1).mono ?_
    rw [dec_selfI]
    rintro e w4 ⟨rfl, hq⟩
    have HG4 := Lib.hid (H3.out.2.trans (quiet_grew hq))
    clear hq
    go_wp2_with (fail)
    refine (RoofOf_any _ p _ (HV.out.1.grew HG4.out)).mono ?_
    rw [HR.out]
    rintro e w5 ⟨v5, rfl, hO5, hg5⟩
    have H5 := Lib.hid (And.intro hO5 (HG4.out.trans hg5))
    obtain ⟨a5, c5, rfl⟩ := hO5.sh
    clear hO5 hg5
    go_wp2
    go_loopw [5] (fun i wr => ∃ K : Nat, 1 ≤ K ∧ K ≤ R.length + 1 ∧ i = .int .i64 K ∧ Hid (Grew w5 wr)) (fun i _ => R.length - (intOf i).toNat)
    case atStart => exact ⟨1, Nat.le_refl _, by omega, rfl, Grew.refl _⟩
    case round =>
      obtain ⟨K1, hK1, hK, rfl, HI⟩ := hrel
      by_cases hlt : K1 < R.length
      · obtain ⟨K, hKK⟩ : ∃ K, K1 = K + 1 := ⟨K1 - 1, by omega⟩
        have hat := roofX_at (p := p) (j := K) (by rw [HR.out]; omega)
        rw [HR.out] at hat
        obtain ⟨hvp, A, B, eA, eB, hAB, hBl, hsee⟩ := hat
        have hO5 := H5.out.1.grew HI.out
        obtain ⟨g7, c7, e7, _, _, _, _⟩ := hO5.pos (by omega)
        simp only [Value.slice.injEq] at e7
        obtain ⟨rfl, _, rfl⟩ := e7
        have hcA := (hO5.at rfl (i := K) (by omega)).1
        have hcB := (hO5.at rfl (i := K1) hlt).1
        rw [eA] at hcA
        rw [hKK, eB] at hcB
        rw [← hKK] at hcB
        have hfur := fur_ge hAB hBl hsee
        obtain ⟨F, eF⟩ : ∃ F, furL p A = F := ⟨_, rfl⟩
        rw [eF] at hfur
        have HCL : Hid (∀ W, Grew wr W → Calls Try.prog 19 #[.slice a3 p.length c3, .int .i64 A] W fun e w' => e = .returned (.int .i64 F) ∧ Grew W w') := fun W hW => by
          have := Furthest_yes _ p A W (((HV.out.1.grew H5.out.2).grew HI.out).grew hW) hvp (by omega)
          rwa [eF] at this
        have w1 : IntKind.i64.wrap ((K1 : Int) - 1) = (K : Int) := by rw [wrap_small _ (by omega) (by omega)]; omega
        have r1 : (0 : Int) ≤ K := by omega
        have r2 : (K : Int) < R.length := by omega
        have r3 : (K1 : Int) < R.length := by omega
        have r4 : (0 : Int) ≤ K1 := by omega
        have r5 : ¬ (F : Int) < B := by omega
        clear hO5 eA eB hKK hvp hsee eF
        go_wp2_with (fail)
        refine wp_region_noPanic ?_
        refine wp_region_held_drew (S := fun W => W.cell? ⟨g7, K, none⟩ = some (.int .i64 (A : Int)) ∧ W.cell? ⟨g7, K1, none⟩ = some (.int .i64 (B : Int)) ∧ Grew wr W) (by kernel_rfl) (by exact ⟨hcA, hcB, (Grew.refl wr).drew⟩) (fun hHeld => ?_)
        refine wpAnyH_take (i := 0) (oi := { dst := some 25, op := Op.move (Operand.tmp 3), type := 23, pos := _, after := #[], guard := none }) (v := ?_) rfl (by kernel_rfl) (by kernel_rfl) (by kernel_rfl) (fun _ _ _ h => h) (Or.inl ⟨by rfl, ?hy⟩) (by assumption) ?_
        case hy => (intro w hSw; (try dsimp only at hSw); go_simp; try with_reducible rfl)
        try simp only [Act.put, List.setIfInBounds_toArray, List.set_cons_zero, List.set_cons_succ]
        refine wpAnyH_take (i := 1) (oi := { dst := some 26, op := Op.move (Operand.tmp 4), type := 23, pos := _, after := #[], guard := none }) (v := ?_) rfl (by kernel_rfl) (by kernel_rfl) (by kernel_rfl) (fun _ _ _ h => h) (Or.inl ⟨by rfl, ?hy⟩) (by assumption) ?_
        case hy => (intro w hSw; (try dsimp only at hSw); go_simp; try with_reducible rfl)
        try simp only [Act.put, List.setIfInBounds_toArray, List.set_cons_zero, List.set_cons_succ]
        refine wpAnyH_take (i := 2) (oi := { dst := some 27, op := Op.move (Operand.tmp 5), type := 3, pos := _, after := #[], guard := none }) (v := ?_) rfl (by kernel_rfl) (by kernel_rfl) (by kernel_rfl) (fun _ _ _ h => h) (Or.inl ⟨by rfl, ?hy⟩) (by assumption) ?_
        case hy => (intro w hSw; (try dsimp only at hSw); go_simp; try with_reducible rfl)
        try simp only [Act.put, List.setIfInBounds_toArray, List.set_cons_zero, List.set_cons_succ]
        refine wpAnyH_take (i := 3) (oi := { dst := some 28, op := Op.binOp BinOp.sub 3 (Operand.tmp 27) (Operand.const (Value.int IntKind.i64 1)) 3, type := 3, pos := _, after := #[{ on := 2, ground := Ground.data }], guard := none }) (v := ?_) rfl (by kernel_rfl) (by kernel_rfl) (by kernel_rfl) (fun _ _ _ h => h) (Or.inl ⟨by rfl, ?hy⟩) (by assumption) ?_
        case hy => (intro w hSw; (try dsimp only at hSw); go_simp; try with_reducible rfl)
        try simp only [Act.put, List.setIfInBounds_toArray, List.set_cons_zero, List.set_cons_succ]
        refine wpAnyH_take (i := 4) (oi := { dst := some 29, op := Op.indexAddr 23 (Operand.tmp 26) (Operand.tmp 28), type := 0, pos := _, after := #[{ on := 1, ground := Ground.data }, { on := 3, ground := Ground.data }], guard := none }) (v := ?_) rfl (by kernel_rfl) (by kernel_rfl) (by kernel_rfl) (fun _ _ _ h => h) (Or.inl ⟨by rfl, ?hy⟩) (by assumption) ?_
        case hy => (intro w hSw; (try dsimp only at hSw); go_simp; try with_reducible rfl)
        try simp only [Act.put, List.setIfInBounds_toArray, List.set_cons_zero, List.set_cons_succ]
        refine wpAnyH_take (i := 5) (oi := { dst := some 30, op := Op.load 3 (Operand.tmp 29), type := 3, pos := _, after := #[{ on := 4, ground := Ground.data }], guard := none }) (v := ?_) rfl (by kernel_rfl) (by kernel_rfl) (by kernel_rfl) (fun _ _ _ h => h) (Or.inl ⟨by rfl, ?hy⟩) (by assumption) ?_
        case hy => (intro w hSw; (try dsimp only at hSw); go_simp; try with_reducible rfl)
        try simp only [Act.put, List.setIfInBounds_toArray, List.set_cons_zero, List.set_cons_succ]
        refine wpAnyH_take (i := 7) (oi := { dst := some 32, op := Op.move (Operand.tmp 4), type := 23, pos := _, after := #[], guard := none }) (v := ?_) rfl (by kernel_rfl) (by kernel_rfl) (by kernel_rfl) (fun _ _ _ h => h) (Or.inl ⟨by rfl, ?hy⟩) (by assumption) ?_
        case hy => (intro w hSw; (try dsimp only at hSw); go_simp; try with_reducible rfl)
        try simp only [Act.put, List.setIfInBounds_toArray, List.set_cons_zero, List.set_cons_succ]
        refine wpAnyH_take (i := 8) (oi := { dst := some 33, op := Op.move (Operand.tmp 5), type := 3, pos := _, after := #[], guard := none }) (v := ?_) rfl (by kernel_rfl) (by kernel_rfl) (by kernel_rfl) (fun _ _ _ h => h) (Or.inl ⟨by rfl, ?hy⟩) (by assumption) ?_
        case hy => (intro w hSw; (try dsimp only at hSw); go_simp; try with_reducible rfl)
        try simp only [Act.put, List.setIfInBounds_toArray, List.set_cons_zero, List.set_cons_succ]
        refine wpAnyH_take (i := 9) (oi := { dst := some 34, op := Op.indexAddr 23 (Operand.tmp 32) (Operand.tmp 33), type := 0, pos := _, after := #[{ on := 7, ground := Ground.data }, { on := 8, ground := Ground.data }], guard := none }) (v := ?_) rfl (by kernel_rfl) (by kernel_rfl) (by kernel_rfl) (fun _ _ _ h => h) (Or.inl ⟨by rfl, ?hy⟩) (by assumption) ?_
        case hy => (intro w hSw; (try dsimp only at hSw); go_simp; try with_reducible rfl)
        try simp only [Act.put, List.setIfInBounds_toArray, List.set_cons_zero, List.set_cons_succ]
        refine wpAnyH_take (i := 10) (oi := { dst := some 35, op := Op.load 3 (Operand.tmp 34), type := 3, pos := _, after := #[{ on := 9, ground := Ground.data }], guard := none }) (v := ?_) rfl (by kernel_rfl) (by kernel_rfl) (by kernel_rfl) (fun _ _ _ h => h) (Or.inl ⟨by rfl, ?hy⟩) (by assumption) ?_
        case hy => (intro w hSw; (try dsimp only at hSw); go_simp; try with_reducible rfl)
        try simp only [Act.put, List.setIfInBounds_toArray, List.set_cons_zero, List.set_cons_succ]
        refine wpAnyH_ready (rs := [6]) (by kernel_rfl) (by simp) ?_
        refine AllReadyH.cons (i := 6) (o := { dst := some 31, op := Op.call { callee := Callee.value (Operand.func 19), args := #[Operand.tmp 25, Operand.tmp 30], argTypes := #[23, 3] }, type := 3, pos := _, after := #[{ on := 0, ground := Ground.data }, { on := 5, ground := Ground.data }], guard := none }) rfl (fun KK hKK => ?_) AllReadyH.nil
        go_simp
        go_at_call 19
        refine (HCL.out _ hHeld.2.2).mono ?_
        rintro e w10 ⟨rfl, hg10⟩
        have HG10 := Lib.hid hg10
        clear hg10
        refine hKK.out _ _ (by exact ⟨HG10.out.cell hHeld.1, HG10.out.cell hHeld.2.1, hHeld.2.2.trans HG10.out⟩) (fun hHeld => ?_)
        clear hKK KK
        try simp only [Act.put, List.setIfInBounds_toArray, List.set_cons_zero, List.set_cons_succ]
        refine wpAnyH_take (i := 11) (oi := { dst := some 36, op := Op.binOp BinOp.lss 3 (Operand.tmp 31) (Operand.tmp 35) 3, type := 4, pos := _, after := #[{ on := 6, ground := Ground.data }, { on := 10, ground := Ground.data }], guard := none }) (v := ?_) rfl (by kernel_rfl) (by kernel_rfl) (by kernel_rfl) (fun _ _ _ h => h) (Or.inl ⟨by rfl, ?hy⟩) (by assumption) ?_
        case hy => (intro w hSw; (try dsimp only at hSw); go_simp; try with_reducible rfl)
        try simp only [Act.put, List.setIfInBounds_toArray, List.set_cons_zero, List.set_cons_succ]
        refine wpAnyH_done (by kernel_rfl) ?_ _
        refine NoPanic.normal ?_
        have HN := Lib.hid (HI.out.trans hHeld.2.2)
        clear hHeld hcA hcB
        go_wp2
        clear w1
        go_roundw
        case rel => exact ⟨K1 + 1, by omega, by omega, by go_num, HN.out⟩
        case measure => simp [intOf]; omega
      · go_wp2
        go_ret
        exact ⟨rfl, HV.out.2.trans (H5.out.2.trans HI.out)⟩
end Go.Proofs.Ythljmolkicfdaaa
