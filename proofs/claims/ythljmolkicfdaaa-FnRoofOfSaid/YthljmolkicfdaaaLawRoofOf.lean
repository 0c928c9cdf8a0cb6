/- The law FnRoofOf returns true. -/
import Derived.Test.YthljmolkicfdaaaLawRoofsSeeMost
import Derived.Test.YthljmolkicfdaaaLawSeenFrom
namespace Go.Proofs.Ythljmolkicfdaaa
open Go.RowKit

theorem roofX_ok {p : List Int} (h : (roofX p).length ≠ 0) : vProf p = true ∧ roofX p = asInts (roofL p) ∧ Roof p (roofL p) ∧ 1 ≤ (roofL p).length ∧ (roofL p).getD ((roofL p).length - 1) 0 = p.length - 1 ∧ ∀ j, j < (roofL p).length → (roofL p).getD j 0 < p.length := by
  unfold roofX at h ⊢
  by_cases hp : vProf p = true
  · rw [if_pos hp]
    have h1 := ((vProf_iff p).1 hp).1
    obtain ⟨hr, h2, h3⟩ := roofTo_roof p p.length h1
    exact ⟨hp, rfl, hr, h2, h3, (roofTo_lt p p.length).2⟩
  · rw [if_neg hp] at h
    simp at h

set_option maxRecDepth 100000 in
set_option maxHeartbeats 8000000 in
theorem FnRoofOf_any (v : Value) (bs : List Int) (w : World) (hv : NumsV .u8 w v bs) (hb : ∀ i, i < bs.length → 0 ≤ bs.getD i 0 ∧ bs.getD i 0 ≤ 255) :
    Calls Try.prog 3 #[v] w fun e w' => e = .returned (.bool true) ∧ Grew w w' := by
  have HD := Lib.hid (DrawRoofOf_any v bs w hv hb)
  obtain ⟨a, b, o, c, rfl, ⟨hlc, hcb⟩, _, _⟩ := hv.shape
  clear hv hb
  by_cases hbig : 1048576 < bs.length
  · go_enter Try.func3, Try.ntmps3
    go_wp2
    go_ret
    exact ⟨rfl, Grew.refl _⟩
  · go_enter Try.func3, Try.ntmps3
    go_wp2_with (fail)
    refine HD.out.mono ?_
    rintro e w1 ⟨v1, p, rfl, hO, hd, hg1⟩
    have h9 := hd.1
    have HV := Lib.hid (And.intro hO.toV hg1)
    obtain ⟨a3, c3, rfl⟩ := hO.sh
    obtain ⟨R, eR⟩ : ∃ R, roofX p = R := ⟨_, rfl⟩
    have hRl := roofX_len p
    rw [eR] at hRl
    have HR := Lib.hid eR
    clear hO hd hg1 HD eR
    go_wp2_with (fail)
    refine (RoofOf_any _ p _ HV.out.1).mono ?_
    rw [HR.out]
    rintro e w2 ⟨v2, rfl, hO2, hg2⟩
    have H2 := Lib.hid (And.intro hO2 hg2)
    obtain ⟨a2, c2, rfl⟩ := hO2.sh
    clear hO2 hg2
    go_wp2_with (fail)
    refine (SRoofOf_any _ p _ (HV.out.1.grew H2.out.2)).mono ?_
    rw [HR.out]
    rintro e w3 ⟨v3, rfl, hO3, hg3⟩
    have H3 := Lib.hid (And.intro hO3.toV (H2.out.2.trans hg3))
    have H23 := Lib.hid (H2.out.1.grew hg3)
    obtain ⟨a4, c4, rfl⟩ := hO3.sh
    clear hO3 hg3
    go_wp2_with (fail)
    refine (equalInts_any _ _ R R _ H23.out.toV H3.out.1).mono ?_
    rw [dec_selfI]
    rintro e w4 ⟨rfl, hq⟩
    have HG4 := Lib.hid (H3.out.2.trans (quiet_grew hq))
    have H24 := Lib.hid (H23.out.grew (quiet_grew hq))
    clear hq
    by_cases hS : R.length = 0
    · have hS' : ((R.length : Int) == 0) = true := by simp [hS]
      clear hS
      go_wp2_with (fail)
      refine (SRoofOf_any _ p _ (HV.out.1.grew HG4.out)).mono ?_
      rw [HR.out]
      rintro e w5 ⟨v5, rfl, hO5, hg5⟩
      have H5 := Lib.hid (And.intro hO5.toV (HG4.out.trans hg5))
      have H25 := Lib.hid (H24.out.grew hg5)
      obtain ⟨a5, c5, rfl⟩ := hO5.sh
      clear hO5 hg5
      go_wp2_with (fail)
      refine (equalInts_any _ _ R R _ H25.out.toV H5.out.1).mono ?_
      rw [dec_selfI]
      rintro e w6 ⟨rfl, hq⟩
      have HG6 := Lib.hid (H5.out.2.trans (quiet_grew hq))
      clear hq
      go_wp2
      go_ret
      exact ⟨rfl, HV.out.2.trans HG6.out⟩
    · have hok := roofX_ok (p := p) (by rw [HR.out]; exact hS)
      rw [HR.out] at hok
      obtain ⟨hvp, hRA, hroof, hr1, hlast, hlt0⟩ := hok
      obtain ⟨r, er⟩ : ∃ r, roofL p = r := ⟨_, rfl⟩
      rw [er] at hRA hroof hr1 hlast hlt0
      have hRr : R.length = r.length := by rw [hRA, asInts_len]
      have hat : ∀ j, j < R.length → R.getD j 0 = (r.getD j 0 : Nat) := fun j hj => by rw [hRA]; exact asInts_at r j (by omega)
      have HK := Lib.hid (And.intro hvp (And.intro hroof (And.intro hlast (And.intro hlt0 (And.intro hRr hat)))))
      have hS' : ((R.length : Int) == 0) = false := beq_eq_false_iff_ne.2 (by omega)
      have hR1 : 1 ≤ R.length := by omega
      obtain ⟨g7, cc7, e7, _, _, _, _⟩ := H24.out.pos (by omega)
      simp only [Value.slice.injEq] at e7
      obtain ⟨rfl, _, e3⟩ := e7
      obtain rfl : c2 = cc7 := e3
      have hvp4 := HV.out.1.grew HG4.out
      obtain ⟨_, b', o', cc, e', _, ha', HC'⟩ := hvp4.shape
      simp only [Value.slice.injEq] at e'
      obtain ⟨rfl, _, e3⟩ := e'
      obtain rfl : c3 = cc := e3
      have hp1 := (vProf_len hvp).1
      obtain rfl := ha' (by omega)
      clear hS hRA hroof hr1 hlast hlt0 hRr hat hvp er ha' hvp4
      go_wp2
      go_loopw [5, 6] (fun m i wr => ∃ (K : Nat) (M : Int), K ≤ R.length ∧ i = .int .i64 K ∧ m = .int .i64 M ∧ Hid (∀ j, j < K → p.getD (r.getD j 0) 0 ≤ M) ∧ Hid (Grew w4 wr)) (fun _ i _ => R.length - (intOf i).toNat)
      case atStart => exact ⟨0, 0, Nat.zero_le _, rfl, rfl, fun j hj => absurd hj (Nat.not_lt_zero _), Grew.refl _⟩
      case round =>
        obtain ⟨K, M, hK, rfl, rfl, HM, HI⟩ := hrel
        by_cases hlt : K < R.length
        · have hcA := (HI.out.cell ((H24.out.at rfl hlt).1))
          obtain ⟨A, eA⟩ : ∃ A, r.getD K 0 = A := ⟨_, rfl⟩
          rw [HK.out.2.2.2.2.2 K hlt, eA] at hcA
          have hAl : A < p.length := by rw [← eA]; exact HK.out.2.2.2.1 K (by rw [← HK.out.2.2.2.2.1]; exact hlt)
          have hxA := HI.out.cell (HC'.out A hAl)
          have bA := vProf_at HK.out.1 A hAl
          obtain ⟨x, ex⟩ : ∃ x, p.getD A 0 = x := ⟨_, rfl⟩
          rw [ex] at hxA bA
          have HMX : Hid (∀ j, j < K + 1 → p.getD (r.getD j 0) 0 ≤ max M x) := fun j hj => by
            by_cases e : j = K
            · rw [e, eA, ex]; omega
            · have := HM.out j (by omega); omega
          have HA := Lib.hid (And.intro eA ex)
          clear eA ex
          by_cases hK0 : K = 0
          · subst hK0
            have d0 : decide ((0 : Int) < ((0 : Nat) : Int)) = false := decide_eq_false (by omega)
            have d1 : decide ((1 : Int) < ((0 : Nat) : Int)) = false := decide_eq_false (by omega)
            go_wp2
            go_quiet (fail)
            have HW1 := Lib.hid (HI.out.trans ((Grew.refl wr).drewN nq))
            go_wp2
            go_quiet (fail)
            have HW := Lib.hid (HW1.out.drewN nq)
            go_wp2
            go_roundw
            case rel => exact ⟨1, max M x, by omega, by go_num, rfl, HMX.out, by have h := HW.out; rwa [World.drewN_drewN] at h⟩
            case measure => simp [intOf]; omega
          · obtain ⟨K1, hK1⟩ : ∃ K1, K = K1 + 1 := ⟨K - 1, by omega⟩
            have hcA1 := (HI.out.cell ((H24.out.at rfl (i := K1) (by omega)).1))
            obtain ⟨A1, eA1⟩ : ∃ A1, r.getD K1 0 = A1 := ⟨_, rfl⟩
            rw [HK.out.2.2.2.2.2 K1 (by omega), eA1] at hcA1
            have hrl := HK.out.2.2.2.2.1
            have hA1l : A1 < A := by
              have := HK.out.2.1.asc K1 (by omega)
              rw [← hK1, eA1, HA.out.1] at this
              exact this
            have HSE : Hid (seesB p (min A1 A) (max A1 A) = true) := by
              have := HK.out.2.1.sees K1 (by omega)
              rw [← hK1, eA1, HA.out.1] at this
              rw [show min A1 A = A1 by omega, show max A1 A = A by omega]
              exact (seesB_iff _ _ _).2 this
            have HCL : Hid (∀ W, Grew wr W → Calls Try.prog 17 #[.slice (some ⟨b', o', none⟩) p.length c3, .int .i64 A1] W (SeenPost (seenL p A1) W)) := fun W hW =>
              Seen_yes _ p A1 W (((HV.out.1.grew HG4.out).grew HI.out).grew hW) HK.out.1 (by omega)
            have HA1 := Lib.hid eA1
            have w1 : IntKind.i64.wrap ((K : Int) - 1) = (K1 : Int) := by rw [wrap_small _ (by omega) (by omega)]; omega
            have r1 : (0 : Int) ≤ K1 := by omega
            have r2 : (K1 : Int) < R.length := by omega
            have r3 : (K : Int) < R.length := by omega
            have r4 : (0 : Int) ≤ K := by omega
            have r5 : (0 : Int) < K := by omega
            have r6 : (A : Int) < p.length := by omega
            have r7 : (0 : Int) ≤ A := by omega
            have HKK := Lib.hid (And.intro hK1 (And.intro hrl hA1l))
            have s1 : 0 < K := by omega
            have s2 : K1 < R.length := by omega
            clear eA1 hK1 hK0 hrl
            go_wp2_with (fail)
            refine wp_region_noPanic ?_
            refine wp_region_held_drew (S := fun W => W.cell? ⟨g7, K1, none⟩ = some (.int .i64 (A1 : Int)) ∧ W.cell? ⟨g7, K, none⟩ = some (.int .i64 (A : Int)) ∧ Grew wr W) (by kernel_rfl) (by exact ⟨hcA1, hcA, (Grew.refl wr).drew⟩) (fun hHeld => ?_)
            refine wpAnyH_take (i := 0) (oi := { dst := some 44, op := Op.move (Operand.tmp 6), type := 3, pos := _, after := #[], guard := none }) (v := ?_) rfl (by kernel_rfl) (by kernel_rfl) (by kernel_rfl) (fun _ _ _ h => h) (Or.inl ⟨by rfl, ?hy⟩) (by assumption) ?_
            case hy => (intro w hSw; (try dsimp only at hSw); go_simp; try with_reducible rfl)
            try simp only [Act.put, List.setIfInBounds_toArray, List.set_cons_zero, List.set_cons_succ]
            refine wpAnyH_take (i := 1) (oi := { dst := some 45, op := Op.binOp BinOp.gtr 3 (Operand.tmp 44) (Operand.const (Value.int IntKind.i64 0)) 3, type := 4, pos := _, after := #[{ on := 0, ground := Ground.data }], guard := none }) (v := .bool true) rfl (by kernel_rfl) (by kernel_rfl) (by kernel_rfl) (fun _ _ _ h => h) (Or.inl ⟨by rfl, ?hy⟩) (by assumption) ?_
            case hy => (intro w hSw; (try dsimp only at hSw); go_simp <;> (try with_reducible rfl) <;> (try simp [*]))
            try simp only [Act.put, List.setIfInBounds_toArray, List.set_cons_zero, List.set_cons_succ]
            refine wpAnyH_take (i := 2) (oi := { dst := some 46, op := Op.move (Operand.tmp 45), type := 4, pos := _, after := #[{ on := 1, ground := Ground.data }], guard := none }) (v := ?_) rfl (by kernel_rfl) (by kernel_rfl) (by kernel_rfl) (fun _ _ _ h => h) (Or.inl ⟨by rfl, ?hy⟩) (by assumption) ?_
            case hy => (intro w hSw; (try dsimp only at hSw); go_simp; try with_reducible rfl)
            try simp only [Act.put, List.setIfInBounds_toArray, List.set_cons_zero, List.set_cons_succ]
            refine wpAnyH_take (i := 3) (oi := { dst := some 47, op := Op.move (Operand.tmp 3), type := 23, pos := _, after := #[{ on := 2, ground := Ground.guard }], guard := some (2, true) }) (v := ?_) rfl (by kernel_rfl) (by kernel_rfl) (by kernel_rfl) (fun _ _ _ h => h) (Or.inl ⟨by rfl, ?hy⟩) (by assumption) ?_
            case hy => (intro w hSw; (try dsimp only at hSw); go_simp; try with_reducible rfl)
            try simp only [Act.put, List.setIfInBounds_toArray, List.set_cons_zero, List.set_cons_succ]
            refine wpAnyH_take (i := 4) (oi := { dst := some 48, op := Op.move (Operand.tmp 4), type := 23, pos := _, after := #[{ on := 2, ground := Ground.guard }], guard := some (2, true) }) (v := ?_) rfl (by kernel_rfl) (by kernel_rfl) (by kernel_rfl) (fun _ _ _ h => h) (Or.inl ⟨by rfl, ?hy⟩) (by assumption) ?_
            case hy => (intro w hSw; (try dsimp only at hSw); go_simp; try with_reducible rfl)
            try simp only [Act.put, List.setIfInBounds_toArray, List.set_cons_zero, List.set_cons_succ]
            refine wpAnyH_take (i := 5) (oi := { dst := some 49, op := Op.move (Operand.tmp 6), type := 3, pos := _, after := #[{ on := 2, ground := Ground.guard }], guard := some (2, true) }) (v := ?_) rfl (by kernel_rfl) (by kernel_rfl) (by kernel_rfl) (fun _ _ _ h => h) (Or.inl ⟨by rfl, ?hy⟩) (by assumption) ?_
            case hy => (intro w hSw; (try dsimp only at hSw); go_simp; try with_reducible rfl)
            try simp only [Act.put, List.setIfInBounds_toArray, List.set_cons_zero, List.set_cons_succ]
            refine wpAnyH_take (i := 6) (oi := { dst := some 50, op := Op.binOp BinOp.sub 3 (Operand.tmp 49) (Operand.const (Value.int IntKind.i64 1)) 3, type := 3, pos := _, after := #[{ on := 5, ground := Ground.data }, { on := 2, ground := Ground.guard }], guard := some (2, true) }) (v := ?_) rfl (by kernel_rfl) (by kernel_rfl) (by kernel_rfl) (fun _ _ _ h => h) (Or.inl ⟨by rfl, ?hy⟩) (by assumption) ?_
            case hy => (intro w hSw; (try dsimp only at hSw); go_simp; try with_reducible rfl)
            try simp only [Act.put, List.setIfInBounds_toArray, List.set_cons_zero, List.set_cons_succ]
            refine wpAnyH_take (i := 7) (oi := { dst := some 51, op := Op.indexAddr 23 (Operand.tmp 48) (Operand.tmp 50), type := 0, pos := _, after := #[{ on := 4, ground := Ground.data }, { on := 6, ground := Ground.data }, { on := 2, ground := Ground.guard }], guard := some (2, true) }) (v := ?_) rfl (by kernel_rfl) (by kernel_rfl) (by kernel_rfl) (fun _ _ _ h => h) (Or.inl ⟨by rfl, ?hy⟩) (by assumption) ?_
            case hy => (intro w hSw; (try dsimp only at hSw); go_simp; try with_reducible rfl)
            try simp only [Act.put, List.setIfInBounds_toArray, List.set_cons_zero, List.set_cons_succ]
            refine wpAnyH_take (i := 8) (oi := { dst := some 52, op := Op.load 3 (Operand.tmp 51), type := 3, pos := _, after := #[{ on := 7, ground := Ground.data }, { on := 2, ground := Ground.guard }], guard := some (2, true) }) (v := ?_) rfl (by kernel_rfl) (by kernel_rfl) (by kernel_rfl) (fun _ _ _ h => h) (Or.inl ⟨by rfl, ?hy⟩) (by assumption) ?_
            case hy => (intro w hSw; (try dsimp only at hSw); go_simp; try with_reducible rfl)
            try simp only [Act.put, List.setIfInBounds_toArray, List.set_cons_zero, List.set_cons_succ]
            refine wpAnyH_take (i := 10) (oi := { dst := some 54, op := Op.move (Operand.tmp 4), type := 23, pos := _, after := #[{ on := 2, ground := Ground.guard }], guard := some (2, true) }) (v := ?_) rfl (by kernel_rfl) (by kernel_rfl) (by kernel_rfl) (fun _ _ _ h => h) (Or.inl ⟨by rfl, ?hy⟩) (by assumption) ?_
            case hy => (intro w hSw; (try dsimp only at hSw); go_simp; try with_reducible rfl)
            try simp only [Act.put, List.setIfInBounds_toArray, List.set_cons_zero, List.set_cons_succ]
            refine wpAnyH_take (i := 11) (oi := { dst := some 55, op := Op.move (Operand.tmp 6), type := 3, pos := _, after := #[{ on := 2, ground := Ground.guard }], guard := some (2, true) }) (v := ?_) rfl (by kernel_rfl) (by kernel_rfl) (by kernel_rfl) (fun _ _ _ h => h) (Or.inl ⟨by rfl, ?hy⟩) (by assumption) ?_
            case hy => (intro w hSw; (try dsimp only at hSw); go_simp; try with_reducible rfl)
            try simp only [Act.put, List.setIfInBounds_toArray, List.set_cons_zero, List.set_cons_succ]
            refine wpAnyH_take (i := 12) (oi := { dst := some 56, op := Op.indexAddr 23 (Operand.tmp 54) (Operand.tmp 55), type := 0, pos := _, after := #[{ on := 10, ground := Ground.data }, { on := 11, ground := Ground.data }, { on := 2, ground := Ground.guard }], guard := some (2, true) }) (v := ?_) rfl (by kernel_rfl) (by kernel_rfl) (by kernel_rfl) (fun _ _ _ h => h) (Or.inl ⟨by rfl, ?hy⟩) (by assumption) ?_
            case hy => (intro w hSw; (try dsimp only at hSw); go_simp; try with_reducible rfl)
            try simp only [Act.put, List.setIfInBounds_toArray, List.set_cons_zero, List.set_cons_succ]
            refine wpAnyH_take (i := 13) (oi := { dst := some 57, op := Op.load 3 (Operand.tmp 56), type := 3, pos := _, after := #[{ on := 12, ground := Ground.data }, { on := 2, ground := Ground.guard }], guard := some (2, true) }) (v := ?_) rfl (by kernel_rfl) (by kernel_rfl) (by kernel_rfl) (fun _ _ _ h => h) (Or.inl ⟨by rfl, ?hy⟩) (by assumption) ?_
            case hy => (intro w hSw; (try dsimp only at hSw); go_simp; try with_reducible rfl)
            try simp only [Act.put, List.setIfInBounds_toArray, List.set_cons_zero, List.set_cons_succ]
            refine wpAnyH_ready (rs := [9]) (by kernel_rfl) (by simp) ?_
            refine AllReadyH.cons (i := 9) (o := { dst := some 53, op := Op.call { callee := Callee.value (Operand.func 17), args := #[Operand.tmp 47, Operand.tmp 52], argTypes := #[23, 3] }, type := 27, pos := _, after := #[{ on := 3, ground := Ground.data }, { on := 8, ground := Ground.data }, { on := 2, ground := Ground.chain }, { on := 2, ground := Ground.guard }], guard := some (2, true) }) rfl (fun KK hKK => ?_) AllReadyH.nil
            go_simp
            go_at_call 17
            (with_reducible refine (HCL.out _ hHeld.2.2).mono ?_)
            rintro e w10 ⟨v10, rfl, hO10, hg10⟩
            obtain ⟨g10, c10, rfl⟩ := hO10.pos (by rw [seenL_len]; omega)
            rw [seenL_len]
            have hc10 := (hO10.at rfl (i := A) (by rw [seenL_len]; omega)).1
            rw [seenL_at p A1 A (by omega), HSE.out] at hc10
            have HG10 := Lib.hid hg10
            clear hO10 hg10
            refine hKK.out _ _ (by exact ⟨HG10.out.cell hHeld.1, HG10.out.cell hHeld.2.1, hHeld.2.2.trans HG10.out⟩) (fun hHeld => ?_)
            refine wpAnyH_monoS (S' := fun W => (W.cell? ⟨g7, K1, none⟩ = some (.int .i64 (A1 : Int)) ∧ W.cell? ⟨g7, K, none⟩ = some (.int .i64 (A : Int)) ∧ Grew wr W) ∧ W.cell? ⟨g10, A, none⟩ = some (.bool true)) (fun _ h => h.1) ?_
            replace hHeld := And.intro hHeld (hc10)
            clear hKK KK
            try simp only [Act.put, List.setIfInBounds_toArray, List.set_cons_zero, List.set_cons_succ]
            refine wpAnyH_take (i := 14) (oi := { dst := some 58, op := Op.indexAddr 27 (Operand.tmp 53) (Operand.tmp 57), type := 0, pos := _, after := #[{ on := 9, ground := Ground.data }, { on := 13, ground := Ground.data }, { on := 2, ground := Ground.guard }], guard := some (2, true) }) (v := ?_) rfl (by kernel_rfl) (by kernel_rfl) (by kernel_rfl) (fun _ _ _ h => h) (Or.inl ⟨by rfl, ?hy⟩) (by assumption) ?_
            case hy => (intro w hSw; (try dsimp only at hSw); go_simp; try with_reducible rfl)
            try simp only [Act.put, List.setIfInBounds_toArray, List.set_cons_zero, List.set_cons_succ]
            refine wpAnyH_take (i := 15) (oi := { dst := some 59, op := Op.load 4 (Operand.tmp 58), type := 4, pos := _, after := #[{ on := 14, ground := Ground.data }, { on := 2, ground := Ground.guard }], guard := some (2, true) }) (v := ?_) rfl (by kernel_rfl) (by kernel_rfl) (by kernel_rfl) (fun _ _ _ h => h) (Or.inl ⟨by rfl, ?hy⟩) (by assumption) ?_
            case hy => (intro w hSw; (try dsimp only at hSw); go_simp; try with_reducible rfl)
            try simp only [Act.put, List.setIfInBounds_toArray, List.set_cons_zero, List.set_cons_succ]
            refine wpAnyH_take (i := 16) (oi := { dst := some 60, op := Op.unOp UnOp.not 4 (Operand.tmp 59), type := 4, pos := _, after := #[{ on := 15, ground := Ground.data }, { on := 2, ground := Ground.guard }], guard := some (2, true) }) (v := ?_) rfl (by kernel_rfl) (by kernel_rfl) (by kernel_rfl) (fun _ _ _ h => h) (Or.inl ⟨by rfl, ?hy⟩) (by assumption) ?_
            case hy => (intro w hSw; (try dsimp only at hSw); go_simp; try with_reducible rfl)
            try simp only [Act.put, List.setIfInBounds_toArray, List.set_cons_zero, List.set_cons_succ]
            refine wpAnyH_take (i := 17) (oi := { dst := some 61, op := Op.pick (Operand.tmp 46) (Operand.tmp 60) (Operand.const (Value.bool false)), type := 4, pos := _, after := #[{ on := 2, ground := Ground.data }, { on := 16, ground := Ground.data }], guard := none }) (v := ?_) rfl (by kernel_rfl) (by kernel_rfl) (by kernel_rfl) (fun _ _ _ h => h) (Or.inl ⟨by rfl, ?hy⟩) (by assumption) ?_
            case hy => (intro w hSw; (try dsimp only at hSw); go_simp; try with_reducible rfl)
            try simp only [Act.put, List.setIfInBounds_toArray, List.set_cons_zero, List.set_cons_succ]
            refine wpAnyH_done (by kernel_rfl) ?_ _
            refine NoPanic.normal ?_
            have HN := Lib.hid hHeld.1.2.2
            have hcA' := hHeld.1.2.1
            have hcA1' := hHeld.1.1
            clear hHeld hcA1 hcA
            by_cases hK2 : K1 = 0
            · have d1 : decide ((1 : Int) < (K : Int)) = false := decide_eq_false (by have := HKK.out.1; omega)
              clear hK2
              go_wp2
              go_quiet (fail)
              have HW := Lib.hid (HI.out.trans (HN.out.drewN nq))
              go_wp2
              clear w1 d1
              go_roundw
              case rel => exact ⟨K + 1, max M x, by omega, by go_num, rfl, HMX.out, HW.out⟩
              case measure => simp [intOf]; omega
            · obtain ⟨K2, hKK2⟩ : ∃ K2, K1 = K2 + 1 := ⟨K1 - 1, by omega⟩
              have d1 : decide ((1 : Int) < (K : Int)) = true := decide_eq_true (by have := HKK.out.1; omega)
              have hk2 := HKK.out
              have hcA2 := (HI.out.cell ((H24.out.at rfl (i := K2) (by omega)).1))
              obtain ⟨A2, eA2⟩ : ∃ A2, r.getD K2 0 = A2 := ⟨_, rfl⟩
              rw [HK.out.2.2.2.2.2 K2 (by omega), eA2] at hcA2
              have hcA2' := HN.out.cell hcA2
              have hA2l : A2 < A1 := by
                have := HK.out.2.1.asc K2 (by omega)
                rw [← hKK2, eA2, HA1.out] at this
                exact this
              have hbend := HK.out.2.1.bend K2 (by omega)
              rw [show K2 + 2 = K by omega, ← hKK2, eA2, HA1.out, HA.out.1, ← bend_eq] at hbend
              have hy := (HI.out.trans HN.out).cell (HC'.out A1 (by omega))
              have hz := (HI.out.trans HN.out).cell (HC'.out A2 (by omega))
              have hx := HN.out.cell hxA
              have bA1 := vProf_at HK.out.1 A1 (by omega)
              have bA2 := vProf_at HK.out.1 A2 (by omega)
              obtain ⟨y, ey⟩ : ∃ y, p.getD A1 0 = y := ⟨_, rfl⟩
              obtain ⟨z, ez⟩ : ∃ z, p.getD A2 0 = z := ⟨_, rfl⟩
              rw [ey] at hy bA1
              rw [ez] at hz bA2
              rw [HA.out.2, ey, ez] at hbend
              have hb2 := of_decide_eq_true hbend
              have m1 := mul_bd (x - y) ((A1 : Int) - A2) 100 100 (by omega) (by omega)
              have m2 := mul_bd (y - z) ((A : Int) - A1) 100 100 (by omega) (by omega)
              have v1 : IntKind.i64.wrap (x - y) = x - y := wrap_small _ (by omega) (by omega)
              have v2 : IntKind.i64.wrap ((A1 : Int) - A2) = (A1 : Int) - A2 := wrap_small _ (by omega) (by omega)
              have v3 : IntKind.i64.wrap ((x - y) * ((A1 : Int) - A2)) = (x - y) * ((A1 : Int) - A2) := wrap_small _ (by omega) (by omega)
              have v4 : IntKind.i64.wrap (y - z) = y - z := wrap_small _ (by omega) (by omega)
              have v5 : IntKind.i64.wrap ((A : Int) - A1) = (A : Int) - A1 := wrap_small _ (by omega) (by omega)
              have v6 : IntKind.i64.wrap ((y - z) * ((A : Int) - A1)) = (y - z) * ((A : Int) - A1) := wrap_small _ (by omega) (by omega)
              have v7 : IntKind.i64.wrap ((K : Int) - 2) = (K2 : Int) := by rw [wrap_small _ (by omega) (by omega)]; omega
              have hd : decide ((y - z) * ((A : Int) - A1) ≤ (x - y) * ((A1 : Int) - A2)) = false := decide_eq_false (by omega)
              have q1 : (0 : Int) ≤ K2 := by omega
              have q2 : (K2 : Int) < R.length := by omega
              have q3 : (A1 : Int) < p.length := by omega
              have q4 : (0 : Int) ≤ A1 := by omega
              have q5 : (A2 : Int) < p.length := by omega
              have q6 : (0 : Int) ≤ A2 := by omega
              clear hK2 hcA2 hbend hb2 ey ez m1 m2 eA2 hKK2 hk2 hxA
              go_wp2
              go_quiet (fail)
              have HW := Lib.hid (HI.out.trans (HN.out.drewN nq))
              go_wp2
              clear w1 d1 v1 v2 v3 v4 v5 v6 v7 hd
              go_roundw
              case rel => exact ⟨K + 1, max M x, by omega, by go_num, rfl, HMX.out, HW.out⟩
              case measure => simp [intOf]; omega
        · have HMM : Hid (∀ i, i < p.length → p.getD i 0 ≤ M) := fun i hi => by
            have hrl := HK.out.2.2.2.2.1
            obtain ⟨j, hj1, hj2⟩ := roof_over HK.out.2.1 (r.length - 1) (by omega) i (by rw [HK.out.2.2.1]; omega)
            have := HM.out j (by omega)
            omega
          obtain ⟨wo, rfl⟩ : ∃ wo : World, wo = wr := ⟨_, rfl⟩
          go_wp2
          go_loopw [7] (fun i wr => ∃ I : Nat, I ≤ p.length ∧ i = .int .i64 I ∧ Hid (Grew wo wr)) (fun i _ => p.length - (intOf i).toNat)
          case atStart => exact ⟨0, Nat.zero_le _, rfl, Grew.refl _⟩
          case round =>
            obtain ⟨I, hI, rfl, HJ⟩ := hrel
            by_cases hlt2 : I < p.length
            · have hxI := (HI.out.trans HJ.out).cell (HC'.out I hlt2)
              have hle := HMM.out I hlt2
              obtain ⟨x, ex⟩ : ∃ x, p.getD I 0 = x := ⟨_, rfl⟩
              rw [ex] at hxI hle
              clear ex
              go_wp2
              go_roundw
              case rel => exact ⟨I + 1, by omega, by go_num, HJ.out⟩
              case measure => simp [intOf]; omega
            · obtain ⟨L, hL⟩ : ∃ L, R.length = L + 1 := ⟨R.length - 1, by omega⟩
              obtain ⟨n, hn⟩ : ∃ n, p.length = n + 1 := ⟨p.length - 1, by omega⟩
              have h0 := (HI.out.trans HJ.out).cell ((H24.out.at rfl (i := 0) (by omega)).1)
              have hl := (HI.out.trans HJ.out).cell ((H24.out.at rfl (i := L) (by omega)).1)
              have hlast := HK.out.2.2.1
              rw [← HK.out.2.2.2.2.1, hL, Nat.add_sub_cancel, hn, Nat.add_sub_cancel] at hlast
              rw [HK.out.2.2.2.2.2 0 (by omega), HK.out.2.1.first] at h0
              rw [HK.out.2.2.2.2.2 L (by omega), hlast] at hl
              have e1 : (R.length : Int) - 1 = (L : Int) := by omega
              have e2 : (p.length : Int) - 1 = (n : Int) := by omega
              have r1 : (L : Int) < R.length := by omega
              have r2 : 0 < R.length := by omega
              have r3 : (0 : Int) < R.length := by omega
              have r4 : L < R.length := by omega
              clear hlast hL hn
              go_wp2
              go_ret
              exact ⟨ret_bool (by simp), HV.out.2.trans (HG4.out.trans (HI.out.trans HJ.out))⟩
end Go.Proofs.Ythljmolkicfdaaa
