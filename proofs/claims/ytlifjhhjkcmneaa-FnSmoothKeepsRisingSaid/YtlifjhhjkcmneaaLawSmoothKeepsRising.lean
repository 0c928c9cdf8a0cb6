/- The law FnSmoothKeepsRising returns true. -/
import Derived.Test.YtlifjhhjkcmneaaLawSmoothUp
import Derived.Test.YtlifjhhjkcmneaaKeepM
import Derived.Test.YtlifjhhjkcmneaaRise
import Derived.Lib.MinMax
import Derived.BigQuiet
namespace Go.Proofs.Ytlifjhhjkcmneaa
open Go.RowKit

set_option maxRecDepth 100000 in
set_option maxHeartbeats 8000000 in
theorem FnSmoothKeepsRising_any (v : Value) (bs : List Int) (w : World) (hv : NumsV .u8 w v bs) (hb : ∀ i, i < bs.length → 0 ≤ bs.getD i 0 ∧ bs.getD i 0 ≤ 255) :
    Calls Try.prog 9 #[v] w fun e w' => e = .returned (.bool true) ∧ Grew w w' := by
  have HD := Lib.hid (DrawSmoothUp_any v bs w hv hb)
  obtain ⟨a, b, o, c, rfl, ⟨hlc, hcb⟩, _, _⟩ := hv.shape
  clear hv hb
  by_cases hbig : 1048576 < bs.length
  · go_enter Try.func9, Try.ntmps9
    go_wp2
    go_ret
    exact ⟨rfl, Grew.refl _⟩
  · go_enter Try.func9, Try.ntmps9
    go_wp2_with (fail)
    refine HD.out.mono ?_
    rintro e w1 ⟨v1, p, rfl, hO, hd, hg1⟩
    have h9 := hd.1
    have HV := Lib.hid (And.intro hO.toV hg1)
    obtain ⟨a3, c3, rfl⟩ := hO.sh
    obtain ⟨M, eM⟩ : ∃ M, stackX p = M := ⟨_, rfl⟩
    have HM := Lib.hid eM
    clear hO hd hg1 HD eM
    go_wp2_with (fail)
    refine (SmoothUp_any _ p _ HV.out.1).mono ?_
    rw [HM.out]
    rintro e w2 ⟨v2, rfl, hO2, hg2⟩
    have H2 := Lib.hid (And.intro hO2.toV hg2)
    obtain ⟨a5, c5, rfl⟩ := hO2.sh
    clear hO2 hg2
    go_wp2_with (fail)
    refine (SSmoothUp_any _ p _ (HV.out.1.grew H2.out.2)).mono ?_
    rw [HM.out]
    rintro e w3 ⟨v3, rfl, hO3, hg3⟩
    have H3 := Lib.hid (And.intro hO3.toV (And.intro (H2.out.2.trans hg3) (H2.out.1.grew hg3)))
    obtain ⟨a6, c6, rfl⟩ := hO3.sh
    clear hO3 hg3
    go_wp2_with (fail)
    refine (equalFracs_any _ _ M M _ H3.out.2.2 H3.out.1).mono ?_
    rw [decide_eq_true (rfl : M = M)]
    rintro e w4 ⟨rfl, hq⟩
    have H4 := Lib.hid (H3.out.2.1.trans (quiet_grew hq))
    clear hq
    go_wp2_with (fail)
    refine (SmoothUp_any _ p _ (HV.out.1.grew H4.out)).mono ?_
    rw [HM.out]
    rintro e w5 ⟨v5, rfl, hO5, hg5⟩
    have H5 := Lib.hid (And.intro hO5.toV (H4.out.trans hg5))
    obtain ⟨a7, c7, rfl⟩ := hO5.sh
    clear hO5 hg5
    by_cases hM : M.length = 0
    · have hM' : ((M.length : Int) == 0) = true := by simp [hM]
      clear hM
      go_wp2
      go_ret
      exact ⟨rfl, HV.out.2.trans H5.out.2⟩
    · have hp := stackX_yes (p := p) (by rw [HM.out]; exact hM)
      have hM' : ((M.length : Int) == 0) = false := beq_eq_false_iff_ne.2 (by omega)
      have hmi := stackX_is hp
      rw [HM.out] at hmi
      have hp0 := ((vProf_iff p).1 hp).1
      have HP := Lib.hid hp
      have HMI := Lib.hid hmi
      have HB := Lib.hid ((vProf_iff p).1 hp).2.2
      have HRC : Hid (∀ W, Grew w5 W → Calls Try.prog 33 #[.slice a3 p.length c3] W fun e w' => e = .returned (.int .i64 (riseX p)) ∧ Grew W w') := fun W hW => RiseCost_any _ p W (HV.out.1.grew (H5.out.2.trans hW))
      obtain ⟨ao, bo, oo, co, eo, _, hao, HCO⟩ := H5.out.1.shape
      simp only [Value.slice.injEq] at eo
      obtain ⟨rfl, _, rfl⟩ := eo
      obtain rfl := hao (by have := HMI.out.1; omega)
      obtain ⟨ap, bp, op, cp, ep, _, hap, HCP⟩ := (HV.out.1.grew H5.out.2).shape
      simp only [Value.slice.injEq] at ep
      obtain ⟨rfl, _, rfl⟩ := ep
      obtain rfl := hap (by omega)
      clear hp hmi hM hao hap
      go_wp2
      go_loopw [5, 6, 7] (fun cv sv iv wr => ∃ (k : Nat) (C : Int), cv = .int .i64 C ∧ sv = .bool (sameK p k) ∧ iv = .int .i64 k ∧ k ≤ p.length ∧ (0 ≤ C ∧ C ≤ 1000) ∧ Hid (C = costK p k) ∧ Hid (True ∧ True ∧ Grew w5 wr)) (fun _ _ iv _ => p.length - (intOf iv).toNat)
      case atStart => exact ⟨0, 0, rfl, rfl, rfl, Nat.zero_le _, by decide, rfl, trivial, trivial, Grew.refl _⟩
      case round =>
        obtain ⟨k, C, rfl, rfl, rfl, hk, hCb, HCK, HK⟩ := hrel
        by_cases hltk : k < p.length
        · have hkM : k < M.length := by have := HMI.out.1; omega
          obtain ⟨nx1, ny1, ef, hx1, hy1, hz1⟩ := bestF_nats HP.out k hltk
          have hc1 := HK.out.2.2.cell (HCO.out k hkM).1
          have hc2 := HK.out.2.2.cell (HCO.out k hkM).2
          have hc3 := HK.out.2.2.cell (HCP.out k hltk)
          rw [HMI.out.2 k hltk, ef] at hc1 hc2
          simp only at hc1 hc2
          have hbP := HB.out k hltk
          have hrb := best_round HP.out k hltk
          have hck1 : costK p (k + 1) = costK p k + iab (p.getD k 0 - roundF (bestF' p k)) := rfl
          have hsk1 : sameK p (k + 1) = (sameK p k && decide (bestF' p k = (p.getD k 0, 1))) := rfl
          have hcb := costK_bd HP.out (k + 1) hltk
          rw [← HCK.out] at hck1
          obtain ⟨P, eP⟩ : ∃ P, p.getD k 0 = P := ⟨_, rfl⟩
          rw [eP] at hc3 hbP hck1 hsk1
          rw [ef] at hrb hck1 hsk1
          unfold roundF at hrb hck1
          simp only at hrb hck1
          obtain ⟨x1, ex1⟩ : ∃ x1 : Int, (nx1 : Int) = x1 := ⟨_, rfl⟩
          obtain ⟨y1, ey1⟩ : ∃ y1 : Int, (ny1 : Int) = y1 := ⟨_, rfl⟩
          rw [ex1] at hc1 hrb hck1 hsk1
          rw [ey1] at hc2 hrb hck1 hsk1
          have hxb : 0 ≤ x1 ∧ x1 ≤ 108 := by omega
          have hyb : 1 ≤ y1 ∧ y1 ≤ 9 := by omega
          obtain ⟨X, eX⟩ : ∃ X, (2 * x1 + y1) / (2 * y1) = X := ⟨_, rfl⟩
          rw [eX] at hrb hck1
          have hmx : iab (P - X) = max (P - X) (X - P) := by unfold iab; omega
          rw [hmx] at hck1
          obtain ⟨C2, eC2⟩ : ∃ C2, costK p (k + 1) = C2 := ⟨_, rfl⟩
          rw [eC2] at hck1 hcb
          have HC2 : Hid ((0 ≤ C2 ∧ C2 ≤ 1000) ∧ Hid (C2 = costK p (k + 1))) := ⟨by omega, eC2.symm⟩
          obtain ⟨R0, eR0⟩ : ∃ R0, decide ((x1, y1) = (P, 1)) = R0 := ⟨_, rfl⟩
          rw [eR0] at hsk1
          have heq : ∀ W, (binOp .eql 29 (.agg #[.int .i64 x1, .int .i64 y1]) (.agg #[.int .i64 P, .int .i64 1])).run Try.prog W = .ok (.bool R0) W := fun W => by
            have := eqlFr x1 y1 P 1 W
            rw [eR0] at this
            exact this
          have HEQ := Lib.hid heq
          have HFP : Hid (∀ W, Calls Try.prog 21 #[.int .i64 P, .int .i64 1] W fun e w' => e = .returned (.agg #[.int .i64 P, .int .i64 1]) ∧ Grew W w') := fun W => by
            obtain ⟨n, rfl⟩ := Int.eq_ofNat_of_zero_le hbP.1
            have := lfracOf_any n 1 W (by omega) (by decide) (by decide)
            have e : frL n 1 = ((n : Int), 1) := by have := frL_whole n 1 (by decide); rwa [Nat.mul_one] at this
            rw [e] at this
            exact this
          have HSG : Hid (∀ W, Grew wr W → Grew wr W ∧ W.cell? ⟨bo, oo + k * 2, none⟩ = some (.int .i64 x1) ∧ W.cell? ⟨bo, oo + k * 2 + 1, none⟩ = some (.int .i64 y1) ∧ W.cell? ⟨bp, op + k, none⟩ = some (.int .i64 P)) := fun W h => ⟨h, h.cell hc1, h.cell hc2, h.cell hc3⟩
          obtain ⟨SK, eSK⟩ : ∃ SK, sameK p k = SK := ⟨_, rfl⟩
          rw [eSK] at hsk1 ⊢
          have q1 : IntKind.i64.wrap (2 * x1) = 2 * x1 := wrap_12 _ (by omega) (by omega)
          have q2 : IntKind.i64.wrap (2 * x1 + y1) = 2 * x1 + y1 := wrap_12 _ (by omega) (by omega)
          have q3 : IntKind.i64.wrap (2 * y1) = 2 * y1 := wrap_12 _ (by omega) (by omega)
          have q4 : ¬ 2 * y1 = 0 := by omega
          have q5 : IntKind.i64.wrap X = X := wrap_12 _ (by omega) (by omega)
          have q6 : IntKind.i64.wrap (P - X) = P - X := wrap_12 _ (by omega) (by omega)
          have q7 : IntKind.i64.wrap (X - P) = X - P := wrap_12 _ (by omega) (by omega)
          have q8 : IntKind.i64.wrap (C + max (P - X) (X - P)) = C2 := by rw [← hck1]; exact wrap_12 _ (by omega) (by omega)
          have q9 : Int.tdiv (2 * x1 + y1) (2 * y1) = X := by rw [Int.tdiv_eq_ediv_of_nonneg (by omega)]; exact eX
          have w4' : IntKind.i64.wrap ((k : Int) + 1) = (k : Int) + 1 := wrap_12 _ (by omega) (by omega)
          have r1 : (k : Int) < M.length := by omega
          have r1' : (k : Int) < p.length := by omega
          have r2 : (0 : Int) ≤ k := by omega
          clear hcb hck1 hmx eC2 eSK ef ex1 ey1 eP eR0 heq hx1 hy1 hz1 hbP HCK
          go_wp2
          go_quiet (fail)
          go_wp2
          go_quiet (fail)
          generalize hW8 : World.drewN wr _ = w8
          have hG8 : Grew wr w8 := by rw [← hW8]; exact (Grew.refl _).drewN _
          generalize hW9 : World.drewN w8 _ = w9
          have hG9 : Grew wr w9 := by rw [← hW9]; exact hG8.drewN _
          have HG9 := Lib.hid hG9
          clear hG9 hG8 hW9 hW8 hc1 hc2 hc3 q1 q2 q3 q4 q5 q6 q7 q8 q9 eX
          cases SK with
          | false =>
            have HSK : Hid (sameK p (k + 1) = false) := Lib.hid (by rw [hsk1]; rfl)
            clear hsk1
            ( go_wp2
              refine wp_region_noPanic ?_
              refine wp_region_held_drew (S := fun W => Grew wr W) (by kernel_rfl) (by exact HG9.out.drew) (fun hHeld => ?_)
              refine wpAnyH_take (i := 0) (oi := { dst := some 65, op := Op.move (Operand.tmp 6), type := 4, pos := _, after := #[], guard := none }) (v := .bool false) rfl (by kernel_rfl) (by kernel_rfl) (by kernel_rfl) (fun _ _ _ h => h) (Or.inl ⟨by rfl, ?hy⟩) (by assumption) ?_
              case hy => (intro w hSw; (try dsimp only at hSw); go_simp <;> (try with_reducible rfl) <;> (try simp [*]))
              try simp only [Act.put, List.setIfInBounds_toArray, List.set_cons_zero, List.set_cons_succ]
              refine wpAnyH_take (i := 1) (oi := { dst := some 66, op := Op.move (Operand.tmp 65), type := 4, pos := _, after := #[{ on := 0, ground := Ground.data }], guard := none }) (v := .bool false) rfl (by kernel_rfl) (by kernel_rfl) (by kernel_rfl) (fun _ _ _ h => h) (Or.inl ⟨by rfl, ?hy⟩) (by assumption) ?_
              case hy => (intro w hSw; (try dsimp only at hSw); go_simp <;> (try with_reducible rfl) <;> (try simp [*]))
              try simp only [Act.put, List.setIfInBounds_toArray, List.set_cons_zero, List.set_cons_succ]
              refine wpAnyH_take (i := 2) (oi := { dst := some 67, op := Op.move (Operand.tmp 4), type := 25, pos := _, after := #[{ on := 1, ground := Ground.guard }], guard := some (1, true) }) (v := undef) rfl (by kernel_rfl) (by kernel_rfl) (by kernel_rfl) (fun _ _ _ h => h) (Or.inr ⟨by rfl, rfl⟩) (by assumption) ?_
              try simp only [Act.put, List.setIfInBounds_toArray, List.set_cons_zero, List.set_cons_succ]
              refine wpAnyH_take (i := 3) (oi := { dst := some 68, op := Op.move (Operand.tmp 7), type := 3, pos := _, after := #[{ on := 1, ground := Ground.guard }], guard := some (1, true) }) (v := undef) rfl (by kernel_rfl) (by kernel_rfl) (by kernel_rfl) (fun _ _ _ h => h) (Or.inr ⟨by rfl, rfl⟩) (by assumption) ?_
              try simp only [Act.put, List.setIfInBounds_toArray, List.set_cons_zero, List.set_cons_succ]
              refine wpAnyH_take (i := 4) (oi := { dst := some 69, op := Op.indexAddr 25 (Operand.tmp 67) (Operand.tmp 68), type := 0, pos := _, after := #[{ on := 2, ground := Ground.data }, { on := 3, ground := Ground.data }, { on := 1, ground := Ground.guard }], guard := some (1, true) }) (v := undef) rfl (by kernel_rfl) (by kernel_rfl) (by kernel_rfl) (fun _ _ _ h => h) (Or.inr ⟨by rfl, rfl⟩) (by assumption) ?_
              try simp only [Act.put, List.setIfInBounds_toArray, List.set_cons_zero, List.set_cons_succ]
              refine wpAnyH_take (i := 5) (oi := { dst := some 70, op := Op.load 29 (Operand.tmp 69), type := 29, pos := _, after := #[{ on := 4, ground := Ground.data }, { on := 1, ground := Ground.guard }], guard := some (1, true) }) (v := undef) rfl (by kernel_rfl) (by kernel_rfl) (by kernel_rfl) (fun _ _ _ h => h) (Or.inr ⟨by rfl, rfl⟩) (by assumption) ?_
              try simp only [Act.put, List.setIfInBounds_toArray, List.set_cons_zero, List.set_cons_succ]
              refine wpAnyH_take (i := 6) (oi := { dst := some 71, op := Op.move (Operand.tmp 3), type := 23, pos := _, after := #[{ on := 1, ground := Ground.guard }], guard := some (1, true) }) (v := undef) rfl (by kernel_rfl) (by kernel_rfl) (by kernel_rfl) (fun _ _ _ h => h) (Or.inr ⟨by rfl, rfl⟩) (by assumption) ?_
              try simp only [Act.put, List.setIfInBounds_toArray, List.set_cons_zero, List.set_cons_succ]
              refine wpAnyH_take (i := 7) (oi := { dst := some 72, op := Op.move (Operand.tmp 7), type := 3, pos := _, after := #[{ on := 1, ground := Ground.guard }], guard := some (1, true) }) (v := undef) rfl (by kernel_rfl) (by kernel_rfl) (by kernel_rfl) (fun _ _ _ h => h) (Or.inr ⟨by rfl, rfl⟩) (by assumption) ?_
              try simp only [Act.put, List.setIfInBounds_toArray, List.set_cons_zero, List.set_cons_succ]
              refine wpAnyH_take (i := 8) (oi := { dst := some 73, op := Op.indexAddr 23 (Operand.tmp 71) (Operand.tmp 72), type := 0, pos := _, after := #[{ on := 6, ground := Ground.data }, { on := 7, ground := Ground.data }, { on := 1, ground := Ground.guard }], guard := some (1, true) }) (v := undef) rfl (by kernel_rfl) (by kernel_rfl) (by kernel_rfl) (fun _ _ _ h => h) (Or.inr ⟨by rfl, rfl⟩) (by assumption) ?_
              try simp only [Act.put, List.setIfInBounds_toArray, List.set_cons_zero, List.set_cons_succ]
              refine wpAnyH_take (i := 9) (oi := { dst := some 74, op := Op.load 3 (Operand.tmp 73), type := 3, pos := _, after := #[{ on := 8, ground := Ground.data }, { on := 1, ground := Ground.guard }], guard := some (1, true) }) (v := undef) rfl (by kernel_rfl) (by kernel_rfl) (by kernel_rfl) (fun _ _ _ h => h) (Or.inr ⟨by rfl, rfl⟩) (by assumption) ?_
              try simp only [Act.put, List.setIfInBounds_toArray, List.set_cons_zero, List.set_cons_succ]
              refine wpAnyH_take (i := 10) (oi := { dst := some 75, op := Op.call { callee := Callee.value (Operand.func 21), args := #[Operand.tmp 74, Operand.const (Value.int IntKind.i64 1)], argTypes := #[3, 3] }, type := 29, pos := _, after := #[{ on := 9, ground := Ground.data }, { on := 1, ground := Ground.chain }, { on := 1, ground := Ground.guard }], guard := some (1, true) }) (v := undef) rfl (by kernel_rfl) (by kernel_rfl) (by kernel_rfl) (fun _ _ _ h => h) (Or.inr ⟨by rfl, rfl⟩) (by assumption) ?_
              try simp only [Act.put, List.setIfInBounds_toArray, List.set_cons_zero, List.set_cons_succ]
              refine wpAnyH_take (i := 11) (oi := { dst := some 76, op := Op.binOp BinOp.eql 29 (Operand.tmp 70) (Operand.tmp 75) 29, type := 4, pos := _, after := #[{ on := 5, ground := Ground.data }, { on := 10, ground := Ground.data }, { on := 1, ground := Ground.guard }], guard := some (1, true) }) (v := undef) rfl (by kernel_rfl) (by kernel_rfl) (by kernel_rfl) (fun _ _ _ h => h) (Or.inr ⟨by rfl, rfl⟩) (by assumption) ?_
              try simp only [Act.put, List.setIfInBounds_toArray, List.set_cons_zero, List.set_cons_succ]
              refine wpAnyH_take (i := 12) (oi := { dst := some 77, op := Op.pick (Operand.tmp 66) (Operand.tmp 76) (Operand.const (Value.bool false)), type := 4, pos := _, after := #[{ on := 1, ground := Ground.data }, { on := 11, ground := Ground.data }], guard := none }) (v := ?_) rfl (by kernel_rfl) (by kernel_rfl) (by kernel_rfl) (fun _ _ _ h => h) (Or.inl ⟨by rfl, ?hy⟩) (by assumption) ?_
              case hy => (intro w hSw; (try dsimp only at hSw); go_simp; try with_reducible rfl)
              try simp only [Act.put, List.setIfInBounds_toArray, List.set_cons_zero, List.set_cons_succ]
              refine wpAnyH_take (i := 13) (oi := { dst := some 6, op := Op.assign (Operand.tmp 77), type := 4, pos := _, after := #[{ on := 12, ground := Ground.data }, { on := 10, ground := Ground.chain }, { on := 0, ground := Ground.phase }, { on := 1, ground := Ground.phase }, { on := 2, ground := Ground.phase }, { on := 3, ground := Ground.phase }, { on := 4, ground := Ground.phase }, { on := 5, ground := Ground.phase }, { on := 6, ground := Ground.phase }, { on := 7, ground := Ground.phase }, { on := 8, ground := Ground.phase }, { on := 9, ground := Ground.phase }, { on := 10, ground := Ground.phase }, { on := 11, ground := Ground.phase }, { on := 12, ground := Ground.phase }], guard := none }) (v := ?_) rfl (by kernel_rfl) (by kernel_rfl) (by kernel_rfl) (fun _ _ _ h => h) (Or.inl ⟨by rfl, ?hy⟩) (by assumption) ?_
              case hy => (intro w hSw; (try dsimp only at hSw); go_simp; try with_reducible rfl)
              try simp only [Act.put, List.setIfInBounds_toArray, List.set_cons_zero, List.set_cons_succ]
              refine wpAnyH_done (by kernel_rfl) ?_ _
              refine NoPanic.normal ?_
              have HF : Hid (True ∧ True ∧ Grew w5 w9.drew) := ⟨trivial, trivial, HK.out.2.2.trans hHeld⟩
              clear hHeld
              go_wp2
              go_roundw
              case rel => exact ⟨k + 1, C2, rfl, by rw [HSK.out], by go_num, by omega, HC2.out.1, HC2.out.2, HF.out⟩
              case measure => simp [intOf]; omega
            )
          | true =>
            have HSK : Hid (sameK p (k + 1) = R0) := Lib.hid (by rw [hsk1]; rfl)
            have heq := HEQ.out
            have hgd := fun op x y xs ys W => guardFr op x y xs ys W
            clear hsk1
            ( go_wp2
              refine wp_region_noPanic ?_
              refine wp_region_held_drew (S := fun W => Grew wr W ∧ W.cell? ⟨bo, oo + k * 2, none⟩ = some (.int .i64 x1) ∧ W.cell? ⟨bo, oo + k * 2 + 1, none⟩ = some (.int .i64 y1) ∧ W.cell? ⟨bp, op + k, none⟩ = some (.int .i64 P)) (by kernel_rfl) (by exact HSG.out _ HG9.out.drew) (fun hHeld => ?_)
              refine wpAnyH_take (i := 0) (oi := { dst := some 65, op := Op.move (Operand.tmp 6), type := 4, pos := _, after := #[], guard := none }) (v := .bool true) rfl (by kernel_rfl) (by kernel_rfl) (by kernel_rfl) (fun _ _ _ h => h) (Or.inl ⟨by rfl, ?hy⟩) (by assumption) ?_
              case hy => (intro w hSw; (try dsimp only at hSw); go_simp <;> (try with_reducible rfl) <;> (try simp [*]))
              try simp only [Act.put, List.setIfInBounds_toArray, List.set_cons_zero, List.set_cons_succ]
              refine wpAnyH_take (i := 1) (oi := { dst := some 66, op := Op.move (Operand.tmp 65), type := 4, pos := _, after := #[{ on := 0, ground := Ground.data }], guard := none }) (v := .bool true) rfl (by kernel_rfl) (by kernel_rfl) (by kernel_rfl) (fun _ _ _ h => h) (Or.inl ⟨by rfl, ?hy⟩) (by assumption) ?_
              case hy => (intro w hSw; (try dsimp only at hSw); go_simp <;> (try with_reducible rfl) <;> (try simp [*]))
              try simp only [Act.put, List.setIfInBounds_toArray, List.set_cons_zero, List.set_cons_succ]
              refine wpAnyH_take (i := 2) (oi := { dst := some 67, op := Op.move (Operand.tmp 4), type := 25, pos := _, after := #[{ on := 1, ground := Ground.guard }], guard := some (1, true) }) (v := ?_) rfl (by kernel_rfl) (by kernel_rfl) (by kernel_rfl) (fun _ _ _ h => h) (Or.inl ⟨by rfl, ?hy⟩) (by assumption) ?_
              case hy => (intro w hSw; (try dsimp only at hSw); go_simp; try with_reducible rfl)
              try simp only [Act.put, List.setIfInBounds_toArray, List.set_cons_zero, List.set_cons_succ]
              refine wpAnyH_take (i := 3) (oi := { dst := some 68, op := Op.move (Operand.tmp 7), type := 3, pos := _, after := #[{ on := 1, ground := Ground.guard }], guard := some (1, true) }) (v := ?_) rfl (by kernel_rfl) (by kernel_rfl) (by kernel_rfl) (fun _ _ _ h => h) (Or.inl ⟨by rfl, ?hy⟩) (by assumption) ?_
              case hy => (intro w hSw; (try dsimp only at hSw); go_simp; try with_reducible rfl)
              try simp only [Act.put, List.setIfInBounds_toArray, List.set_cons_zero, List.set_cons_succ]
              refine wpAnyH_take (i := 4) (oi := { dst := some 69, op := Op.indexAddr 25 (Operand.tmp 67) (Operand.tmp 68), type := 0, pos := _, after := #[{ on := 2, ground := Ground.data }, { on := 3, ground := Ground.data }, { on := 1, ground := Ground.guard }], guard := some (1, true) }) (v := ?_) rfl (by kernel_rfl) (by kernel_rfl) (by kernel_rfl) (fun _ _ _ h => h) (Or.inl ⟨by rfl, ?hy⟩) (by assumption) ?_
              case hy => (intro w hSw; (try dsimp only at hSw); go_simp; try with_reducible rfl)
              try simp only [Act.put, List.setIfInBounds_toArray, List.set_cons_zero, List.set_cons_succ]
              refine wpAnyH_take (i := 5) (oi := { dst := some 70, op := Op.load 29 (Operand.tmp 69), type := 29, pos := _, after := #[{ on := 4, ground := Ground.data }, { on := 1, ground := Ground.guard }], guard := some (1, true) }) (v := ?_) rfl (by kernel_rfl) (by kernel_rfl) (by kernel_rfl) (fun _ _ _ h => h) (Or.inl ⟨by rfl, ?hy⟩) (by assumption) ?_
              case hy => (intro w hSw; (try dsimp only at hSw); go_simp; try with_reducible rfl)
              try simp only [Act.put, List.setIfInBounds_toArray, List.set_cons_zero, List.set_cons_succ]
              refine wpAnyH_take (i := 6) (oi := { dst := some 71, op := Op.move (Operand.tmp 3), type := 23, pos := _, after := #[{ on := 1, ground := Ground.guard }], guard := some (1, true) }) (v := ?_) rfl (by kernel_rfl) (by kernel_rfl) (by kernel_rfl) (fun _ _ _ h => h) (Or.inl ⟨by rfl, ?hy⟩) (by assumption) ?_
              case hy => (intro w hSw; (try dsimp only at hSw); go_simp; try with_reducible rfl)
              try simp only [Act.put, List.setIfInBounds_toArray, List.set_cons_zero, List.set_cons_succ]
              refine wpAnyH_take (i := 7) (oi := { dst := some 72, op := Op.move (Operand.tmp 7), type := 3, pos := _, after := #[{ on := 1, ground := Ground.guard }], guard := some (1, true) }) (v := ?_) rfl (by kernel_rfl) (by kernel_rfl) (by kernel_rfl) (fun _ _ _ h => h) (Or.inl ⟨by rfl, ?hy⟩) (by assumption) ?_
              case hy => (intro w hSw; (try dsimp only at hSw); go_simp; try with_reducible rfl)
              try simp only [Act.put, List.setIfInBounds_toArray, List.set_cons_zero, List.set_cons_succ]
              refine wpAnyH_take (i := 8) (oi := { dst := some 73, op := Op.indexAddr 23 (Operand.tmp 71) (Operand.tmp 72), type := 0, pos := _, after := #[{ on := 6, ground := Ground.data }, { on := 7, ground := Ground.data }, { on := 1, ground := Ground.guard }], guard := some (1, true) }) (v := ?_) rfl (by kernel_rfl) (by kernel_rfl) (by kernel_rfl) (fun _ _ _ h => h) (Or.inl ⟨by rfl, ?hy⟩) (by assumption) ?_
              case hy => (intro w hSw; (try dsimp only at hSw); go_simp; try with_reducible rfl)
              try simp only [Act.put, List.setIfInBounds_toArray, List.set_cons_zero, List.set_cons_succ]
              refine wpAnyH_take (i := 9) (oi := { dst := some 74, op := Op.load 3 (Operand.tmp 73), type := 3, pos := _, after := #[{ on := 8, ground := Ground.data }, { on := 1, ground := Ground.guard }], guard := some (1, true) }) (v := ?_) rfl (by kernel_rfl) (by kernel_rfl) (by kernel_rfl) (fun _ _ _ h => h) (Or.inl ⟨by rfl, ?hy⟩) (by assumption) ?_
              case hy => (intro w hSw; (try dsimp only at hSw); go_simp; try with_reducible rfl)
              try simp only [Act.put, List.setIfInBounds_toArray, List.set_cons_zero, List.set_cons_succ]
              refine wpAnyH_ready (rs := [10]) (by kernel_rfl) (by simp) ?_
              refine AllReadyH.cons (i := 10) (o := { dst := some 75, op := Op.call { callee := Callee.value (Operand.func 21), args := #[Operand.tmp 74, Operand.const (Value.int IntKind.i64 1)], argTypes := #[3, 3] }, type := 29, pos := _, after := #[{ on := 9, ground := Ground.data }, { on := 1, ground := Ground.chain }, { on := 1, ground := Ground.guard }], guard := some (1, true) }) rfl (fun KK hKK => ?_) AllReadyH.nil
              go_simp
              go_at_call 21
              refine (HFP.out _).mono ?_
              rintro e w10 ⟨rfl, hg10⟩
              have HG10 := Lib.hid (hHeld.1.trans hg10)
              clear hg10
              refine hKK.out _ _ (by exact HSG.out _ HG10.out) (fun hHeld => ?_)
              clear hKK KK
              try simp only [Act.put, List.setIfInBounds_toArray, List.set_cons_zero, List.set_cons_succ]
              refine wpAnyH_take (i := 11) (oi := { dst := some 76, op := Op.binOp BinOp.eql 29 (Operand.tmp 70) (Operand.tmp 75) 29, type := 4, pos := _, after := #[{ on := 5, ground := Ground.data }, { on := 10, ground := Ground.data }, { on := 1, ground := Ground.guard }], guard := some (1, true) }) (v := ?_) rfl (by kernel_rfl) (by kernel_rfl) (by kernel_rfl) (fun _ _ _ h => h) (Or.inl ⟨by rfl, ?hy⟩) (by assumption) ?_
              case hy => (intro w hSw; (try dsimp only at hSw); go_simp; try with_reducible rfl)
              try simp only [Act.put, List.setIfInBounds_toArray, List.set_cons_zero, List.set_cons_succ]
              refine wpAnyH_take (i := 12) (oi := { dst := some 77, op := Op.pick (Operand.tmp 66) (Operand.tmp 76) (Operand.const (Value.bool false)), type := 4, pos := _, after := #[{ on := 1, ground := Ground.data }, { on := 11, ground := Ground.data }], guard := none }) (v := ?_) rfl (by kernel_rfl) (by kernel_rfl) (by kernel_rfl) (fun _ _ _ h => h) (Or.inl ⟨by rfl, ?hy⟩) (by assumption) ?_
              case hy => (intro w hSw; (try dsimp only at hSw); go_simp; try with_reducible rfl)
              try simp only [Act.put, List.setIfInBounds_toArray, List.set_cons_zero, List.set_cons_succ]
              refine wpAnyH_take (i := 13) (oi := { dst := some 6, op := Op.assign (Operand.tmp 77), type := 4, pos := _, after := #[{ on := 12, ground := Ground.data }, { on := 10, ground := Ground.chain }, { on := 0, ground := Ground.phase }, { on := 1, ground := Ground.phase }, { on := 2, ground := Ground.phase }, { on := 3, ground := Ground.phase }, { on := 4, ground := Ground.phase }, { on := 5, ground := Ground.phase }, { on := 6, ground := Ground.phase }, { on := 7, ground := Ground.phase }, { on := 8, ground := Ground.phase }, { on := 9, ground := Ground.phase }, { on := 10, ground := Ground.phase }, { on := 11, ground := Ground.phase }, { on := 12, ground := Ground.phase }], guard := none }) (v := ?_) rfl (by kernel_rfl) (by kernel_rfl) (by kernel_rfl) (fun _ _ _ h => h) (Or.inl ⟨by rfl, ?hy⟩) (by assumption) ?_
              case hy => (intro w hSw; (try dsimp only at hSw); go_simp; try with_reducible rfl)
              try simp only [Act.put, List.setIfInBounds_toArray, List.set_cons_zero, List.set_cons_succ]
              refine wpAnyH_done (by kernel_rfl) ?_ _
              refine NoPanic.normal ?_
              have HF : Hid (True ∧ True ∧ Grew w5 w10) := ⟨trivial, trivial, HK.out.2.2.trans HG10.out⟩
              clear heq hgd
              clear hHeld
              go_wp2
              go_roundw
              case rel => exact ⟨k + 1, C2, rfl, by rw [HSK.out], by go_num, by omega, HC2.out.1, HC2.out.2, HF.out⟩
              case measure => simp [intOf]; omega
            )
        · obtain rfl : k = p.length := by omega
          have r1 : ¬ ((p.length : Int) < (M.length : Int)) := by have := HMI.out.1; omega
          have hkp := keeps HP.out
          have hrx : riseX p = riseT (fun i => p.getD i 0) p.length 12 := if_pos HP.out
          rw [← hrx, ← HCK.out] at hkp
          rw [hkp.2]
          obtain ⟨R, eR⟩ : ∃ R, riseX p = R := ⟨_, rfl⟩
          rw [eR] at hkp HRC ⊢
          have hle0 := hkp.1
          clear hrx hkp eR HCK
          by_cases hR : R = 0
          · subst hR
            have hle : (0 : Int) ≤ C := hle0
            go_wp2_with (fail)
            refine (HRC.out _ HK.out.2.2).mono ?_
            rintro e w10 ⟨rfl, hg10⟩
            have HG10 := Lib.hid (HK.out.2.2.trans hg10)
            clear hg10
            go_wp2_with (fail)
            refine (HRC.out _ HG10.out).mono ?_
            rintro e w11 ⟨rfl, hg11⟩
            have HF := Lib.hid (HG10.out.trans hg11)
            clear hg11
            go_wp2
            go_ret
            exact ⟨rfl, HV.out.2.trans (H5.out.2.trans HF.out)⟩
          · have hle : R ≤ C := hle0
            have hR1 : (R == 0) = false := beq_eq_false_iff_ne.2 hR
            have hR2 : decide (R = 0) = false := decide_eq_false hR
            rw [hR2]
            go_wp2_with (fail)
            refine (HRC.out _ HK.out.2.2).mono ?_
            rintro e w10 ⟨rfl, hg10⟩
            have HG10 := Lib.hid (HK.out.2.2.trans hg10)
            clear hg10
            go_wp2_with (fail)
            refine (HRC.out _ HG10.out).mono ?_
            rintro e w11 ⟨rfl, hg11⟩
            have HF := Lib.hid (HG10.out.trans hg11)
            clear hg11
            go_wp2
            go_ret
            exact ⟨rfl, HV.out.2.trans (H5.out.2.trans HF.out)⟩
end Go.Proofs.Ytlifjhhjkcmneaa
