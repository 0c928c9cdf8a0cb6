/- The law FnEarthMoves returns true. -/
import Derived.Test.YtlifjhhjkcmneaaLawEarthCost
import Derived.Test.YtlifjhhjkcmneaaEqualRows
namespace Go.Proofs.Ytlifjhhjkcmneaa
open Go.RowKit

theorem doMove_is (ys : List Int) (A B : Nat) (E : Int) (hA : A < ys.length) (hAB : A ≠ B) : doMove ys [(A : Int), (B : Int), E] = (ys.set A (ys.getD A 0 - E)).set B (ys.getD B 0 + E) := by
  show (ys.set A (ys.getD A 0 - E)).set B ((ys.set A (ys.getD A 0 - E)).getD B 0 + E) = _
  rw [getD_setS _ _ _ hA, if_neg (Ne.symm hAB)]
theorem foldl_snoc {α β : Type} (f : β → α → β) (x : β) (M : List α) (d : α) (k : Nat) (hk : k < M.length) : (M.take (k + 1)).foldl f x = f ((M.take k).foldl f x) (M.getD k d) := by
  rw [List.take_succ_eq_append_getElem hk, List.foldl_append]
  simp [hk]
theorem wide_set {s : List Int} {j : Nat} {x c d : Int} (h : ∀ i, i < s.length → -c ≤ s.getD i 0 ∧ s.getD i 0 ≤ c) (hj : j < s.length) (hcd : c ≤ d) (hx : -d ≤ x ∧ x ≤ d) : ∀ i, i < (s.set j x).length → -d ≤ (s.set j x).getD i 0 ∧ (s.set j x).getD i 0 ≤ d := fun i hi => by
  rw [List.length_set] at hi
  rw [getD_setS _ _ _ hj]
  by_cases e : i = j
  · rw [if_pos e]; exact hx
  · rw [if_neg e]; have := h i hi; omega
theorem movesX_make {p q : List Int} (h : mvOk p q = true) : (movesX p q).foldl doMove p = q := by
  have h9 := (prof_len (mvOk_iff.1 h).1).2
  have hl := (mvOk_iff.1 h).2.2.1
  unfold movesX
  rw [if_pos h]
  exact moves_make 9 (sur_of h) (by have := nz_le (surL p q); rw [surL_len] at this; omega) (surL_len p q).symm (by rw [surL_len]; exact hl.symm) fun i hi => by
    rw [surL_len] at hi
    simp only [at0]
    exact surL_at p q i hi
theorem movesX_few {p q : List Int} (h : (movesX p q).length ≠ 0) : mvOk p q = true ∧ (movesX p q).length < p.length := by
  unfold movesX at h ⊢
  cases hm : mvOk p q with
  | false => rw [hm] at h; exact absurd rfl h
  | true =>
    rw [hm, if_pos rfl] at h
    rw [if_pos rfl]
    refine ⟨rfl, ?_⟩
    rcases moves_few 9 (sur_of hm) with e | e
    · rw [e] at h; exact absurd rfl h
    · have := nz_le (surL p q)
      rw [surL_len] at this
      omega

set_option maxRecDepth 100000 in
set_option maxHeartbeats 8000000 in
theorem FnEarthMoves_any (v : Value) (bs : List Int) (w : World) (hv : NumsV .u8 w v bs) (hb : ∀ i, i < bs.length → 0 ≤ bs.getD i 0 ∧ bs.getD i 0 ≤ 255) :
    Calls Try.prog 8 #[v] w fun e w' => e = .returned (.bool true) ∧ Grew w w' := by
  have HD := Lib.hid (DrawEarthMoves_any v bs w hv hb)
  obtain ⟨a, b, o, c, rfl, ⟨hlc, hcb⟩, _, _⟩ := hv.shape
  clear hv hb
  by_cases hbig : 1048576 < bs.length
  · go_enter Try.func8, Try.ntmps8
    go_wp2
    go_ret
    exact ⟨rfl, Grew.refl _⟩
  · go_enter Try.func8, Try.ntmps8
    go_wp2_with (fail)
    refine HD.out.mono ?_
    rintro e w1 ⟨v1, u1, p, q, rfl, hvp, hvq, h9, hlq, hg1⟩
    have HV := Lib.hid (And.intro hvp (And.intro hvq hg1))
    obtain ⟨a3, b3, o3, c3, rfl, _, ha3, HC3⟩ := hvp.shape
    obtain ⟨a4, b4, o4, c4, rfl, _, _, _⟩ := hvq.shape
    have HA3 := Lib.hid ha3
    clear hvp hvq hg1 HD hlq ha3
    obtain ⟨M, eM⟩ : ∃ M, movesX p q = M := ⟨_, rfl⟩
    have HM := Lib.hid eM
    clear eM
    go_wp2_with (fail)
    refine (EarthMoves_any _ _ p q _ HV.out.1 HV.out.2.1).mono ?_
    rw [HM.out]
    rintro e w2 ⟨v2, rfl, hO2, hg2⟩
    have H2 := Lib.hid (And.intro hO2.toV hg2)
    obtain ⟨a5, c5, rfl⟩ := hO2.sh
    clear hO2 hg2
    go_wp2_with (fail)
    refine (SEarthMoves_any _ _ p q _ (HV.out.1.grew H2.out.2) (HV.out.2.1.grew H2.out.2)).mono ?_
    rw [HM.out]
    rintro e w3 ⟨v3, rfl, hO3, hg3⟩
    have H3 := Lib.hid (And.intro hO3.toV (And.intro (H2.out.2.trans hg3) (H2.out.1.grew hg3)))
    obtain ⟨a6, c6, rfl⟩ := hO3.sh
    clear hO3 hg3
    go_wp2_with (fail)
    refine (equalRows_any _ _ M M _ H3.out.2.2 H3.out.1).mono ?_
    rw [decide_eq_true (rfl : M = M)]
    rintro e w4 ⟨rfl, hq⟩
    have H4 := Lib.hid (And.intro (H3.out.2.2.grew (quiet_grew hq)) (H3.out.2.1.trans (quiet_grew hq)))
    clear hq
    by_cases hM : M.length = 0
    · have hM' : ((M.length : Int) == 0) = true := by simp [hM]
      clear hM
      go_wp2_with (fail)
      refine (SEarthMoves_any _ _ p q _ (HV.out.1.grew H4.out.2) (HV.out.2.1.grew H4.out.2)).mono ?_
      rw [HM.out]
      rintro e w5 ⟨v5, rfl, hO5, hg5⟩
      have H5 := Lib.hid (And.intro hO5.toV (And.intro (H4.out.1.grew hg5) (H4.out.2.trans hg5)))
      obtain ⟨a7, c7, rfl⟩ := hO5.sh
      clear hO5 hg5
      go_wp2_with (fail)
      refine (equalRows_any _ _ M M _ H5.out.2.1 H5.out.1).mono ?_
      rw [decide_eq_true (rfl : M = M)]
      rintro e w6 ⟨rfl, hq⟩
      have H6 := Lib.hid (H5.out.2.2.trans (quiet_grew hq))
      clear hq
      go_wp2
      go_ret
      exact ⟨rfl, HV.out.2.2.trans H6.out⟩
    · have hfew := movesX_few (p := p) (q := q) (by rw [HM.out]; exact hM)
      rw [HM.out] at hfew
      obtain ⟨hok, hlt⟩ := hfew
      have hM' : ((M.length : Int) == 0) = false := beq_eq_false_iff_ne.2 (by omega)
      have hrow := fun k hk => movesX_ok hok k hk
      have hmk := movesX_make hok
      rw [HM.out] at hrow hmk
      have HR := Lib.hid (And.intro hrow hmk)
      have HB := Lib.hid (prof_bd (mvOk_iff.1 hok).1)
      have hM0 : 0 < M.length := by omega
      have hp0 : 0 < p.length := by omega
      obtain rfl := HA3.out hp0
      obtain ⟨am, bm, om, cm, em, _, ham, HCM⟩ := H4.out.1.shape
      simp only [Value.slice.injEq] at em
      obtain ⟨rfl, _, rfl⟩ := em
      obtain rfl := ham hM0
      have hC : Hid (∀ i, i < p.length → (w4.alloc (.cells #[] 3)).cell? ⟨b3, o3 + i, none⟩ = some (.int .i64 (p.getD i 0))) := fun i hi => (H4.out.2.alloc _).cell (HC3.out i hi)
      have H0 : Hid (IntsO 3 w4.heap.size (w4.heap.size + 1) (w4.alloc (.cells #[] 3)) (.slice (some ⟨w4.heap.size, 0, none⟩) 0 0) []) :=
        Lib.hid (by have := IntsO.lit 3 w4.heap.size w4 [] #[] rfl (Nat.le_refl _) (by decide); simpa using this)
      clear hM hok hrow hmk ham
      go_wp2_with (at_builtin; refine wpList_append_rowOf rfl (.tmp 35) (.tmp 36) 23 rfl Try.underlying23 Try.infoInt rfl rfl rfl hC.out H0.out (by simp; omega) (by simp) ?_; intro g5 c5' w5 hO5 hW5)
      simp only [List.length_nil, Nat.zero_add, List.nil_append] at hO5 ⊢
      have hs5 := hW5.size
      simp at hs5
      obtain ⟨b5, c7, e5, hb5lo, hb5hi⟩ : ∃ b c, (Value.slice g5 p.length c5') = .slice (some ⟨b, 0, none⟩) p.length c ∧ w4.heap.size ≤ b ∧ b < w5.heap.size := by
        obtain ⟨b, c, e, h1, h2, _⟩ := hO5.pos hp0
        exact ⟨b, c, e, h1, h2⟩
      simp only [Value.slice.injEq] at e5
      obtain ⟨rfl, _, rfl⟩ := e5
      have H5 : Hid (IntsO 3 w4.heap.size w5.heap.size w5 (.slice (some ⟨b5, 0, none⟩) p.length c5') p ∧ Grew w4 w5) := ⟨hO5, Within.grew ((Grew.refl _).alloc _) hW5 (Nat.le_refl _)⟩
      clear hO5 hW5 H0 hC
      go_wp2
      go_loopw [7] (fun i wr => ∃ (k : Nat) (ys : List Int), k ≤ M.length ∧ i = .int .i64 k ∧ Hid (ys = (M.take k).foldl doMove p ∧ ys.length = p.length ∧ (∀ i, i < ys.length → -(20 + 24 * (k : Int)) ≤ ys.getD i 0 ∧ ys.getD i 0 ≤ 20 + 24 * (k : Int)) ∧ IntsO 3 w4.heap.size w5.heap.size wr (.slice (some ⟨b5, 0, none⟩) p.length c5') ys ∧ Grew w4 wr)) (fun i _ => M.length - (intOf i).toNat)
      case atStart => exact ⟨0, p, Nat.zero_le _, rfl, rfl, rfl, fun i hi => by have := HB.out i hi; omega, H5.out⟩
      case round =>
        obtain ⟨k, ys, hk, rfl, HI⟩ := hrel
        by_cases hltk : k < M.length
        · obtain ⟨ur, hcu, hu⟩ := HCM.out k hltk
          obtain ⟨A, B, E, er, hA, hB, hAB, hE1, hE2⟩ := HR.out.1 k hltk
          have hfs := foldl_snoc doMove p M [] k hltk
          rw [← HI.out.1, er, doMove_is ys A B E (by rw [HI.out.2.1]; exact hA) hAB] at hfs
          rw [er] at hu
          obtain ⟨ar, br, orr, cr, rfl, ⟨hlr, hcr⟩, har, HCR⟩ := (hu.grew HI.out.2.2.2.2).shape
          obtain rfl := har (by simp)
          have hcu' := HI.out.2.2.2.2.cell hcu
          have hc0 := HCR.out 0 (by simp)
          have hc1 := HCR.out 1 (by simp)
          have hc2 := HCR.out 2 (by simp)
          simp only [List.length_cons, List.length_nil, Nat.zero_add, Nat.add_zero, List.getD_cons_zero, List.getD_cons_succ] at hcu' hc0 hc1 hc2
          obtain ⟨hcA, hfA⟩ := HI.out.2.2.2.1.at rfl (i := A) (by rw [HI.out.2.1]; exact hA)
          obtain ⟨hcB, hfB⟩ := HI.out.2.2.2.1.at rfl (i := B) (by rw [HI.out.2.1]; exact hB)
          have hbA := HI.out.2.2.1 A (by rw [HI.out.2.1]; exact hA)
          have hbB := HI.out.2.2.1 B (by rw [HI.out.2.1]; exact hB)
          have hys : Hid ((ys.set A (ys.getD A 0 - E)).set B (ys.getD B 0 + E) = (M.take (k + 1)).foldl doMove p ∧ (∀ i, i < ((ys.set A (ys.getD A 0 - E)).set B (ys.getD B 0 + E)).length → -(20 + 24 * ((k + 1 : Nat) : Int)) ≤ ((ys.set A (ys.getD A 0 - E)).set B (ys.getD B 0 + E)).getD i 0 ∧ ((ys.set A (ys.getD A 0 - E)).set B (ys.getD B 0 + E)).getD i 0 ≤ 20 + 24 * ((k + 1 : Nat) : Int))) :=
            ⟨hfs.symm, wide_set (wide_set (c := 20 + 24 * (k : Int)) HI.out.2.2.1 (by rw [HI.out.2.1]; exact hA) (Int.le_refl _) (by omega) |> fun h => wide_set (c := 20 + 24 * (k : Int)) (d := 20 + 24 * ((k + 1 : Nat) : Int)) HI.out.2.2.1 (by rw [HI.out.2.1]; exact hA) (by omega) (by omega)) (by rw [List.length_set, HI.out.2.1]; exact hB) (Int.le_refl _) (by omega)⟩
          obtain ⟨x, ex⟩ : ∃ x, ys.getD A 0 = x := ⟨_, rfl⟩
          obtain ⟨y, ey⟩ : ∃ y, ys.getD B 0 = y := ⟨_, rfl⟩
          have HSA := Lib.hid ((HI.out.2.2.2.1.grew ((Grew.refl wr).drew)).set rfl A (x - E))
          have hatB := getD_setS ys A (x - E) (by rw [HI.out.2.1]; exact hA) B
          rw [if_neg (Ne.symm hAB), ey] at hatB
          have HAT := Lib.hid hatB
          rw [ex] at hcA hbA hys
          rw [ey] at hcB hbB hys
          have HCU := Lib.hid (And.intro hcu (hu.grew HI.out.2.2.2.2))
          have HCU0 := Lib.hid (And.intro hcu hu)
          have w1' : IntKind.i64.wrap (x - E) = x - E := wrap_small' _ (by omega) (by omega)
          have w2' : IntKind.i64.wrap (y + E) = y + E := wrap_small' _ (by omega) (by omega)
          have r1 : (k : Int) < M.length := by omega
          have r2 : (0 : Int) ≤ k := by omega
          have r3 : (A : Int) < p.length := by omega
          have r4 : (0 : Int) ≤ A := by omega
          have r5 : (B : Int) < p.length := by omega
          have r6 : (0 : Int) ≤ B := by omega
          have r7 : ¬ E < 1 := by omega
          clear ex ey hatB hfs er hcu hu har hcB hfB
          go_wp2
          go_still_tail 23, (by kernel_rfl)
          change wpList _ _ _ _ _ wr.drew
          obtain ⟨W3, hW3⟩ : ∃ W3, wr.drew = W3 := ⟨_, rfl⟩
          have hcA3 : W3.cell? ⟨b5, A, none⟩ = some (.int .i64 x) := by rw [← hW3]; exact hcA
          have hfA3 : W3.frozen? ⟨b5, A, none⟩ = false := by rw [← hW3]; exact hfA
          have H3' : Hid (IntsO 3 w4.heap.size w5.heap.size (W3.setCell ⟨b5, A, none⟩ (.int .i64 (x - E))) (.slice (some ⟨b5, 0, none⟩) p.length c5') (ys.set A (x - E)) ∧ Grew w4 W3) := by
            rw [← hW3]; exact ⟨HSA.out, HI.out.2.2.2.2.drew⟩
          rw [hW3]
          clear hW3 hcA hfA hcu' hc0 hc1 hc2 HSA
          go_wp2
          obtain ⟨W4, hW4⟩ : ∃ W4, W3.setCell ⟨b5, A, none⟩ (.int .i64 (x - E)) = W4 := ⟨_, rfl⟩
          have hg4' : Grew w4 W4 := by rw [← hW4]; exact Within.grew H3'.out.2 ((Within.refl _ _ _).setCell (lo := b5) (hi := b5 + 1) (p := ⟨b5, A, none⟩) (Nat.le_refl _) (Nat.lt_succ_self _) _) hb5lo
          have hO4' := H3'.out.1
          rw [hW4] at hO4'
          obtain ⟨hcB, hfB⟩ := hO4'.at rfl (i := B) (by rw [List.length_set, HI.out.2.1]; exact hB)
          rw [HAT.out] at hcB
          have hcu' := hg4'.cell HCU0.out.1
          obtain ⟨ar2, br2, orr2, cr2, er2, ⟨hlr2, hcr2⟩, har2, HCR2⟩ := (HCU0.out.2.grew hg4').shape
          simp only [Value.slice.injEq] at er2
          obtain ⟨e21, _, rfl⟩ := er2
          have e22 := har2 (by simp)
          rw [e22] at e21
          simp only [Option.some.injEq, Addr.mk.injEq] at e21
          obtain ⟨rfl, rfl, _⟩ := e21
          have hc0 := HCR2.out 0 (by simp)
          have hc1 := HCR2.out 1 (by simp)
          have hc2 := HCR2.out 2 (by simp)
          simp only [List.length_cons, List.length_nil, Nat.zero_add, Nat.add_zero, List.getD_cons_zero, List.getD_cons_succ] at hcu' hc0 hc1 hc2
          have H4' : Hid (Grew w4 W4 ∧ IntsO 3 w4.heap.size w5.heap.size (W4.drew.setCell ⟨b5, B, none⟩ (.int .i64 (y + E))) (.slice (some ⟨b5, 0, none⟩) p.length c5') ((ys.set A (x - E)).set B (y + E))) :=
            ⟨hg4', (hO4'.grew ((Grew.refl _).drew)).set rfl B (y + E)⟩
          rw [hW4]
          clear hW4 hO4' hg4' e22 har2 hcA3 hfA3 H3'
          go_still_tail 23, (by kernel_rfl)
          change wpList _ _ _ _ _ W4.drew
          obtain ⟨W5, hW5⟩ : ∃ W5, W4.drew = W5 := ⟨_, rfl⟩
          have hcB3 : W5.cell? ⟨b5, B, none⟩ = some (.int .i64 y) := by rw [← hW5]; exact hcB
          have hfB3 : W5.frozen? ⟨b5, B, none⟩ = false := by rw [← hW5]; exact hfB
          have H5' : Hid (Grew w4 W5 ∧ IntsO 3 w4.heap.size w5.heap.size (W5.setCell ⟨b5, B, none⟩ (.int .i64 (y + E))) (.slice (some ⟨b5, 0, none⟩) p.length c5') ((ys.set A (x - E)).set B (y + E))) := by
            rw [← hW5]; exact ⟨H4'.out.1.drew, H4'.out.2⟩
          rw [hW5]
          clear hW5 hcB hfB hcu' hc0 hc1 hc2 H4'
          go_wp2
          go_roundw
          case rel => exact ⟨k + 1, (ys.set A (x - E)).set B (y + E), by omega, by go_num, hys.out.1, by simp [HI.out.2.1], hys.out.2, H5'.out.2, Within.grew H5'.out.1 ((Within.refl _ _ _).setCell (lo := b5) (hi := b5 + 1) (p := ⟨b5, B, none⟩) (Nat.le_refl _) (Nat.lt_succ_self _) _) hb5lo⟩
          case measure => simp [intOf]; omega
        · obtain rfl : k = M.length := by omega
          have hyq : ys = q := by rw [HI.out.1, List.take_of_length_le (Nat.le_refl _)]; exact HR.out.2
          have HQ : Hid (IntsV wr (.slice (some ⟨b5, 0, none⟩) p.length c5') q ∧ Grew w wr) := by
            rw [← hyq]
            exact ⟨HI.out.2.2.2.1.toV, HV.out.2.2.trans (H4.out.2.trans HI.out.2.2.2.2)⟩
          have HVQ := Lib.hid (HV.out.2.1.grew (H4.out.2.trans HI.out.2.2.2.2))
          have hlt' : (M.length : Int) < p.length := by omega
          clear hyq
          go_wp2_with (fail)
          refine (equalInts_any _ _ q q _ HQ.out.1 HVQ.out).mono ?_
          rw [decide_eq_true (rfl : q = q)]
          rintro e w9 ⟨rfl, hq⟩
          have H9 := Lib.hid (HQ.out.2.trans (quiet_grew hq))
          clear hq
          go_wp2
          go_ret
          exact ⟨ret_bool (by simp), H9.out⟩
end Go.Proofs.Ytlifjhhjkcmneaa
