/- FnExactWayOf: for every input the law returns true, and the input reads as it did, where the table of steps reads as the program's text lays it; tied to that text. Its conditions: that one listed variable, tied. -/
import Derived.Test.YtdhokofcgfolnaaDoorMark
import Derived.Test.YtdhokofcgfolnaaDoorCopies
import Derived.Test.YtdhokofcgfolnaaDoorEq
import Derived.Test.YtdhokofcgfolnaaDoorExact
import Derived.Test.YtdhokofcgfolnaaDoorBase
import Derived.Test.YtdhokofcgfolnaaDoorWayOf
import Derived.Test.YtdhokofcgfolnaaDoorSWayOf
import Derived.Test.YtdhokofcgfolnaaDoorCameRows
import Derived.Test.YtdhokofcgfolnaaDoorTied
import Derived.Test.YtdhokofcgfolnaaDoorWords
import Derived.Test.YtdhokofcgfolnaaDoorTie
import Derived.Test.YtdhokofcgfolnaaDoorCards
import Derived.SevenTiedAt
/- The law FnExactWayOf returns true. -/
namespace Go.Proofs.YtdhokofcgfolnaaDoor
open Go.RowKit

set_option maxRecDepth 100000 in
set_option maxHeartbeats 4000000 in
theorem FnExactWayOf_any (v : Value) (h : List (List Int)) (i : Int) (k : Int) (w : World) (hv : RowsV w v h) (_hi : -9223372036854775808 ≤ i ∧ i ≤ 9223372036854775807) (_hk : -9223372036854775808 ≤ k ∧ k ≤ 9223372036854775807) (hS : Steps w) :
    Calls Tryd.prog 10 #[v, .int .i64 i, .int .i64 k] w fun e w' => e = .returned (.bool true) ∧ Grew w w' := by
  have HV := Lib.hid hv
  have HS0 := Lib.hid hS
  have HTT0 := wayL_total h i k
  obtain ⟨M, eM⟩ : ∃ M, wayL h i k = M := ⟨_, rfl⟩
  have HI : ∀ (v : Value) (W : World), RowsV W v h → Grew w W → Calls Tryd.prog 35 #[v, .int .i64 i, .int .i64 k] W (OwnI W M) := fun v W a b => by
    have := WayOf_any v h i k W a (hS.grew b)
    rwa [eM] at this
  have HP : ∀ (v : Value) (W : World), RowsV W v h → Calls Tryd.prog 34 #[v, .int .i64 i, .int .i64 k] W (OwnI W M) := fun v W a => by
    have := SWayOf_any v h i k W a
    rwa [eM] at this
  have HI' := Lib.hid HI
  have HP' := Lib.hid HP
  rw [eM] at HTT0
  have HTT := Lib.hid HTT0
  clear HTT0
  clear HI HP eM
  obtain ⟨a, b, o, c, rfl, _, _, _⟩ := hv.shape
  clear hv hS
  go_enter Tryd.func10, Tryd.ntmps10
  go_wp2_with (fail)
  refine (szIntSS_any _ h 1048576 w HV.out (by omega) (by omega)).mono ?_
  rintro e w1 ⟨n, rfl, hn, rfl⟩
  by_cases hneg : n < 0
  · clear hn
    go_wp2
    go_ret
    exact ⟨rfl, Grew.refl _⟩
  · have HS := Lib.hid (sz_small2 (h := h) (by omega))
    have HT : Hid (total h ≤ 1048576) := Lib.hid (by omega)
    clear hn
    go_wp2_with (fail)
    refine (toIntSS_any _ h _ HV.out HS.out.1 HS.out.2).mono ?_
    rintro e w2 ⟨g2, c2, rfl, hO2, hg2⟩
    have H2 := Lib.hid (And.intro hO2.toV hg2)
    clear hO2 hg2
    go_wp2_with (fail)
    refine (HP'.out _ _ H2.out.1).mono ?_
    rintro e w3 ho3
    obtain ⟨a3, c3, rfl, hw3, hg3⟩ := ho3.shape
    clear ho3
    have H3 := Lib.hid (And.intro hw3 (H2.out.2.trans hg3))
    clear hw3 hg3
    go_wp2_with (fail)
    refine (toIntSS_any _ h _ (HV.out.grew H3.out.2) HS.out.1 HS.out.2).mono ?_
    rintro e w4 ⟨g4, c4, rfl, hO4, hg4⟩
    have H4 := Lib.hid (And.intro hO4 hg4)
    clear hO4 hg4
    go_wp2_with (fail)
    refine (HI'.out _ _ H4.out.1.toV (H3.out.2.trans H4.out.2)).mono ?_
    rintro e w5 ho5
    obtain ⟨a5, c5, rfl, hw5, hg5⟩ := ho5.shape
    clear ho5
    have H5 : Hid (IntsO 3 w2.heap.size w3.heap.size w5 (.slice a3 M.length c3) M ∧ RowsO 27 3 w3.heap.size w4.heap.size w5 (.slice (some ⟨g4, 0, none⟩) h.length c4) h ∧ IntsO 3 w4.heap.size w5.heap.size w5 (.slice a5 M.length c5) M ∧ Grew w w5 ∧ (w.heap.size ≤ w3.heap.size ∧ w3.heap.size ≤ w4.heap.size ∧ w4.heap.size ≤ w5.heap.size)) :=
      Lib.hid ⟨H3.out.1.grew (H4.out.2.trans hg5), H4.out.1.grew hg5, hw5, H3.out.2.trans (H4.out.2.trans hg5), H3.out.2.size, H4.out.2.size, hg5.size⟩
    clear hw5 hg5 H2 H3 H4
    go_wp2_with (fail)
    refine (eqIntS_any _ _ M M _ H5.out.2.2.1.toV H5.out.1.toV).mono ?_
    rw [decide_eq_true (rfl : M = M)]
    rintro e w6 ⟨rfl, hq⟩
    have hg6 := quiet_grew hq
    have H6 : Hid (IntsO 3 w2.heap.size w3.heap.size w6 (.slice a3 M.length c3) M ∧ RowsO 27 3 w3.heap.size w4.heap.size w6 (.slice (some ⟨g4, 0, none⟩) h.length c4) h ∧ IntsO 3 w4.heap.size w5.heap.size w6 (.slice a5 M.length c5) M ∧ Grew w w6 ∧ (w.heap.size ≤ w3.heap.size ∧ w3.heap.size ≤ w4.heap.size ∧ w4.heap.size ≤ w5.heap.size)) :=
      Lib.hid ⟨H5.out.1.grew hg6, H5.out.2.1.grew hg6, H5.out.2.2.1.grew hg6, H5.out.2.2.2.1.trans hg6, H5.out.2.2.2.2⟩
    clear hq hg6 H5
    go_wp2_with (fail)
    refine (toIntSS_any _ h _ (HV.out.grew H6.out.2.2.2.1) HS.out.1 HS.out.2).mono ?_
    rintro e w7 ⟨g7, c7, rfl, hO7, hg7⟩
    have H7 := Lib.hid (And.intro hO7.toV hg7)
    clear hO7 hg7
    go_wp2_with (fail)
    refine (eqIntSS_any _ _ h h _ (H6.out.2.1.toV.grew H7.out.2) H7.out.1).mono ?_
    rw [decide_eq_true (rfl : h = h)]
    rintro e w8 ⟨rfl, hq⟩
    have hg8 := H7.out.2.trans (quiet_grew hq)
    have H8 : Hid (IntsO 3 w2.heap.size w3.heap.size w8 (.slice a3 M.length c3) M ∧ RowsO 27 3 w3.heap.size w4.heap.size w8 (.slice (some ⟨g4, 0, none⟩) h.length c4) h ∧ IntsO 3 w4.heap.size w5.heap.size w8 (.slice a5 M.length c5) M ∧ Grew w w8 ∧ (w.heap.size ≤ w3.heap.size ∧ w3.heap.size ≤ w4.heap.size ∧ w4.heap.size ≤ w5.heap.size)) :=
      Lib.hid ⟨H6.out.1.grew hg8, H6.out.2.1.grew hg8, H6.out.2.2.1.grew hg8, H6.out.2.2.2.1.trans hg8, H6.out.2.2.2.2⟩
    clear hq hg8 H6 H7
    go_wp2_with (fail)
    refine (markIntSS_any w3.heap.size w4.heap.size _ h 1 _ H8.out.2.1 (by decide) (by have := HT.out; omega)).mono ?_
    rintro e w9 ⟨rfl, hm9, hw9⟩
    have H9 : Hid (IntsO 3 w2.heap.size w3.heap.size w9 (.slice a3 M.length c3) M ∧ IntsO 3 w4.heap.size w5.heap.size w9 (.slice a5 M.length c5) M ∧ Grew w w9 ∧ (w.heap.size ≤ w3.heap.size ∧ w3.heap.size ≤ w4.heap.size ∧ w4.heap.size ≤ w5.heap.size)) :=
      Lib.hid ⟨H8.out.1.within hw9 (.inl (Nat.le_refl _)), H8.out.2.2.1.within hw9 (.inr (Nat.le_refl _)), Within.grew H8.out.2.2.2.1 hw9 H8.out.2.2.2.2.1, H8.out.2.2.2.2⟩
    clear hm9 hw9 H8
    have e9 : ¬ (1 + total h : Int) < 0 := by omega
    go_wp2_with (fail)
    refine (eqIntS_any _ _ M M _ H9.out.2.1.toV H9.out.1.toV).mono ?_
    rw [decide_eq_true (rfl : M = M)]
    rintro e w10 ⟨rfl, hq⟩
    have hg10 := quiet_grew hq
    have H10 : Hid (IntsO 3 w2.heap.size w3.heap.size w10 (.slice a3 M.length c3) M ∧ IntsO 3 w4.heap.size w5.heap.size w10 (.slice a5 M.length c5) M ∧ Grew w w10 ∧ (w.heap.size ≤ w3.heap.size ∧ w3.heap.size ≤ w4.heap.size ∧ w4.heap.size ≤ w5.heap.size)) :=
      Lib.hid ⟨H9.out.1.grew hg10, H9.out.2.1.grew hg10, H9.out.2.2.1.trans hg10, H9.out.2.2.2⟩
    clear hq hg10 H9
    go_wp2_with (fail)
    refine (markIntS_any w4.heap.size w5.heap.size _ M 1 _ H10.out.2.1 (by decide) (by have := HTT.out; omega)).mono ?_
    rintro e w11 ⟨rfl, hm11, hw11⟩
    have H11 : Hid (IntsO 3 w2.heap.size w3.heap.size w11 (.slice a3 M.length c3) M ∧ IntsO 3 w4.heap.size w5.heap.size w11 (.slice a5 M.length c5) (seqL 1 M.length) ∧ Grew w w11) :=
      Lib.hid ⟨H10.out.1.within hw11 (.inl H10.out.2.2.2.2.1), hm11, Within.grew H10.out.2.2.1 hw11 (Nat.le_trans H10.out.2.2.2.1 H10.out.2.2.2.2.1)⟩
    clear hm11 hw11 H10
    go_wp2_with (fail)
    refine (heldIntS_any _ M.length 1 _ H11.out.2.1.toV (by decide) (by have := HTT.out; omega)).mono ?_
    rintro e w12 ⟨rfl, rfl⟩
    have e12 : ¬ (1 + (M.length : Int)) < 0 := by omega
    go_wp2_with (fail)
    refine (toIntSS_any _ h _ (HV.out.grew H11.out.2.2) HS.out.1 HS.out.2).mono ?_
    rintro e w13 ⟨g13, c13, rfl, hO13, hg13⟩
    have H13 := Lib.hid (And.intro hO13.toV hg13)
    clear hO13 hg13
    go_wp2_with (fail)
    refine (HI'.out _ _ H13.out.1 (H11.out.2.2.trans H13.out.2)).mono ?_
    rintro e w14 ho14
    obtain ⟨a14, c14, rfl, hw14, hg14⟩ := ho14.shape
    clear ho14
    have hgt := H13.out.2.trans hg14
    have H14 : Hid (IntsV w14 (.slice a14 M.length c14) M ∧ IntsV w14 (.slice a3 M.length c3) M ∧ IntsV w14 (.slice a5 M.length c5) (seqL 1 M.length) ∧ Grew w w14) :=
      Lib.hid ⟨hw14.toV, (H11.out.1.grew hgt).toV, (H11.out.2.1.grew hgt).toV, H11.out.2.2.trans hgt⟩
    clear hw14 hg14 hgt H11 H13
    go_wp2_with (fail)
    refine (eqIntS_any _ _ M M _ H14.out.1 H14.out.2.1).mono ?_
    rw [decide_eq_true (rfl : M = M)]
    rintro e w15 ⟨rfl, hq⟩
    have hg15 := quiet_grew hq
    have H15 := Lib.hid (And.intro (H14.out.2.2.1.grew hg15) (H14.out.2.2.2.trans hg15))
    clear hq hg15 H14
    go_wp2_with (fail)
    refine (heldIntS_any _ M.length 1 _ H15.out.1 (by decide) (by have := HTT.out; omega)).mono ?_
    rintro e w16 ⟨rfl, rfl⟩
    go_wp2
    go_ret
    exact ⟨rfl, H15.out.2⟩
end Go.Proofs.YtdhokofcgfolnaaDoor
namespace Go.Proofs.YtdhokofcgfolnaaDoor.pExactWayOf
open Go.RowKit Go.ChangeShapes Go.WideShapes Go.ChangeAt

set_option maxRecDepth 100000 in
theorem lifted (os : Os) (started : os.Started) (H : Type) (enc : TypeId × Value → H) :
    ReturnsInHanded {} Tryd.checked os 10 .any (fun w args => (Rows.fnExactWayOfSpec.pre enc Tryd.prog Tryd.f10 [] false w args ∧ laidMetH Tryd.prog laid1 w) ∧ sizedMet enc Tryd.prog Tryd.f10 (OpenSpec.ofChange Rows.fnExactWayOfSpec) false w args)
      (Rows.fnExactWayOfSpec.post enc Tryd.prog Tryd.f10 false true false false) := by
  refine returnsInHanded_of_change_and (C := Tryd.checked) (X := fun w _ => laidMetH Tryd.prog laid1 w) (fun _ _ _ hh h => h.of_heap hh) Tryd.own started (by kernel_rfl) Tryd.func10
    (ChangeSpec.witness_shaped (enc := enc) (C := Tryd.checked) (os := os) (X := fun w _ => laidMetH Tryd.prog laid1 w) false (World.doorLaid Tryd.prog 400 os) #[.slice none 0 0, .int .i64 0, .int .i64 0] 8 rfl (World.shaped_of_RefB (by kernel_rfl) (by kernel_rfl)) (by kernel_rfl) (by kernel_rfl) (by kernel_rfl) (door_met os _)) ?_
  intro W base args ds gs before hval0 hW _ _ hL _
  have hval : ∀ (j : Nat) t v, Tryd.f10.params[j]? = some t → args[j]? = some v → Value.okWide Tryd.prog W .any base t v := hval0
  have hW' := hW
  obtain ⟨p, q, hA0, hV, rfl, _, _⟩ := hW
  have hA : DataW.TrodAll enc Tryd.prog W 0 (fun _ => true) true Tryd.f10.params.toList args.toList ds p := hA0
  rw [Tryd.params10] at hA hval
  obtain ⟨v0, v1, v2, d0, d1, d2, p0, p1, p2, rfl, rfl, rfl, h0, h1, h2⟩ := trodAll_three hA
  have hV' := hV
  obtain ⟨_, _, _, _, dv, _, rfl, _⟩ := trodVars_one hV
  obtain ⟨a0, len0, cap0, rfl⟩ := okWide_slice Tryd.underlying23 (hval 0 23 v0 rfl rfl)
  have k0 := h0
  have lt0 : ∀ x ∈ p0, x.block < W.heap.size := by obtain ⟨m, hm⟩ := k0; exact DataW.trod_lt m _ _ _ hm
  obtain ⟨bs0, hn0⟩ := rows_came h0
  obtain ⟨x1, rfl, rfl, rfl, wx1⟩ := open_int Tryd.underlying3 (hval 1 3 v1 rfl rfl) h1
  have bx1 := bounds_i64 wx1
  obtain ⟨x2, rfl, rfl, rfl, wx2⟩ := open_int Tryd.underlying3 (hval 2 3 v2 rfl rfl) h2
  have bx2 := bounds_i64 wx2
  have HS := steps_of_laid hL
  clear hA0 hval0
  refine (FnExactWayOf_any _ bs0 x1 x2 W hn0 bx1 bx2 HS).mono fun e W' ⟨he, bel⟩ => ?_
  subst he
  exact ⟨_, rfl, _, _, _, [], _, q, hW', trodAll_mk1 (shut_bool Tryd.underlying4 _), (trodAll_mk3 (Below.trod Tryd.laidOut (by kernel_rfl) (of_decide_eq_true (by kernel_rfl)) k0 bel lt0) (shut_int Tryd.underlying3 wx1) (shut_int Tryd.underlying3 wx2)), Below.trodVars Tryd.laidOut bel (by kernel_rfl) hV', Below.frame bel _, fun h => by cases h⟩

theorem row_proved : Rows.FnExactWayOfSaid :=
  OpenClaim.holds_of_wide 10 Tryd.f10 rfl rfl rfl rfl rfl rfl rfl ⟨rfl, rfl, rfl, rfl, rfl⟩ rfl rfl rfl rfl rfl (by kernel_rfl) Tryd.func10
    (show joinedFacts Tryd.prog 10 Tryd.f10 Rows.fnExactWayOfSpec Rows.fnExactWayOfRow = true by unfold joinedFacts; rw [Tryd.makeG, Tryd.liftsG, Tryd.enterG]; kernel_rfl)
    (of_decide_eq_true (by kernel_rfl)) (by unfold Func.isWrapper; first | (rw [if_pos (by decide +kernel)]; kernel_rfl) | (rw [if_neg (by decide +kernel)]; exact ⟨rfl, rfl⟩))
    (fun os started H enc _ => lifted os started H enc)

theorem proved : Rows.FnExactWayOfCardSaid :=
  Claim7.holds_tied_plain_at .later [] [.data] true Rows.fnExactWayOfCard.stood.harness Rows.fnExactWayOfCard.stood.looks
    row_proved (fun _ h => by cases h) (by kernel_rfl) (fun _ h => by cases h) fnExactWayOf_row_tie rfl ⟨rfl, rfl⟩ (show Tryd.prog.mainIs = some (Rows.fnExactWayOfCard.stood.harness.1, Rows.fnExactWayOfCard.stood.harness.2.toList) from Tryd.mainG) rfl
    (fun f fn hf hfn => by
      obtain rfl : f = 10 := Option.some.inj ((show Tryd.prog.funcNamed "loop.example/wateronheights/laws.FnExactWayOf" = some 10 by kernel_rfl).symm.trans hf) |>.symm
      obtain rfl : fn = Tryd.f10 := (Option.some.inj (Tryd.func10.symm.trans hfn)).symm
      exact ⟨by kernel_rfl, fun j t ht => by
        rw [Tryd.params10] at ht
        have hm : t ∈ [23, 3, 3] := by simpa using Array.mem_of_getElem? ht
        have hall : ([23, 3, 3].all fun u => !Tryd.prog.wantsStandIn u) = true := by kernel_rfl
        exact (show Tryd.prog.wantsStandIn t = false by simpa using List.all_eq_true.1 hall t hm)⟩)
    (by kernel_rfl)
#print axioms proved
end Go.Proofs.YtdhokofcgfolnaaDoor.pExactWayOf
