/- The contract of impl.costsOfOneMore, for any rule. -/
import Derived.Test.YtdhokofcgfolnaaDoorBeside
import Derived.Test.YtdhokofcgfolnaaDoorClone
import Derived.Test.YtdhokofcgfolnaaDoorConcat
import Derived.Test.YtdhokofcgfolnaaDoorCells
import Derived.Test.YtdhokofcgfolnaaDoorSink
import Derived.Test.YtdhokofcgfolnaaDoorWayM
import Derived.Shelf.Abstract
namespace Go.Proofs.YtdhokofcgfolnaaDoor
open Go.RowKit

/-- Function fk tells the rule f. -/
def RuleV (fk : Nat) (f : Int → Int → Int) : Prop :=
  ∀ (d r : Int) (W : World), -12 ≤ d → d ≤ 12 → 0 ≤ r → r ≤ 1000 → Calls Tryd.prog fk #[.int .i64 d, .int .i64 r] W fun e w' => e = .returned (.int .i64 (f d r)) ∧ w' = W

set_option maxRecDepth 100000 in
set_option maxHeartbeats 400000 in
theorem climbsOf_any : RuleV 51 upF := by
  intro d r W h1 h2 h3 h4
  have HF : Hid (upF d r = max d 0 + r) := Lib.hid rfl
  by_cases hd : d < 0
  all_goals
    go_enter Tryd.func51, Tryd.ntmps51
    go_wp2
    go_ret
    refine ⟨ret_int ?_, rfl⟩
    rw [HF.out]
    try omega

set_option maxRecDepth 100000 in
set_option maxHeartbeats 400000 in
theorem steepestOf_any : RuleV 60 steepF := by
  intro d r W h1 h2 h3 h4
  have HF : Hid (steepF d r = max (max d (-d)) r) := Lib.hid rfl
  go_enter Tryd.func60, Tryd.ntmps60
  go_wp2
  all_goals
    go_ret
    refine ⟨ret_int ?_, rfl⟩
    rw [HF.out]
    try omega

/-- A table of numbers by cells. -/
def tabL (N : Nat) (c : Nat → Int) : List Int := (List.range N).map c
theorem tabL_len (N : Nat) (c : Nat → Int) : (tabL N c).length = N := by simp [tabL]
theorem tabL_at {N i : Nat} (c : Nat → Int) (hi : i < N) : (tabL N c).getD i 0 = c i := by simp [tabL, hi]
theorem tabL_congr {N : Nat} {c d : Nat → Int} (h : ∀ i, i < N → c i = d i) : tabL N c = tabL N d := List.map_congr_left fun i hi => h i (List.mem_range.1 hi)
theorem tabL_set {N i : Nat} {c : Nat → Int} {x : Int} : (tabL N c).set i x = tabL N fun k => if k = i then x else c k := by
  apply List.ext_getElem
  · simp [tabL]
  · intro k h1 h2
    simp [tabL] at h2
    rw [List.getElem_set]
    simp only [tabL, List.getElem_map, List.getElem_range]
    by_cases e : i = k
    · rw [if_pos e, if_pos e.symm]
    · rw [if_neg e, if_neg (fun h => e h.symm)]
/-- The cells ahead of i are told anew, that of i is y. -/
def mixT (c d : Nat → Int) (i : Nat) (y : Int) : Nat → Int := fun k => if k < i then d k else if k = i then y else c k
theorem mix_start (c d : Nat → Int) (N : Nat) : tabL N c = tabL N (mixT c d 0 (c 0)) := tabL_congr fun k _ => by
  unfold mixT; rw [if_neg (by omega)]; split
  · subst_vars; rfl
  · rfl
theorem mix_next (c d : Nat → Int) (N i : Nat) : tabL N (mixT c d i (d i)) = tabL N (mixT c d (i + 1) (c (i + 1))) := tabL_congr fun k _ => by
  unfold mixT
  by_cases h : k < i
  · rw [if_pos h, if_pos (by omega)]
  · rw [if_neg h]
    by_cases h2 : k = i
    · subst h2; rw [if_pos rfl, if_pos (by omega)]
    · rw [if_neg h2, if_neg (by omega)]
      split
      · subst_vars; rfl
      · rfl
theorem mix_end (c d : Nat → Int) (N : Nat) (y : Int) : tabL N (mixT c d N y) = tabL N d := tabL_congr fun k hk => by unfold mixT; rw [if_pos hk]
theorem mix_set {c d : Nat → Int} {N i : Nat} {y x : Int} : (tabL N (mixT c d i y)).set i x = tabL N (mixT c d i x) := by
  rw [tabL_set]
  refine tabL_congr fun k _ => ?_
  unfold mixT
  by_cases h : k = i
  · subst h; rw [if_pos rfl, if_neg (by omega), if_pos rfl]
  · rw [if_neg h, if_neg h, if_neg h]
theorem mix_at {c d : Nat → Int} {N i : Nat} {y : Int} (hi : i < N) : (tabL N (mixT c d i y)).getD i 0 = y := by
  rw [tabL_at _ hi]; unfold mixT; rw [if_neg (by omega), if_pos rfl]

set_option maxRecDepth 100000 in
set_option maxHeartbeats 4000000 in
theorem costsOfOneMore_any (v cv : Value) (h : List (List Int)) (c : Nat → Int) (n m N fk : Nat) (f : Int → Int → Int) (w : World) (hv : RowsV w v h) (hg : vGrid h = true) (hS : Steps w) (en : h.length = n) (em : (h.getD 0 []).length = m) (eN : n * m = N)
    (eg : ∀ (args : Array Value) (w : World), (callFunc fk args).run Tryd.prog w = .ok (.enter fk args) w) (hF : RuleV fk f) (hcv : IntsV w cv (tabL N c)) (hc : ∀ k, k < N → -1 ≤ c k ∧ c k ≤ 900) :
    Calls Tryd.prog 75 #[v, cv, .func (.func fk) #[] #[]] w (FlatPost w (tabL N fun i => cFold h.flatten f c i (aroundL n m i) (aroundL n m i).length)) := by
  have G := Grid.of hg
  have hpl := flat_grid_len G
  rw [en, em, eN] at hpl
  have HP0 : Hid (∀ i, i < N → 0 ≤ h.flatten.getD i 0 ∧ h.flatten.getD i 0 ≤ 12) := fun i hi => grid_num G i (by rw [en, em, eN]; exact hi)
  have HK : Hid (∀ W, Grew w W → Calls Tryd.prog 80 #[v] W (FlatPost W h.flatten)) := fun W hW =>
    slicesConcat_any v h W (hv.grew hW) G.n1 (Nat.le_trans G.n5 (by decide)) (fun r hr => by have := G.len r hr; have := G.m1; have := G.m5; omega)
  obtain ⟨p, ep⟩ : ∃ p, h.flatten = p := ⟨_, rfl⟩
  rw [ep] at HK HP0 hpl ⊢
  have n5 := G.n5
  have m5 := G.m5
  have n1 := G.n1
  have m1 := G.m1
  rw [en] at n5 n1
  rw [em] at m5 m1
  have hN25 : N ≤ 25 := by rw [← eN]; exact Nat.mul_le_mul n5 m5
  have hN1 : 1 ≤ N := by rw [← eN]; exact Nat.mul_pos n1 m1
  have HCB : Hid (∀ (I : Nat) (W : World), Grew w W → I < N → Calls Tryd.prog 70 #[v, .int .i64 I] W (OwnI W (aroundL n m I))) := fun I W hW hI => by
    have := cellsBeside_any v h I W (hv.grew hW) hg (by rw [en, em, eN]; exact hI) (hS.grew hW)
    rwa [en, em] at this
  have HFA : Hid (∀ I, I < N → (aroundL n m I).length ≤ 4 ∧ ∀ j, j < (aroundL n m I).length → ∃ k : Nat, (aroundL n m I).getD j 0 = (k : Int) ∧ k < N) := fun I hI => by
    have hf := around_facts n5 m5 (I := I) (by rw [eN]; exact hI)
    refine ⟨hf.2.2, fun j hj => ?_⟩
    have hmem : (aroundL n m I).getD j 0 ∈ aroundL n m I := by
      have e : (aroundL n m I).getD j 0 = (aroundL n m I)[j] := by simp [hj]
      rw [e]
      exact List.getElem_mem hj
    obtain ⟨h1, h2, _⟩ := hf.1 _ hmem
    rw [eN] at h2
    exact ⟨((aroundL n m I).getD j 0).toNat, by omega, by omega⟩
  obtain ⟨d, ed⟩ : ∃ d : Nat → Int, (fun i => cFold p f c i (aroundL n m i) (aroundL n m i).length) = d := ⟨_, rfl⟩
  have HD : Hid (∀ i, cFold p f c i (aroundL n m i) (aroundL n m i).length = d i) := fun i => by rw [← ed]
  rw [ed]
  have HFK := Lib.hid hF
  have HCC := Lib.hid hc
  obtain ⟨ca, cb, co, cc, rfl, ⟨hcl, hcc⟩, hca, HCV⟩ := hcv.shape
  rw [tabL_len] at hcl hca HCV ⊢
  obtain rfl := hca hN1
  have HCA : Hid (∀ (k : Nat) (W : World), Grew w W → k < N → W.cell? ⟨cb, co + k, none⟩ = some (.int .i64 (c k))) := fun k W hW hk => by
    have := HCV.out k hk
    rw [tabL_at _ hk] at this
    exact hW.cell this
  have HCL : Hid (∀ W, Grew w W → Calls Tryd.prog 90 #[.slice (some ⟨cb, co, none⟩) N cc] W (FlatPost W (tabL N c))) := fun W hW => by
    have := slicesClone_any cb co cc (tabL N c) W (fun i hi => by rw [tabL_len] at hi; rw [tabL_at _ hi]; exact HCA.out i W hW hi) (by rw [tabL_len]; exact hN1) (by rw [tabL_len]; omega)
    rwa [tabL_len] at this
  obtain ⟨a, b, o, c', rfl, _, _, _⟩ := hv.shape
  clear hv hg hS hF hc hcv hca HCV G ep en em ed
  go_enter Tryd.func75, Tryd.ntmps75
  go_wp2_with (fail)
  refine (HK.out _ (Grew.refl _)).mono ?_
  rintro e w1 ⟨g7, c7, rfl, hO7, hg1⟩
  rw [hpl] at hO7 ⊢
  have H7 := Lib.hid (And.intro hO7 hg1)
  clear hO7 hg1 HK
  go_wp2_with (fail)
  refine (HCL.out _ H7.out.2).mono ?_
  rintro e w2 ⟨g8, c8, rfl, hO8, hg2⟩
  rw [tabL_len] at hO8 ⊢
  have hb8 := hO8.blk
  have hsz1 := H7.out.2.size
  have H8 : Hid (IntsO 3 w.heap.size g8 w2 (.slice (some ⟨g7, 0, none⟩) N c7) p ∧ IntsO 3 g8 (g8 + 1) w2 (.slice (some ⟨g8, 0, none⟩) N c8) (tabL N c) ∧ Grew w w2 ∧ w.heap.size ≤ g8 ∧ g8 < w2.heap.size) :=
    Lib.hid ⟨(H7.out.1.grew hg2).wide (Nat.le_refl _) hb8.1, hO8.at1, H7.out.2.trans hg2, by omega, hb8.2⟩
  clear hO8 hg2 H7 HCL hb8 hsz1
  go_wp2
  go_loopw [19] (fun i wr => ∃ I : Nat, I ≤ N ∧ i = .int .i64 (I : Int) ∧ Hid (IntsO 3 w.heap.size g8 wr (.slice (some ⟨g7, 0, none⟩) N c7) p ∧ IntsO 3 g8 (g8 + 1) wr (.slice (some ⟨g8, 0, none⟩) N c8) (tabL N (mixT c d I (c I))) ∧ Grew w wr ∧ g8 < wr.heap.size)) (fun i _ => N - (intOf i).toNat)
  case atStart => exact ⟨0, Nat.zero_le _, rfl, H8.out.1, by rw [← mix_start]; exact H8.out.2.1, H8.out.2.2.1, H8.out.2.2.2.2⟩
  case round =>
    obtain ⟨I, hI1, rfl, HX⟩ := hrel
    by_cases hI : I < N
    · have HCI := Lib.hid (HCB.out I wr HX.out.2.2.1 hI)
      go_wp2_with (fail)
      refine HCI.out.mono ?_
      obtain ⟨L, eL⟩ : ∃ L, aroundL n m I = L := ⟨_, rfl⟩
      have hfa := HFA.out I hI
      have hdI := HD.out I
      rw [eL] at hfa hdI ⊢
      obtain ⟨hl4, hel⟩ := hfa
      have HEL := Lib.hid hel
      have HDI := Lib.hid hdI
      clear hel eL hdI HCI
      rintro e w4 ⟨a4, c4, rfl, hO4, hg4⟩
      have hsw := HX.out.2.2.2
      have H4 : Hid (IntsO 3 w.heap.size g8 w4 (.slice (some ⟨g7, 0, none⟩) N c7) p ∧ IntsO 3 (g8 + 1) w4.heap.size w4 (.slice a4 L.length c4) L ∧ IntsO 3 g8 (g8 + 1) w4 (.slice (some ⟨g8, 0, none⟩) N c8) (tabL N (mixT c d I (c I))) ∧ Grew w w4 ∧ g8 < w4.heap.size) :=
        Lib.hid ⟨HX.out.1.grew hg4, hO4.wide (by omega) (Nat.le_refl _), HX.out.2.1.grew hg4, HX.out.2.2.1.trans hg4, Nat.lt_of_lt_of_le hsw hg4.size⟩
      clear hO4 hg4 HX hsw
      go_wp2
      go_loopw [26] (fun j wr2 => ∃ t : Nat, t ≤ L.length ∧ j = .int .i64 (t : Int) ∧ Hid (IntsO 3 g8 (g8 + 1) wr2 (.slice (some ⟨g8, 0, none⟩) N c8) (tabL N (mixT c d I (cFold p f c I L t))) ∧ Within g8 (g8 + 1) w4 wr2)) (fun j _ => L.length - (intOf j).toNat)
      case atStart => exact ⟨0, Nat.zero_le _, rfl, H4.out.2.2.1, Within.refl _ _ _⟩
      case round =>
        obtain ⟨t, ht, rfl, HI⟩ := hrel
        have HGW : Hid (Grew w wr) := Lib.hid (Within.grew H4.out.2.2.2.1 HI.out.2 H8.out.2.2.2.1)
        by_cases hlt : t < L.length
        · have hO4 := H4.out.2.1.within HI.out.2 (.inr (Nat.le_refl _))
          obtain ⟨g4, c4', e4, _, _, _, _⟩ := hO4.pos (by omega)
          simp only [Value.slice.injEq] at e4
          obtain ⟨rfl, _, rfl⟩ := e4
          have hcx := (hO4.at rfl (i := t) hlt).1
          obtain ⟨K, eK, hKN⟩ := HEL.out t hlt
          have hcK := HCA.out K wr HGW.out hKN
          obtain ⟨x, ex⟩ : ∃ x, c K = x := ⟨_, rfl⟩
          have hxr := HCC.out K hKN
          obtain ⟨y, ey⟩ : ∃ y, cFold p f c I L t = y := ⟨_, rfl⟩
          have HY : Hid (cFold p f c I L (t + 1) = if x = -1 then y else if y = -1 ∨ f (p.getD K 0 - p.getD I 0) x < y then f (p.getD K 0 - p.getD I 0) x else y) := by
            show _ = _
            rw [cFold, ey, eK, cStep]
            simp only [Int.toNat_natCast, ex]
          rw [ex] at hcK hxr
          rw [eK] at hcx
          have HO : Hid (IntsO 3 g8 (g8 + 1) wr (.slice (some ⟨g8, 0, none⟩) N c8) (tabL N (mixT c d I y)) ∧ Within g8 (g8 + 1) w4 wr) := Lib.hid (by rw [← ey]; exact HI.out)
          clear hO4 eK ex HI ey
          by_cases hx : x = -1
          · have HYY : Hid (cFold p f c I L (t + 1) = y) := Lib.hid (by rw [HY.out, if_pos hx])
            clear HY
            go_wp2
            go_roundw
            case rel => exact ⟨t + 1, by omega, by go_num, by rw [HYY.out]; exact HO.out⟩
            case measure => simp [intOf]; omega
          · have hx0 : 0 ≤ x := by omega
            have hcp := ((H4.out.1.within HO.out.2 (.inl (Nat.le_refl _))).at rfl (i := K) (by rw [hpl]; exact hKN)).1
            have hcq := ((H4.out.1.within HO.out.2 (.inl (Nat.le_refl _))).at rfl (i := I) (by rw [hpl]; exact hI)).1
            have hpK := HP0.out K hKN
            have hpI := HP0.out I hI
            obtain ⟨pk, epk⟩ : ∃ x, p.getD K 0 = x := ⟨_, rfl⟩
            obtain ⟨pi, epi⟩ : ∃ x, p.getD I 0 = x := ⟨_, rfl⟩
            rw [epk] at hcp hpK HY
            rw [epi] at hcq hpI HY
            obtain ⟨pk0, pk1⟩ := hpK
            obtain ⟨pi0, pi1⟩ := hpI
            have HRV := Lib.hid (fun W => HFK.out (pk - pi) x W (by omega) (by omega) hx0 (by omega))
            obtain ⟨z, ez⟩ : ∃ z, f (pk - pi) x = z := ⟨_, rfl⟩
            rw [ez] at HRV HY
            rw [if_neg hx] at HY
            have hcy : wr.cell? ⟨g8, I, none⟩ = some (.int .i64 y) := by
              have := (HO.out.1.at rfl (i := I) (by rw [tabL_len]; exact hI)).1
              rwa [mix_at hI] at this
            have hfy : wr.frozen? ⟨g8, I, none⟩ = false := (HO.out.1.at rfl (i := I) (by rw [tabL_len]; exact hI)).2
            have HXX := Lib.hid hx
            clear hx epk epi ez hxr
            have HF : Hid (∀ W, Grew wr W → IntsO 3 g8 (g8 + 1) (W.setCell ⟨g8, I, none⟩ (.int .i64 z)) (.slice (some ⟨g8, 0, none⟩) N c8) (tabL N (mixT c d I z)) ∧ Within g8 (g8 + 1) w4 (W.setCell ⟨g8, I, none⟩ (.int .i64 z))) := fun W hW =>
              ⟨by rw [← mix_set (y := y)]; exact (HO.out.1.grew hW).set rfl I z, (HO.out.2.trans (hW.within _ _)).setCell (p := ⟨g8, I, none⟩) (Nat.le_refl _) (Nat.lt_succ_self _) _⟩
            have HG : Hid (∀ W, Grew wr W → IntsO 3 g8 (g8 + 1) W (.slice (some ⟨g8, 0, none⟩) N c8) (tabL N (mixT c d I y)) ∧ Within g8 (g8 + 1) w4 W) := fun W hW => ⟨HO.out.1.grew hW, HO.out.2.trans (hW.within _ _)⟩
            by_cases hy : y = -1
            · have HYY : Hid (cFold p f c I L (t + 1) = z) := Lib.hid (by rw [HY.out, if_pos (.inl hy)])
              clear HY HO
              go_wp2
              go_quiet ((go_at_fn fk; exact Calls.quiet_of_same (HRV.out _)))
              go_wp2
              go_roundw
              case rel => exact ⟨t + 1, by omega, by go_num, by rw [HYY.out]; exact HF.out _ (quiet_grew ⟨_, rfl⟩)⟩
              case measure => simp [intOf]; omega
            · have hyb : (y == -1) = false := by simp [hy]
              by_cases hz : z < y
              · have HYY : Hid (cFold p f c I L (t + 1) = z) := Lib.hid (by rw [HY.out, if_pos (.inr hz)])
                clear HY HO
                go_wp2
                go_quiet ((go_at_fn fk; exact Calls.quiet_of_same (HRV.out _)))
                go_wp2
                go_roundw
                case rel => exact ⟨t + 1, by omega, by go_num, by rw [HYY.out]; exact HF.out _ (quiet_grew ⟨_, rfl⟩)⟩
                case measure => simp [intOf]; omega
              · have HYY : Hid (cFold p f c I L (t + 1) = y) := Lib.hid (by rw [HY.out, if_neg (by omega)])
                have hzb : decide (z < y) = false := decide_eq_false hz
                clear HY HO
                go_wp2
                go_quiet ((go_at_fn fk; exact Calls.quiet_of_same (HRV.out _)))
                go_wp2
                go_roundw
                case rel => exact ⟨t + 1, by omega, by go_num, by rw [HYY.out]; exact HG.out _ (quiet_grew ⟨_, rfl⟩)⟩
                case measure => simp [intOf]; omega
        · obtain rfl : t = L.length := by omega
          have HE : Hid (IntsO 3 w.heap.size g8 wr (.slice (some ⟨g7, 0, none⟩) N c7) p ∧ IntsO 3 g8 (g8 + 1) wr (.slice (some ⟨g8, 0, none⟩) N c8) (tabL N (mixT c d (I + 1) (c (I + 1)))) ∧ Grew w wr ∧ g8 < wr.heap.size) := by
            have h1 := HI.out.1
            rw [HDI.out, mix_next] at h1
            exact Lib.hid ⟨H4.out.1.within HI.out.2 (.inl (Nat.le_refl _)), h1, HGW.out, Nat.lt_of_lt_of_le H4.out.2.2.2.2 HI.out.2.size⟩
          clear HI HGW
          go_wp2
          go_roundw
          case rel => exact ⟨I + 1, by omega, by go_num, HE.out⟩
          case measure => simp [intOf]; omega
    · obtain rfl : I = N := by omega
      have HE : Hid (IntsO 3 w.heap.size wr.heap.size wr (.slice (some ⟨g8, 0, none⟩) I c8) (tabL I d) ∧ Grew w wr) := by
        have h1 := HX.out.2.1
        rw [mix_end] at h1
        exact Lib.hid ⟨h1.wide H8.out.2.2.2.1 HX.out.2.2.2, HX.out.2.2.1⟩
      clear HX
      go_wp2
      go_ret
      refine ⟨g8, c8, ret_slice (tabL_len _ _).symm, ?_, HE.out.2⟩
      rw [tabL_len]
      exact HE.out.1
end Go.Proofs.YtdhokofcgfolnaaDoor
