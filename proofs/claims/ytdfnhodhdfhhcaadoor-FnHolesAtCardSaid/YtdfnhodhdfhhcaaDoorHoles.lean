/- The contracts of spec.holes, spec.HolesAt and impl.HolesAt: the pieces of what is up to a height that do not meet the edge. -/
import Derived.Test.YtdfnhodhdfhhcaaDoorFrameS
import Derived.Test.YtdfnhodhdfhhcaaDoorFramed
namespace Go.Proofs.YtdfnhodhdfhhcaaDoor
open Go.RowKit

theorem framedL_len (h : List (List Int)) (m : Nat) : (framedL h m).length = h.length + 2 := frameT_len h m _
theorem edgeRow_all (m C : Nat) (hC : C < m + 2) : (edgeRow m (m + 2)).getD C 0 = -1 := by
  unfold edgeRow
  rw [Nat.sub_self, List.replicate_zero, List.append_nil]
  simp [hC]
theorem framedL_row (h : List (List Int)) (m r : Nat) (hr : r < h.length) : (framedL h m).getD (r + 1) [] = frRow (h.getD r []) := by
  unfold framedL frameT
  simp [hr, List.getElem?_append_left]
theorem framedL_last (h : List (List Int)) (m : Nat) : (framedL h m).getD (h.length + 1) [] = edgeRow m (m + 2) := frameT_last h m _ _
theorem framed_shp {h : List (List Int)} {m : Nat} (G : Grid h m) : Shp7 (framedL h m) (m + 2) := by
  have hn5 := G.n5
  have hm5 := G.m5
  refine ⟨by rw [framedL_len]; omega, by rw [framedL_len]; omega, by omega, by omega, fun r hr => ?_⟩
  rw [framedL_len] at hr
  by_cases e0 : r = 0
  · subst e0; exact edgeRow_len m _ (Nat.le_refl _)
  · by_cases e1 : r = h.length + 1
    · subst e1; rw [framedL_last]; exact edgeRow_len m _ (Nat.le_refl _)
    · obtain ⟨s, rfl⟩ : ∃ s, r = s + 1 := ⟨r - 1, by omega⟩
      rw [framedL_row h m s (by omega), frRow, List.length_cons, List.length_append, List.length_singleton, G.len s (by omega)]
theorem framed_in {h : List (List Int)} {m i : Nat} (G : Grid h m) (hi : i < h.length * m) : (framedL h m).flatten.getD (emb m i) 0 = h.flatten.getD i 0 := by
  have hm : 0 < m := G.m1
  have hr := div_lt_of h.length m i hi
  have hc := Nat.mod_lt i hm
  rw [flat7_at (framed_shp G) (emb m i) (by rw [framedL_len]; exact emb_lt hm hi), emb_div hm, emb_mod hm, framedL_row h m _ hr, flat_at G i hi, frRow]
  have hl := G.len _ hr
  simp [List.getElem?_append_left (show i % m < (h[i / m]?.getD []).length by simpa using (show i % m < (h.getD (i / m) []).length by omega))]
theorem framed_out {h : List (List Int)} {m c : Nat} (G : Grid h m) (hc : c < (h.length + 2) * (m + 2)) (hf : ¬ inF h.length m c) : (framedL h m).flatten.getD c 0 = -1 := by
  have hR : c / (m + 2) < h.length + 2 := div_lt_of (h.length + 2) (m + 2) c hc
  have hC : c % (m + 2) < m + 2 := Nat.mod_lt c (by omega)
  rw [flat7_at (framed_shp G) c (by rw [framedL_len]; exact hc)]
  unfold inF at hf
  obtain ⟨R, eR⟩ : ∃ R, c / (m + 2) = R := ⟨_, rfl⟩
  obtain ⟨C, eC⟩ : ∃ C, c % (m + 2) = C := ⟨_, rfl⟩
  rw [eR] at hR hf ⊢
  rw [eC] at hC hf ⊢
  by_cases e0 : R = 0
  · subst e0; exact edgeRow_all m C hC
  · by_cases e1 : R = h.length + 1
    · subst e1; rw [framedL_last]; exact edgeRow_all m C hC
    · obtain ⟨s, rfl⟩ : ∃ s, R = s + 1 := ⟨R - 1, by omega⟩
      rw [framedL_row h m s (by omega), frRow]
      have hl := G.len s (by omega)
      rcases (show C = 0 ∨ C = m + 1 by omega) with rfl | rfl
      · rfl
      · rw [List.getD_cons_succ, List.getD_eq_getElem?_getD, List.getElem?_append_right (by omega), hl, Nat.sub_self]
        rfl
/-- How many pieces of what is up to t do not meet the edge, corners and all. -/
noncomputable def holesN (h : List (List Int)) (t : Int) : Int := cntT ((h.length + 2) * ((h.getD 0 []).length + 2)) (touchB ((h.getD 0 []).length + 2) true) (below (framedL h (h.getD 0 []).length).flatten t) ((h.length + 2) * ((h.getD 0 []).length + 2)) - 1
noncomputable def holesX (h : List (List Int)) (t : Int) : Int := if vLevel h t = true then holesN h t else -1
theorem holesN_eq {h : List (List Int)} {t : Int} {f : List Int} (hp : vLevel h t = true) (F : Tc.Flats h.length (h.getD 0 []).length (bothB (below h.flatten t)) f) :
    holesT h.length (h.getD 0 []).length (piecesT f (whereL (h.length * (h.getD 0 []).length) (below h.flatten t))) (piecesT f (whereL (h.length * (h.getD 0 []).length) (below h.flatten t))).length = holesN h t := by
  have G := Grid.of (vLevel_grid hp)
  have ht : -1 ≤ t := by
    simp only [vLevel, inR, Bool.and_eq_true, decide_eq_true_eq] at hp
    exact hp.2.1
  refine (framed_holes G.n5 G.m5 G.m1 (fun i hi => ?_) (fun c hc hf => ?_) F rfl).symm
  · unfold below above
    rw [framed_in G hi]
  · unfold below above
    rw [framed_out G hc hf, decide_eq_false (by omega)]
    rfl
set_option maxRecDepth 100000 in
set_option maxHeartbeats 1000000 in
theorem sholes_any (v : Value) (h : List (List Int)) (t : Int) (w : World) (hv : RowsV w v h) (hg : vGrid h = true) :
    Calls Tryd.prog 50 #[v, .int .i64 t] w fun e w' => e = .returned (.int .i64 (holesN h t)) ∧ Grew w w' := by
  have G := Grid.of hg
  have HFR := Lib.hid (framed_any v h _ w hv G)
  have hS := framed_shp G
  have e0 : ((framedL h (h.getD 0 []).length).getD 0 []).length = (h.getD 0 []).length + 2 := hS.len 0 hS.n1
  have HPI : Hid (∀ v W, RowsV W v (framedL h (h.getD 0 []).length) → Calls Tryd.prog 46 #[v, .int .i64 t, .bool false, .bool true] W fun e w' => e = .returned (.int .i64 (holesN h t + 1)) ∧ Grew W w') := Lib.hid fun v W hv => by
    have := spieces7_any v _ t false true W hv (by rw [e0]; exact hS)
    rw [e0, framedL_len, belX_below] at this
    have e1 : holesN h t + 1 = cntT ((h.length + 2) * ((h.getD 0 []).length + 2)) (touchB ((h.getD 0 []).length + 2) true) (below (framedL h (h.getD 0 []).length).flatten t) ((h.length + 2) * ((h.getD 0 []).length + 2)) := by unfold holesN; omega
    rw [e1]
    exact this
  have hb := cntT_le ((h.length + 2) * ((h.getD 0 []).length + 2)) (touchB ((h.getD 0 []).length + 2) true) (below (framedL h (h.getD 0 []).length).flatten t) ((h.length + 2) * ((h.getD 0 []).length + 2))
  have hN : (h.length + 2) * ((h.getD 0 []).length + 2) ≤ 7 * 7 := Nat.mul_le_mul (by have := G.n5; omega) (by have := G.m5; omega)
  have hK : -1 ≤ holesN h t ∧ holesN h t ≤ 48 := by unfold holesN; omega
  obtain ⟨K, eK⟩ : ∃ K, holesN h t = K := ⟨_, rfl⟩
  rw [eK] at HPI hK ⊢
  have wK : IntKind.i64.wrap (K + 1 - 1) = K := by rw [IntWalk.i64_in _ (by omega)]; omega
  obtain ⟨H, eH⟩ : ∃ H, framedL h (h.getD 0 []).length = H := ⟨_, rfl⟩
  rw [eH] at HFR HPI
  obtain ⟨a, b, o, c, rfl, _, _, _⟩ := hv.shape
  clear hv hg G hS e0 hb hN eK eH
  go_enter Tryd.func50, Tryd.ntmps50
  go_wp2_with (fail)
  refine HFR.out.mono ?_
  rintro e w1 ⟨v1, rfl, hO1, hg1⟩
  obtain ⟨a1, c1, rfl⟩ := hO1.sh
  have H1 := Lib.hid (And.intro hO1.toV hg1)
  clear hO1 hg1
  go_wp2_with (fail)
  refine (HPI.out _ _ H1.out.1).mono ?_
  rintro e w2 ⟨rfl, hg2⟩
  have HG2 := Lib.hid (H1.out.2.trans hg2)
  clear hg2
  go_wp2
  go_ret
  exact ⟨ret_int (by first | rfl | exact wK | (simp; done) | omega), HG2.out⟩
set_option maxRecDepth 100000 in
set_option maxHeartbeats 1000000 in
theorem SHolesAt_any (v : Value) (h : List (List Int)) (t : Int) (w : World) (hv : RowsV w v h) :
    Calls Tryd.prog 26 #[v, .int .i64 t] w fun e w' => e = .returned (.int .i64 (holesX h t)) ∧ Grew w w' := by
  have HV := Lib.hid (validTop_any v h t w hv)
  have HR := Lib.hid hv
  obtain ⟨a, b, o, c, rfl, _, _, _⟩ := hv.shape
  clear hv
  unfold holesX
  cases hp : vLevel h t with
  | false =>
    have HP := Lib.hid hp
    clear hp
    go_enter Tryd.func26, Tryd.ntmps26
    go_wp2_with (fail)
    refine HV.out.mono ?_
    rw [HP.out]
    rintro e w1 ⟨rfl, hg1⟩
    have HG1 := Lib.hid hg1
    clear hg1
    go_wp2
    go_ret
    exact ⟨ret_int (by simp), HG1.out⟩
  | true =>
    have HP := Lib.hid (And.intro hp (vLevel_grid hp))
    clear hp
    go_enter Tryd.func26, Tryd.ntmps26
    go_wp2_with (fail)
    refine HV.out.mono ?_
    rw [HP.out.1]
    rintro e w1 ⟨rfl, hg1⟩
    have HG1 := Lib.hid hg1
    clear hg1
    go_wp2_with (fail)
    refine (sholes_any _ h t _ (HR.out.grew HG1.out) HP.out.2).mono ?_
    obtain ⟨K, eK⟩ : ∃ K, holesN h t = K := ⟨_, rfl⟩
    rw [eK]
    rintro e w2 ⟨rfl, hg2⟩
    have HG2 := Lib.hid (HG1.out.trans hg2)
    have HK := Lib.hid eK
    clear hg2 eK
    go_wp2
    go_ret
    exact ⟨ret_int HK.out.symm, HG2.out⟩
set_option maxRecDepth 100000 in
set_option maxHeartbeats 1000000 in
theorem HolesAt_any (v : Value) (h : List (List Int)) (t : Int) (w : World) (hv : RowsV w v h) (hS : Tc.Steps w) :
    Calls Tryd.prog 20 #[v, .int .i64 t] w fun e w' => e = .returned (.int .i64 (holesX h t)) ∧ Grew w w' := by
  unfold holesX
  cases hp : vLevel h t with
  | false =>
    have HV := Lib.hid (validLevel_any v h t w hv)
    obtain ⟨a, b, o, c, rfl, _, _, _⟩ := hv.shape
    clear hv hS
    have HP := Lib.hid hp
    clear hp
    go_enter Tryd.func20, Tryd.ntmps20
    go_wp2_with (fail)
    go_step3
    go_wp2_with (fail)
    refine HV.out.mono ?_
    rw [HP.out]
    rintro e w1 ⟨rfl, rfl⟩
    go_wp2
    try rw [Exit.noGoto_ret]
    try go_ret
    exact ⟨ret_int (by simp), Grew.refl _⟩
  | true =>
    refine (HolesAt_yes v h t w hv hp hS).mono ?_
    rintro e w' ⟨f, F, rfl, hg⟩
    rw [holesN_eq hp F]
    exact ⟨rfl, hg⟩
end Go.Proofs.YtdfnhodhdfhhcaaDoor
