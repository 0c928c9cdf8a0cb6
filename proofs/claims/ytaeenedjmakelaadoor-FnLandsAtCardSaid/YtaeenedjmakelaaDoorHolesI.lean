/- The contract of impl.HolesAt: how many pieces of what is up to a height have no cell at the edge. -/
import Derived.Test.YtaeenedjmakelaaDoorPonds
namespace Go.Proofs.YtaeenedjmakelaaDoor
open Go.RowKit

def innerB (n m : Nat) (R : List Int) : Bool := R.all fun x => !edgeL n m x.toNat
def holesT (n m : Nat) (L : List (List Int)) (K : Nat) : Int := sumTo (fun k => if innerB n m (L.getD k []) = true then 1 else 0) K
theorem getD_mem {R : List Int} {j : Nat} (h : j < R.length) : R.getD j 0 ∈ R := by
  rw [List.getD_eq_getElem?_getD, List.getElem?_eq_getElem h]
  exact List.getElem_mem h
theorem inner_all {n m : Nat} {R : List Int} (h : ∀ i, i < R.length → edgeL n m (R.getD i 0).toNat = false) : innerB n m R = true := by
  unfold innerB
  rw [List.all_eq_true]
  intro x hx
  obtain ⟨i, hi, e⟩ := List.getElem_of_mem hx
  have := h i hi
  rw [List.getD_eq_getElem?_getD, List.getElem?_eq_getElem hi, Option.getD_some, e] at this
  rw [this]; rfl
theorem inner_no {n m : Nat} {R : List Int} {j : Nat} (hj : j < R.length) (h : edgeL n m (R.getD j 0).toNat = true) : innerB n m R = false := by
  unfold innerB
  cases e : R.all fun x => !edgeL n m x.toNat with
  | false => rfl
  | true =>
    rw [List.all_eq_true] at e
    have := e _ (getD_mem hj)
    rw [h] at this
    exact absurd this (by simp)
theorem holesT_le (n m : Nat) (L : List (List Int)) : ∀ K, 0 ≤ holesT n m L K ∧ holesT n m L K ≤ K
  | 0 => ⟨Int.le_refl _, Int.le_refl _⟩
  | K + 1 => by
    have ih := holesT_le n m L K
    unfold holesT at ih ⊢
    rw [sumTo]
    split <;> omega
def HolesPost (h : List (List Int)) (t : Int) (w : World) (e : Ending) (w' : World) : Prop := ∃ f, Tc.Flats h.length (h.getD 0 []).length (bothB (below h.flatten t)) f ∧
  e = .returned (.int .i64 (holesT h.length (h.getD 0 []).length (piecesT f (whereL (h.length * (h.getD 0 []).length) (below h.flatten t))) (piecesT f (whereL (h.length * (h.getD 0 []).length) (below h.flatten t))).length)) ∧ Grew w w'
set_option maxRecDepth 100000 in
set_option maxHeartbeats 2000000 in
theorem HolesAt_yes (v : Value) (h : List (List Int)) (t : Int) (w : World) (hv : RowsV w v h) (hp : vLevel h t = true) (hS : Tc.Steps w) :
    Calls Tryd.prog 42 #[v, .int .i64 t] w (HolesPost h t w) := by
  have hvl := validLevel_any v h t w hv
  rw [hp] at hvl
  have HV := Lib.hid hvl
  clear hvl
  have hg := vLevel_grid hp
  have HPO := Lib.hid (pondsOf_any v h t w hv hg hS)
  have G := Grid.of hg
  have HAE : Hid (∀ (c : Nat) W, Grew w W → c < h.length * (h.getD 0 []).length → Calls Tryd.prog 77 #[v, .int .i64 c] W fun e w' => e = .returned (.bool (edgeL h.length (h.getD 0 []).length c)) ∧ Grew W w') := Lib.hid fun c W hW hc =>
    atEdge_any v h c W (hv.grew hW) hg hc (hS.1.grew hW)
  obtain ⟨Q, eQ⟩ : ∃ Q, HolesPost h t w = Q := ⟨_, rfl⟩
  have HQ : Hid (∀ f e w', Tc.Flats h.length (h.getD 0 []).length (bothB (below h.flatten t)) f → e = .returned (.int .i64 (holesT h.length (h.getD 0 []).length (piecesT f (whereL (h.length * (h.getD 0 []).length) (below h.flatten t))) (piecesT f (whereL (h.length * (h.getD 0 []).length) (below h.flatten t))).length)) → Grew w w' → Q e w') := Lib.hid fun f e w' h1 h2 h3 => by
    rw [← eQ]
    exact ⟨f, h1, h2, h3⟩
  rw [eQ]
  obtain ⟨n, en⟩ : ∃ n, h.length = n := ⟨_, rfl⟩
  obtain ⟨m, em⟩ : ∃ m, (h.getD 0 []).length = m := ⟨_, rfl⟩
  have hn5 := G.n5
  have hm5 := G.m5
  rw [en] at hn5
  rw [em] at hm5
  obtain ⟨N, eN⟩ : ∃ N, n * m = N := ⟨_, rfl⟩
  have hN25 : N ≤ 25 := by rw [← eN]; exact Nat.mul_le_mul hn5 hm5
  rw [en, em, eN] at HPO HAE HQ
  have HLL : Hid (∀ f, Tc.Flats n m (bothB (below h.flatten t)) f → (piecesT f (whereL N (below h.flatten t))).length ≤ 25 ∧ ∀ K, K < (piecesT f (whereL N (below h.flatten t))).length → ((piecesT f (whereL N (below h.flatten t))).getD K []).length ≤ 25 ∧ ∀ j, j < ((piecesT f (whereL N (below h.flatten t))).getD K []).length → ∃ c : Nat, ((piecesT f (whereL N (below h.flatten t))).getD K []).getD j 0 = c ∧ c < N) := Lib.hid fun f F => by
    have hc := Tc.pieces_cnt hn5 hm5 F N (by rw [eN]; exact Nat.le_refl _)
    have hb := cntT_le (n * m) (touchB m true) (below h.flatten t) N
    have P := Tc.pieces_inv hn5 hm5 F N (by rw [eN]; exact Nat.le_refl _)
    refine ⟨by omega, fun K hK => ?_⟩
    obtain ⟨F0, h1, _, _⟩ := P.fits K hK
    refine ⟨?_, fun j hj => ?_⟩
    · rw [h1]
      exact Nat.le_trans (List.length_filter_le _ _) (Nat.le_trans (whereL_len _ _) hN25)
    · have hm := getD_mem hj
      rw [h1, List.mem_filter] at hm
      obtain ⟨k, hk, _, e⟩ := (whereL_mem _ _ _).1 hm.1
      exact ⟨k, by rw [h1]; exact e, hk⟩
  obtain ⟨B, eB⟩ : ∃ B, below h.flatten t = B := ⟨_, rfl⟩
  rw [eB] at HPO HQ HLL
  obtain ⟨a, b, o, c, rfl, _, _, _⟩ := hv.shape
  clear hv hp hS hg G en em eN eB eQ hn5 hm5
  show Calls _ _ _ _ (fun e w' => Q e w')
  go_enter Tryd.func42, Tryd.ntmps42
  go_wp2_with (fail)
  go_step3
  go_wp2_with (fail)
  refine HV.out.mono ?_
  rintro e w1 ⟨rfl, rfl⟩
  go_wp2_with (fail)
  go_step3
  go_wp2_with (fail)
  refine HPO.out.mono ?_
  rintro e w3 ⟨v3, f, rfl, hO3, hF3, hg3⟩
  obtain ⟨a3, c3, rfl⟩ := hO3.sh
  have HL := Lib.hid (HLL.out f hF3)
  have HQ2 := Lib.hid fun e w' => HQ.out f e w' hF3
  obtain ⟨L, eL⟩ : ∃ L, piecesT f (whereL N B) = L := ⟨_, rfl⟩
  rw [eL] at HL HQ2 hO3 ⊢
  have hl25 := HL.out.1
  have H3 := Lib.hid (And.intro hO3.toV hg3)
  obtain ⟨l, el⟩ : ∃ l, L.length = l := ⟨_, rfl⟩
  rw [el] at HL H3 HQ2 hl25 ⊢
  have HEL := Lib.hid el
  clear hO3 hF3 hg3 eL el HLL HQ HPO
  go_wp2
  go_loopw [5, 18] (fun sv kv wr => ∃ (K : Nat) (q : Int), K ≤ l ∧ kv = .int .i64 (K : Int) ∧ sv = .int .i64 q ∧ 0 ≤ q ∧ q ≤ (K : Int) ∧ Hid (q = holesT n m L K ∧ Grew w3 wr)) (fun _ k _ => l - (intOf k).toNat)
  case atStart => exact ⟨0, 0, Nat.zero_le _, rfl, rfl, by omega, by omega, rfl, Grew.refl _⟩
  case round =>
    obtain ⟨K, q, hK1, rfl, rfl, hq0, hq1, HI⟩ := hrel
    by_cases hK : K < l
    · obtain ⟨hr25, hrc⟩ := HL.out.2 K hK
      obtain ⟨a7, b7, o7, c7, e7, _, ha7, HC7⟩ := H3.out.1.shape
      obtain rfl := ha7 (by rw [HEL.out]; omega)
      rw [HEL.out] at e7
      simp only [Value.slice.injEq, true_and] at e7
      obtain ⟨rfl, rfl⟩ := e7
      obtain ⟨u, hu1, hu2⟩ := HC7.out K (by rw [HEL.out]; omega)
      obtain ⟨a8, b8, o8, c8, rfl, _, ha8, HC8⟩ := hu2.shape
      have hcu := HI.out.2.cell hu1
      have hsum : holesT n m L (K + 1) = q + if innerB n m (L.getD K []) = true then 1 else 0 := by unfold holesT; rw [sumTo]; congr 1; exact HI.out.1.symm
      obtain ⟨R, eR⟩ : ∃ R, L.getD K [] = R := ⟨_, rfl⟩
      rw [eR] at hr25 hrc hcu hsum ha8 HC8
      obtain ⟨rl, erl⟩ : ∃ rl, R.length = rl := ⟨_, rfl⟩
      rw [erl] at hr25 hrc hcu ha8 HC8
      have HSU := Lib.hid hsum
      have HRC := Lib.hid hrc
      have HA8 := Lib.hid ha8
      have HRL := Lib.hid erl
      have hKi : (K : Int) < (l : Int) := by omega
      have HC8' : Hid (∀ i, i < rl → w3.cell? ⟨b8, o8 + i, none⟩ = some (.int .i64 (R.getD i 0))) := Lib.hid fun i hi => HC8.out i hi
      clear hsum hrc ha8 HC8 hu1 hu2 ha7 HC7 eR erl
      go_wp2
      go_loopw [24] (fun jv wi => ∃ j : Nat, j ≤ rl ∧ jv = .int .i64 (j : Int) ∧ Hid ((∀ i, i < j → edgeL n m (R.getD i 0).toNat = false) ∧ Grew w3 wi)) (fun j _ => rl - (intOf j).toNat)
      case atStart => exact ⟨0, Nat.zero_le _, rfl, fun i hi => absurd hi (Nat.not_lt_zero _), HI.out.2⟩
      case round =>
        obtain ⟨j, hj1, rfl, HJ⟩ := hrel
        by_cases hj : j < rl
        · obtain ⟨x, ex, hx⟩ := HRC.out j hj
          obtain rfl := HA8.out (by omega)
          have hcx := HJ.out.2.cell (HC8'.out j hj)
          rw [ex] at hcx
          have hji : (j : Int) < (rl : Int) := by omega
          have HEX := Lib.hid ex
          have HA := Lib.hid (HAE.out x wr (H3.out.2.trans HJ.out.2) hx)
          obtain ⟨z, ez⟩ : ∃ z, edgeL n m x = z := ⟨_, rfl⟩
          rw [ez] at HA
          have HEZ := Lib.hid ez
          clear ex ez
          go_wp2_with (fail)
          refine HA.out.mono ?_
          cases z with
          | true =>
            rintro e w6 ⟨rfl, hg6⟩
            have HG6 := Lib.hid (HJ.out.2.trans hg6)
            have HNO : Hid (q = holesT n m L (K + 1)) := Lib.hid (by rw [HSU.out, inner_no (j := j) (by rw [HRL.out]; exact hj) (by rw [HEX.out, Int.toNat_natCast]; exact HEZ.out)]; simp)
            clear hg6
            go_wp2
            go_roundw
            case rel => exact ⟨K + 1, q, by omega, by go_num, rfl, by omega, by omega, HNO.out, HG6.out⟩
            case measure => simp [intOf]; omega
          | false =>
            rintro e w6 ⟨rfl, hg6⟩
            have HG6 := Lib.hid (HJ.out.2.trans hg6)
            have HN : Hid (∀ i, i < j + 1 → edgeL n m (R.getD i 0).toNat = false) := Lib.hid fun i hi => by
              by_cases e : i = j
              · subst e; rw [HEX.out, Int.toNat_natCast]; exact HEZ.out
              · exact HJ.out.1 i (by omega)
            clear hg6
            go_wp2
            go_roundw
            case rel => exact ⟨j + 1, by omega, by go_num, HN.out, HG6.out⟩
            case measure => simp [intOf]; omega
        · obtain rfl : j = rl := by omega
          have HYE : Hid (q + 1 = holesT n m L (K + 1)) := Lib.hid (by rw [HSU.out, inner_all (by rw [HRL.out]; exact HJ.out.1)]; simp)
          go_wp2
          go_roundw
          case rel => exact ⟨K + 1, q + 1, by omega, by go_num, by go_num, by omega, by omega, HYE.out, HJ.out.2⟩
          case measure => simp [intOf]; omega
    · obtain rfl : K = l := by omega
      go_wp2
      exact HQ2.out _ _ (by first | exact ret_int HI.out.1 | exact congrArg (fun z => Ending.returned (.int .i64 z)) HI.out.1) (H3.out.2.trans HI.out.2)
end Go.Proofs.YtaeenedjmakelaaDoor
