/- The contracts of spec.bySinking and spec.FillBySinking. -/
import Derived.Test.YthjnfkphlildaaaDoorFillBySinking
namespace Go.Proofs.YthjnfkphlildaaaDoor
open Go.RowKit

def LevelPost (n m N : Nat) (p : List Int) (w : World) (e : Ending) (w' : World) : Prop :=
  ∃ g c ys, e = .returned (.slice (some ⟨g, 0, none⟩) N c) ∧ IntsO 3 w.heap.size w'.heap.size w' (.slice (some ⟨g, 0, none⟩) N c) ys ∧ Level n m p ys ∧ Grew w w'
theorem sonEdgeB {n m : Nat} {v : Value} {h : List (List Int)} {w : World} (hv : RowsV w v h) (hg : vGrid h = true) (en : h.length = n) (em : (h.getD 0 []).length = m) (I : Nat) (W : World) (hW : Grew w W) (hI : I < n * m) :
    Calls Tryd.prog 95 #[v, .int .i64 I] W fun e w' => e = .returned (.bool (edgeL n m I)) ∧ Grew W w' := by
  have := sonEdge_any v h I W (hv.grew hW) hg (by rw [en, em]; exact hI)
  rw [en, em] at this
  exact this
/-- What the first k cells begin with. -/
def startL (n m : Nat) (p : List Int) (k : Nat) : List Int := (List.range k).map fun i => if edgeL n m i then p.getD i 0 else 12
theorem startL_len (n m : Nat) (p : List Int) (k : Nat) : (startL n m p k).length = k := by simp [startL]
theorem startL_succ (n m : Nat) (p : List Int) (k : Nat) : startL n m p (k + 1) = startL n m p k ++ [if edgeL n m k then p.getD k 0 else 12] := by simp [startL, List.range_succ]
theorem startL_sink {n m : Nat} {p : List Int} (hp : ∀ i, i < n * m → p.getD i 0 ≤ 12) : Sink n m p (startL n m p (n * m)) :=
  sink_start (by simp [startL]) hp fun i hi => by simp [startL, hi]

set_option maxRecDepth 100000 in
set_option maxHeartbeats 4000000 in
theorem bySinking_any (v : Value) (h : List (List Int)) (n m N : Nat) (w : World) (hv : RowsV w v h) (hg : vGrid h = true) (en : h.length = n) (em : (h.getD 0 []).length = m) (eN : n * m = N) :
    Calls Tryd.prog 67 #[v] w (LevelPost n m N h.flatten w) := by
  have G := Grid.of hg
  have hn5 := G.n5
  have hn1 := G.n1
  have hm5 := G.m5
  have hm1 := G.m1
  have hpl := flat_grid_len G
  have hpn : ∀ i, i < N → 0 ≤ h.flatten.getD i 0 ∧ h.flatten.getD i 0 ≤ 12 := fun i hi => grid_num G i (by rw [en, em, eN]; exact hi)
  rw [en, em, eN] at hpl
  rw [en] at hn5 hn1
  rw [em] at hm5 hm1
  have hN25 : N ≤ 25 := by rw [← eN]; exact Nat.mul_le_mul hn5 hm5
  have hN1 : 1 ≤ N := by rw [← eN]; exact Nat.mul_pos hn1 hm1
  obtain ⟨p, ep⟩ : ∃ p, h.flatten = p := ⟨_, rfl⟩
  rw [ep] at hpl hpn ⊢
  have HNM := Lib.hid (And.intro hn5 (And.intro hm5 (And.intro eN (And.intro hpl hpn))))
  obtain ⟨pf, hpf⟩ : ∃ pf : Nat → Int, ∀ i, pf i = p.getD i 0 := ⟨fun i => p.getD i 0, fun _ => rfl⟩
  have HPF := Lib.hid hpf
  have HS := Lib.hid (specH hv hg en em eN (by rw [ep]; exact hpf))
  have HE := Lib.hid fun I W (hW : Grew w W) (hI : I < N) => sonEdgeB hv hg en em I W hW (by rw [eN]; exact hI)
  obtain ⟨a, b, o, c, rfl, ⟨hlc, hcb⟩, _, _⟩ := hv.shape
  rw [en] at hlc HS HE ⊢
  clear hv hg G hm5 hm1 ep hpf hpl hpn en em eN
  go_enter Tryd.func67, Tryd.ntmps67
  go_wp2_with (fail)
  refine (HS.out.cells _ (Grew.refl _)).mono ?_
  rintro e w0 ⟨rfl, rfl⟩
  go_wp2_with (fail)
  have H0 : Hid (IntsO 3 w.heap.size (w.alloc (.cells #[] 3)).heap.size (w.alloc (.cells #[] 3)) (.slice (some ⟨w.heap.size, 0, none⟩) 0 0) [] ∧ Grew w (w.alloc (.cells #[] 3))) :=
    ⟨by simpa using IntsO.lit 3 w.heap.size w [] #[] rfl (Nat.le_refl _) (by decide), (Grew.refl w).alloc _⟩
  go_loopg [4, 5] N (fun gk v i wr => ∃ k g c', v = .slice (some ⟨g, 0, none⟩) k c' ∧ i = .int .i64 ((k : Nat) : Int) ∧ k ≤ N ∧ N ≤ gk + k ∧ Hid (IntsO 3 w.heap.size wr.heap.size wr v (startL n m p k) ∧ Grew w wr))
  case atStart => exact ⟨0, _, _, rfl, rfl, Nat.zero_le _, Nat.le_refl _, H0⟩
  case round =>
    obtain ⟨k, g, c', rfl, rfl, hk1, hk2, HI⟩ := hrel
    clear H0
    by_cases hlt : k < N
    · have HLEN := Lib.hid (startL_len n m p k)
      have HEK := HE.out k wr HI.out.2 hlt
      have hst := startL_succ n m p k
      cases he : edgeL n m k with
      | true =>
        rw [he, if_pos rfl] at hst
        rw [he] at HEK
        have HEK2 := Lib.hid HEK
        have HST := Lib.hid hst
        clear HEK hst he
        go_wp2_with (fail)
        refine HEK2.out.mono ?_
        rintro e w1 ⟨rfl, hg1⟩
        have H1 := Lib.hid (And.intro (HI.out.1.grew hg1) (HI.out.2.trans hg1))
        have H1s := Lib.hid hg1.size
        clear hg1
        go_wp2_with (fail)
        refine (HS.out.hat k _ H1.out.2 hlt).mono ?_
        rintro e w2 ⟨rfl, hq⟩
        have hg2 := quiet_grew hq
        obtain ⟨pk, epk⟩ : ∃ pk, pf k = pk := ⟨_, rfl⟩
        have HPK : Hid (pk = p.getD k 0) := Lib.hid (by rw [← epk]; exact HPF.out k)
        rw [epk]
        have H2 := Lib.hid (And.intro ((H1.out.1.grew hg2).wide (hi' := w2.heap.size) (Nat.le_refl _) (Nat.le_trans H1s.out hg2.size)) (H1.out.2.trans hg2))
        clear hq hg2 epk
        have hsw := H2.out.2.size
        go_wp2_with (at_builtin; refine wpList_append_int rfl (.tmp 22) (.tmp 26) 27 rfl Tryd.underlying27 Tryd.infoI rfl rfl (by simp) H2.out.1 (by rw [HLEN.out]; omega) hsw ?_; rw [HLEN.out]; intro g5 c5 w5 hO5 hW5 hS5)
        have HF : Hid (IntsO 3 w.heap.size w5.heap.size w5 (.slice (some ⟨g5, 0, none⟩) (k + 1) c5) (startL n m p (k + 1)) ∧ Grew w w5) :=
          Lib.hid ⟨by rw [HST.out, ← HPK.out]; exact hO5, hW5.grew H2.out.2 (Nat.le_refl _)⟩
        clear hO5 hW5
        go_wp2
        go_roundg (gk - 1)
        case measure => omega
        case rel => exact ⟨k + 1, g5, c5, rfl, by go_num, by omega, by omega, HF.out⟩
      | false =>
        rw [he, if_neg (by simp)] at hst
        rw [he] at HEK
        have HEK2 := Lib.hid HEK
        have HST := Lib.hid hst
        clear HEK hst he
        go_wp2_with (fail)
        refine HEK2.out.mono ?_
        rintro e w1 ⟨rfl, hg1⟩
        have H2 := Lib.hid (And.intro ((HI.out.1.grew hg1).wide (hi' := w1.heap.size) (Nat.le_refl _) hg1.size) (HI.out.2.trans hg1))
        clear hg1
        have hsw := H2.out.2.size
        go_wp2_with (at_builtin; refine wpList_append_int rfl (.tmp 28) (.tmp 29) 27 rfl Tryd.underlying27 Tryd.infoI rfl rfl (by simp) H2.out.1 (by rw [HLEN.out]; omega) hsw ?_; rw [HLEN.out]; intro g5 c5 w5 hO5 hW5 hS5)
        have HF : Hid (IntsO 3 w.heap.size w5.heap.size w5 (.slice (some ⟨g5, 0, none⟩) (k + 1) c5) (startL n m p (k + 1)) ∧ Grew w w5) :=
          Lib.hid ⟨by rw [HST.out]; exact hO5, hW5.grew H2.out.2 (Nat.le_refl _)⟩
        clear hO5 hW5
        go_wp2
        go_roundg (gk - 1)
        case measure => omega
        case rel => exact ⟨k + 1, g5, c5, rfl, by go_num, by omega, by omega, HF.out⟩
    · obtain rfl : k = N := by omega
      obtain ⟨S0, eS0⟩ : ∃ S0, (startL n m p k).sum.toNat = S0 := ⟨_, rfl⟩
      have HI2 : Hid (IntsO 3 w.heap.size wr.heap.size wr (.slice (some ⟨g, 0, none⟩) k c') (startL n m p k) ∧ Sink n m p (startL n m p k) ∧ (startL n m p k).sum.toNat = S0 ∧ Grew w wr) := by
        refine Lib.hid ⟨HI.out.1, ?_, eS0, HI.out.2⟩
        have := startL_sink (n := n) (m := m) (p := p) (fun i hi => (HNM.out.2.2.2.2 i (by rw [← HNM.out.2.2.1]; exact hi)).2)
        rwa [HNM.out.2.2.1] at this
      obtain ⟨B0, eB0⟩ : ∃ B0, wr.heap.size = B0 := ⟨_, rfl⟩
      have HB0 := Lib.hid eB0
      clear eS0 HI eB0 hk2
      go_wp2
      go_loopg [6] (S0 + 1) (fun gk ag wo => ∃ bb : Bool, ag = .bool bb ∧ Hid (∃ xs, IntsO 3 w.heap.size B0 wo (.slice (some ⟨g, 0, none⟩) k c') xs ∧ Sink n m p xs ∧ xs.sum.toNat + (if bb then 1 else 0) ≤ gk ∧ (bb = false → Still n m p xs k 0) ∧ Grew w wo ∧ B0 ≤ wo.heap.size))
      case atStart => exact ⟨true, rfl, _, HI2.out.1.wide (Nat.le_refl _) (Nat.le_of_eq HB0.out), HI2.out.2.1, Nat.le_of_eq (congrArg (· + 1) HI2.out.2.2.1), (fun h => by cases h), HI2.out.2.2.2, Nat.le_of_eq HB0.out.symm⟩
      case round =>
        obtain ⟨bb, rfl, HX⟩ := hrel
        clear HI2
        cases bb with
        | false =>
          have HF : Hid (∃ ys, IntsO 3 w.heap.size wr.heap.size wr (.slice (some ⟨g, 0, none⟩) k c') ys ∧ Level n m p ys ∧ Grew w wr) := by
            obtain ⟨xs, hO, hL, _, hC, hG, hB⟩ := HX.out
            refine Lib.hid ⟨xs, hO.wide (Nat.le_refl _) hB, hL.level ?_, hG⟩
            rw [HNM.out.2.2.1]; exact hC rfl
          go_wp2
          go_ret
          obtain ⟨ys, hO, hFl, hG⟩ := HF.out
          exact ⟨_, _, ys, rfl, hO, hFl, hG⟩
        | true =>
          obtain ⟨ga, rfl⟩ : ∃ ga : Nat, ga = gk := ⟨_, rfl⟩
          obtain ⟨wa, rfl⟩ : ∃ wa : World, wa = wr := ⟨_, rfl⟩
          obtain ⟨S, HS1⟩ : ∃ S : Int, Hid (∃ xs, IntsO 3 w.heap.size B0 wa (.slice (some ⟨g, 0, none⟩) k c') xs ∧ Sink n m p xs ∧ xs.sum = S ∧ S.toNat + 1 ≤ ga ∧ Grew w wa ∧ B0 ≤ wa.heap.size) := by
            obtain ⟨xs, hO, hL, hs, _, hG, hB⟩ := HX.out
            exact ⟨xs.sum, xs, hO, hL, rfl, hs, hG, hB⟩
          clear HX
          go_wp2
          go_loopg [6, 7] k (fun gk ag i wi => ∃ (b1 : Bool) (I : Nat), ag = .bool b1 ∧ i = .int .i64 (I : Int) ∧ I ≤ k ∧ k ≤ gk + I ∧
            Hid (∃ xs, IntsO 3 w.heap.size B0 wi (.slice (some ⟨g, 0, none⟩) k c') xs ∧ Sink n m p xs ∧ (b1 = false → Still n m p xs I 0 ∧ xs.sum ≤ S) ∧ (b1 = true → xs.sum < S) ∧ Grew w wi ∧ B0 ≤ wi.heap.size))
          case atStart =>
            obtain ⟨xs, hO, hL, hs, _, hG, hB⟩ := HS1.out
            exact ⟨false, 0, rfl, rfl, Nat.zero_le _, Nat.le_refl _, xs, hO, hL, fun _ => ⟨still_start _ _ _ _, by omega⟩, (fun h => by cases h), hG, hB⟩
          case round =>
            obtain ⟨b1, I, rfl, rfl, hI1, hI2, HX⟩ := hrel
            have HG : Hid (Grew w wr) := by obtain ⟨_, _, _, _, _, hG, _⟩ := HX.out; exact Lib.hid hG
            by_cases hIl : I < k
            · have HA := Lib.hid (HS.out.around I _ HG.out hIl)
              obtain ⟨gb, rfl⟩ : ∃ gb : Nat, gb = gk := ⟨_, rfl⟩
              obtain ⟨wb, rfl⟩ : ∃ wb : World, wb = wr := ⟨_, rfl⟩
              go_wp2_with (fail)
              refine HA.out.mono ?_
              rintro e w3 ho3
              obtain ⟨a3, c3, rfl, hw3, hg3⟩ := ho3.shape
              have HL4 : Hid ((aroundL n m I).length ≤ 4) := Lib.hid (around_facts HNM.out.1 HNM.out.2.1 (by rw [HNM.out.2.2.1]; exact hIl)).2.2
              obtain ⟨L, eL⟩ : ∃ L, aroundL n m I = L := ⟨_, rfl⟩
              rw [eL] at hw3 HL4 ⊢
              have hl4 := HL4.out
              have HEL := Lib.hid eL
              have H3 : Hid (∃ xs, IntsO 3 w.heap.size B0 w3 (.slice (some ⟨g, 0, none⟩) k c') xs ∧ IntsO 3 wb.heap.size w3.heap.size w3 (.slice a3 L.length c3) L ∧ Sink n m p xs ∧ (b1 = false → Still n m p xs I 0 ∧ xs.sum ≤ S) ∧ (b1 = true → xs.sum < S) ∧ Grew w w3 ∧ B0 ≤ wb.heap.size ∧ wb.heap.size ≤ w3.heap.size) := by
                obtain ⟨xs, hO, hL, h1, h2, hG, hB⟩ := HX.out
                exact Lib.hid ⟨xs, hO.grew hg3, hw3, hL, h1, h2, hG.trans hg3, hB, hg3.size⟩
              clear ho3 hw3 hg3 eL HX HA HG
              go_wp2
              go_loopg [6, 9] L.length (fun gl ag i wi => ∃ (b2 : Bool) (t : Nat), ag = .bool b2 ∧ i = .int .i64 (t : Int) ∧ t ≤ L.length ∧ L.length ≤ gl + t ∧
                Hid (∃ xs, IntsO 3 w.heap.size B0 wi (.slice (some ⟨g, 0, none⟩) k c') xs ∧ IntsO 3 wb.heap.size w3.heap.size wi (.slice a3 L.length c3) L ∧ Sink n m p xs ∧ (b2 = false → Still n m p xs I t ∧ xs.sum ≤ S) ∧ (b2 = true → xs.sum < S) ∧ Grew w wi ∧ B0 ≤ wb.heap.size ∧ w3.heap.size ≤ wi.heap.size))
              case atStart =>
                obtain ⟨xs, hO, hA, hL, h1, h2, hG, hB, hs⟩ := H3.out
                exact ⟨b1, 0, rfl, rfl, Nat.zero_le _, Nat.le_refl _, xs, hO, hA, hL, h1, h2, hG, hB, Nat.le_refl _⟩
              case round =>
                obtain ⟨b2, t, rfl, rfl, ht1, ht2, HX⟩ := hrel
                by_cases htl : t < L.length
                · obtain ⟨xs, hO, hA, hL, h1, h2, hG, hB, hs⟩ := HX.out
                  obtain ⟨a6, b6, o6, c6, e6, _, ha6, HC6⟩ := hA.toV.shape
                  obtain ⟨rfl, rfl⟩ : a3 = a6 ∧ c3 = c6 := by simp at e6; exact e6
                  obtain rfl := ha6 (by omega)
                  have hlc := HC6.out t htl
                  have hAf := (around_facts HNM.out.1 HNM.out.2.1 (I := I) (by rw [HNM.out.2.2.1]; exact hIl)).1
                  rw [HEL.out] at hAf
                  have hmem : L.getD t 0 ∈ L := by
                    rw [List.getD_eq_getElem?_getD, List.getElem?_eq_getElem htl]; exact List.getElem_mem htl
                  obtain ⟨y, ey⟩ : ∃ y, L.getD t 0 = y := ⟨_, rfl⟩
                  rw [ey] at hlc hmem
                  have hy := hAf y hmem
                  obtain ⟨K, rfl⟩ := Int.eq_ofNat_of_zero_le hy.1
                  have hKN : K < k := by have := hy.2.1; rw [HNM.out.2.2.1] at this; omega
                  have hxl : xs.length = k := by rw [hL.len]; exact HNM.out.2.2.1
                  obtain ⟨hcI, hfI⟩ := hO.at rfl (i := I) (by omega)
                  obtain ⟨hcK, _⟩ := hO.at rfl (i := K) (by omega)
                  have hmemK : (K : Int) ∈ aroundL n m I := by rw [HEL.out]; exact hmem
                  have hEY : (aroundL n m I).getD t 0 = K := by rw [HEL.out]; exact ey
                  obtain ⟨xi, exi⟩ : ∃ xi, xs.getD I 0 = xi := ⟨_, rfl⟩
                  obtain ⟨xk, exk⟩ : ∃ xk, xs.getD K 0 = xk := ⟨_, rfl⟩
                  obtain ⟨pi, epi⟩ : ∃ pi, pf I = pi := ⟨_, rfl⟩
                  rw [exi] at hcI
                  rw [exk] at hcK
                  have epi2 : p.getD I 0 = pi := by rw [← epi, HPF.out]
                  have HAT : Hid (∀ (q : Nat), Calls Tryd.prog 73 #[.slice a n c, .int .i64 I] (wr.drewN q) fun e w' => e = .returned (.int .i64 pi) ∧ ∃ m, w' = (wr.drewN q).drewN m) :=
                    Lib.hid fun q => by
                      have := HS.out.hat I _ (hG.drewN q) hIl
                      rwa [epi] at this
                  have hIi : (I : Int) < (k : Int) := by omega
                  have hKi : (K : Int) < (k : Int) := by omega
                  have hti : (t : Int) < (L.length : Int) := by omega
                  have hgb := hO.blk
                  obtain ⟨bT, ebT⟩ : ∃ bT : Bool, bT = true := ⟨_, rfl⟩
                  have HBT := Lib.hid ebT
                  have HE1 : Hid (∀ to, max xk pi = to → to < xi → ∀ W, Grew wr W → ∃ xs, IntsO 3 w.heap.size B0 (W.setCell ⟨g, I, none⟩ (.int .i64 to)) (.slice (some ⟨g, 0, none⟩) k c') xs ∧ IntsO 3 wb.heap.size w3.heap.size (W.setCell ⟨g, I, none⟩ (.int .i64 to)) (.slice (some ⟨b6, o6, none⟩) L.length c3) L ∧ Sink n m p xs ∧ (bT = false → Still n m p xs I (t + 1) ∧ xs.sum ≤ S) ∧ (bT = true → xs.sum < S) ∧ Grew w (W.setCell ⟨g, I, none⟩ (.int .i64 to)) ∧ B0 ≤ wb.heap.size ∧ w3.heap.size ≤ (W.setCell ⟨g, I, none⟩ (.int .i64 to)).heap.size) := by
                    refine Lib.hid fun to hto hlt W hdr => ?_
                    have hwi : Within w.heap.size B0 wr (W.setCell ⟨g, I, none⟩ (.int .i64 to)) := (hdr.within _ _).trans ((Within.refl _ _ _).setCell (p := ⟨g, I, none⟩) hgb.1 hgb.2 _)
                    have hsk := hL.sink HNM.out.1 HNM.out.2.1 (i := I) (k := K) (by rw [HNM.out.2.2.1]; exact hIl) hmemK (by rw [exi, exk, epi2, hto]; exact hlt)
                    rw [exk, epi2, hto] at hsk
                    refine ⟨_, (hO.grew hdr).set rfl I to, hA.within hwi (.inr hB), hsk, (fun e => by rw [ebT] at e; cases e), fun _ => ?_, Within.grew hG hwi (Nat.le_refl _), hB, Nat.le_trans hs hwi.size⟩
                    have := sum_set xs I to (by omega)
                    cases b2 with
                    | false => have := (h1 rfl).2; omega
                    | true => have := h2 rfl; omega
                  have HE2 : Hid (∀ to, max xk pi = to → ¬ to < xi → ∀ W, Grew wr W → ∃ xs, IntsO 3 w.heap.size B0 W (.slice (some ⟨g, 0, none⟩) k c') xs ∧ IntsO 3 wb.heap.size w3.heap.size W (.slice (some ⟨b6, o6, none⟩) L.length c3) L ∧ Sink n m p xs ∧ (b2 = false → Still n m p xs I (t + 1) ∧ xs.sum ≤ S) ∧ (b2 = true → xs.sum < S) ∧ Grew w W ∧ B0 ≤ wb.heap.size ∧ w3.heap.size ≤ W.heap.size) := by
                    refine Lib.hid fun to hto hlt W hdr => ?_
                    exact ⟨xs, hO.grew hdr, hA.grew hdr, hL, fun e => ⟨(h1 e).1.skip hEY (by rw [exi, exk, epi2, hto]; exact hlt), (h1 e).2⟩, h2, hG.trans hdr, hB, Nat.le_trans hs hdr.size⟩
                  clear hO hA hL h1 h2 hG hB hs e6 ha6 HC6 hAf hmem ey hy hxl hmemK hEY exi exk epi epi2 hgb ebT H3 HX
                  by_cases hxp : xk < pi
                  · have HE1' := Lib.hid (HE1.out pi (by omega))
                    have HE2' := Lib.hid (HE2.out pi (by omega))
                    clear HE1 HE2
                    by_cases hlt : pi < xi
                    · go_wp2
                      go_quiet ((go_at_call 73; exact Calls.quiet_of (HAT.out _)))
                      go_wp2
                      go_roundg (gk - 1)
                      case measure => omega
                      case rel => exact ⟨bT, t + 1, by rw [HBT.out], by go_num, by omega, by omega, HE1'.out hlt _ ((Grew.refl _).drewN _)⟩
                    · go_wp2
                      go_quiet ((go_at_call 73; exact Calls.quiet_of (HAT.out _)))
                      go_wp2
                      go_roundg (gk - 1)
                      case measure => omega
                      case rel => exact ⟨b2, t + 1, rfl, by go_num, by omega, by omega, HE2'.out hlt _ ((Grew.refl _).drewN _)⟩
                  · have HE1' := Lib.hid (HE1.out xk (by omega))
                    have HE2' := Lib.hid (HE2.out xk (by omega))
                    clear HE1 HE2
                    by_cases hlt : xk < xi
                    · go_wp2
                      go_quiet ((go_at_call 73; exact Calls.quiet_of (HAT.out _)))
                      go_wp2
                      go_roundg (gk - 1)
                      case measure => omega
                      case rel => exact ⟨bT, t + 1, by rw [HBT.out], by go_num, by omega, by omega, HE1'.out hlt _ ((Grew.refl _).drewN _)⟩
                    · go_wp2
                      go_quiet ((go_at_call 73; exact Calls.quiet_of (HAT.out _)))
                      go_wp2
                      go_roundg (gk - 1)
                      case measure => omega
                      case rel => exact ⟨b2, t + 1, rfl, by go_num, by omega, by omega, HE2'.out hlt _ ((Grew.refl _).drewN _)⟩
                · have HEE : Hid (∃ xs, IntsO 3 w.heap.size B0 wr (.slice (some ⟨g, 0, none⟩) k c') xs ∧ Sink n m p xs ∧ (b2 = false → Still n m p xs (I + 1) 0 ∧ xs.sum ≤ S) ∧ (b2 = true → xs.sum < S) ∧ Grew w wr ∧ B0 ≤ wr.heap.size) := by
                    obtain ⟨xs, hO, hA, hL, h1, h2, hG, hB, hs⟩ := HX.out
                    obtain rfl : t = L.length := by omega
                    have hsz : wb.heap.size ≤ w3.heap.size := by obtain ⟨_, _, _, _, _, _, _, _, h⟩ := H3.out; exact h
                    exact Lib.hid ⟨xs, hO, hL, fun e => ⟨(h1 e).1.next (by rw [HEL.out]), (h1 e).2⟩, h2, hG, by omega⟩
                  clear HX H3
                  go_wp2
                  go_roundg (gb - 1)
                  case measure => omega
                  case rel => exact ⟨b2, I + 1, rfl, by go_num, by omega, by omega, HEE.out⟩
            · obtain rfl : I = k := by omega
              have HEE : Hid (∃ xs, IntsO 3 w.heap.size B0 wr (.slice (some ⟨g, 0, none⟩) I c') xs ∧ Sink n m p xs ∧ xs.sum.toNat + (if b1 then 1 else 0) ≤ ga - 1 ∧ (b1 = false → Still n m p xs I 0) ∧ Grew w wr ∧ B0 ≤ wr.heap.size) := by
                obtain ⟨xs, hO, hL, h1, h2, hG, hB⟩ := HX.out
                obtain ⟨ys, _, hLy, hys, hga, _⟩ := HS1.out
                refine Lib.hid ⟨xs, hO, hL, ?_, fun e => (h1 e).1, hG, hB⟩
                have hp0 : ∀ i, i < n * m → 0 ≤ p.getD i 0 := fun i hi => (HNM.out.2.2.2.2 i (by rw [← HNM.out.2.2.1]; exact hi)).1
                have := hL.sum hp0
                have := hLy.sum hp0
                cases b1 with
                | false => have := (h1 rfl).2; simp; omega
                | true => have := h2 rfl; simp; omega
              have hga : 1 ≤ ga := by obtain ⟨_, _, _, _, h, _⟩ := HS1.out; omega
              clear HX HG
              go_wp2
              go_roundg (ga - 1)
              case measure => omega
              case rel => exact ⟨b1, rfl, HEE.out⟩

set_option maxRecDepth 100000 in
set_option maxHeartbeats 1000000 in
theorem SFillBySinking_any (v : Value) (h : List (List Int)) (w : World) (hv : RowsV w v h) :
    Calls Tryd.prog 28 #[v] w (NewRows w (fillL h)) := by
  have HK := sValidGrid_any v h w hv
  cases hg : vGrid h with
  | false =>
    rw [hg] at HK
    have HK2 := Lib.hid HK
    rw [fillL_no hg]
    obtain ⟨a, b, o, c, rfl, _, _, _⟩ := hv.shape
    clear hv HK hg
    go_enter Tryd.func28, Tryd.ntmps28
    go_wp2_with (fail)
    refine HK2.out.mono ?_
    rintro e w1 ⟨rfl, hG⟩
    have HG := Lib.hid hG
    clear hG
    go_wp2
    go_ret
    exact ⟨_, rfl, RowsO.nil _ _ _ _ _, HG.out⟩
  | true =>
    rw [hg] at HK
    have HK2 := Lib.hid HK
    have G := Grid.of hg
    obtain ⟨n, en⟩ : ∃ n, h.length = n := ⟨_, rfl⟩
    obtain ⟨m, em⟩ : ∃ m, (h.getD 0 []).length = m := ⟨_, rfl⟩
    obtain ⟨N, eN⟩ : ∃ N, n * m = N := ⟨_, rfl⟩
    have HF := Lib.hid fun W (hW : Grew w W) => bySinking_any v h n m N W (hv.grew hW) hg en em eN
    have HY := Lib.hid fun fs (F : Level n m h.flatten fs) => fillL_yes hg en em F
    have hn5 := G.n5
    have hn1 := G.n1
    have hm5 := G.m5
    have hm1 := G.m1
    rw [en] at hn5 hn1
    rw [em] at hm5 hm1
    obtain ⟨a, b, o, c, rfl, ⟨hlc, hcb⟩, ha, HCR⟩ := hv.shape
    obtain rfl := ha (by omega)
    obtain ⟨u0, hcu0, hu0⟩ := HCR.out 0 (by omega)
    rw [Nat.add_zero] at hcu0
    obtain ⟨a0, b0, o0, c0, rfl, _, _, _⟩ := hu0.shape
    rw [em] at hcu0
    rw [en] at HK2 HF hlc ⊢
    have hn0 : (0 : Int) < (n : Int) := by omega
    have HNM : Hid (n ≤ 5 ∧ 1 ≤ m ∧ m ≤ 5 ∧ n * m = N) := Lib.hid ⟨hn5, hm1, hm5, eN⟩
    clear hv HK hg G ha HCR hu0 en em eN
    go_enter Tryd.func28, Tryd.ntmps28
    go_wp2_with (fail)
    refine HK2.out.mono ?_
    rintro e w1 ⟨rfl, hG1⟩
    have HG1 := Lib.hid hG1
    have H0 := Lib.hid (hG1.cell hcu0)
    have hcu1 := H0.out
    clear hG1 hcu0
    go_wp2
    go_region_with (first
      | (go_at_call 67; refine (HF.out _ (HG1.out.drew)).mono ?_; rintro e w2 ⟨g2, c2, fs, rfl, hO2, hF2, hg2⟩; have H2 := Lib.hid (And.intro hO2 (And.intro hF2 hg2)); have hcu2 := hg2.cell H0.out; clear hO2 hF2 hg2)
      | (go_at_call 54; refine (shaped_own H2.out.1 (by rw [H2.out.2.1.len]) HNM.out.1 HNM.out.2.1 HNM.out.2.2.1).mono ?_; rintro e w3 ⟨v3, rfl, hO3, hg3⟩; obtain ⟨a3, c3, rfl⟩ := hO3.sh; have H3 := Lib.hid (And.intro hO3 hg3); clear hO3 hg3))
    all_goals
      go_wp2
      go_ret
      rw [HY.out _ H2.out.2.1]
      exact ⟨_, rfl, H3.out.1.wide (Nat.le_trans HG1.out.size (Nat.le_trans H2.out.2.2.size (Nat.le_refl _))) (Nat.le_refl _), HG1.out.drew.trans (H2.out.2.2.trans H3.out.2)⟩
end Go.Proofs.YthjnfkphlildaaaDoor
