/- The contract of spec.flats: labels that sink. -/
import Derived.Test.YtdjjimnfhfdjdaaDoorPieces2
import Derived.Test.YtdjjimnfhfdjdaaDoorCells
import Derived.Test.YtdjjimnfhfdjdaaDoorAt
namespace Go.Proofs.YtdjjimnfhfdjdaaDoor
open Go.RowKit

def idL (k : Nat) : List Int := (List.range k).map fun (i : Nat) => (i : Int)
theorem idL_len (k : Nat) : (idL k).length = k := by simp [idL]
theorem idL_succ (k : Nat) : idL (k + 1) = idL k ++ [(k : Int)] := by simp [idL, List.range_succ]
theorem idL_at (k i : Nat) (h : i < k) : (idL k).getD i 0 = i := by simp [idL, h]
theorem IntsO.app {E lo hi : Nat} {w : World} {v : Value} {xs ys : List Int} (h : IntsO E lo hi w v xs) (e : xs = ys) : IntsO E lo hi w v ys := e ▸ h

def FlatsPostN (n m N : Nat) (J : Nat → Nat → Bool) (w : World) (e : Ending) (w' : World) : Prop :=
  ∃ g c fs, e = .returned (.slice (some ⟨g, 0, none⟩) N c) ∧ IntsO 3 w.heap.size w'.heap.size w' (.slice (some ⟨g, 0, none⟩) N c) fs ∧ Flats n m J fs ∧ Grew w w'
/-- What the three callees of the spec's searches do, as seen from a world w on. -/
structure SpecH (v : Value) (n m N : Nat) (pf : Nat → Int) (w : World) : Prop where
  cells : ∀ W, Grew w W → Calls Tryd.prog 52 #[v] W fun e w' => e = .returned (.int .i64 (N : Int)) ∧ W = w'
  around : ∀ (I : Nat) W, Grew w W → I < N → Calls Tryd.prog 68 #[v, .int .i64 I] W (OwnI W (aroundL n m I))
  hat : ∀ (I : Nat) W, Grew w W → I < N → Calls Tryd.prog 53 #[v, .int .i64 I] W fun e w' => e = .returned (.int .i64 (pf I)) ∧ ∃ q, w' = W.drewN q
theorem specH {v : Value} {h : List (List Int)} {n m N : Nat} {pf : Nat → Int} {w : World} (hv : RowsV w v h) (hg : vGrid h = true) (en : h.length = n) (em : (h.getD 0 []).length = m) (eN : n * m = N) (hpf : ∀ i, pf i = h.flatten.getD i 0) : SpecH v n m N pf w := by
  have G := Grid.of hg
  refine ⟨fun W hW => ?_, fun I W hW hI => ?_, fun I W hW hI => ?_⟩
  · have := cells_any v h W (hv.grew hW) G.n1 (by have := G.n5; omega) (by have := G.m5; omega)
    rwa [en, em, eN] at this
  · have := around_any v h I W (hv.grew hW) hg (by rw [en, em, eN]; exact hI)
    rwa [en, em] at this
  · have := at_any v h I W (hv.grew hW) hg (by rw [en, em, eN]; exact hI)
    rwa [← hpf I] at this

set_option maxRecDepth 100000 in
set_option maxHeartbeats 1000000 in
theorem sflats_any (v : Value) (h : List (List Int)) (n m : Nat) (w : World) (hv : RowsV w v h) (hg : vGrid h = true) (en : h.length = n) (em : (h.getD 0 []).length = m) :
    Calls Tryd.prog 67 #[v] w (FlatsPost n m (sameH h.flatten) w) := by
  have G := Grid.of hg
  have hn5 := G.n5
  have hn1 := G.n1
  have hm5 := G.m5
  have hm1 := G.m1
  rw [en] at hn5 hn1
  rw [em] at hm5 hm1
  have hN25 : n * m ≤ 25 := Nat.mul_le_mul hn5 hm5
  have hN1 : 1 ≤ n * m := Nat.mul_pos hn1 hm1
  obtain ⟨N, eN⟩ : ∃ N, n * m = N := ⟨_, rfl⟩
  have HNM := Lib.hid (And.intro hn5 (And.intro hm5 eN))
  obtain ⟨p, ep⟩ : ∃ p, h.flatten = p := ⟨_, rfl⟩
  obtain ⟨pf, hpf⟩ : ∃ pf : Nat → Int, ∀ i, pf i = p.getD i 0 := ⟨fun i => p.getD i 0, fun _ => rfl⟩
  have HPF := Lib.hid hpf
  have HS := Lib.hid (specH hv hg en em eN (by rw [ep]; exact hpf))
  rw [ep]
  have hF : FlatsPost n m (sameH p) w = FlatsPostN n m N (sameH p) w := by
    funext e w'; rw [FlatsPost, FlatsPostN, eN]
  obtain ⟨a, b, o, c, rfl, ⟨hlc, hcb⟩, _, _⟩ := hv.shape
  rw [eN] at hN25 hN1
  rw [en] at hlc HS ⊢
  clear hv hg G hm5 hm1 ep hpf
  rw [hF]
  clear hF eN en em
  go_enter Tryd.func67, Tryd.ntmps67
  go_wp2_with (fail)
  have H0 : Hid (IntsO 3 w.heap.size (w.alloc (.cells #[] 3)).heap.size (w.alloc (.cells #[] 3)) (.slice (some ⟨w.heap.size, 0, none⟩) 0 0) [] ∧ Grew w (w.alloc (.cells #[] 3))) :=
    ⟨by simpa using IntsO.lit 3 w.heap.size w [] #[] rfl (Nat.le_refl _) (by decide), (Grew.refl w).alloc _⟩
  go_loopg [3, 4] N (fun gk v i wr => ∃ k g c', v = .slice (some ⟨g, 0, none⟩) k c' ∧ i = .int .i64 ((k : Nat) : Int) ∧ k ≤ N ∧ N ≤ gk + k ∧ Hid (IntsO 3 w.heap.size wr.heap.size wr v (idL k) ∧ Grew w wr))
  case atStart => exact ⟨0, _, _, rfl, rfl, Nat.zero_le _, Nat.le_refl _, H0⟩
  case round =>
    obtain ⟨k, g, c', rfl, rfl, hk1, hk2, HI⟩ := hrel
    clear H0
    have HC := Lib.hid (HS.out.cells _ HI.out.2)
    by_cases hlt : k < N
    · have hsw := HI.out.2.size
      have HLEN := Lib.hid (idL_len k)
      go_wp2_with (fail)
      refine HC.out.mono ?_
      rintro e w1 ⟨rfl, rfl⟩
      go_wp2_with (at_builtin; refine wpList_append_int rfl (.tmp 16) (.tmp 18) 25 rfl Tryd.underlying25 Tryd.infoI rfl rfl (by simp) HI.out.1 (by rw [HLEN.out]; omega) hsw ?_; rw [HLEN.out]; intro g5 c5 w5 hO5 hW5 hS5)
      have HF : Hid (IntsO 3 w.heap.size w5.heap.size w5 (.slice (some ⟨g5, 0, none⟩) (k + 1) c5) (idL (k + 1)) ∧ Grew w w5) :=
        Lib.hid ⟨by rw [idL_succ]; exact hO5, hW5.grew HI.out.2 (Nat.le_refl _)⟩
      clear hO5 hW5
      go_wp2
      go_roundg (gk - 1)
      case measure => omega
      case rel => exact ⟨k + 1, g5, c5, rfl, by go_num, by omega, by omega, HF.out⟩
    · obtain rfl : k = N := by omega
      obtain ⟨S0, eS0⟩ : ∃ S0, (idL k).sum.toNat = S0 := ⟨_, rfl⟩
      have HI2 : Hid (IntsO 3 w.heap.size wr.heap.size wr (.slice (some ⟨g, 0, none⟩) k c') (idL k) ∧ Low n m (sameH p) (idL k) ∧ (idL k).sum.toNat = S0 ∧ Grew w wr) :=
        Lib.hid ⟨HI.out.1, low_start n m _ _ (by rw [idL_len]; exact HNM.out.2.2.symm) (fun i hi => idL_at k i (by rw [← HNM.out.2.2]; exact hi)), eS0, HI.out.2⟩
      obtain ⟨B0, eB0⟩ : ∃ B0, wr.heap.size = B0 := ⟨_, rfl⟩
      have HB0 := Lib.hid eB0
      clear eS0 HI eB0 hk2
      go_wp2_with (fail)
      refine HC.out.mono ?_
      rintro e w1 ⟨rfl, rfl⟩
      clear HC
      go_wp2
      go_loopg [5] (S0 + 1) (fun gk ag wo => ∃ bb : Bool, ag = .bool bb ∧ Hid (∃ xs, IntsO 3 w.heap.size B0 wo (.slice (some ⟨g, 0, none⟩) k c') xs ∧ Low n m (sameH p) xs ∧ xs.sum.toNat + (if bb then 1 else 0) ≤ gk ∧ (bb = false → Calm n m (sameH p) xs k 0) ∧ Grew w wo ∧ B0 ≤ wo.heap.size))
      case atStart => exact ⟨true, rfl, _, HI2.out.1.wide (Nat.le_refl _) (Nat.le_of_eq HB0.out), HI2.out.2.1, Nat.le_of_eq (congrArg (· + 1) HI2.out.2.2.1), (fun h => by cases h), HI2.out.2.2.2, Nat.le_of_eq HB0.out.symm⟩
      case round =>
        obtain ⟨bb, rfl, HX⟩ := hrel
        clear HI2
        cases bb with
        | false =>
          have HF : Hid (∃ fs, IntsO 3 w.heap.size wr.heap.size wr (.slice (some ⟨g, 0, none⟩) k c') fs ∧ Flats n m (sameH p) fs ∧ Grew w wr) := by
            obtain ⟨xs, hO, hL, _, hC, hG, hB⟩ := HX.out
            refine Lib.hid ⟨xs, hO.wide (Nat.le_refl _) hB, hL.flats (sameH_symm p) HNM.out.1 HNM.out.2.1 ?_, hG⟩
            rw [HNM.out.2.2]; exact hC rfl
          go_wp2
          go_ret
          obtain ⟨fs, hO, hFl, hG⟩ := HF.out
          exact ⟨_, _, fs, rfl, hO, hFl, hG⟩
        | true =>
          obtain ⟨ga, rfl⟩ : ∃ ga : Nat, ga = gk := ⟨_, rfl⟩
          obtain ⟨wa, rfl⟩ : ∃ wa : World, wa = wr := ⟨_, rfl⟩
          obtain ⟨S, HS1⟩ : ∃ S : Int, Hid (∃ xs, IntsO 3 w.heap.size B0 wa (.slice (some ⟨g, 0, none⟩) k c') xs ∧ Low n m (sameH p) xs ∧ xs.sum = S ∧ S.toNat + 1 ≤ ga ∧ Grew w wa ∧ B0 ≤ wa.heap.size) := by
            obtain ⟨xs, hO, hL, hs, _, hG, hB⟩ := HX.out
            exact ⟨xs.sum, xs, hO, hL, rfl, hs, hG, hB⟩
          clear HX
          go_wp2
          go_loopg [5, 6] k (fun gk ag i wi => ∃ (b1 : Bool) (I : Nat), ag = .bool b1 ∧ i = .int .i64 (I : Int) ∧ I ≤ k ∧ k ≤ gk + I ∧
            Hid (∃ xs, IntsO 3 w.heap.size B0 wi (.slice (some ⟨g, 0, none⟩) k c') xs ∧ Low n m (sameH p) xs ∧ (b1 = false → Calm n m (sameH p) xs I 0 ∧ xs.sum ≤ S) ∧ (b1 = true → xs.sum < S) ∧ Grew w wi ∧ B0 ≤ wi.heap.size))
          case atStart =>
            obtain ⟨xs, hO, hL, hs, _, hG, hB⟩ := HS1.out
            exact ⟨false, 0, rfl, rfl, Nat.zero_le _, Nat.le_refl _, xs, hO, hL, fun _ => ⟨calm_start _ _ _ _, by omega⟩, (fun h => by cases h), hG, hB⟩
          case round =>
            obtain ⟨b1, I, rfl, rfl, hI1, hI2, HX⟩ := hrel
            have HG : Hid (Grew w wr) := by obtain ⟨_, _, _, _, _, hG, _⟩ := HX.out; exact Lib.hid hG
            have HC := Lib.hid (HS.out.cells _ HG.out)
            by_cases hIl : I < k
            · have HA := Lib.hid (HS.out.around I _ HG.out hIl)
              obtain ⟨gb, rfl⟩ : ∃ gb : Nat, gb = gk := ⟨_, rfl⟩
              obtain ⟨wb, rfl⟩ : ∃ wb : World, wb = wr := ⟨_, rfl⟩
              go_wp2_with (fail)
              refine HC.out.mono ?_
              rintro e w2 ⟨rfl, rfl⟩
              go_wp2_with (fail)
              refine HA.out.mono ?_
              rintro e w3 ho3
              obtain ⟨a3, c3, rfl, hw3, hg3⟩ := ho3.shape
              have HL4 : Hid ((aroundL n m I).length ≤ 4) := Lib.hid (around_facts HNM.out.1 HNM.out.2.1 (by rw [HNM.out.2.2]; exact hIl)).2.2
              obtain ⟨L, eL⟩ : ∃ L, aroundL n m I = L := ⟨_, rfl⟩
              rw [eL] at hw3 HL4 ⊢
              have hl4 := HL4.out
              have HEL := Lib.hid eL
              have H3 : Hid (∃ xs, IntsO 3 w.heap.size B0 w3 (.slice (some ⟨g, 0, none⟩) k c') xs ∧ IntsO 3 wb.heap.size w3.heap.size w3 (.slice a3 L.length c3) L ∧ Low n m (sameH p) xs ∧ (b1 = false → Calm n m (sameH p) xs I 0 ∧ xs.sum ≤ S) ∧ (b1 = true → xs.sum < S) ∧ Grew w w3 ∧ B0 ≤ wb.heap.size ∧ wb.heap.size ≤ w3.heap.size) := by
                obtain ⟨xs, hO, hL, h1, h2, hG, hB⟩ := HX.out
                exact Lib.hid ⟨xs, hO.grew hg3, hw3, hL, h1, h2, hG.trans hg3, hB, hg3.size⟩
              clear ho3 hw3 hg3 eL HX HC HA HG
              go_wp2
              go_loopg [5, 8] L.length (fun gl ag i wi => ∃ (b2 : Bool) (t : Nat), ag = .bool b2 ∧ i = .int .i64 (t : Int) ∧ t ≤ L.length ∧ L.length ≤ gl + t ∧
                Hid (∃ xs, IntsO 3 w.heap.size B0 wi (.slice (some ⟨g, 0, none⟩) k c') xs ∧ IntsO 3 wb.heap.size w3.heap.size wi (.slice a3 L.length c3) L ∧ Low n m (sameH p) xs ∧ (b2 = false → Calm n m (sameH p) xs I t ∧ xs.sum ≤ S) ∧ (b2 = true → xs.sum < S) ∧ Grew w wi ∧ B0 ≤ wb.heap.size ∧ w3.heap.size ≤ wi.heap.size))
              case atStart =>
                obtain ⟨xs, hO, hA, hL, h1, h2, hG, hB, hs⟩ := H3.out
                exact ⟨b1, 0, rfl, rfl, Nat.zero_le _, Nat.le_refl _, xs, hO, hA, hL, h1, h2, hG, hB, Nat.le_refl _⟩
              case round =>
                obtain ⟨b2, t, rfl, rfl, ht1, ht2, HX⟩ := hrel
                by_cases htl : t < L.length
                · obtain ⟨xs, hO, hA, hL, h1, h2, hG, hB, hs⟩ := HX.out
                  obtain ⟨a6, b6, o6, c6, e6, _, ha6, HC6⟩ := hA.toV.shape
                  obtain ⟨rfl, rfl⟩ : a3 = a6 ∧ c3 = c6 := by simp at e6; exact e6
                  obtain rfl := ha6 (by omega)
                  have hlc := HC6.out t htl
                  have hAf := (around_facts HNM.out.1 HNM.out.2.1 (I := I) (by rw [HNM.out.2.2]; exact hIl)).1
                  rw [HEL.out] at hAf
                  have hmem : L.getD t 0 ∈ L := by
                    rw [List.getD_eq_getElem?_getD, List.getElem?_eq_getElem htl]; exact List.getElem_mem htl
                  obtain ⟨y, ey⟩ : ∃ y, L.getD t 0 = y := ⟨_, rfl⟩
                  rw [ey] at hlc hmem
                  have hy := hAf y hmem
                  obtain ⟨K, rfl⟩ := Int.eq_ofNat_of_zero_le hy.1
                  have hKN : K < k := by have := hy.2.1; rw [HNM.out.2.2] at this; omega
                  have hxl : xs.length = k := by rw [hL.len]; exact HNM.out.2.2
                  obtain ⟨hcI, hfI⟩ := hO.at rfl (i := I) (by omega)
                  obtain ⟨hcK, _⟩ := hO.at rfl (i := K) (by omega)
                  have hmemK : (K : Int) ∈ aroundL n m I := by rw [HEL.out]; exact hmem
                  have hEY : (aroundL n m I).getD t 0 = K := by rw [HEL.out]; exact ey
                  obtain ⟨xi, exi⟩ : ∃ xi, xs.getD I 0 = xi := ⟨_, rfl⟩
                  obtain ⟨xk, exk⟩ : ∃ xk, xs.getD K 0 = xk := ⟨_, rfl⟩
                  rw [exi] at hcI
                  rw [exk] at hcK
                  have HAT : Hid (∀ (X : Nat) (q : Nat), X < k → Calls Tryd.prog 53 #[.slice a n c, .int .i64 X] (wr.drewN q) fun e w' => e = .returned (.int .i64 (pf X)) ∧ ∃ m, w' = (wr.drewN q).drewN m) :=
                    Lib.hid fun X q hX => HS.out.hat X _ (hG.drewN q) hX
                  have hIi : (I : Int) < (k : Int) := by omega
                  have hKi : (K : Int) < (k : Int) := by omega
                  have hti : (t : Int) < (L.length : Int) := by omega
                  have hsk : (sameH p I K = true → ¬ xk < xi) → Low n m (sameH p) xs ∧ (b2 = false → Calm n m (sameH p) xs I (t + 1) ∧ xs.sum ≤ S) ∧ (b2 = true → xs.sum < S) := fun hno =>
                    ⟨hL, fun e => ⟨(h1 e).1.skip hEY (by rw [exi, exk]; exact hno), (h1 e).2⟩, h2⟩
                  by_cases hpp : pf I = pf K
                  · have hpb : (pf I == pf K) = true := by simp [hpp]
                    have hJ : sameH p I K = true := sameH_iff.2 (by rw [← HPF.out, ← HPF.out]; exact hpp)
                    by_cases hx : xk < xi
                    · have hgb := hO.blk
                      have hsink := hL.sink HNM.out.1 HNM.out.2.1 (i := I) (k := K) (by rw [HNM.out.2.2]; exact hIl) hmemK hJ (by rw [exi, exk]; exact hx)
                      rw [exk] at hsink
                      obtain ⟨bT, ebT⟩ : ∃ bT : Bool, bT = true := ⟨_, rfl⟩
                      have HBT := Lib.hid ebT
                      have HE : ∀ q, Hid (∃ xs, IntsO 3 w.heap.size B0 ((wr.drewN q).setCell ⟨g, I, none⟩ (.int .i64 xk)) (.slice (some ⟨g, 0, none⟩) k c') xs ∧ IntsO 3 wb.heap.size w3.heap.size ((wr.drewN q).setCell ⟨g, I, none⟩ (.int .i64 xk)) (.slice (some ⟨b6, o6, none⟩) L.length c3) L ∧ Low n m (sameH p) xs ∧ (bT = false → Calm n m (sameH p) xs I (t + 1) ∧ xs.sum ≤ S) ∧ (bT = true → xs.sum < S) ∧ Grew w ((wr.drewN q).setCell ⟨g, I, none⟩ (.int .i64 xk)) ∧ B0 ≤ wb.heap.size ∧ w3.heap.size ≤ ((wr.drewN q).setCell ⟨g, I, none⟩ (.int .i64 xk)).heap.size) := by
                        intro q
                        have hdr : Grew wr (wr.drewN q) := (Grew.refl _).drewN q
                        have hwi : Within w.heap.size B0 wr ((wr.drewN q).setCell ⟨g, I, none⟩ (.int .i64 xk)) := (hdr.within _ _).trans ((Within.refl _ _ _).setCell (p := ⟨g, I, none⟩) hgb.1 hgb.2 _)
                        refine Lib.hid ⟨_, (hO.grew hdr).set rfl I xk, hA.within hwi (.inr hB), hsink.1, (fun e => by rw [ebT] at e; cases e), fun _ => ?_, Within.grew hG hwi (Nat.le_refl _), hB, by simpa using hs⟩
                        have := hsink.2
                        cases b2 with
                        | false => have := (h1 rfl).2; omega
                        | true => have := h2 rfl; omega
                      have HE' := Lib.hid HE
                      clear HE hO hA hL h1 h2 hG hB hs e6 ha6 HC6 hAf hmem ey hy hxl hmemK hEY exi exk hsk hJ hsink hgb H3 HX ebT
                      go_wp2
                      go_quiet ((go_at_call 53; exact Calls.quiet_of (HAT.out _ _ (by omega))))
                      go_wp2
                      go_roundg (gk - 1)
                      case measure => omega
                      case rel => exact ⟨bT, t + 1, by rw [HBT.out], by go_num, by omega, by omega, HE'.out _⟩
                    · have hgt : ¬ xk < xi := hx
                      have hsk' := hsk fun _ => hx
                      have HE : ∀ q, Hid (∃ xs, IntsO 3 w.heap.size B0 (wr.drewN q) (.slice (some ⟨g, 0, none⟩) k c') xs ∧ IntsO 3 wb.heap.size w3.heap.size (wr.drewN q) (.slice (some ⟨b6, o6, none⟩) L.length c3) L ∧ Low n m (sameH p) xs ∧ (b2 = false → Calm n m (sameH p) xs I (t + 1) ∧ xs.sum ≤ S) ∧ (b2 = true → xs.sum < S) ∧ Grew w (wr.drewN q) ∧ B0 ≤ wb.heap.size ∧ w3.heap.size ≤ (wr.drewN q).heap.size) := fun q =>
                        have hdr : Grew wr (wr.drewN q) := (Grew.refl _).drewN q
                        Lib.hid ⟨xs, hO.grew hdr, hA.grew hdr, hsk'.1, hsk'.2.1, hsk'.2.2, hG.trans hdr, hB, by simpa using hs⟩
                      have HE' := Lib.hid HE
                      clear HE hO hA hL h1 h2 hG hB hs e6 ha6 HC6 hAf hmem ey hy hxl hmemK hEY exi exk hsk hJ hsk' H3 HX hfI
                      go_wp2
                      go_quiet ((go_at_call 53; exact Calls.quiet_of (HAT.out _ _ (by omega))))
                      go_wp2
                      go_roundg (gk - 1)
                      case measure => omega
                      case rel => exact ⟨b2, t + 1, rfl, by go_num, by omega, by omega, HE'.out _⟩
                  · have hpb : (pf I == pf K) = false := by simp [hpp]
                    have hsk' := hsk fun hj => absurd (by rw [HPF.out, HPF.out]; exact sameH_iff.1 hj) hpp
                    have HE : ∀ q, Hid (∃ xs, IntsO 3 w.heap.size B0 (wr.drewN q) (.slice (some ⟨g, 0, none⟩) k c') xs ∧ IntsO 3 wb.heap.size w3.heap.size (wr.drewN q) (.slice (some ⟨b6, o6, none⟩) L.length c3) L ∧ Low n m (sameH p) xs ∧ (b2 = false → Calm n m (sameH p) xs I (t + 1) ∧ xs.sum ≤ S) ∧ (b2 = true → xs.sum < S) ∧ Grew w (wr.drewN q) ∧ B0 ≤ wb.heap.size ∧ w3.heap.size ≤ (wr.drewN q).heap.size) := fun q =>
                      have hdr : Grew wr (wr.drewN q) := (Grew.refl _).drewN q
                      Lib.hid ⟨xs, hO.grew hdr, hA.grew hdr, hsk'.1, hsk'.2.1, hsk'.2.2, hG.trans hdr, hB, by simpa using hs⟩
                    have HE' := Lib.hid HE
                    clear HE hO hA hL h1 h2 hG hB hs e6 ha6 HC6 hAf hmem ey hy hxl hmemK hEY exi exk hsk hsk' H3 HX hfI
                    go_wp2
                    go_quiet ((go_at_call 53; exact Calls.quiet_of (HAT.out _ _ (by omega))))
                    go_wp2
                    go_roundg (gk - 1)
                    case measure => omega
                    case rel => exact ⟨b2, t + 1, rfl, by go_num, by omega, by omega, HE'.out _⟩
                · have HE : Hid (∃ xs, IntsO 3 w.heap.size B0 wr (.slice (some ⟨g, 0, none⟩) k c') xs ∧ Low n m (sameH p) xs ∧ (b2 = false → Calm n m (sameH p) xs (I + 1) 0 ∧ xs.sum ≤ S) ∧ (b2 = true → xs.sum < S) ∧ Grew w wr ∧ B0 ≤ wr.heap.size) := by
                    obtain ⟨xs, hO, hA, hL, h1, h2, hG, hB, hs⟩ := HX.out
                    obtain rfl : t = L.length := by omega
                    have hsz : wb.heap.size ≤ w3.heap.size := by obtain ⟨_, _, _, _, _, _, _, _, h⟩ := H3.out; exact h
                    exact Lib.hid ⟨xs, hO, hL, fun e => ⟨(h1 e).1.next (by rw [HEL.out]), (h1 e).2⟩, h2, hG, by omega⟩
                  clear HX H3
                  go_wp2
                  go_roundg (gb - 1)
                  case measure => omega
                  case rel => exact ⟨b2, I + 1, rfl, by go_num, by omega, by omega, HE.out⟩
            · obtain rfl : I = k := by omega
              have HE : Hid (∃ xs, IntsO 3 w.heap.size B0 wr (.slice (some ⟨g, 0, none⟩) I c') xs ∧ Low n m (sameH p) xs ∧ xs.sum.toNat + (if b1 then 1 else 0) ≤ ga - 1 ∧ (b1 = false → Calm n m (sameH p) xs I 0) ∧ Grew w wr ∧ B0 ≤ wr.heap.size) := by
                obtain ⟨xs, hO, hL, h1, h2, hG, hB⟩ := HX.out
                obtain ⟨ys, _, hLy, hys, hga, _⟩ := HS1.out
                refine Lib.hid ⟨xs, hO, hL, ?_, fun e => (h1 e).1, hG, hB⟩
                have := hL.sum
                have := hLy.sum
                cases b1 with
                | false => have := (h1 rfl).2; simp; omega
                | true => have := h2 rfl; simp; omega
              have hga : 1 ≤ ga := by obtain ⟨_, _, _, _, h, _⟩ := HS1.out; omega
              clear HX
              go_wp2_with (fail)
              refine HC.out.mono ?_
              rintro e w2 ⟨rfl, rfl⟩
              go_wp2
              go_roundg (ga - 1)
              case measure => omega
              case rel => exact ⟨b1, rfl, HE.out⟩
end Go.Proofs.YtdjjimnfhfdjdaaDoor
