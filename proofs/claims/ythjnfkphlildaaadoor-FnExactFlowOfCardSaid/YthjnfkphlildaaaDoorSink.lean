/- The contracts of impl.sinkAll and impl.FillBySinking. -/
import Derived.Test.YthjnfkphlildaaaDoorSFlats
import Derived.Test.YthjnfkphlildaaaDoorCells
import Derived.Test.YthjnfkphlildaaaDoorInRows
import Derived.Test.YthjnfkphlildaaaDoorFlatsOf
namespace Go.Proofs.YthjnfkphlildaaaDoor
open Go.RowKit

/-- The heights to which water stands; there is one such list. -/
noncomputable def levelL (n m : Nat) (p : List Int) : List Int := pickL (Level n m p)
theorem Level.eq {n m : Nat} {p w : List Int} (W : Level n m p w) : levelL n m p = w := pickL_eq W fun _ V => V.uniq W
noncomputable def fillL (h : List (List Int)) : List (List Int) :=
  if vGrid h then shapeL (levelL h.length (h.getD 0 []).length h.flatten) (h.getD 0 []).length h.length else []
theorem fillL_no {h : List (List Int)} (hg : vGrid h = false) : fillL h = [] := by unfold fillL; rw [hg]; rfl
theorem fillL_yes {h : List (List Int)} {n m : Nat} {w : List Int} (hg : vGrid h = true) (en : h.length = n) (em : (h.getD 0 []).length = m) (W : Level n m h.flatten w) : fillL h = shapeL w m n := by
  unfold fillL
  rw [if_pos hg, en, em, W.eq]
theorem fillL_total (h : List (List Int)) : total (fillL h) ≤ 1000000 := by
  unfold fillL
  by_cases hg : vGrid h = true
  · rw [if_pos hg]; exact shape_grid_total hg _
  · rw [if_neg hg]; simp [total]
/-- A grid's heights in one row. -/
theorem grid_num {h : List (List Int)} {m : Nat} (g : Grid h m) (I : Nat) (hI : I < h.length * m) : 0 ≤ h.flatten.getD I 0 ∧ h.flatten.getD I 0 ≤ 12 := by
  rw [flat_at g I hI]
  exact g.num _ (div_lt_of _ _ I hI) _ (Nat.mod_lt I g.m1)
theorem Sink.sum {n m : Nat} {p w : List Int} (S : Sink n m p w) (hp : ∀ i, i < n * m → 0 ≤ p.getD i 0) : 0 ≤ w.sum := low_sum w fun i hi => by
  rw [S.len] at hi
  have := (S.esc i hi).base
  have := hp i hi
  omega

def SinkPost (n m : Nat) (p : List Int) (B0 g1 c1 g N c : Nat) (S : Int) (w0 : World) (e : Ending) (w' : World) : Prop :=
  ∃ (bb : Bool) (xs : List Int), e = .returned (.bool bb) ∧ IntsO 3 g (g + 1) w' (.slice (some ⟨g, 0, none⟩) N c) xs ∧ IntsO 3 B0 g w' (.slice (some ⟨g1, 0, none⟩) N c1) p ∧ Sink n m p xs ∧ (bb = false → Still n m p xs N 0) ∧ (bb = true → xs.sum < S) ∧ Grew w0 w'

set_option maxRecDepth 100000 in
set_option maxHeartbeats 4000000 in
theorem sinkAll_any (v : Value) (h : List (List Int)) (n m N B0 g1 c1 g c : Nat) (p xs0 : List Int) (w0 w : World) (hv : RowsV w0 v h) (hg : vGrid h = true) (hS : Steps w0) (en : h.length = n) (em : (h.getD 0 []).length = m) (eN : n * m = N) (hpl : p.length = N)
    (hw : Grew w0 w) (hgB : w0.heap.size ≤ g) (hP : IntsO 3 B0 g w (.slice (some ⟨g1, 0, none⟩) N c1) p) (hX : IntsO 3 g (g + 1) w (.slice (some ⟨g, 0, none⟩) N c) xs0) (hK : Sink n m p xs0) :
    Calls Tryd.prog 65 #[v, .slice (some ⟨g1, 0, none⟩) N c1, .slice (some ⟨g, 0, none⟩) N c] w (SinkPost n m p B0 g1 c1 g N c xs0.sum w0) := by
  have G := Grid.of hg
  have hn5 := G.n5
  have hm5 := G.m5
  rw [en] at hn5
  rw [em] at hm5
  have hN25 : N ≤ 25 := by rw [← eN]; exact Nat.mul_le_mul hn5 hm5
  have HNM := Lib.hid (And.intro hn5 (And.intro hm5 (And.intro eN hpl)))
  have HB : Hid (∀ (I : Nat) (W : World), Grew w0 W → I < N → Calls Tryd.prog 57 #[v, .int .i64 I] W (OwnI W (aroundL n m I))) :=
    Lib.hid fun I W hW hI => by
      have := cellsBeside_any v h I W (hv.grew hW) hg (by rw [en, em, eN]; exact hI) (hS.grew hW)
      rwa [en, em] at this
  obtain ⟨S, eS⟩ : ∃ S, xs0.sum = S := ⟨_, rfl⟩
  have hgs := (World.ownsRow.lt hX.1 g rfl).2
  have H0 : Hid (IntsO 3 g (g + 1) w (.slice (some ⟨g, 0, none⟩) N c) xs0 ∧ IntsO 3 B0 g w (.slice (some ⟨g1, 0, none⟩) N c1) p ∧ Sink n m p xs0 ∧ xs0.sum = S ∧ Grew w0 w ∧ w0.heap.size ≤ g ∧ g < w.heap.size) := Lib.hid ⟨hX, hP, hK, eS, hw, hgB, hgs⟩
  rw [eS]
  obtain ⟨a, b, o, c2, rfl, _, _, _⟩ := hv.shape
  clear hv hg hS G hn5 hm5 en em eN hpl hw hgB hP hX hK eS hgs
  go_enter Tryd.func65, Tryd.ntmps65
  go_wp2
  go_loopg [7, 14] N (fun gk sk i wr => ∃ (b1 : Bool) (I : Nat), sk = .bool b1 ∧ i = .int .i64 (I : Int) ∧ I ≤ N ∧ N ≤ gk + I ∧ Hid (∃ xs, IntsO 3 g (g + 1) wr (.slice (some ⟨g, 0, none⟩) N c) xs ∧ IntsO 3 B0 g wr (.slice (some ⟨g1, 0, none⟩) N c1) p ∧ Sink n m p xs ∧ (b1 = false → Still n m p xs I 0 ∧ xs.sum ≤ S) ∧ (b1 = true → xs.sum < S) ∧ Grew w0 wr ∧ g < wr.heap.size))
  case atStart => exact ⟨false, 0, rfl, rfl, Nat.zero_le _, Nat.le_refl _, xs0, H0.out.1, H0.out.2.1, H0.out.2.2.1, fun _ => ⟨still_start _ _ _ _, by rw [H0.out.2.2.2.1]; exact Int.le_refl _⟩, (fun h => by cases h), H0.out.2.2.2.2.1, H0.out.2.2.2.2.2.2⟩
  case round =>
    obtain ⟨b1, I, rfl, rfl, hI1, hI2, HX⟩ := hrel
    by_cases hI : I < N
    · have HG : Hid (Grew w0 wr) := by obtain ⟨_, _, _, _, _, _, hG, _⟩ := HX.out; exact Lib.hid hG
      have HA := Lib.hid (HB.out I _ HG.out hI)
      obtain ⟨gb, rfl⟩ : ∃ gb : Nat, gb = gk := ⟨_, rfl⟩
      obtain ⟨wb, rfl⟩ : ∃ wb : World, wb = wr := ⟨_, rfl⟩
      go_wp2_with (fail)
      refine HA.out.mono ?_
      rintro e w3 ho3
      obtain ⟨a3, c3, rfl, hw3, hg3⟩ := ho3.shape
      have HL4 : Hid ((aroundL n m I).length ≤ 4) := Lib.hid (around_facts HNM.out.1 HNM.out.2.1 (by rw [HNM.out.2.2.1]; exact hI)).2.2
      obtain ⟨L, eL⟩ : ∃ L, aroundL n m I = L := ⟨_, rfl⟩
      rw [eL] at hw3 HL4 ⊢
      have hl4 := HL4.out
      have HEL := Lib.hid eL
      have H3 : Hid (∃ xs, IntsO 3 g (g + 1) w3 (.slice (some ⟨g, 0, none⟩) N c) xs ∧ IntsO 3 B0 g w3 (.slice (some ⟨g1, 0, none⟩) N c1) p ∧ IntsO 3 wb.heap.size w3.heap.size w3 (.slice a3 L.length c3) L ∧ Sink n m p xs ∧ (b1 = false → Still n m p xs I 0 ∧ xs.sum ≤ S) ∧ (b1 = true → xs.sum < S) ∧ Grew w0 w3 ∧ g < wb.heap.size ∧ wb.heap.size ≤ w3.heap.size) := by
        obtain ⟨xs, hO, hP, hL, h1, h2, hG, hB⟩ := HX.out
        exact Lib.hid ⟨xs, hO.grew hg3, hP.grew hg3, hw3, hL, h1, h2, hG.trans hg3, hB, hg3.size⟩
      clear ho3 hw3 hg3 eL HX HA HG
      go_wp2
      go_loopg [7, 21] L.length (fun gl sk i wi => ∃ (b2 : Bool) (t : Nat), sk = .bool b2 ∧ i = .int .i64 (t : Int) ∧ t ≤ L.length ∧ L.length ≤ gl + t ∧
        Hid (∃ xs, IntsO 3 g (g + 1) wi (.slice (some ⟨g, 0, none⟩) N c) xs ∧ IntsO 3 B0 g wi (.slice (some ⟨g1, 0, none⟩) N c1) p ∧ IntsO 3 wb.heap.size w3.heap.size wi (.slice a3 L.length c3) L ∧ Sink n m p xs ∧ (b2 = false → Still n m p xs I t ∧ xs.sum ≤ S) ∧ (b2 = true → xs.sum < S) ∧ Grew w0 wi ∧ g < wb.heap.size ∧ w3.heap.size ≤ wi.heap.size))
      case atStart =>
        obtain ⟨xs, hO, hP, hA, hL, h1, h2, hG, hB, hs⟩ := H3.out
        exact ⟨b1, 0, rfl, rfl, Nat.zero_le _, Nat.le_refl _, xs, hO, hP, hA, hL, h1, h2, hG, hB, Nat.le_refl _⟩
      case round =>
        obtain ⟨b2, t, rfl, rfl, ht1, ht2, HX⟩ := hrel
        by_cases htl : t < L.length
        · obtain ⟨xs, hO, hP, hA, hL, h1, h2, hG, hB, hs⟩ := HX.out
          obtain ⟨a6, b6, o6, c6, e6, _, ha6, HC6⟩ := hA.toV.shape
          obtain ⟨rfl, rfl⟩ : a3 = a6 ∧ c3 = c6 := by simp at e6; exact e6
          obtain rfl := ha6 (by omega)
          have hlc := HC6.out t htl
          have hAf := (around_facts HNM.out.1 HNM.out.2.1 (I := I) (by rw [HNM.out.2.2.1]; exact hI)).1
          rw [HEL.out] at hAf
          have hmem : L.getD t 0 ∈ L := by
            rw [List.getD_eq_getElem?_getD, List.getElem?_eq_getElem htl]; exact List.getElem_mem htl
          obtain ⟨y, ey⟩ : ∃ y, L.getD t 0 = y := ⟨_, rfl⟩
          rw [ey] at hlc hmem
          have hy := hAf y hmem
          obtain ⟨K, rfl⟩ := Int.eq_ofNat_of_zero_le hy.1
          have hKN : K < N := by have := hy.2.1; rw [HNM.out.2.2.1] at this; omega
          have hxl : xs.length = N := by rw [hL.len]; exact HNM.out.2.2.1
          obtain ⟨hcI, hfI⟩ := hO.at rfl (i := I) (by omega)
          obtain ⟨hcK, _⟩ := hO.at rfl (i := K) (by omega)
          obtain ⟨hpI, _⟩ := hP.at rfl (i := I) (by rw [HNM.out.2.2.2]; exact hI)
          have hmemK : (K : Int) ∈ aroundL n m I := by rw [HEL.out]; exact hmem
          have hEY : (aroundL n m I).getD t 0 = K := by rw [HEL.out]; exact ey
          obtain ⟨xi, exi⟩ : ∃ xi, xs.getD I 0 = xi := ⟨_, rfl⟩
          obtain ⟨xk, exk⟩ : ∃ xk, xs.getD K 0 = xk := ⟨_, rfl⟩
          obtain ⟨pi, epi⟩ : ∃ pi, p.getD I 0 = pi := ⟨_, rfl⟩
          rw [exi] at hcI
          rw [exk] at hcK
          rw [epi] at hpI
          have hIi : (I : Int) < (N : Int) := by omega
          have hKi : (K : Int) < (N : Int) := by omega
          have hgb := hO.blk
          obtain ⟨bT, ebT⟩ : ∃ bT : Bool, bT = true := ⟨_, rfl⟩
          have HBT := Lib.hid ebT
          have HE1 : Hid (∀ to, max xk pi = to → to < xi → ∀ W, Grew wr W → ∃ xs, IntsO 3 g (g + 1) (W.setCell ⟨g, I, none⟩ (.int .i64 to)) (.slice (some ⟨g, 0, none⟩) N c) xs ∧ IntsO 3 B0 g (W.setCell ⟨g, I, none⟩ (.int .i64 to)) (.slice (some ⟨g1, 0, none⟩) N c1) p ∧ IntsO 3 wb.heap.size w3.heap.size (W.setCell ⟨g, I, none⟩ (.int .i64 to)) (.slice (some ⟨b6, o6, none⟩) L.length c3) L ∧ Sink n m p xs ∧ (bT = false → Still n m p xs I (t + 1) ∧ xs.sum ≤ S) ∧ (bT = true → xs.sum < S) ∧ Grew w0 (W.setCell ⟨g, I, none⟩ (.int .i64 to)) ∧ g < wb.heap.size ∧ w3.heap.size ≤ (W.setCell ⟨g, I, none⟩ (.int .i64 to)).heap.size) := by
            refine Lib.hid fun to hto hlt W hdr => ?_
            have hwi : Within g (g + 1) wr (W.setCell ⟨g, I, none⟩ (.int .i64 to)) := (hdr.within _ _).trans ((Within.refl _ _ _).setCell (p := ⟨g, I, none⟩) hgb.1 hgb.2 _)
            have hsk := hL.sink HNM.out.1 HNM.out.2.1 (i := I) (k := K) (by rw [HNM.out.2.2.1]; exact hI) hmemK (by rw [exi, exk, epi, hto]; exact hlt)
            rw [exk, epi, hto] at hsk
            refine ⟨_, (hO.grew hdr).set rfl I to, hP.within hwi (.inl (Nat.le_refl _)), hA.within hwi (.inr (by omega)), hsk, (fun e => by rw [ebT] at e; cases e), fun _ => ?_, Within.grew hG hwi H0.out.2.2.2.2.2.1, hB, Nat.le_trans hs hwi.size⟩
            have := sum_set xs I to (by omega)
            cases b2 with
            | false => have := (h1 rfl).2; omega
            | true => have := h2 rfl; omega
          have HE2 : Hid (∀ to, max xk pi = to → ¬ to < xi → ∀ W, Grew wr W → ∃ xs, IntsO 3 g (g + 1) W (.slice (some ⟨g, 0, none⟩) N c) xs ∧ IntsO 3 B0 g W (.slice (some ⟨g1, 0, none⟩) N c1) p ∧ IntsO 3 wb.heap.size w3.heap.size W (.slice (some ⟨b6, o6, none⟩) L.length c3) L ∧ Sink n m p xs ∧ (b2 = false → Still n m p xs I (t + 1) ∧ xs.sum ≤ S) ∧ (b2 = true → xs.sum < S) ∧ Grew w0 W ∧ g < wb.heap.size ∧ w3.heap.size ≤ W.heap.size) := by
            refine Lib.hid fun to hto hlt W hdr => ?_
            exact ⟨xs, hO.grew hdr, hP.grew hdr, hA.grew hdr, hL, fun e => ⟨(h1 e).1.skip hEY (by rw [exi, exk, epi, hto]; exact hlt), (h1 e).2⟩, h2, hG.trans hdr, hB, Nat.le_trans hs hdr.size⟩
          clear hO hP hA hL h1 h2 hG hB hs e6 ha6 HC6 hAf hmem ey hy hxl hmemK hEY exi exk epi hgb ebT H3 HX
          by_cases hxp : xk < pi
          · have HE1' := Lib.hid (HE1.out pi (by omega))
            have HE2' := Lib.hid (HE2.out pi (by omega))
            clear HE1 HE2
            by_cases hlt : pi < xi
            · go_wp2
              go_quiet (fail)
              go_wp2
              go_roundg (gk - 1)
              case measure => omega
              case rel => exact ⟨bT, t + 1, by rw [HBT.out], by go_num, by omega, by omega, HE1'.out hlt _ ((Grew.refl _).drewN _)⟩
            · go_wp2
              go_quiet (fail)
              go_wp2
              go_roundg (gk - 1)
              case measure => omega
              case rel => exact ⟨b2, t + 1, rfl, by go_num, by omega, by omega, HE2'.out hlt _ ((Grew.refl _).drewN _)⟩
          · have HE1' := Lib.hid (HE1.out xk (by omega))
            have HE2' := Lib.hid (HE2.out xk (by omega))
            clear HE1 HE2
            by_cases hlt : xk < xi
            · go_wp2
              go_quiet (fail)
              go_wp2
              go_roundg (gk - 1)
              case measure => omega
              case rel => exact ⟨bT, t + 1, by rw [HBT.out], by go_num, by omega, by omega, HE1'.out hlt _ ((Grew.refl _).drewN _)⟩
            · go_wp2
              go_quiet (fail)
              go_wp2
              go_roundg (gk - 1)
              case measure => omega
              case rel => exact ⟨b2, t + 1, rfl, by go_num, by omega, by omega, HE2'.out hlt _ ((Grew.refl _).drewN _)⟩
        · have HE : Hid (∃ xs, IntsO 3 g (g + 1) wr (.slice (some ⟨g, 0, none⟩) N c) xs ∧ IntsO 3 B0 g wr (.slice (some ⟨g1, 0, none⟩) N c1) p ∧ Sink n m p xs ∧ (b2 = false → Still n m p xs (I + 1) 0 ∧ xs.sum ≤ S) ∧ (b2 = true → xs.sum < S) ∧ Grew w0 wr ∧ g < wr.heap.size) := by
            obtain ⟨xs, hO, hP, hA, hL, h1, h2, hG, hB, hs⟩ := HX.out
            obtain rfl : t = L.length := by omega
            have hsz : wb.heap.size ≤ w3.heap.size := by obtain ⟨_, _, _, _, _, _, _, _, _, h⟩ := H3.out; exact h
            exact Lib.hid ⟨xs, hO, hP, hL, fun e => ⟨(h1 e).1.next (by rw [HEL.out]), (h1 e).2⟩, h2, hG, by omega⟩
          clear HX H3
          go_wp2
          go_roundg (gb - 1)
          case measure => omega
          case rel => exact ⟨b2, I + 1, rfl, by go_num, by omega, by omega, HE.out⟩
    · obtain rfl : I = N := by omega
      go_wp2
      go_ret
      obtain ⟨xs, hO, hP, hL, h1, h2, hG, hB⟩ := HX.out
      exact ⟨b1, xs, rfl, hO, hP, hL, fun e => (h1 e).1, h2, hG⟩
end Go.Proofs.YthjnfkphlildaaaDoor
