/- The contracts of spec.spanning and spec.SpanOf. -/
import Derived.Test.YtaeenedjmakelaaDoorSpanM
import Derived.Test.YtaeenedjmakelaaDoorSRoot
import Derived.Test.YtaeenedjmakelaaDoorSMergeM
import Derived.Test.YtaeenedjmakelaaDoorSGrid
import Derived.Test.YtaeenedjmakelaaDoorHeldMono
import Derived.Test.YtaeenedjmakelaaDoorAround
import Derived.Test.YtaeenedjmakelaaDoorAt
import Derived.Test.YtaeenedjmakelaaDoorAppendInts
namespace Go.Proofs.YtaeenedjmakelaaDoor
open Go.RowKit

/-- What stands of the call's memory and lists. -/
structure PJ (wo : World) (lo gu cu N : Nat) (st : SpanS) (K : Nat) (w : World) : Prop where
  mem : ∃ u, IntsO 3 gu (gu + 1) w (.slice (some ⟨gu, 0, none⟩) N cu) u ∧ UpF u N st.1
  bnd : 0 ≤ st.2 ∧ st.2 ≤ 12 * (K : Int)
  gw : Grew wo w
  lo : wo.heap.size ≤ gu
  hi : gu < w.heap.size
theorem PJ.grew {wo : World} {lo gu cu N K : Nat} {st : SpanS} {w w' : World} (h : PJ wo lo gu cu N st K w) (hg : Grew w w') : PJ wo lo gu cu N st K w' := by
  obtain ⟨⟨u, h1, h2⟩, h3, h4, h5, h6⟩ := h
  exact ⟨⟨u, h1.grew hg, h2⟩, h3, h4.trans hg, h5, Nat.lt_of_lt_of_le h6 hg.size⟩
theorem PJ.mono {wo : World} {lo gu cu N K K' : Nat} {st : SpanS} {w : World} (h : PJ wo lo gu cu N st K w) (hk : K ≤ K') : PJ wo lo gu cu N st K' w :=
  ⟨h.mem, by have := h.bnd; omega, h.gw, h.lo, h.hi⟩
theorem PJ.join {wo : World} {lo gu cu N K : Nat} {st : SpanS} {t : Int} {y e : Nat} {w : World} (h : PJ wo lo gu cu N st K w) (ht : 0 ≤ t ∧ t ≤ 12) (hy : y < N) (he : e < N) (ry : st.1 y = y) (re : st.1 e = e) (hne : y ≠ e) :
    PJ wo lo gu cu N (joinR st.1 y e, st.2 + t) (K + 1) (w.setCell ⟨gu, y, none⟩ (.int .i64 e)) := by
  obtain ⟨⟨u, h1, h2⟩, h3, h4, h5, h6⟩ := h
  have hg : Within gu (gu + 1) w (w.setCell ⟨gu, y, none⟩ (.int .i64 e)) := (Within.refl _ _ _).setCell (p := ⟨gu, y, none⟩) (Nat.le_refl _) (Nat.lt_succ_self _) _
  exact ⟨⟨_, h1.set rfl y e, h2.join hy he ry re hne⟩, by show 0 ≤ st.2 + t ∧ st.2 + t ≤ 12 * ((K + 1 : Nat) : Int); omega, Within.grew h4 hg h5, h5, by simpa [World.setCell] using h6⟩
theorem PJ.cell {wo : World} {lo gu cu N K y : Nat} {st : SpanS} {w : World} (h : PJ wo lo gu cu N st K w) (hy : y < N) : ∃ x : Int, w.cell? ⟨gu, y, none⟩ = some (.int .i64 x) ∧ w.frozen? ⟨gu, y, none⟩ = false := by
  obtain ⟨⟨u, h1, h2⟩, _⟩ := h
  obtain ⟨h5, h6⟩ := h1.at rfl (i := y) (by rw [h2.len]; exact hy)
  exact ⟨_, h5, h6⟩
theorem PJ.rootC {wo : World} {lo gu cu N K c : Nat} {st : SpanS} {w : World} (h : PJ wo lo gu cu N st K w) (hc : c < N) (hN : N ≤ 25) :
    Calls Tryd.prog 92 #[.slice (some ⟨gu, 0, none⟩) N cu, .int .i64 c] w fun e w' => e = .returned (.int .i64 (st.1 c : Nat)) ∧ w' = w := by
  obtain ⟨⟨u, h1, h2⟩, _⟩ := h
  exact sroot_any _ u N st.1 c w h1.toV h2 hc hN
theorem PJ.lt {wo : World} {lo gu cu N K c : Nat} {st : SpanS} {w : World} (h : PJ wo lo gu cu N st K w) (hc : c < N) : st.1 c < N ∧ st.1 (st.1 c) = st.1 c := by
  obtain ⟨⟨u, h1, h2⟩, _⟩ := h
  exact h2.lt hc
/-- The numbers below k, as they stand. -/
def upto (k : Nat) : List Int := (List.range k).map fun (x : Nat) => (x : Int)
theorem upto_len (k : Nat) : (upto k).length = k := by simp [upto]
theorem upto_next (k : Nat) : upto (k + 1) = upto k ++ [(k : Int)] := by simp [upto, List.range_succ]
theorem upto_at {k i : Nat} (h : i < k) : (upto k).getD i 0 = i := by simp [upto, h]
theorem upto_forest (N : Nat) : UpF (upto N) N id := ⟨upto_len N, fun _ => 0, fun c hc => ⟨c, hc, upto_at hc, rfl, fun _ => rfl, fun e => absurd rfl e⟩⟩
def spanT (h : List (List Int)) : Int := (spT h.flatten h.length (h.getD 0 []).length h.flatten.length 13).2
set_option maxRecDepth 100000 in
set_option maxHeartbeats 16000000 in
theorem spanning_any (v : Value) (h : List (List Int)) (w : World) (hv : RowsV w v h) (hg : vGrid h = true) :
    Calls Tryd.prog 67 #[v] w fun e w' => e = .returned (.int .i64 (spanT h)) ∧ Grew w w' := by
  have G := Grid.of hg
  have hpl := flat_grid_len G
  have hN25 : h.flatten.length ≤ 25 := by rw [hpl]; exact Nat.le_trans (Nat.mul_le_mul G.n5 G.m5) (by decide)
  have hN1 : 1 ≤ h.flatten.length := by rw [hpl]; exact Nat.mul_pos G.n1 G.m1
  have HN : Hid (∀ W, Grew w W → Calls Tryd.prog 89 #[v] W fun e w' => e = .returned (.int .i64 (h.flatten.length : Nat)) ∧ W = w') := Lib.hid fun W hW => by
    rw [hpl]; exact cells_any v h W (hv.grew hW) G.n1 (by have := G.n5; omega) (by have := G.m5; omega)
  have HAT : Hid (∀ (I : Nat) W, Grew w W → I < h.flatten.length → Calls Tryd.prog 93 #[v, .int .i64 I] W fun e w' => e = .returned (.int .i64 (h.flatten.getD I 0)) ∧ ∃ q, w' = W.drewN q) := Lib.hid fun I W hW hI =>
    at_any v h I W (hv.grew hW) hg (by rw [← hpl]; exact hI)
  have HBS : Hid (∀ (I : Nat) W, Grew w W → I < h.flatten.length → Calls Tryd.prog 91 #[v, .int .i64 I] W (OwnI W (aroundL h.length (h.getD 0 []).length I))) := Lib.hid fun I W hW hI => around_any v h I W (hv.grew hW) hg (by rw [← hpl]; exact hI)
  have HAR : Hid (∀ I, I < h.flatten.length → (aroundL h.length (h.getD 0 []).length I).length ≤ 4 ∧ ∀ t, t < (aroundL h.length (h.getD 0 []).length I).length → ∃ b : Nat, (aroundL h.length (h.getD 0 []).length I).getD t 0 = (b : Int) ∧ b < h.flatten.length) := Lib.hid fun I hI => by
    obtain ⟨h1, _, h3⟩ := around_facts G.n5 G.m5 (n := h.length) (m := (h.getD 0 []).length) (I := I) (by rw [← hpl]; exact hI)
    refine ⟨h3, fun t ht => ?_⟩
    obtain ⟨A, eA⟩ : ∃ A, aroundL h.length (h.getD 0 []).length I = A := ⟨_, rfl⟩
    rw [eA] at ht h1 ⊢
    have hm : A.getD t 0 ∈ A := by rw [List.getD_eq_getElem?_getD, List.getElem?_eq_getElem ht]; exact List.getElem_mem _
    obtain ⟨g1, g2, _⟩ := h1 _ hm
    exact ⟨(A.getD t 0).toNat, by omega, by rw [hpl]; omega⟩
  have HPP : Hid (∀ I, I < h.flatten.length → 0 ≤ h.flatten.getD I 0 ∧ h.flatten.getD I 0 ≤ 12) := Lib.hid fun I hI => grid_num G I (by rw [← hpl]; exact hI)
  unfold spanT
  obtain ⟨n, en⟩ : ∃ n, h.length = n := ⟨_, rfl⟩
  obtain ⟨m, em⟩ : ∃ m, (h.getD 0 []).length = m := ⟨_, rfl⟩
  obtain ⟨p, ep⟩ : ∃ p, h.flatten = p := ⟨_, rfl⟩
  rw [en, em] at HBS HAR
  rw [ep] at HN HAT HBS HAR HPP hN25 hN1 ⊢
  rw [en, em]
  obtain ⟨N, eN⟩ : ∃ N, p.length = N := ⟨_, rfl⟩
  rw [eN] at HN HAT HBS HAR HPP hN25 hN1 ⊢
  obtain ⟨a, b, o, c, rfl, _, _, _⟩ := hv.shape
  rw [en] at HN HAT HBS ⊢
  clear hv hg G hpl en em ep eN
  go_enter Tryd.func67, Tryd.ntmps67
  go_wp2_with (fail)
  refine (HN.out _ (Grew.refl _)).mono ?_
  rintro e w1 ⟨rfl, rfl⟩
  have H0 : Hid (IntsO 3 w.heap.size (w.alloc (.cells #[] 3)).heap.size (w.alloc (.cells #[] 3)) (.slice (some ⟨w.heap.size, 0, none⟩) 0 0) [] ∧ Grew w (w.alloc (.cells #[] 3))) :=
    Lib.hid ⟨by simpa using IntsO.lit 3 w.heap.size w [] #[] rfl (Nat.le_refl _) (by decide), (Grew.refl w).alloc _⟩
  go_wp2_with (fail)
  go_loopw [4, 5] (fun u' i' wr => ∃ (i g c' : Nat), i ≤ N ∧ i' = .int .i64 i ∧ u' = .slice (some ⟨g, 0, none⟩) i c' ∧ Hid (IntsO 3 w.heap.size wr.heap.size wr u' (upto i) ∧ Grew w wr)) (fun _ i' _ => N - (intOf i').toNat)
  case atStart => exact ⟨0, _, _, Nat.zero_le _, rfl, rfl, H0.out⟩
  case round =>
    obtain ⟨i, g, c', hi, rfl, rfl, HI⟩ := hrel
    clear H0
    by_cases hlt : i < N
    · have hl := upto_len i
      have hnx := Lib.hid (upto_next i)
      have hq : (upto i).length + 1 ≤ 17592186044416 := by omega
      have hb := HI.out.2.size
      have HI2 : Hid (IntsO 3 w.heap.size wr.heap.size wr (.slice (some ⟨g, 0, none⟩) (upto i).length c') (upto i)) := Lib.hid (by rw [hl]; exact HI.out.1)
      go_wp2_with (at_builtin; refine wpList_append_int (w := wr) rfl (.tmp 19) (.tmp 21) 22 rfl Tryd.underlying22 Tryd.infoI rfl rfl rfl HI.out.1 hq hb ?_; intro g5 c5 w5 hO5 hW5 hS5; rw [hl] at hO5 ⊢; have H5 := Lib.hid (And.intro hO5 (Within.grew HI.out.2 hW5 (Nat.le_refl _))); clear hO5 hW5 hS5)
      rw [← hnx.out] at H5
      go_roundw
      case rel => exact ⟨i + 1, g5, c5, by omega, by first | rfl | go_num, rfl, H5.out⟩
      case measure => simp [intOf]; omega
    · obtain rfl : i = N := by omega
      have hgb := HI.out.1.blk
      have H1 : Hid (PJ w 0 g c' i (spT p n m i 0) 0 wr) := Lib.hid ⟨⟨_, HI.out.1.at1, upto_forest i⟩, ⟨Int.le_refl _, by show (0 : Int) ≤ 12 * ((0 : Nat) : Int); omega⟩, HI.out.2, hgb.1, hgb.2⟩
      clear HI hgb
      go_wp2_with (fail)
      go_loopw [6, 7] (fun s' t' wr => ∃ t : Nat, t ≤ 13 ∧ t' = .int .i64 t ∧ s' = .int .i64 (spT p n m i t).2 ∧ Hid (PJ w 0 g c' i (spT p n m i t) (100 * t) wr)) (fun _ t' _ => 13 - (intOf t').toNat)
      case atStart => exact ⟨0, by decide, rfl, rfl, H1.out⟩
      case round =>
        obtain ⟨t, ht, rfl, rfl, HI⟩ := hrel
        clear H1
        by_cases ht2 : t < 13
        · have htt : (t : Int) ≤ 12 := by omega
          obtain ⟨s0, es0⟩ : ∃ s0, spT p n m i t = s0 := ⟨_, rfl⟩
          have HNT : Hid (spT p n m i (t + 1) = spI p n m (t : Int) s0 i) := Lib.hid (by rw [spT, es0])
          rw [es0] at HI
          have H2 : Hid (PJ w 0 g c' i (spI p n m (t : Int) s0 0) (100 * t + 4 * 0) wr) := HI
          have hst0 : (spT p n m i t).2 = (spI p n m (t : Int) s0 0).2 := by rw [es0]; rfl
          rw [hst0]
          clear HI hst0 es0
          go_wp2_with (fail)
          go_loopw [6, 8] (fun s' k' wr => ∃ k : Nat, k ≤ i ∧ k' = .int .i64 k ∧ s' = .int .i64 (spI p n m (t : Int) s0 k).2 ∧ Hid (PJ w 0 g c' i (spI p n m (t : Int) s0 k) (100 * t + 4 * k) wr)) (fun _ k' _ => i - (intOf k').toNat)
          case atStart => exact ⟨0, Nat.zero_le _, rfl, rfl, H2.out⟩
          case round =>
            obtain ⟨k, hk, rfl, rfl, HI⟩ := hrel
            clear H2
            by_cases hkl : k < i
            · obtain ⟨s1, es1⟩ : ∃ s1, spI p n m (t : Int) s0 k = s1 := ⟨_, rfl⟩
              have HNK : Hid (spI p n m (t : Int) s0 (k + 1) = spJ p (t : Int) k (aroundL n m k) s1 (aroundL n m k).length) := Lib.hid (by rw [spI, es1])
              rw [es1] at HI ⊢
              have HKN := Lib.hid hkl
              clear es1
              go_wp2_with (fail)
              refine (HBS.out k wr HI.out.gw hkl).mono ?_
              rintro e w5 ⟨a5, c5, rfl, hO5, hg5⟩
              obtain ⟨hl4, hbs⟩ := HAR.out k hkl
              obtain ⟨ar, ear⟩ : ∃ ar, aroundL n m k = ar := ⟨_, rfl⟩
              rw [ear] at HNK hO5 hl4 hbs ⊢
              obtain ⟨l, el⟩ : ∃ l, ar.length = l := ⟨_, rfl⟩
              have hgr := HI.out.hi
              have hA5 : ∃ g5, (0 < l → a5 = some ⟨g5, 0, none⟩) ∧ g ≠ g5 ∧ ∀ t, t < l → w5.cell? ⟨g5, t, none⟩ = some (.int .i64 (ar.getD t 0)) := by
                by_cases h0 : 0 < l
                · obtain ⟨g5, cc5, e5, x1, x2, _, _⟩ := hO5.pos (by omega)
                  simp only [Value.slice.injEq] at e5
                  obtain ⟨rfl, _, rfl⟩ := e5
                  exact ⟨g5, fun _ => rfl, by omega, fun t ht => (hO5.at rfl (by omega)).1⟩
                · exact ⟨g + 1, fun h => absurd h h0, by omega, fun t ht => by omega⟩
              obtain ⟨g5, hA5, hgg5, hcn5⟩ := hA5
              have H5 : Hid (PJ w 0 g c' i (spJ p (t : Int) k ar s1 0) (100 * t + 4 * k + 0) w5 ∧ ∀ t, t < l → w5.cell? ⟨g5, t, none⟩ = some (.int .i64 (ar.getD t 0))) := Lib.hid ⟨HI.out.grew hg5, hcn5⟩
              have HA5 := Lib.hid hA5
              rw [el] at hl4 hbs HNK ⊢
              have HBB := Lib.hid hbs
              clear hO5 hg5 ear el hA5 hcn5 hgr HI hbs
              have hs1 : s1.2 = (spJ p (t : Int) k ar s1 0).2 := rfl
              rw [hs1]
              clear hs1
              go_wp2_with (fail)
              go_loopw [6, 10] (fun s' j' wj => ∃ j : Nat, j ≤ l ∧ j' = .int .i64 j ∧ s' = .int .i64 (spJ p (t : Int) k ar s1 j).2 ∧ Hid (PJ w 0 g c' i (spJ p (t : Int) k ar s1 j) (100 * t + 4 * k + j) wj ∧ ∀ t, t < l → wj.cell? ⟨g5, t, none⟩ = some (.int .i64 (ar.getD t 0)))) (fun _ j' _ => l - (intOf j').toNat)
              case atStart => exact ⟨0, Nat.zero_le _, rfl, rfl, H5.out⟩
              case round =>
                obtain ⟨j, hj, rfl, rfl, HJ⟩ := hrel
                clear H5
                by_cases hjl : j < l
                · obtain rfl := HA5.out (by omega)
                  obtain ⟨bb, ebb, hbN⟩ := HBB.out j hjl
                  have hcn := HJ.out.2 j hjl
                  rw [ebb] at hcn
                  have HSTEP : Hid (spJ p (t : Int) k ar s1 (j + 1) = spB p (t : Int) k (spJ p (t : Int) k ar s1 j) bb) := Lib.hid (by rw [spJ, ebb]; rfl)
                  obtain ⟨sj, esj⟩ : ∃ sj, spJ p (t : Int) k ar s1 j = sj := ⟨_, rfl⟩
                  rw [esj] at HJ HSTEP ⊢
                  have r1 : (j : Int) < l := by omega
                  have r2 : (0 : Int) ≤ j := by omega
                  have hkN := HKN.out
                  have HAT1 : Hid (∀ (I q : Nat), I < i → Calls Tryd.prog 93 #[.slice a n c, .int .i64 I] (wr.drewN q) fun e w' => e = .returned (.int .i64 (p.getD I 0)) ∧ ∃ q2, w' = (wr.drewN q).drewN q2) := Lib.hid fun I q hI => HAT.out I _ (HJ.out.1.gw.drewN q) hI
                  have hi25 : i ≤ 25 := hN25
                  have HATG : Hid (∀ (I : Nat) W, Grew wr W → I < i → Calls Tryd.prog 93 #[.slice a n c, .int .i64 I] W fun e w' => e = .returned (.int .i64 (p.getD I 0)) ∧ Grew W w') := Lib.hid fun I W hW hI => (HAT.out I W (HJ.out.1.gw.trans hW) hI).mono fun e w' hh => ⟨hh.1, by obtain ⟨q, rfl⟩ := hh.2; exact (Grew.refl _).drewN q⟩
                  have hcnd := (Grew.refl wr).drew.cell hcn
                  obtain ⟨pk, epk⟩ : ∃ pk, p.getD k 0 = pk := ⟨_, rfl⟩
                  obtain ⟨pb, epb⟩ : ∃ pb, p.getD bb 0 = pb := ⟨_, rfl⟩
                  have HPK := Lib.hid epk
                  have HPB := Lib.hid epb
                  have HST : Hid (spJ p (t : Int) k ar s1 (j + 1) = if max pk pb = (t : Int) ∧ sj.1 k ≠ sj.1 bb then (joinR sj.1 (sj.1 k) (sj.1 bb), sj.2 + t) else sj) := Lib.hid (by rw [HSTEP.out]; unfold spB; rw [epk, epb])
                  have hra := HJ.out.1.lt hkN
                  have hrb := HJ.out.1.lt hbN
                  obtain ⟨A, eA⟩ : ∃ A, sj.1 k = A := ⟨_, rfl⟩
                  obtain ⟨C, eC⟩ : ∃ C, sj.1 bb = C := ⟨_, rfl⟩
                  rw [eA] at hra HST
                  rw [eC] at hrb HST
                  have HAE := Lib.hid eA
                  have HCE := Lib.hid eC
                  have HAC := Lib.hid (And.intro hra hrb)
                  have r3 : (bb : Int) < i := by omega
                  have r4 : (0 : Int) ≤ bb := by omega
                  have r5 : (A : Int) < i := by omega
                  have r6 : (0 : Int) ≤ A := by omega
                  have hbs := HJ.out.1.bnd
                  obtain ⟨sv, esv⟩ : ∃ sv, sj.2 = sv := ⟨_, rfl⟩
                  rw [esv] at hbs ⊢
                  have HSV := Lib.hid esv
                  clear HSTEP epk epb eA eC hra hrb esv HAT1
                  have hmd : max pk pb = if pk < pb then pb else pk := by rw [Int.max_def]; split <;> split <;> omega
                  by_cases hm : max pk pb = (t : Int)
                  · by_cases hac : A = C
                    · have hmx2 : (if pk < pb then pb else pk) = (t : Int) := by rw [← hmd]; exact hm
                      have heq : ((A : Int) == (C : Int)) = true := by rw [hac]; simp
                      have HNX : Hid (spJ p (t : Int) k ar s1 (j + 1) = sj) := Lib.hid (by rw [HST.out, if_neg (fun h => h.2 hac)])
                      clear hm hmd HST hac hcn
                      go_wp2_with (fail)
                      refine wp_region_noPanic ?_
                      refine wp_region_held_drew (S := fun W => W.cell? ⟨g5, j, none⟩ = some (.int .i64 (bb : Int)) ∧ Grew wr W) (by kernel_rfl) (by exact ⟨hcnd, (Grew.refl wr).drew⟩) (fun hHeld => ?_)
                      refine wpAnyH_take (i := 0) (oi := { dst := some 41, op := Op.move (Operand.tmp 0), type := 32, pos := _, after := #[], guard := none }) (v := ?_) rfl (by kernel_rfl) (by kernel_rfl) (by kernel_rfl) (fun _ _ _ h => h) (Or.inl ⟨by rfl, ?hy⟩) (by assumption) ?_
                      case hy => (intro w hSw; (try dsimp only at hSw); go_simp; try with_reducible rfl)
                      try simp only [Act.put, List.setIfInBounds_toArray, List.set_cons_zero, List.set_cons_succ]
                      refine wpAnyH_take (i := 1) (oi := { dst := some 42, op := Op.move (Operand.tmp 8), type := 3, pos := _, after := #[], guard := none }) (v := ?_) rfl (by kernel_rfl) (by kernel_rfl) (by kernel_rfl) (fun _ _ _ h => h) (Or.inl ⟨by rfl, ?hy⟩) (by assumption) ?_
                      case hy => (intro w hSw; (try dsimp only at hSw); go_simp; try with_reducible rfl)
                      try simp only [Act.put, List.setIfInBounds_toArray, List.set_cons_zero, List.set_cons_succ]
                      refine wpAnyH_take (i := 3) (oi := { dst := some 44, op := Op.move (Operand.tmp 0), type := 32, pos := _, after := #[], guard := none }) (v := ?_) rfl (by kernel_rfl) (by kernel_rfl) (by kernel_rfl) (fun _ _ _ h => h) (Or.inl ⟨by rfl, ?hy⟩) (by assumption) ?_
                      case hy => (intro w hSw; (try dsimp only at hSw); go_simp; try with_reducible rfl)
                      try simp only [Act.put, List.setIfInBounds_toArray, List.set_cons_zero, List.set_cons_succ]
                      refine wpAnyH_take (i := 4) (oi := { dst := some 45, op := Op.move (Operand.tmp 9), type := 22, pos := _, after := #[], guard := none }) (v := ?_) rfl (by kernel_rfl) (by kernel_rfl) (by kernel_rfl) (fun _ _ _ h => h) (Or.inl ⟨by rfl, ?hy⟩) (by assumption) ?_
                      case hy => (intro w hSw; (try dsimp only at hSw); go_simp; try with_reducible rfl)
                      try simp only [Act.put, List.setIfInBounds_toArray, List.set_cons_zero, List.set_cons_succ]
                      refine wpAnyH_take (i := 5) (oi := { dst := some 46, op := Op.move (Operand.tmp 10), type := 3, pos := _, after := #[], guard := none }) (v := ?_) rfl (by kernel_rfl) (by kernel_rfl) (by kernel_rfl) (fun _ _ _ h => h) (Or.inl ⟨by rfl, ?hy⟩) (by assumption) ?_
                      case hy => (intro w hSw; (try dsimp only at hSw); go_simp; try with_reducible rfl)
                      try simp only [Act.put, List.setIfInBounds_toArray, List.set_cons_zero, List.set_cons_succ]
                      refine wpAnyH_take (i := 6) (oi := { dst := some 47, op := Op.indexAddr 22 (Operand.tmp 45) (Operand.tmp 46), type := 0, pos := _, after := #[{ on := 4, ground := Ground.data }, { on := 5, ground := Ground.data }], guard := none }) (v := ?_) rfl (by kernel_rfl) (by kernel_rfl) (by kernel_rfl) (fun _ _ _ h => h) (Or.inl ⟨by rfl, ?hy⟩) (by assumption) ?_
                      case hy => (intro w hSw; (try dsimp only at hSw); go_simp; try with_reducible rfl)
                      try simp only [Act.put, List.setIfInBounds_toArray, List.set_cons_zero, List.set_cons_succ]
                      refine wpAnyH_take (i := 7) (oi := { dst := some 48, op := Op.load 3 (Operand.tmp 47), type := 3, pos := _, after := #[{ on := 6, ground := Ground.data }], guard := none }) (v := ?_) rfl (by kernel_rfl) (by kernel_rfl) (by kernel_rfl) (fun _ _ _ h => h) (Or.inl ⟨by rfl, ?hy⟩) (by assumption) ?_
                      case hy => (intro w hSw; (try dsimp only at hSw); go_simp; try with_reducible rfl)
                      try simp only [Act.put, List.setIfInBounds_toArray, List.set_cons_zero, List.set_cons_succ]
                      refine wpAnyH_take (i := 10) (oi := { dst := some 51, op := Op.move (Operand.tmp 7), type := 3, pos := _, after := #[], guard := none }) (v := ?_) rfl (by kernel_rfl) (by kernel_rfl) (by kernel_rfl) (fun _ _ _ h => h) (Or.inl ⟨by rfl, ?hy⟩) (by assumption) ?_
                      case hy => (intro w hSw; (try dsimp only at hSw); go_simp; try with_reducible rfl)
                      try simp only [Act.put, List.setIfInBounds_toArray, List.set_cons_zero, List.set_cons_succ]
                      refine wpAnyH_ready (rs := [2]) (by kernel_rfl) (by simp) ?_
                      refine AllReadyH.cons (i := 2) (o := { dst := some 43, op := Op.call { callee := Callee.value (Operand.func 93), args := #[Operand.tmp 41, Operand.tmp 42], argTypes := #[32, 3] }, type := 3, pos := _, after := #[{ on := 0, ground := Ground.data }, { on := 1, ground := Ground.data }], guard := none }) rfl (fun KK hKK => ?_) (AllReadyH.nil)
                      go_simp
                      go_at_call 93
                      refine (HATG.out k _ hHeld.2 hkN).mono ?_
                      rw [HPK.out]
                      rintro e3 w3 ⟨rfl, hg3⟩
                      have HG3 := Lib.hid hg3
                      clear hg3
                      refine hKK.out _ _ (by exact ⟨HG3.out.cell hHeld.1, hHeld.2.trans HG3.out⟩) (fun hHeld => ?_)
                      clear hKK KK
                      try simp only [Act.put, List.setIfInBounds_toArray, List.set_cons_zero, List.set_cons_succ]
                      refine wpAnyH_ready (rs := [8]) (by kernel_rfl) (by simp) ?_
                      refine AllReadyH.cons (i := 8) (o := { dst := some 49, op := Op.call { callee := Callee.value (Operand.func 93), args := #[Operand.tmp 44, Operand.tmp 48], argTypes := #[32, 3] }, type := 3, pos := _, after := #[{ on := 3, ground := Ground.data }, { on := 7, ground := Ground.data }, { on := 2, ground := Ground.chain }], guard := none }) rfl (fun KK hKK => ?_) (AllReadyH.nil)
                      go_simp
                      go_at_call 93
                      refine (HATG.out bb _ hHeld.2 hbN).mono ?_
                      rw [HPB.out]
                      rintro e3 w3 ⟨rfl, hg3⟩
                      have HG3 := Lib.hid hg3
                      clear hg3
                      refine hKK.out _ _ (by exact ⟨HG3.out.cell hHeld.1, hHeld.2.trans HG3.out⟩) (fun hHeld => ?_)
                      clear hKK KK
                      try simp only [Act.put, List.setIfInBounds_toArray, List.set_cons_zero, List.set_cons_succ]
                      refine wpAnyH_take (i := 9) (oi := { dst := some 50, op := Op.call { callee := Callee.builtin Builtin.max, args := #[Operand.tmp 43, Operand.tmp 49], argTypes := #[3, 3] }, type := 3, pos := _, after := #[{ on := 2, ground := Ground.data }, { on := 8, ground := Ground.data }], guard := none }) (v := ?_) rfl (by kernel_rfl) (by kernel_rfl) (by kernel_rfl) (fun _ _ _ h => h) (Or.inl ⟨by rfl, ?hy⟩) (by assumption) ?_
                      case hy => (intro w hSw; (try dsimp only at hSw); go_simp; try with_reducible rfl)
                      try simp only [Act.put, List.setIfInBounds_toArray, List.set_cons_zero, List.set_cons_succ]
                      refine wpAnyH_take (i := 11) (oi := { dst := some 52, op := Op.binOp BinOp.neq 3 (Operand.tmp 50) (Operand.tmp 51) 3, type := 4, pos := _, after := #[{ on := 9, ground := Ground.data }, { on := 10, ground := Ground.data }], guard := none }) (v := .bool false) rfl (by kernel_rfl) (by kernel_rfl) (by kernel_rfl) (fun _ _ _ h => h) (Or.inl ⟨by rfl, ?hy⟩) (by assumption) ?_
                      case hy => (intro w hSw; (try dsimp only at hSw); go_simp <;> (try with_reducible rfl) <;> (try simp [hmx2]))
                      try simp only [Act.put, List.setIfInBounds_toArray, List.set_cons_zero, List.set_cons_succ]
                      refine wpAnyH_take (i := 12) (oi := { dst := some 53, op := Op.move (Operand.tmp 52), type := 4, pos := _, after := #[{ on := 11, ground := Ground.data }, { on := 8, ground := Ground.chain }], guard := none }) (v := .bool false) rfl (by kernel_rfl) (by kernel_rfl) (by kernel_rfl) (fun _ _ _ h => h) (Or.inl ⟨by rfl, ?hy⟩) (by assumption) ?_
                      case hy => (intro w hSw; (try dsimp only at hSw); go_simp <;> (try with_reducible rfl) <;> (try simp [hmx2]))
                      try simp only [Act.put, List.setIfInBounds_toArray, List.set_cons_zero, List.set_cons_succ]
                      refine wpAnyH_take (i := 13) (oi := { dst := some 54, op := Op.move (Operand.tmp 4), type := 22, pos := _, after := #[{ on := 12, ground := Ground.guard }], guard := some (12, false) }) (v := ?_) rfl (by kernel_rfl) (by kernel_rfl) (by kernel_rfl) (fun _ _ _ h => h) (Or.inl ⟨by rfl, ?hy⟩) (by assumption) ?_
                      case hy => (intro w hSw; (try dsimp only at hSw); go_simp; try with_reducible rfl)
                      try simp only [Act.put, List.setIfInBounds_toArray, List.set_cons_zero, List.set_cons_succ]
                      refine wpAnyH_take (i := 14) (oi := { dst := some 55, op := Op.move (Operand.tmp 8), type := 3, pos := _, after := #[{ on := 12, ground := Ground.guard }], guard := some (12, false) }) (v := ?_) rfl (by kernel_rfl) (by kernel_rfl) (by kernel_rfl) (fun _ _ _ h => h) (Or.inl ⟨by rfl, ?hy⟩) (by assumption) ?_
                      case hy => (intro w hSw; (try dsimp only at hSw); go_simp; try with_reducible rfl)
                      try simp only [Act.put, List.setIfInBounds_toArray, List.set_cons_zero, List.set_cons_succ]
                      refine wpAnyH_take (i := 16) (oi := { dst := some 57, op := Op.move (Operand.tmp 4), type := 22, pos := _, after := #[{ on := 12, ground := Ground.guard }], guard := some (12, false) }) (v := ?_) rfl (by kernel_rfl) (by kernel_rfl) (by kernel_rfl) (fun _ _ _ h => h) (Or.inl ⟨by rfl, ?hy⟩) (by assumption) ?_
                      case hy => (intro w hSw; (try dsimp only at hSw); go_simp; try with_reducible rfl)
                      try simp only [Act.put, List.setIfInBounds_toArray, List.set_cons_zero, List.set_cons_succ]
                      refine wpAnyH_take (i := 17) (oi := { dst := some 58, op := Op.move (Operand.tmp 9), type := 22, pos := _, after := #[{ on := 12, ground := Ground.guard }], guard := some (12, false) }) (v := ?_) rfl (by kernel_rfl) (by kernel_rfl) (by kernel_rfl) (fun _ _ _ h => h) (Or.inl ⟨by rfl, ?hy⟩) (by assumption) ?_
                      case hy => (intro w hSw; (try dsimp only at hSw); go_simp; try with_reducible rfl)
                      try simp only [Act.put, List.setIfInBounds_toArray, List.set_cons_zero, List.set_cons_succ]
                      refine wpAnyH_take (i := 18) (oi := { dst := some 59, op := Op.move (Operand.tmp 10), type := 3, pos := _, after := #[{ on := 12, ground := Ground.guard }], guard := some (12, false) }) (v := ?_) rfl (by kernel_rfl) (by kernel_rfl) (by kernel_rfl) (fun _ _ _ h => h) (Or.inl ⟨by rfl, ?hy⟩) (by assumption) ?_
                      case hy => (intro w hSw; (try dsimp only at hSw); go_simp; try with_reducible rfl)
                      try simp only [Act.put, List.setIfInBounds_toArray, List.set_cons_zero, List.set_cons_succ]
                      refine wpAnyH_take (i := 19) (oi := { dst := some 60, op := Op.indexAddr 22 (Operand.tmp 58) (Operand.tmp 59), type := 0, pos := _, after := #[{ on := 17, ground := Ground.data }, { on := 18, ground := Ground.data }, { on := 12, ground := Ground.guard }], guard := some (12, false) }) (v := ?_) rfl (by kernel_rfl) (by kernel_rfl) (by kernel_rfl) (fun _ _ _ h => h) (Or.inl ⟨by rfl, ?hy⟩) (by assumption) ?_
                      case hy => (intro w hSw; (try dsimp only at hSw); go_simp; try with_reducible rfl)
                      try simp only [Act.put, List.setIfInBounds_toArray, List.set_cons_zero, List.set_cons_succ]
                      refine wpAnyH_take (i := 20) (oi := { dst := some 61, op := Op.load 3 (Operand.tmp 60), type := 3, pos := _, after := #[{ on := 19, ground := Ground.data }, { on := 12, ground := Ground.guard }], guard := some (12, false) }) (v := ?_) rfl (by kernel_rfl) (by kernel_rfl) (by kernel_rfl) (fun _ _ _ h => h) (Or.inl ⟨by rfl, ?hy⟩) (by assumption) ?_
                      case hy => (intro w hSw; (try dsimp only at hSw); go_simp; try with_reducible rfl)
                      try simp only [Act.put, List.setIfInBounds_toArray, List.set_cons_zero, List.set_cons_succ]
                      refine wpAnyH_ready (rs := [15]) (by kernel_rfl) (by simp) ?_
                      refine AllReadyH.cons (i := 15) (o := { dst := some 56, op := Op.call { callee := Callee.value (Operand.func 92), args := #[Operand.tmp 54, Operand.tmp 55], argTypes := #[22, 3] }, type := 3, pos := _, after := #[{ on := 13, ground := Ground.data }, { on := 14, ground := Ground.data }, { on := 12, ground := Ground.chain }, { on := 12, ground := Ground.guard }], guard := some (12, false) }) rfl (fun KK hKK => ?_) (AllReadyH.nil)
                      go_simp
                      go_at_call 92
                      refine ((HJ.out.1.grew hHeld.2).rootC hkN hi25).mono ?_
                      rw [HAE.out]
                      rintro e9 w9 ⟨rfl, hw9⟩
                      rw [hw9]
                      clear hw9 w9
                      refine hKK.out _ _ (by exact hHeld) (fun hHeld => ?_)
                      clear hKK KK
                      try simp only [Act.put, List.setIfInBounds_toArray, List.set_cons_zero, List.set_cons_succ]
                      refine wpAnyH_ready (rs := [21]) (by kernel_rfl) (by simp) ?_
                      refine AllReadyH.cons (i := 21) (o := { dst := some 62, op := Op.call { callee := Callee.value (Operand.func 92), args := #[Operand.tmp 57, Operand.tmp 61], argTypes := #[22, 3] }, type := 3, pos := _, after := #[{ on := 16, ground := Ground.data }, { on := 20, ground := Ground.data }, { on := 15, ground := Ground.chain }, { on := 12, ground := Ground.guard }], guard := some (12, false) }) rfl (fun KK hKK => ?_) (AllReadyH.nil)
                      go_simp
                      go_at_call 92
                      refine ((HJ.out.1.grew hHeld.2).rootC hbN hi25).mono ?_
                      rw [HCE.out]
                      rintro e9 w9 ⟨rfl, hw9⟩
                      rw [hw9]
                      clear hw9 w9
                      refine hKK.out _ _ (by exact hHeld) (fun hHeld => ?_)
                      clear hKK KK
                      try simp only [Act.put, List.setIfInBounds_toArray, List.set_cons_zero, List.set_cons_succ]
                      refine wpAnyH_take (i := 22) (oi := { dst := some 63, op := Op.binOp BinOp.eql 3 (Operand.tmp 56) (Operand.tmp 62) 3, type := 4, pos := _, after := #[{ on := 15, ground := Ground.data }, { on := 21, ground := Ground.data }, { on := 12, ground := Ground.guard }], guard := some (12, false) }) (v := ?_) rfl (by kernel_rfl) (by kernel_rfl) (by kernel_rfl) (fun _ _ _ h => h) (Or.inl ⟨by rfl, ?hy⟩) (by assumption) ?_
                      case hy => (intro w hSw; (try dsimp only at hSw); go_simp; try with_reducible rfl)
                      try simp only [Act.put, List.setIfInBounds_toArray, List.set_cons_zero, List.set_cons_succ]
                      refine wpAnyH_take (i := 23) (oi := { dst := some 64, op := Op.pick (Operand.tmp 53) (Operand.const (Value.bool true)) (Operand.tmp 63), type := 4, pos := _, after := #[{ on := 12, ground := Ground.data }, { on := 22, ground := Ground.data }], guard := none }) (v := ?_) rfl (by kernel_rfl) (by kernel_rfl) (by kernel_rfl) (fun _ _ _ h => h) (Or.inl ⟨by rfl, ?hy⟩) (by assumption) ?_
                      case hy => (intro w hSw; (try dsimp only at hSw); go_simp; try with_reducible rfl)
                      try simp only [Act.put, List.setIfInBounds_toArray, List.set_cons_zero, List.set_cons_succ]
                      refine wpAnyH_done (by kernel_rfl) ?_ _
                      refine NoPanic.normal ?_
                      have HF := Lib.hid (And.intro ((HJ.out.1.grew hHeld.2).mono (show 100 * t + 4 * k + j ≤ 100 * t + 4 * k + (j + 1) by omega)) (fun t2 ht2 => hHeld.2.cell (HJ.out.2 t2 ht2)))
                      clear hHeld
                      go_wp2
                      go_roundw
                      case rel => exact ⟨j + 1, by omega, by first | rfl | go_num, by rw [HNX.out, HSV.out], by rw [HNX.out]; exact HF.out⟩
                      case measure => simp [intOf]; omega
                    · have hmx2 : (if pk < pb then pb else pk) = (t : Int) := by rw [← hmd]; exact hm
                      have heq : ((A : Int) == (C : Int)) = false := by simp; omega
                      have HNX : Hid (spJ p (t : Int) k ar s1 (j + 1) = (joinR sj.1 A C, sv + t)) := Lib.hid (by rw [HST.out, if_pos ⟨hm, hac⟩, HSV.out])
                      have HAC2 := Lib.hid hac
                      have wrs : IntKind.i64.wrap (sv + (t : Int)) = sv + t := IntWalk.i64_in _ (by omega)
                      clear hm hmd HST hac hcn
                      go_wp2_with (fail)
                      refine wp_region_noPanic ?_
                      refine wp_region_held_drew (S := fun W => W.cell? ⟨g5, j, none⟩ = some (.int .i64 (bb : Int)) ∧ Grew wr W) (by kernel_rfl) (by exact ⟨hcnd, (Grew.refl wr).drew⟩) (fun hHeld => ?_)
                      refine wpAnyH_take (i := 0) (oi := { dst := some 41, op := Op.move (Operand.tmp 0), type := 32, pos := _, after := #[], guard := none }) (v := ?_) rfl (by kernel_rfl) (by kernel_rfl) (by kernel_rfl) (fun _ _ _ h => h) (Or.inl ⟨by rfl, ?hy⟩) (by assumption) ?_
                      case hy => (intro w hSw; (try dsimp only at hSw); go_simp; try with_reducible rfl)
                      try simp only [Act.put, List.setIfInBounds_toArray, List.set_cons_zero, List.set_cons_succ]
                      refine wpAnyH_take (i := 1) (oi := { dst := some 42, op := Op.move (Operand.tmp 8), type := 3, pos := _, after := #[], guard := none }) (v := ?_) rfl (by kernel_rfl) (by kernel_rfl) (by kernel_rfl) (fun _ _ _ h => h) (Or.inl ⟨by rfl, ?hy⟩) (by assumption) ?_
                      case hy => (intro w hSw; (try dsimp only at hSw); go_simp; try with_reducible rfl)
                      try simp only [Act.put, List.setIfInBounds_toArray, List.set_cons_zero, List.set_cons_succ]
                      refine wpAnyH_take (i := 3) (oi := { dst := some 44, op := Op.move (Operand.tmp 0), type := 32, pos := _, after := #[], guard := none }) (v := ?_) rfl (by kernel_rfl) (by kernel_rfl) (by kernel_rfl) (fun _ _ _ h => h) (Or.inl ⟨by rfl, ?hy⟩) (by assumption) ?_
                      case hy => (intro w hSw; (try dsimp only at hSw); go_simp; try with_reducible rfl)
                      try simp only [Act.put, List.setIfInBounds_toArray, List.set_cons_zero, List.set_cons_succ]
                      refine wpAnyH_take (i := 4) (oi := { dst := some 45, op := Op.move (Operand.tmp 9), type := 22, pos := _, after := #[], guard := none }) (v := ?_) rfl (by kernel_rfl) (by kernel_rfl) (by kernel_rfl) (fun _ _ _ h => h) (Or.inl ⟨by rfl, ?hy⟩) (by assumption) ?_
                      case hy => (intro w hSw; (try dsimp only at hSw); go_simp; try with_reducible rfl)
                      try simp only [Act.put, List.setIfInBounds_toArray, List.set_cons_zero, List.set_cons_succ]
                      refine wpAnyH_take (i := 5) (oi := { dst := some 46, op := Op.move (Operand.tmp 10), type := 3, pos := _, after := #[], guard := none }) (v := ?_) rfl (by kernel_rfl) (by kernel_rfl) (by kernel_rfl) (fun _ _ _ h => h) (Or.inl ⟨by rfl, ?hy⟩) (by assumption) ?_
                      case hy => (intro w hSw; (try dsimp only at hSw); go_simp; try with_reducible rfl)
                      try simp only [Act.put, List.setIfInBounds_toArray, List.set_cons_zero, List.set_cons_succ]
                      refine wpAnyH_take (i := 6) (oi := { dst := some 47, op := Op.indexAddr 22 (Operand.tmp 45) (Operand.tmp 46), type := 0, pos := _, after := #[{ on := 4, ground := Ground.data }, { on := 5, ground := Ground.data }], guard := none }) (v := ?_) rfl (by kernel_rfl) (by kernel_rfl) (by kernel_rfl) (fun _ _ _ h => h) (Or.inl ⟨by rfl, ?hy⟩) (by assumption) ?_
                      case hy => (intro w hSw; (try dsimp only at hSw); go_simp; try with_reducible rfl)
                      try simp only [Act.put, List.setIfInBounds_toArray, List.set_cons_zero, List.set_cons_succ]
                      refine wpAnyH_take (i := 7) (oi := { dst := some 48, op := Op.load 3 (Operand.tmp 47), type := 3, pos := _, after := #[{ on := 6, ground := Ground.data }], guard := none }) (v := ?_) rfl (by kernel_rfl) (by kernel_rfl) (by kernel_rfl) (fun _ _ _ h => h) (Or.inl ⟨by rfl, ?hy⟩) (by assumption) ?_
                      case hy => (intro w hSw; (try dsimp only at hSw); go_simp; try with_reducible rfl)
                      try simp only [Act.put, List.setIfInBounds_toArray, List.set_cons_zero, List.set_cons_succ]
                      refine wpAnyH_take (i := 10) (oi := { dst := some 51, op := Op.move (Operand.tmp 7), type := 3, pos := _, after := #[], guard := none }) (v := ?_) rfl (by kernel_rfl) (by kernel_rfl) (by kernel_rfl) (fun _ _ _ h => h) (Or.inl ⟨by rfl, ?hy⟩) (by assumption) ?_
                      case hy => (intro w hSw; (try dsimp only at hSw); go_simp; try with_reducible rfl)
                      try simp only [Act.put, List.setIfInBounds_toArray, List.set_cons_zero, List.set_cons_succ]
                      refine wpAnyH_ready (rs := [2]) (by kernel_rfl) (by simp) ?_
                      refine AllReadyH.cons (i := 2) (o := { dst := some 43, op := Op.call { callee := Callee.value (Operand.func 93), args := #[Operand.tmp 41, Operand.tmp 42], argTypes := #[32, 3] }, type := 3, pos := _, after := #[{ on := 0, ground := Ground.data }, { on := 1, ground := Ground.data }], guard := none }) rfl (fun KK hKK => ?_) (AllReadyH.nil)
                      go_simp
                      go_at_call 93
                      refine (HATG.out k _ hHeld.2 hkN).mono ?_
                      rw [HPK.out]
                      rintro e3 w3 ⟨rfl, hg3⟩
                      have HG3 := Lib.hid hg3
                      clear hg3
                      refine hKK.out _ _ (by exact ⟨HG3.out.cell hHeld.1, hHeld.2.trans HG3.out⟩) (fun hHeld => ?_)
                      clear hKK KK
                      try simp only [Act.put, List.setIfInBounds_toArray, List.set_cons_zero, List.set_cons_succ]
                      refine wpAnyH_ready (rs := [8]) (by kernel_rfl) (by simp) ?_
                      refine AllReadyH.cons (i := 8) (o := { dst := some 49, op := Op.call { callee := Callee.value (Operand.func 93), args := #[Operand.tmp 44, Operand.tmp 48], argTypes := #[32, 3] }, type := 3, pos := _, after := #[{ on := 3, ground := Ground.data }, { on := 7, ground := Ground.data }, { on := 2, ground := Ground.chain }], guard := none }) rfl (fun KK hKK => ?_) (AllReadyH.nil)
                      go_simp
                      go_at_call 93
                      refine (HATG.out bb _ hHeld.2 hbN).mono ?_
                      rw [HPB.out]
                      rintro e3 w3 ⟨rfl, hg3⟩
                      have HG3 := Lib.hid hg3
                      clear hg3
                      refine hKK.out _ _ (by exact ⟨HG3.out.cell hHeld.1, hHeld.2.trans HG3.out⟩) (fun hHeld => ?_)
                      clear hKK KK
                      try simp only [Act.put, List.setIfInBounds_toArray, List.set_cons_zero, List.set_cons_succ]
                      refine wpAnyH_take (i := 9) (oi := { dst := some 50, op := Op.call { callee := Callee.builtin Builtin.max, args := #[Operand.tmp 43, Operand.tmp 49], argTypes := #[3, 3] }, type := 3, pos := _, after := #[{ on := 2, ground := Ground.data }, { on := 8, ground := Ground.data }], guard := none }) (v := ?_) rfl (by kernel_rfl) (by kernel_rfl) (by kernel_rfl) (fun _ _ _ h => h) (Or.inl ⟨by rfl, ?hy⟩) (by assumption) ?_
                      case hy => (intro w hSw; (try dsimp only at hSw); go_simp; try with_reducible rfl)
                      try simp only [Act.put, List.setIfInBounds_toArray, List.set_cons_zero, List.set_cons_succ]
                      refine wpAnyH_take (i := 11) (oi := { dst := some 52, op := Op.binOp BinOp.neq 3 (Operand.tmp 50) (Operand.tmp 51) 3, type := 4, pos := _, after := #[{ on := 9, ground := Ground.data }, { on := 10, ground := Ground.data }], guard := none }) (v := .bool false) rfl (by kernel_rfl) (by kernel_rfl) (by kernel_rfl) (fun _ _ _ h => h) (Or.inl ⟨by rfl, ?hy⟩) (by assumption) ?_
                      case hy => (intro w hSw; (try dsimp only at hSw); go_simp <;> (try with_reducible rfl) <;> (try simp [hmx2]))
                      try simp only [Act.put, List.setIfInBounds_toArray, List.set_cons_zero, List.set_cons_succ]
                      refine wpAnyH_take (i := 12) (oi := { dst := some 53, op := Op.move (Operand.tmp 52), type := 4, pos := _, after := #[{ on := 11, ground := Ground.data }, { on := 8, ground := Ground.chain }], guard := none }) (v := .bool false) rfl (by kernel_rfl) (by kernel_rfl) (by kernel_rfl) (fun _ _ _ h => h) (Or.inl ⟨by rfl, ?hy⟩) (by assumption) ?_
                      case hy => (intro w hSw; (try dsimp only at hSw); go_simp <;> (try with_reducible rfl) <;> (try simp [hmx2]))
                      try simp only [Act.put, List.setIfInBounds_toArray, List.set_cons_zero, List.set_cons_succ]
                      refine wpAnyH_take (i := 13) (oi := { dst := some 54, op := Op.move (Operand.tmp 4), type := 22, pos := _, after := #[{ on := 12, ground := Ground.guard }], guard := some (12, false) }) (v := ?_) rfl (by kernel_rfl) (by kernel_rfl) (by kernel_rfl) (fun _ _ _ h => h) (Or.inl ⟨by rfl, ?hy⟩) (by assumption) ?_
                      case hy => (intro w hSw; (try dsimp only at hSw); go_simp; try with_reducible rfl)
                      try simp only [Act.put, List.setIfInBounds_toArray, List.set_cons_zero, List.set_cons_succ]
                      refine wpAnyH_take (i := 14) (oi := { dst := some 55, op := Op.move (Operand.tmp 8), type := 3, pos := _, after := #[{ on := 12, ground := Ground.guard }], guard := some (12, false) }) (v := ?_) rfl (by kernel_rfl) (by kernel_rfl) (by kernel_rfl) (fun _ _ _ h => h) (Or.inl ⟨by rfl, ?hy⟩) (by assumption) ?_
                      case hy => (intro w hSw; (try dsimp only at hSw); go_simp; try with_reducible rfl)
                      try simp only [Act.put, List.setIfInBounds_toArray, List.set_cons_zero, List.set_cons_succ]
                      refine wpAnyH_take (i := 16) (oi := { dst := some 57, op := Op.move (Operand.tmp 4), type := 22, pos := _, after := #[{ on := 12, ground := Ground.guard }], guard := some (12, false) }) (v := ?_) rfl (by kernel_rfl) (by kernel_rfl) (by kernel_rfl) (fun _ _ _ h => h) (Or.inl ⟨by rfl, ?hy⟩) (by assumption) ?_
                      case hy => (intro w hSw; (try dsimp only at hSw); go_simp; try with_reducible rfl)
                      try simp only [Act.put, List.setIfInBounds_toArray, List.set_cons_zero, List.set_cons_succ]
                      refine wpAnyH_take (i := 17) (oi := { dst := some 58, op := Op.move (Operand.tmp 9), type := 22, pos := _, after := #[{ on := 12, ground := Ground.guard }], guard := some (12, false) }) (v := ?_) rfl (by kernel_rfl) (by kernel_rfl) (by kernel_rfl) (fun _ _ _ h => h) (Or.inl ⟨by rfl, ?hy⟩) (by assumption) ?_
                      case hy => (intro w hSw; (try dsimp only at hSw); go_simp; try with_reducible rfl)
                      try simp only [Act.put, List.setIfInBounds_toArray, List.set_cons_zero, List.set_cons_succ]
                      refine wpAnyH_take (i := 18) (oi := { dst := some 59, op := Op.move (Operand.tmp 10), type := 3, pos := _, after := #[{ on := 12, ground := Ground.guard }], guard := some (12, false) }) (v := ?_) rfl (by kernel_rfl) (by kernel_rfl) (by kernel_rfl) (fun _ _ _ h => h) (Or.inl ⟨by rfl, ?hy⟩) (by assumption) ?_
                      case hy => (intro w hSw; (try dsimp only at hSw); go_simp; try with_reducible rfl)
                      try simp only [Act.put, List.setIfInBounds_toArray, List.set_cons_zero, List.set_cons_succ]
                      refine wpAnyH_take (i := 19) (oi := { dst := some 60, op := Op.indexAddr 22 (Operand.tmp 58) (Operand.tmp 59), type := 0, pos := _, after := #[{ on := 17, ground := Ground.data }, { on := 18, ground := Ground.data }, { on := 12, ground := Ground.guard }], guard := some (12, false) }) (v := ?_) rfl (by kernel_rfl) (by kernel_rfl) (by kernel_rfl) (fun _ _ _ h => h) (Or.inl ⟨by rfl, ?hy⟩) (by assumption) ?_
                      case hy => (intro w hSw; (try dsimp only at hSw); go_simp; try with_reducible rfl)
                      try simp only [Act.put, List.setIfInBounds_toArray, List.set_cons_zero, List.set_cons_succ]
                      refine wpAnyH_take (i := 20) (oi := { dst := some 61, op := Op.load 3 (Operand.tmp 60), type := 3, pos := _, after := #[{ on := 19, ground := Ground.data }, { on := 12, ground := Ground.guard }], guard := some (12, false) }) (v := ?_) rfl (by kernel_rfl) (by kernel_rfl) (by kernel_rfl) (fun _ _ _ h => h) (Or.inl ⟨by rfl, ?hy⟩) (by assumption) ?_
                      case hy => (intro w hSw; (try dsimp only at hSw); go_simp; try with_reducible rfl)
                      try simp only [Act.put, List.setIfInBounds_toArray, List.set_cons_zero, List.set_cons_succ]
                      refine wpAnyH_ready (rs := [15]) (by kernel_rfl) (by simp) ?_
                      refine AllReadyH.cons (i := 15) (o := { dst := some 56, op := Op.call { callee := Callee.value (Operand.func 92), args := #[Operand.tmp 54, Operand.tmp 55], argTypes := #[22, 3] }, type := 3, pos := _, after := #[{ on := 13, ground := Ground.data }, { on := 14, ground := Ground.data }, { on := 12, ground := Ground.chain }, { on := 12, ground := Ground.guard }], guard := some (12, false) }) rfl (fun KK hKK => ?_) (AllReadyH.nil)
                      go_simp
                      go_at_call 92
                      refine ((HJ.out.1.grew hHeld.2).rootC hkN hi25).mono ?_
                      rw [HAE.out]
                      rintro e9 w9 ⟨rfl, hw9⟩
                      rw [hw9]
                      clear hw9 w9
                      refine hKK.out _ _ (by exact hHeld) (fun hHeld => ?_)
                      clear hKK KK
                      try simp only [Act.put, List.setIfInBounds_toArray, List.set_cons_zero, List.set_cons_succ]
                      refine wpAnyH_ready (rs := [21]) (by kernel_rfl) (by simp) ?_
                      refine AllReadyH.cons (i := 21) (o := { dst := some 62, op := Op.call { callee := Callee.value (Operand.func 92), args := #[Operand.tmp 57, Operand.tmp 61], argTypes := #[22, 3] }, type := 3, pos := _, after := #[{ on := 16, ground := Ground.data }, { on := 20, ground := Ground.data }, { on := 15, ground := Ground.chain }, { on := 12, ground := Ground.guard }], guard := some (12, false) }) rfl (fun KK hKK => ?_) (AllReadyH.nil)
                      go_simp
                      go_at_call 92
                      refine ((HJ.out.1.grew hHeld.2).rootC hbN hi25).mono ?_
                      rw [HCE.out]
                      rintro e9 w9 ⟨rfl, hw9⟩
                      rw [hw9]
                      clear hw9 w9
                      refine hKK.out _ _ (by exact hHeld) (fun hHeld => ?_)
                      clear hKK KK
                      try simp only [Act.put, List.setIfInBounds_toArray, List.set_cons_zero, List.set_cons_succ]
                      refine wpAnyH_take (i := 22) (oi := { dst := some 63, op := Op.binOp BinOp.eql 3 (Operand.tmp 56) (Operand.tmp 62) 3, type := 4, pos := _, after := #[{ on := 15, ground := Ground.data }, { on := 21, ground := Ground.data }, { on := 12, ground := Ground.guard }], guard := some (12, false) }) (v := ?_) rfl (by kernel_rfl) (by kernel_rfl) (by kernel_rfl) (fun _ _ _ h => h) (Or.inl ⟨by rfl, ?hy⟩) (by assumption) ?_
                      case hy => (intro w hSw; (try dsimp only at hSw); go_simp; try with_reducible rfl)
                      try simp only [Act.put, List.setIfInBounds_toArray, List.set_cons_zero, List.set_cons_succ]
                      refine wpAnyH_take (i := 23) (oi := { dst := some 64, op := Op.pick (Operand.tmp 53) (Operand.const (Value.bool true)) (Operand.tmp 63), type := 4, pos := _, after := #[{ on := 12, ground := Ground.data }, { on := 22, ground := Ground.data }], guard := none }) (v := ?_) rfl (by kernel_rfl) (by kernel_rfl) (by kernel_rfl) (fun _ _ _ h => h) (Or.inl ⟨by rfl, ?hy⟩) (by assumption) ?_
                      case hy => (intro w hSw; (try dsimp only at hSw); go_simp; try with_reducible rfl)
                      try simp only [Act.put, List.setIfInBounds_toArray, List.set_cons_zero, List.set_cons_succ]
                      refine wpAnyH_done (by kernel_rfl) ?_ _
                      refine NoPanic.normal ?_
                      have HPD : Hid (PJ w 0 g c' i sj (100 * t + 4 * k + j) w3.drew) := Lib.hid ((HJ.out.1.grew hHeld.2).grew (Grew.refl w3).drew)
                      have HC3 := Lib.hid hHeld.1
                      have HF : Hid (PJ w 0 g c' i (spJ p (t : Int) k ar s1 (j + 1)) (100 * t + 4 * k + (j + 1)) (w3.drew.setCell ⟨g, A, none⟩ (.int .i64 (C : Int))) ∧ ∀ t2, t2 < l → (w3.drew.setCell ⟨g, A, none⟩ (.int .i64 (C : Int))).cell? ⟨g5, t2, none⟩ = some (.int .i64 (ar.getD t2 0))) := by
                        rw [HNX.out, ← HSV.out]
                        exact Lib.hid ⟨HPD.out.join ⟨by omega, htt⟩ HAC.out.1.1 HAC.out.2.1 HAC.out.1.2 HAC.out.2.2 HAC2.out, fun t2 ht2 => ((Within.refl g (g + 1) w3.drew).setCell (p := ⟨g, A, none⟩) (Nat.le_refl _) (Nat.lt_succ_self _) _).cell ((Grew.refl w3).drew.cell (hHeld.2.cell (HJ.out.2 t2 ht2))) (by show g5 < g ∨ g + 1 ≤ g5; omega)⟩
                      obtain ⟨cv, hcu, hfu⟩ := HPD.out.cell HAC.out.1.1
                      clear hHeld
                      go_wp2_with (fail)
                      refine wp_region_noPanic ?_
                      refine wp_region_held_drew (S := fun W => W.cell? ⟨g5, j, none⟩ = some (.int .i64 (bb : Int))) (by kernel_rfl) (by exact (Grew.refl w3).drew.cell HC3.out) (fun hHeld => ?_)
                      refine wpAnyH_take (i := 0) (oi := { dst := some 65, op := Op.move (Operand.tmp 4), type := 22, pos := _, after := #[], guard := none }) (v := ?_) rfl (by kernel_rfl) (by kernel_rfl) (by kernel_rfl) (fun _ _ _ h => h) (Or.inl ⟨by rfl, ?hy⟩) (by assumption) ?_
                      case hy => (intro w hSw; (try dsimp only at hSw); go_simp; try with_reducible rfl)
                      try simp only [Act.put, List.setIfInBounds_toArray, List.set_cons_zero, List.set_cons_succ]
                      refine wpAnyH_take (i := 1) (oi := { dst := some 66, op := Op.move (Operand.tmp 4), type := 22, pos := _, after := #[], guard := none }) (v := ?_) rfl (by kernel_rfl) (by kernel_rfl) (by kernel_rfl) (fun _ _ _ h => h) (Or.inl ⟨by rfl, ?hy⟩) (by assumption) ?_
                      case hy => (intro w hSw; (try dsimp only at hSw); go_simp; try with_reducible rfl)
                      try simp only [Act.put, List.setIfInBounds_toArray, List.set_cons_zero, List.set_cons_succ]
                      refine wpAnyH_take (i := 2) (oi := { dst := some 67, op := Op.move (Operand.tmp 8), type := 3, pos := _, after := #[], guard := none }) (v := ?_) rfl (by kernel_rfl) (by kernel_rfl) (by kernel_rfl) (fun _ _ _ h => h) (Or.inl ⟨by rfl, ?hy⟩) (by assumption) ?_
                      case hy => (intro w hSw; (try dsimp only at hSw); go_simp; try with_reducible rfl)
                      try simp only [Act.put, List.setIfInBounds_toArray, List.set_cons_zero, List.set_cons_succ]
                      refine wpAnyH_take (i := 4) (oi := { dst := some 69, op := Op.move (Operand.tmp 4), type := 22, pos := _, after := #[], guard := none }) (v := ?_) rfl (by kernel_rfl) (by kernel_rfl) (by kernel_rfl) (fun _ _ _ h => h) (Or.inl ⟨by rfl, ?hy⟩) (by assumption) ?_
                      case hy => (intro w hSw; (try dsimp only at hSw); go_simp; try with_reducible rfl)
                      try simp only [Act.put, List.setIfInBounds_toArray, List.set_cons_zero, List.set_cons_succ]
                      refine wpAnyH_take (i := 5) (oi := { dst := some 70, op := Op.move (Operand.tmp 9), type := 22, pos := _, after := #[], guard := none }) (v := ?_) rfl (by kernel_rfl) (by kernel_rfl) (by kernel_rfl) (fun _ _ _ h => h) (Or.inl ⟨by rfl, ?hy⟩) (by assumption) ?_
                      case hy => (intro w hSw; (try dsimp only at hSw); go_simp; try with_reducible rfl)
                      try simp only [Act.put, List.setIfInBounds_toArray, List.set_cons_zero, List.set_cons_succ]
                      refine wpAnyH_take (i := 6) (oi := { dst := some 71, op := Op.move (Operand.tmp 10), type := 3, pos := _, after := #[], guard := none }) (v := ?_) rfl (by kernel_rfl) (by kernel_rfl) (by kernel_rfl) (fun _ _ _ h => h) (Or.inl ⟨by rfl, ?hy⟩) (by assumption) ?_
                      case hy => (intro w hSw; (try dsimp only at hSw); go_simp; try with_reducible rfl)
                      try simp only [Act.put, List.setIfInBounds_toArray, List.set_cons_zero, List.set_cons_succ]
                      refine wpAnyH_take (i := 7) (oi := { dst := some 72, op := Op.indexAddr 22 (Operand.tmp 70) (Operand.tmp 71), type := 0, pos := _, after := #[{ on := 5, ground := Ground.data }, { on := 6, ground := Ground.data }], guard := none }) (v := ?_) rfl (by kernel_rfl) (by kernel_rfl) (by kernel_rfl) (fun _ _ _ h => h) (Or.inl ⟨by rfl, ?hy⟩) (by assumption) ?_
                      case hy => (intro w hSw; (try dsimp only at hSw); go_simp; try with_reducible rfl)
                      try simp only [Act.put, List.setIfInBounds_toArray, List.set_cons_zero, List.set_cons_succ]
                      refine wpAnyH_take (i := 8) (oi := { dst := some 73, op := Op.load 3 (Operand.tmp 72), type := 3, pos := _, after := #[{ on := 7, ground := Ground.data }], guard := none }) (v := ?_) rfl (by kernel_rfl) (by kernel_rfl) (by kernel_rfl) (fun _ _ _ h => h) (Or.inl ⟨by rfl, ?hy⟩) (by assumption) ?_
                      case hy => (intro w hSw; (try dsimp only at hSw); go_simp; try with_reducible rfl)
                      try simp only [Act.put, List.setIfInBounds_toArray, List.set_cons_zero, List.set_cons_succ]
                      refine wpAnyH_ready (rs := [3]) (by kernel_rfl) (by simp) ?_
                      refine AllReadyH.cons (i := 3) (o := { dst := some 68, op := Op.call { callee := Callee.value (Operand.func 92), args := #[Operand.tmp 66, Operand.tmp 67], argTypes := #[22, 3] }, type := 3, pos := _, after := #[{ on := 1, ground := Ground.data }, { on := 2, ground := Ground.data }], guard := none }) rfl (fun KK hKK => ?_) (AllReadyH.nil)
                      go_simp
                      go_at_call 92
                      refine (HPD.out.rootC hkN hi25).mono ?_
                      rw [HAE.out]
                      rintro e4 w4 ⟨rfl, hw4⟩
                      rw [hw4]
                      clear hw4
                      refine hKK.out _ _ (by exact hHeld) (fun hHeld => ?_)
                      clear hKK KK
                      try simp only [Act.put, List.setIfInBounds_toArray, List.set_cons_zero, List.set_cons_succ]
                      refine wpAnyH_ready (rs := [9]) (by kernel_rfl) (by simp) ?_
                      refine AllReadyH.cons (i := 9) (o := { dst := some 74, op := Op.call { callee := Callee.value (Operand.func 92), args := #[Operand.tmp 69, Operand.tmp 73], argTypes := #[22, 3] }, type := 3, pos := _, after := #[{ on := 4, ground := Ground.data }, { on := 8, ground := Ground.data }, { on := 3, ground := Ground.chain }], guard := none }) rfl (fun KK hKK => ?_) (AllReadyH.nil)
                      go_simp
                      go_at_call 92
                      refine (HPD.out.rootC hbN hi25).mono ?_
                      rw [HCE.out]
                      rintro e4 w4 ⟨rfl, hw4⟩
                      rw [hw4]
                      clear hw4
                      refine hKK.out _ _ (by exact hHeld) (fun hHeld => ?_)
                      clear hKK KK
                      try simp only [Act.put, List.setIfInBounds_toArray, List.set_cons_zero, List.set_cons_succ]
                      refine wpAnyH_take (i := 10) (oi := { dst := some 75, op := Op.indexAddr 22 (Operand.tmp 65) (Operand.tmp 68), type := 0, pos := _, after := #[{ on := 0, ground := Ground.data }, { on := 3, ground := Ground.data }, { on := 0, ground := Ground.phase }, { on := 1, ground := Ground.phase }, { on := 2, ground := Ground.phase }, { on := 3, ground := Ground.phase }, { on := 4, ground := Ground.phase }, { on := 5, ground := Ground.phase }, { on := 6, ground := Ground.phase }, { on := 7, ground := Ground.phase }, { on := 8, ground := Ground.phase }, { on := 9, ground := Ground.phase }], guard := none }) (v := ?_) rfl (by kernel_rfl) (by kernel_rfl) (by kernel_rfl) (fun _ _ _ h => h) (Or.inl ⟨by rfl, ?hy⟩) (by assumption) ?_
                      case hy => (intro w hSw; (try dsimp only at hSw); go_simp; try with_reducible rfl)
                      try simp only [Act.put, List.setIfInBounds_toArray, List.set_cons_zero, List.set_cons_succ]
                      refine wpAnyH_ready (rs := [11]) (by kernel_rfl) (by simp) ?_
                      refine AllReadyH.cons (i := 11) (o := { dst := none, op := Op.store 3 (Operand.tmp 75) (Operand.tmp 74), type := 0, pos := _, after := #[{ on := 10, ground := Ground.data }, { on := 9, ground := Ground.data }, { on := 9, ground := Ground.chain }, { on := 0, ground := Ground.phase }, { on := 1, ground := Ground.phase }, { on := 2, ground := Ground.phase }, { on := 3, ground := Ground.phase }, { on := 4, ground := Ground.phase }, { on := 5, ground := Ground.phase }, { on := 6, ground := Ground.phase }, { on := 7, ground := Ground.phase }, { on := 8, ground := Ground.phase }, { on := 9, ground := Ground.phase }], guard := none }) rfl (fun KK hKK => ?_) (AllReadyH.nil)
                      go_simp
                      refine hKK.out _ _ (by exact ((Within.refl g (g + 1) w3.drew).setCell (p := ⟨g, A, none⟩) (Nat.le_refl _) (Nat.lt_succ_self _) (.int .i64 (C : Int))).cell hHeld (by show g5 < g ∨ g + 1 ≤ g5; omega)) (fun hHeld => ?_)
                      clear hKK KK
                      try simp only [Act.put, List.setIfInBounds_toArray, List.set_cons_zero, List.set_cons_succ]
                      refine wpAnyH_done (by kernel_rfl) ?_ _
                      refine NoPanic.normal ?_
                      clear hHeld
                      go_wp2
                      go_roundw
                      case rel => exact ⟨j + 1, by omega, by first | rfl | go_num, by rw [HNX.out], HF.out⟩
                      case measure => simp [intOf]; omega
                  · have hmx2 : ¬ (if pk < pb then pb else pk) = (t : Int) := by rw [← hmd]; exact hm
                    have HNX : Hid (spJ p (t : Int) k ar s1 (j + 1) = sj) := Lib.hid (by rw [HST.out, if_neg (fun h => hm h.1)])
                    clear hm hmd HST hcn
                    go_wp2_with (fail)
                    refine wp_region_noPanic ?_
                    refine wp_region_held_drew (S := fun W => W.cell? ⟨g5, j, none⟩ = some (.int .i64 (bb : Int)) ∧ Grew wr W) (by kernel_rfl) (by exact ⟨hcnd, (Grew.refl wr).drew⟩) (fun hHeld => ?_)
                    refine wpAnyH_take (i := 0) (oi := { dst := some 41, op := Op.move (Operand.tmp 0), type := 32, pos := _, after := #[], guard := none }) (v := ?_) rfl (by kernel_rfl) (by kernel_rfl) (by kernel_rfl) (fun _ _ _ h => h) (Or.inl ⟨by rfl, ?hy⟩) (by assumption) ?_
                    case hy => (intro w hSw; (try dsimp only at hSw); go_simp; try with_reducible rfl)
                    try simp only [Act.put, List.setIfInBounds_toArray, List.set_cons_zero, List.set_cons_succ]
                    refine wpAnyH_take (i := 1) (oi := { dst := some 42, op := Op.move (Operand.tmp 8), type := 3, pos := _, after := #[], guard := none }) (v := ?_) rfl (by kernel_rfl) (by kernel_rfl) (by kernel_rfl) (fun _ _ _ h => h) (Or.inl ⟨by rfl, ?hy⟩) (by assumption) ?_
                    case hy => (intro w hSw; (try dsimp only at hSw); go_simp; try with_reducible rfl)
                    try simp only [Act.put, List.setIfInBounds_toArray, List.set_cons_zero, List.set_cons_succ]
                    refine wpAnyH_take (i := 3) (oi := { dst := some 44, op := Op.move (Operand.tmp 0), type := 32, pos := _, after := #[], guard := none }) (v := ?_) rfl (by kernel_rfl) (by kernel_rfl) (by kernel_rfl) (fun _ _ _ h => h) (Or.inl ⟨by rfl, ?hy⟩) (by assumption) ?_
                    case hy => (intro w hSw; (try dsimp only at hSw); go_simp; try with_reducible rfl)
                    try simp only [Act.put, List.setIfInBounds_toArray, List.set_cons_zero, List.set_cons_succ]
                    refine wpAnyH_take (i := 4) (oi := { dst := some 45, op := Op.move (Operand.tmp 9), type := 22, pos := _, after := #[], guard := none }) (v := ?_) rfl (by kernel_rfl) (by kernel_rfl) (by kernel_rfl) (fun _ _ _ h => h) (Or.inl ⟨by rfl, ?hy⟩) (by assumption) ?_
                    case hy => (intro w hSw; (try dsimp only at hSw); go_simp; try with_reducible rfl)
                    try simp only [Act.put, List.setIfInBounds_toArray, List.set_cons_zero, List.set_cons_succ]
                    refine wpAnyH_take (i := 5) (oi := { dst := some 46, op := Op.move (Operand.tmp 10), type := 3, pos := _, after := #[], guard := none }) (v := ?_) rfl (by kernel_rfl) (by kernel_rfl) (by kernel_rfl) (fun _ _ _ h => h) (Or.inl ⟨by rfl, ?hy⟩) (by assumption) ?_
                    case hy => (intro w hSw; (try dsimp only at hSw); go_simp; try with_reducible rfl)
                    try simp only [Act.put, List.setIfInBounds_toArray, List.set_cons_zero, List.set_cons_succ]
                    refine wpAnyH_take (i := 6) (oi := { dst := some 47, op := Op.indexAddr 22 (Operand.tmp 45) (Operand.tmp 46), type := 0, pos := _, after := #[{ on := 4, ground := Ground.data }, { on := 5, ground := Ground.data }], guard := none }) (v := ?_) rfl (by kernel_rfl) (by kernel_rfl) (by kernel_rfl) (fun _ _ _ h => h) (Or.inl ⟨by rfl, ?hy⟩) (by assumption) ?_
                    case hy => (intro w hSw; (try dsimp only at hSw); go_simp; try with_reducible rfl)
                    try simp only [Act.put, List.setIfInBounds_toArray, List.set_cons_zero, List.set_cons_succ]
                    refine wpAnyH_take (i := 7) (oi := { dst := some 48, op := Op.load 3 (Operand.tmp 47), type := 3, pos := _, after := #[{ on := 6, ground := Ground.data }], guard := none }) (v := ?_) rfl (by kernel_rfl) (by kernel_rfl) (by kernel_rfl) (fun _ _ _ h => h) (Or.inl ⟨by rfl, ?hy⟩) (by assumption) ?_
                    case hy => (intro w hSw; (try dsimp only at hSw); go_simp; try with_reducible rfl)
                    try simp only [Act.put, List.setIfInBounds_toArray, List.set_cons_zero, List.set_cons_succ]
                    refine wpAnyH_take (i := 10) (oi := { dst := some 51, op := Op.move (Operand.tmp 7), type := 3, pos := _, after := #[], guard := none }) (v := ?_) rfl (by kernel_rfl) (by kernel_rfl) (by kernel_rfl) (fun _ _ _ h => h) (Or.inl ⟨by rfl, ?hy⟩) (by assumption) ?_
                    case hy => (intro w hSw; (try dsimp only at hSw); go_simp; try with_reducible rfl)
                    try simp only [Act.put, List.setIfInBounds_toArray, List.set_cons_zero, List.set_cons_succ]
                    refine wpAnyH_ready (rs := [2]) (by kernel_rfl) (by simp) ?_
                    refine AllReadyH.cons (i := 2) (o := { dst := some 43, op := Op.call { callee := Callee.value (Operand.func 93), args := #[Operand.tmp 41, Operand.tmp 42], argTypes := #[32, 3] }, type := 3, pos := _, after := #[{ on := 0, ground := Ground.data }, { on := 1, ground := Ground.data }], guard := none }) rfl (fun KK hKK => ?_) (AllReadyH.nil)
                    go_simp
                    go_at_call 93
                    refine (HATG.out k _ hHeld.2 hkN).mono ?_
                    rw [HPK.out]
                    rintro e3 w3 ⟨rfl, hg3⟩
                    have HG3 := Lib.hid hg3
                    clear hg3
                    refine hKK.out _ _ (by exact ⟨HG3.out.cell hHeld.1, hHeld.2.trans HG3.out⟩) (fun hHeld => ?_)
                    clear hKK KK
                    try simp only [Act.put, List.setIfInBounds_toArray, List.set_cons_zero, List.set_cons_succ]
                    refine wpAnyH_ready (rs := [8]) (by kernel_rfl) (by simp) ?_
                    refine AllReadyH.cons (i := 8) (o := { dst := some 49, op := Op.call { callee := Callee.value (Operand.func 93), args := #[Operand.tmp 44, Operand.tmp 48], argTypes := #[32, 3] }, type := 3, pos := _, after := #[{ on := 3, ground := Ground.data }, { on := 7, ground := Ground.data }, { on := 2, ground := Ground.chain }], guard := none }) rfl (fun KK hKK => ?_) (AllReadyH.nil)
                    go_simp
                    go_at_call 93
                    refine (HATG.out bb _ hHeld.2 hbN).mono ?_
                    rw [HPB.out]
                    rintro e3 w3 ⟨rfl, hg3⟩
                    have HG3 := Lib.hid hg3
                    clear hg3
                    refine hKK.out _ _ (by exact ⟨HG3.out.cell hHeld.1, hHeld.2.trans HG3.out⟩) (fun hHeld => ?_)
                    clear hKK KK
                    try simp only [Act.put, List.setIfInBounds_toArray, List.set_cons_zero, List.set_cons_succ]
                    refine wpAnyH_take (i := 9) (oi := { dst := some 50, op := Op.call { callee := Callee.builtin Builtin.max, args := #[Operand.tmp 43, Operand.tmp 49], argTypes := #[3, 3] }, type := 3, pos := _, after := #[{ on := 2, ground := Ground.data }, { on := 8, ground := Ground.data }], guard := none }) (v := ?_) rfl (by kernel_rfl) (by kernel_rfl) (by kernel_rfl) (fun _ _ _ h => h) (Or.inl ⟨by rfl, ?hy⟩) (by assumption) ?_
                    case hy => (intro w hSw; (try dsimp only at hSw); go_simp; try with_reducible rfl)
                    try simp only [Act.put, List.setIfInBounds_toArray, List.set_cons_zero, List.set_cons_succ]
                    refine wpAnyH_take (i := 11) (oi := { dst := some 52, op := Op.binOp BinOp.neq 3 (Operand.tmp 50) (Operand.tmp 51) 3, type := 4, pos := _, after := #[{ on := 9, ground := Ground.data }, { on := 10, ground := Ground.data }], guard := none }) (v := .bool true) rfl (by kernel_rfl) (by kernel_rfl) (by kernel_rfl) (fun _ _ _ h => h) (Or.inl ⟨by rfl, ?hy⟩) (by assumption) ?_
                    case hy => (intro w hSw; (try dsimp only at hSw); go_simp <;> (try with_reducible rfl) <;> (try simp [hmx2]))
                    try simp only [Act.put, List.setIfInBounds_toArray, List.set_cons_zero, List.set_cons_succ]
                    refine wpAnyH_take (i := 12) (oi := { dst := some 53, op := Op.move (Operand.tmp 52), type := 4, pos := _, after := #[{ on := 11, ground := Ground.data }, { on := 8, ground := Ground.chain }], guard := none }) (v := .bool true) rfl (by kernel_rfl) (by kernel_rfl) (by kernel_rfl) (fun _ _ _ h => h) (Or.inl ⟨by rfl, ?hy⟩) (by assumption) ?_
                    case hy => (intro w hSw; (try dsimp only at hSw); go_simp <;> (try with_reducible rfl) <;> (try simp [hmx2]))
                    try simp only [Act.put, List.setIfInBounds_toArray, List.set_cons_zero, List.set_cons_succ]
                    refine wpAnyH_take (i := 13) (oi := { dst := some 54, op := Op.move (Operand.tmp 4), type := 22, pos := _, after := #[{ on := 12, ground := Ground.guard }], guard := some (12, false) }) (v := undef) rfl (by kernel_rfl) (by kernel_rfl) (by kernel_rfl) (fun _ _ _ h => h) (Or.inr ⟨by rfl, rfl⟩) (by assumption) ?_
                    try simp only [Act.put, List.setIfInBounds_toArray, List.set_cons_zero, List.set_cons_succ]
                    refine wpAnyH_take (i := 14) (oi := { dst := some 55, op := Op.move (Operand.tmp 8), type := 3, pos := _, after := #[{ on := 12, ground := Ground.guard }], guard := some (12, false) }) (v := undef) rfl (by kernel_rfl) (by kernel_rfl) (by kernel_rfl) (fun _ _ _ h => h) (Or.inr ⟨by rfl, rfl⟩) (by assumption) ?_
                    try simp only [Act.put, List.setIfInBounds_toArray, List.set_cons_zero, List.set_cons_succ]
                    refine wpAnyH_take (i := 15) (oi := { dst := some 56, op := Op.call { callee := Callee.value (Operand.func 92), args := #[Operand.tmp 54, Operand.tmp 55], argTypes := #[22, 3] }, type := 3, pos := _, after := #[{ on := 13, ground := Ground.data }, { on := 14, ground := Ground.data }, { on := 12, ground := Ground.chain }, { on := 12, ground := Ground.guard }], guard := some (12, false) }) (v := undef) rfl (by kernel_rfl) (by kernel_rfl) (by kernel_rfl) (fun _ _ _ h => h) (Or.inr ⟨by rfl, rfl⟩) (by assumption) ?_
                    try simp only [Act.put, List.setIfInBounds_toArray, List.set_cons_zero, List.set_cons_succ]
                    refine wpAnyH_take (i := 16) (oi := { dst := some 57, op := Op.move (Operand.tmp 4), type := 22, pos := _, after := #[{ on := 12, ground := Ground.guard }], guard := some (12, false) }) (v := undef) rfl (by kernel_rfl) (by kernel_rfl) (by kernel_rfl) (fun _ _ _ h => h) (Or.inr ⟨by rfl, rfl⟩) (by assumption) ?_
                    try simp only [Act.put, List.setIfInBounds_toArray, List.set_cons_zero, List.set_cons_succ]
                    refine wpAnyH_take (i := 17) (oi := { dst := some 58, op := Op.move (Operand.tmp 9), type := 22, pos := _, after := #[{ on := 12, ground := Ground.guard }], guard := some (12, false) }) (v := undef) rfl (by kernel_rfl) (by kernel_rfl) (by kernel_rfl) (fun _ _ _ h => h) (Or.inr ⟨by rfl, rfl⟩) (by assumption) ?_
                    try simp only [Act.put, List.setIfInBounds_toArray, List.set_cons_zero, List.set_cons_succ]
                    refine wpAnyH_take (i := 18) (oi := { dst := some 59, op := Op.move (Operand.tmp 10), type := 3, pos := _, after := #[{ on := 12, ground := Ground.guard }], guard := some (12, false) }) (v := undef) rfl (by kernel_rfl) (by kernel_rfl) (by kernel_rfl) (fun _ _ _ h => h) (Or.inr ⟨by rfl, rfl⟩) (by assumption) ?_
                    try simp only [Act.put, List.setIfInBounds_toArray, List.set_cons_zero, List.set_cons_succ]
                    refine wpAnyH_take (i := 19) (oi := { dst := some 60, op := Op.indexAddr 22 (Operand.tmp 58) (Operand.tmp 59), type := 0, pos := _, after := #[{ on := 17, ground := Ground.data }, { on := 18, ground := Ground.data }, { on := 12, ground := Ground.guard }], guard := some (12, false) }) (v := undef) rfl (by kernel_rfl) (by kernel_rfl) (by kernel_rfl) (fun _ _ _ h => h) (Or.inr ⟨by rfl, rfl⟩) (by assumption) ?_
                    try simp only [Act.put, List.setIfInBounds_toArray, List.set_cons_zero, List.set_cons_succ]
                    refine wpAnyH_take (i := 20) (oi := { dst := some 61, op := Op.load 3 (Operand.tmp 60), type := 3, pos := _, after := #[{ on := 19, ground := Ground.data }, { on := 12, ground := Ground.guard }], guard := some (12, false) }) (v := undef) rfl (by kernel_rfl) (by kernel_rfl) (by kernel_rfl) (fun _ _ _ h => h) (Or.inr ⟨by rfl, rfl⟩) (by assumption) ?_
                    try simp only [Act.put, List.setIfInBounds_toArray, List.set_cons_zero, List.set_cons_succ]
                    refine wpAnyH_take (i := 21) (oi := { dst := some 62, op := Op.call { callee := Callee.value (Operand.func 92), args := #[Operand.tmp 57, Operand.tmp 61], argTypes := #[22, 3] }, type := 3, pos := _, after := #[{ on := 16, ground := Ground.data }, { on := 20, ground := Ground.data }, { on := 15, ground := Ground.chain }, { on := 12, ground := Ground.guard }], guard := some (12, false) }) (v := undef) rfl (by kernel_rfl) (by kernel_rfl) (by kernel_rfl) (fun _ _ _ h => h) (Or.inr ⟨by rfl, rfl⟩) (by assumption) ?_
                    try simp only [Act.put, List.setIfInBounds_toArray, List.set_cons_zero, List.set_cons_succ]
                    refine wpAnyH_take (i := 22) (oi := { dst := some 63, op := Op.binOp BinOp.eql 3 (Operand.tmp 56) (Operand.tmp 62) 3, type := 4, pos := _, after := #[{ on := 15, ground := Ground.data }, { on := 21, ground := Ground.data }, { on := 12, ground := Ground.guard }], guard := some (12, false) }) (v := undef) rfl (by kernel_rfl) (by kernel_rfl) (by kernel_rfl) (fun _ _ _ h => h) (Or.inr ⟨by rfl, rfl⟩) (by assumption) ?_
                    try simp only [Act.put, List.setIfInBounds_toArray, List.set_cons_zero, List.set_cons_succ]
                    refine wpAnyH_take (i := 23) (oi := { dst := some 64, op := Op.pick (Operand.tmp 53) (Operand.const (Value.bool true)) (Operand.tmp 63), type := 4, pos := _, after := #[{ on := 12, ground := Ground.data }, { on := 22, ground := Ground.data }], guard := none }) (v := ?_) rfl (by kernel_rfl) (by kernel_rfl) (by kernel_rfl) (fun _ _ _ h => h) (Or.inl ⟨by rfl, ?hy⟩) (by assumption) ?_
                    case hy => (intro w hSw; (try dsimp only at hSw); go_simp; try with_reducible rfl)
                    try simp only [Act.put, List.setIfInBounds_toArray, List.set_cons_zero, List.set_cons_succ]
                    refine wpAnyH_done (by kernel_rfl) ?_ _
                    refine NoPanic.normal ?_
                    have HF := Lib.hid (And.intro ((HJ.out.1.grew hHeld.2).mono (show 100 * t + 4 * k + j ≤ 100 * t + 4 * k + (j + 1) by omega)) (fun t2 ht2 => hHeld.2.cell (HJ.out.2 t2 ht2)))
                    clear hHeld
                    go_wp2
                    go_roundw
                    case rel => exact ⟨j + 1, by omega, by first | rfl | go_num, by rw [HNX.out, HSV.out], by rw [HNX.out]; exact HF.out⟩
                    case measure => simp [intOf]; omega
                · obtain rfl : j = l := by omega
                  have HF : Hid (PJ w 0 g c' i (spI p n m (t : Int) s0 (k + 1)) (100 * t + 4 * (k + 1)) wr) := by
                    rw [HNK.out]
                    exact Lib.hid (HJ.out.1.mono (by omega))
                  have HS : Hid ((spJ p (t : Int) k ar s1 j).2 = (spI p n m (t : Int) s0 (k + 1)).2) := Lib.hid (by rw [HNK.out])
                  rw [HS.out]
                  go_wp2_with (fail)
                  go_roundw
                  case rel => exact ⟨k + 1, by omega, by first | rfl | go_num, rfl, HF.out⟩
                  case measure => simp [intOf]; omega
            · obtain rfl : k = i := by omega
              have HF : Hid (PJ w 0 g c' k (spT p n m k (t + 1)) (100 * (t + 1)) wr) := by
                rw [HNT.out]
                exact Lib.hid (HI.out.mono (by omega))
              have HS : Hid ((spI p n m (t : Int) s0 k).2 = (spT p n m k (t + 1)).2) := Lib.hid (by rw [HNT.out])
              rw [HS.out]
              go_wp2_with (fail)
              go_roundw
              case rel => exact ⟨t + 1, by omega, by first | rfl | go_num, rfl, HF.out⟩
              case measure => simp [intOf]; omega
        · obtain rfl : t = 13 := by omega
          go_wp2
          go_ret
          exact ⟨rfl, HI.out.gw⟩
end Go.Proofs.YtaeenedjmakelaaDoor
