/- The contract of spec.framed. -/
import Derived.Test.YtdfnhodhdfhhcaaDoorFramed7
import Derived.Test.YtdfnhodhdfhhcaaDoorAppendInts
namespace Go.Proofs.YtdfnhodhdfhhcaaDoor
open Go.RowKit

def frRow (x : List Int) : List Int := (-1) :: (x ++ [-1])
def edgeRow (m c : Nat) : List Int := List.replicate c (-1) ++ List.replicate (m + 2 - c) 0
def frameT (h : List (List Int)) (m c : Nat) : List (List Int) := edgeRow m c :: (h.map frRow ++ [edgeRow m c])
def framedL (h : List (List Int)) (m : Nat) : List (List Int) := frameT h m (m + 2)
theorem edgeRow_len (m c : Nat) (h : c ≤ m + 2) : (edgeRow m c).length = m + 2 := by unfold edgeRow; simp; omega
theorem edgeRow_zero (m : Nat) : edgeRow m 0 = List.replicate (m + 2) 0 := by unfold edgeRow; simp
theorem edgeRow_set (m c : Nat) (h : c < m + 2) : (edgeRow m c).set c (-1) = edgeRow m (c + 1) := by
  unfold edgeRow
  rw [List.set_append_right _ _ (by simp), List.length_replicate, Nat.sub_self, show m + 2 - c = (m + 2 - (c + 1)) + 1 by omega, List.replicate_succ, List.set_cons_zero, List.replicate_succ' (n := c), List.append_assoc]
  rfl
theorem frameT_len (h : List (List Int)) (m c : Nat) : (frameT h m c).length = h.length + 2 := by unfold frameT; simp
theorem frameT_first (h : List (List Int)) (m c : Nat) : (frameT h m c).getD 0 [] = edgeRow m c := rfl
theorem frameT_last (h : List (List Int)) (m c d : Nat) : (edgeRow m d :: (h.map frRow ++ [edgeRow m c])).getD (h.length + 1) [] = edgeRow m c := by simp
theorem frameT_step (h : List (List Int)) (m c : Nat) (hc : c < m + 2) :
    ((frameT h m c).set 0 (((frameT h m c).getD 0 []).set c (-1))).set (h.length + 1) ((((frameT h m c).set 0 (((frameT h m c).getD 0 []).set c (-1))).getD (h.length + 1) []).set c (-1)) = frameT h m (c + 1) := by
  rw [frameT_first, edgeRow_set m c hc]
  unfold frameT
  rw [List.set_cons_zero, frameT_last, edgeRow_set m c hc, List.set_cons_succ, List.set_append_right _ _ (by simp)]
  simp
theorem take_nextF {α : Type} (xs : List α) (d : α) (k : Nat) (h : k < xs.length) : xs.take k ++ [xs.getD k d] = xs.take (k + 1) := by
  rw [List.take_succ_eq_append_getElem h]; simp [h]
theorem fr_next (h : List (List Int)) (r : Nat) (hr : r < h.length) : (h.take r).map frRow ++ [frRow (h.getD r [])] = (h.take (r + 1)).map frRow := by
  rw [← take_nextF h [] r hr]
  simp

theorem rows_lit1 {T E lo : Nat} {w : World} {u : Value} {xs : List Int} (hu : IntsO E lo w.heap.size w u xs) (hlo : lo ≤ w.heap.size) : RowsO T E lo (w.heap.size + 1) (w.alloc (.cells #[u] T)) (.slice (some ⟨w.heap.size, 0, none⟩) 1 1) [xs] :=
  ⟨fun _ => u, World.ownsRow_lit w #[u] 1 hlo (by unfold maxLen; omega) rfl, fun g e => by simp [Value.ownBlock] at e; omega, fun r hr => by
    obtain rfl : r = 0 := by simpa using hr
    exact (hu.grew ((Grew.refl w).alloc _)).wide (Nat.le_refl _) (by omega), fun r s h1 h2 => by simp at h2; omega⟩
set_option maxRecDepth 100000 in
set_option maxHeartbeats 4000000 in
theorem framed_any (v : Value) (h : List (List Int)) (m : Nat) (w : World) (hv : RowsV w v h) (G : Grid h m) :
    Calls Tryd.prog 70 #[v] w (NewRows w (framedL h m)) := by
  have HG := Lib.hid G
  have hh1 : 1 ≤ h.length := G.n1
  have hh5 : h.length ≤ 5 := G.n5
  have hm1 : 1 ≤ m := G.m1
  have hm5 : m ≤ 5 := G.m5
  have em := G.len 0 hh1
  obtain ⟨a, b, o, c, rfl, ⟨hlc, hcb⟩, ha, HC⟩ := hv.shape
  obtain rfl := ha hh1
  obtain ⟨u0, hc0, hu0⟩ := HC.out 0 hh1
  rw [Nat.add_zero] at hc0
  obtain ⟨a0, b0, o0, c0, rfl, _, _, _⟩ := hu0.shape
  rw [em] at hc0
  have hi0 : (0 : Int) < h.length := by omega
  obtain ⟨m1, em1⟩ : ∃ m1, m + 2 = m1 := ⟨_, rfl⟩
  have HM1 : Hid ((m : Int) + 2 = (m1 : Int)) := Lib.hid (by omega)
  have hm1b : 3 ≤ m1 ∧ m1 ≤ 7 := by omega
  obtain ⟨hm1l, hm1h⟩ := hm1b
  have HNM := Lib.hid em1
  clear ha hv hu0 G em em1
  go_enter Tryd.func70, Tryd.ntmps70
  go_wp2_with (at_make; refine wpList_make_ints (n := m1) rfl (.tmp 14) (.tmp 14) 29 rfl Tryd.underlying29 Tryd.infoI rfl rfl HM1.out HM1.out (by omega) ?_; intro w1 hO1 hg1 hs1)
  have H0 : Hid (RowsO 29 3 w.heap.size (w1.alloc (.cells #[.slice (some ⟨w.heap.size, 0, none⟩) m1 m1] 29)).heap.size (w1.alloc (.cells #[.slice (some ⟨w.heap.size, 0, none⟩) m1 m1] 29)) (.slice (some ⟨w1.heap.size, 0, none⟩) 1 1) (edgeRow m 0 :: (h.take 0).map frRow) ∧ Grew w (w1.alloc (.cells #[.slice (some ⟨w.heap.size, 0, none⟩) m1 m1] 29))) := by
    rw [edgeRow_zero, HNM.out]
    exact ⟨by have := rows_lit1 (T := 29) hO1 hg1.size; simpa using this, hg1.alloc _⟩
  clear hO1 hg1
  go_loopg [4, 5] h.length (fun gk v i wr => ∃ (r k1 g c' : Nat), v = .slice (some ⟨g, 0, none⟩) k1 c' ∧ i = .int .i64 (r : Int) ∧ r ≤ h.length ∧ h.length ≤ gk + r ∧ Hid (k1 = r + 1) ∧ Hid (RowsO 29 3 w.heap.size wr.heap.size wr v (edgeRow m 0 :: (h.take r).map frRow) ∧ Grew w wr))
  case atStart => exact ⟨0, 1, _, _, rfl, rfl, Nat.zero_le _, Nat.le_refl _, rfl, H0.out⟩
  case round =>
    obtain ⟨r, k1, g, c', rfl, rfl, hr1, hr2, HK, HI⟩ := hrel
    clear H0
    by_cases hlt : r < h.length
    · obtain ⟨wo, rfl⟩ : ∃ wo : World, wo = wr := ⟨_, rfl⟩
      obtain ⟨gn, rfl⟩ : ∃ gn : Nat, gn = gk := ⟨_, rfl⟩
      have hsw := HI.out.2.size
      have hri : (r : Int) < h.length := by omega
      obtain ⟨u2, hk2', hU2⟩ := HC.out r hlt
      have hrl : (h.getD r []).length = m := HG.out.len r hlt
      obtain ⟨a2, b2, o2, c2, rfl, ⟨hlc2, hcb2⟩, ha2, HR⟩ := hU2.shape
      obtain rfl := ha2 (by omega)
      have hk2 := HI.out.2.cell hk2'
      rw [hrl] at hk2 hlc2 HR
      have HTL : Hid ((edgeRow m 0 :: (h.take r).map frRow).length = r + 1) := Lib.hid (by simp; omega)
      clear hU2 ha2 hk2'
      obtain ⟨row, erow⟩ : ∃ row, h.getD r [] = row := ⟨_, rfl⟩
      rw [erow] at HR hrl
      have HROW := Lib.hid (And.intro erow hrl)
      clear erow hrl
      go_wp2_with (fail)
      have H0 : Hid (IntsO 3 wo.heap.size (wo.alloc (.cells #[.int .i64 (-1)] 3)).heap.size (wo.alloc (.cells #[.int .i64 (-1)] 3)) (.slice (some ⟨wo.heap.size, 0, none⟩) 1 1) ((-1) :: row.take 0) ∧ Grew wo (wo.alloc (.cells #[.int .i64 (-1)] 3))) :=
        Lib.hid ⟨by simpa using IntsO.lit 3 wo.heap.size wo [-1] #[.int .i64 (-1)] rfl (Nat.le_refl _) (by decide), (Grew.refl wo).alloc _⟩
      go_loopg [6, 7] m (fun gk v i wi => ∃ (j k2 g' c' : Nat), v = .slice (some ⟨g', 0, none⟩) k2 c' ∧ i = .int .i64 (j : Int) ∧ j ≤ m ∧ m ≤ gk + j ∧ Hid (k2 = j + 1) ∧ Hid (IntsO 3 wo.heap.size wi.heap.size wi v ((-1) :: row.take j) ∧ Grew wo wi))
      case atStart => exact ⟨0, 1, _, _, rfl, rfl, Nat.zero_le _, Nat.le_refl _, rfl, H0.out⟩
      case round =>
        obtain ⟨j, k2, g', c3, rfl, rfl, hj1, hj2, HK2, HX⟩ := hrel
        clear H0
        by_cases hltx : j < m
        · have hkw := HX.out.2.cell hk2
          have q4 := HX.out.2.cell (HI.out.2.cell (HR.out j hltx))
          have hji : (j : Int) < m := by omega
          have hnx : ((-1) :: row.take j) ++ [row.getD j 0] = (-1) :: row.take (j + 1) := by rw [List.cons_append, take_nextF row 0 j (by rw [HROW.out.2]; exact hltx)]
          have hl2 : ((-1) :: row.take j).length = j + 1 := by have := HROW.out.2; simp; omega
          obtain ⟨x, ex⟩ : ∃ x, row.getD j 0 = x := ⟨_, rfl⟩
          rw [ex] at q4 hnx
          obtain ⟨RT, eRT⟩ : ∃ RT, (-1) :: row.take j = RT := ⟨_, rfl⟩
          rw [eRT] at hnx hl2 HX
          have HNX := Lib.hid hnx
          have HL2 := Lib.hid hl2
          clear hk2 hnx hl2 ex eRT
          go_wp2_with (at_builtin; refine wpList_append_int rfl (.tmp 33) (.tmp 41) 29 rfl Tryd.underlying29 Tryd.infoI rfl rfl (by simp) HX.out.1 (by rw [HL2.out]; omega) HX.out.2.size ?_; intro g5 c5 w5 hO5 hW5 hS5)
          have HF : Hid (IntsO 3 wo.heap.size w5.heap.size w5 (.slice (some ⟨g5, 0, none⟩) (j + 1 + 1) c5) ((-1) :: row.take (j + 1)) ∧ Grew wo w5) := by
            rw [HNX.out, HL2.out] at hO5
            exact Lib.hid ⟨hO5, hW5.grew HX.out.2 (Nat.le_refl _)⟩
          rw [HL2.out]
          clear hO5 hW5
          go_wp2
          go_roundg (gk - 1)
          case measure => omega
          case rel => exact ⟨j + 1, j + 1 + 1, g5, c5, rfl, by go_num, by omega, by omega, rfl, HF.out⟩
        · obtain rfl : j = m := by omega
          have hkw := HX.out.2.cell hk2
          have HX2 : Hid (IntsO 3 wo.heap.size wr.heap.size wr (.slice (some ⟨g', 0, none⟩) k2 c3) ((-1) :: row) ∧ Grew wo wr) := by
            have := HX.out
            rw [List.take_of_length_le (by rw [HROW.out.2]; exact Nat.le_refl _)] at this
            exact Lib.hid this
          have HL2 : Hid (((-1) :: row).length = j + 1) := Lib.hid (by rw [List.length_cons, HROW.out.2])
          have HE : Hid ((edgeRow j 0 :: (h.take r).map frRow) ++ [((-1) :: row) ++ [-1]] = edgeRow j 0 :: (h.take (r + 1)).map frRow) := Lib.hid (by rw [List.cons_append, ← fr_next h r hlt, HROW.out.1]; rfl)
          have hn' : ¬ (j : Int) < j := by omega
          clear HX
          go_wp2_with (first | (at_builtin; refine wpList_append_int rfl (.tmp 44) (.tmp 45) 29 rfl Tryd.underlying29 Tryd.infoI rfl rfl (by simp) HX2.out.1 (by rw [HL2.out]; omega) HX2.out.2.size ?_; intro g5 c5 w5 hO5 hW5 hS5) | (at_builtin; refine wpList_append_row rfl (.tmp 43) (.tmp 47) 23 rfl (by decide) Tryd.underlying23 Tryd.infoIs rfl rfl (by simp) (HI.out.1.grew (hW5.grew HX2.out.2 (Nat.le_refl _))) hO5 (by rw [HTL.out]; omega) (by have := HX2.out.2.size; omega) hsw ?_; intro g6 c6 w6 hO6 hW6 hS6))
          have HF : Hid (RowsO 29 3 w.heap.size w6.heap.size w6 (.slice (some ⟨g6, 0, none⟩) (r + 1 + 1) c6) (edgeRow j 0 :: (h.take (r + 1)).map frRow) ∧ Grew w w6) := by
            rw [HE.out, HTL.out] at hO6
            exact Lib.hid ⟨hO6, hW6.grew (HI.out.2.trans (hW5.grew HX2.out.2 (Nat.le_refl _))) (Nat.le_refl _)⟩
          try rw [HTL.out]
          try rw [show min r h.length = r by omega]
          clear hO5 hW5 hO6 hW6
          go_wp2
          go_roundg (gn - 1)
          case measure => omega
          case rel => exact ⟨r + 1, r + 1 + 1, g6, c6, by first | rfl | (simp; done) | (simp; omega), by go_num, by omega, by omega, rfl, HF.out⟩
    · obtain rfl : r = h.length := by omega
      have HJ : Hid (RowsO 29 3 w.heap.size wr.heap.size wr (.slice (some ⟨g, 0, none⟩) k1 c') (edgeRow m 0 :: h.map frRow) ∧ Grew w wr) := by
        have := HI.out
        rw [List.take_of_length_le (Nat.le_refl _)] at this
        exact Lib.hid this
      have HTL : Hid ((edgeRow m 0 :: h.map frRow).length = h.length + 1) := Lib.hid (by simp)
      have HE : Hid ((edgeRow m 0 :: h.map frRow) ++ [List.replicate m1 0] = frameT h m 0) := Lib.hid (by unfold frameT; rw [edgeRow_zero, HNM.out]; rfl)
      have hsw := HJ.out.2.size
      obtain ⟨wo, rfl⟩ : ∃ wo : World, wo = wr := ⟨_, rfl⟩
      clear HI
      go_wp2_with (first | (at_make; refine wpList_make_ints (n := m1) rfl (.tmp 50) (.tmp 50) 29 rfl Tryd.underlying29 Tryd.infoI rfl rfl HM1.out HM1.out (by omega) ?_; intro w5 hO5 hg5 hs5) | (at_builtin; refine wpList_append_row rfl (.tmp 49) (.tmp 52) 23 rfl (by decide) Tryd.underlying23 Tryd.infoIs rfl rfl (by simp) (HJ.out.1.grew hg5) hO5 (by rw [HTL.out]; omega) (by omega) hsw ?_; intro g6 c6 w6 hO6 hW6 hS6))
      have HF : Hid (RowsO 29 3 w.heap.size w6.heap.size w6 (.slice (some ⟨g6, 0, none⟩) (h.length + 1 + 1) c6) (frameT h m 0) ∧ Grew w w6) := by
        rw [HE.out, HTL.out] at hO6
        exact Lib.hid ⟨hO6, hW6.grew (HJ.out.2.trans hg5) (Nat.le_refl _)⟩
      try rw [HTL.out]
      obtain ⟨l, el⟩ : ∃ l, h.length + 1 + 1 = l := ⟨_, rfl⟩
      obtain ⟨Z, eZ⟩ : ∃ Z, w6.heap.size = Z := ⟨_, rfl⟩
      rw [el, eZ] at HF
      have HEL := Lib.hid el
      have HZ : Hid (Z = w6.heap.size) := Lib.hid eZ.symm
      have hl2 : 3 ≤ l ∧ l ≤ 7 := by omega
      try rw [el]
      clear hO5 hg5 hO6 hW6 el eZ
      go_wp2
      go_loopw [8] (fun cv wi => ∃ k : Nat, k ≤ m + 2 ∧ cv = .int .i64 (k : Int) ∧ Hid (RowsO 29 3 w.heap.size Z wi (.slice (some ⟨g6, 0, none⟩) l c6) (frameT h m k) ∧ Grew w wi ∧ Z ≤ wi.heap.size)) (fun cv _ => m + 2 - (intOf cv).toNat)
      case atStart => exact ⟨0, Nat.zero_le _, rfl, HF.out.1, HF.out.2, by rw [HZ.out]; exact Nat.le_refl _⟩
      case round =>
        obtain ⟨k, hk, rfl, HX⟩ := hrel
        by_cases hlt : k < m + 2
        · have hki : (k : Int) < (m : Int) + 2 := by omega
          have hkm : k < m1 := by have := HNM.out; omega
          have hkmi : (k : Int) < (m1 : Int) := by omega
          have hl0 : (0 : Int) < (l : Int) := by omega
          obtain ⟨e, he⟩ : ∃ e, l = e + 1 := ⟨l - 1, by omega⟩
          have hen : e = h.length + 1 := by have := HEL.out; omega
          have wl : IntKind.i64.wrap ((l : Int) - 1) = (e : Int) := by rw [IntWalk.i64_in _ (by omega)]; omega
          have hei : (e : Int) < (l : Int) := by omega
          obtain ⟨u0, hu0, hU0⟩ := HX.out.1.at rfl (i := 0) (by rw [frameT_len]; omega)
          rw [frameT_first] at hU0
          obtain ⟨gA, cA, rfl, _, _, _, _⟩ := hU0.pos (by rw [edgeRow_len _ _ (by omega)]; omega)
          rw [edgeRow_len _ _ (by omega), HNM.out] at hu0 hU0
          obtain ⟨hcA, hfA⟩ := hU0.at rfl (i := k) (by rw [edgeRow_len _ _ (by omega)]; exact hlt)
          have set1 := HX.out.1.set (by decide) rfl (i := 0) (by rw [frameT_len]; omega) hu0 k (-1)
          have hlen1 : ((frameT h m k).set 0 (((frameT h m k).getD 0 []).set k (-1))).length = h.length + 2 := by rw [List.length_set, frameT_len]
          have hrow1 : ((frameT h m k).set 0 (((frameT h m k).getD 0 []).set k (-1))).getD (h.length + 1) [] = edgeRow m k := by
            rw [frameT_first, edgeRow_set m k hlt]
            unfold frameT
            rw [List.set_cons_zero, frameT_last]
          obtain ⟨u1, hu1, hU1⟩ := set1.at rfl (i := h.length + 1) (by rw [hlen1]; omega)
          rw [hrow1] at hU1
          obtain ⟨gB, cB, rfl, _, _, _, _⟩ := hU1.pos (by rw [edgeRow_len _ _ (by omega)]; omega)
          rw [edgeRow_len _ _ (by omega), HNM.out] at hu1 hU1
          obtain ⟨hcB, hfB⟩ := hU1.at rfl (i := k) (by rw [edgeRow_len _ _ (by omega)]; exact hlt)
          have set2 := set1.set (by decide) rfl (i := h.length + 1) (by rw [hlen1]; omega) hu1 k (-1)
          rw [frameT_step h m k hlt] at set2
          have hwg1 : Grew w (wr.setCell ⟨gA, k, none⟩ (.int .i64 (-1))) := Below.setCell HX.out.2.1 (p := ⟨gA, k, none⟩) (by assumption) _
          have hwg2 : Grew w ((wr.setCell ⟨gA, k, none⟩ (.int .i64 (-1))).setCell ⟨gB, k, none⟩ (.int .i64 (-1))) := Below.setCell hwg1 (p := ⟨gB, k, none⟩) (by assumption) _
          have HS2 := Lib.hid (And.intro set2 (And.intro hwg2 (show Z ≤ ((wr.setCell ⟨gA, k, none⟩ (.int .i64 (-1))).setCell ⟨gB, k, none⟩ (.int .i64 (-1))).heap.size by have := HX.out.2.2; simpa using this)))
          rw [← hen] at hu1
          clear set1 set2 hlen1 hrow1 hwg1 hwg2 hU0 hU1 he hen
          go_wp2
          go_roundw
          case rel => exact ⟨k + 1, by omega, by go_num, HS2.out⟩
          case measure => simp [intOf]; omega
        · obtain rfl : k = m + 2 := by omega
          go_wp2
          go_ret
          exact ⟨_, rfl, HX.out.1.wide (Nat.le_refl _) HX.out.2.2, HX.out.2.1⟩
end Go.Proofs.YtdfnhodhdfhhcaaDoor
