/- The contracts of spec.prefix and spec.SumsOf. -/
import Derived.Test.YtkeeonjbkfgeeaaSGrid
import Derived.Test.YtkeeonjbkfgeeaaSumsOf
import Derived.Test.YtkeeonjbkfgeeaaStepAppend
import Derived.Test.YtkeeonjbkfgeeaaHeldMono
namespace Go.Proofs.Ytkeeonjbkfgeeaa
open Go.RowKit

theorem take_next {α : Type} (xs : List α) (d : α) (k : Nat) (h : k < xs.length) : xs.take k ++ [xs.getD k d] = xs.take (k + 1) := by
  rw [List.take_succ_eq_append_getElem h]; simp [h]
theorem getD_take {α : Type} (xs : List α) (d : α) (k i : Nat) (h : i < k) : (xs.take k).getD i d = xs.getD i d := by
  simp [List.getD_eq_getElem?_getD, h]
/-- A row of the table. -/
def rowT (f : Nat → Nat → Int) (m r : Nat) : List Int := (List.range m).map (f r)
theorem rowT_len (f : Nat → Nat → Int) (m r : Nat) : (rowT f m r).length = m := by simp [rowT]
theorem rowT_at (f : Nat → Nat → Int) (m r j : Nat) (h : j < m) : (rowT f m r).getD j 0 = f r j := by simp [rowT, h]
theorem rowT_zero (h : List (List Int)) (m : Nat) : List.replicate m (0 : Int) = rowT (preS h) m 0 := by
  apply List.ext_getElem
  · simp [rowT]
  · intro i h1 h2
    simp [rowT, preS_row]
theorem rowT_next (f : Nat → Nat → Int) (m r j : Nat) (h : j < m) : (rowT f m r).take j ++ [f r j] = (rowT f m r).take (j + 1) := by
  rw [← take_next (rowT f m r) 0 j (by rw [rowT_len]; exact h), rowT_at f m r j h]
theorem tabR_next (n m : Nat) (f : Nat → Nat → Int) (r : Nat) (h : r < n) : (tabR n m f).take r ++ [rowT f m r] = (tabR n m f).take (r + 1) := by
  rw [← take_next (tabR n m f) [] r (by rw [tabR_len]; exact h), tabR_row n m f r h]
  rfl
theorem tabR_one (n m : Nat) (f : Nat → Nat → Int) (h : 1 ≤ n) : [rowT f m 0] = (tabR n m f).take 1 := by
  have := tabR_next n m f 0 h
  simpa using this

theorem RowsO.lit1 {T E lo : Nat} {w : World} {u : Value} {xs : List Int} (hu : IntsO E lo w.heap.size w u xs) (hlo : lo ≤ w.heap.size) : RowsO T E lo (w.heap.size + 1) (w.alloc (.cells #[u] T)) (.slice (some ⟨w.heap.size, 0, none⟩) 1 1) [xs] :=
  ⟨fun _ => u, World.ownsRow_lit w #[u] 1 hlo (by unfold maxLen; omega) rfl, fun g e => by simp [Value.ownBlock] at e; omega, fun r hr => by
    obtain rfl : r = 0 := by simpa using hr
    exact (hu.grew ((Grew.refl w).alloc _)).wide (Nat.le_refl _) (by omega), fun r s h1 h2 => by simp at h2; omega⟩
set_option maxRecDepth 100000 in
set_option maxHeartbeats 4000000 in
theorem prefix_any (v : Value) (h : List (List Int)) (m : Nat) (w : World) (hv : RowsV w v h) (G : Grid h m) :
    Calls Try.prog 43 #[v] w (NewRows w (sumsL h m)) := by
  have HG := Lib.hid G
  have hh1 : 1 ≤ h.length := G.n1
  have hh5 : h.length ≤ 5 := G.n5
  have hm1 : 1 ≤ m := G.m1
  have hm5 : m ≤ 5 := G.m5
  have em := G.len 0 hh1
  obtain ⟨a, b, o, c, rfl, ⟨hlc, hcb⟩, ha, HC⟩ := hv.shape
  obtain rfl := ha hh1
  obtain ⟨u0, hc0, hu0⟩ := HC.out 0 hh1
  rw [Nat.add_zero] at hc0
  obtain ⟨a0, b0, o0, c0, rfl, _, _, _⟩ := hu0.shape
  rw [em] at hc0
  have hi0 : (0 : Int) < h.length := by omega
  obtain ⟨n1, en1⟩ : ∃ n1, h.length + 1 = n1 := ⟨_, rfl⟩
  obtain ⟨m1, em1⟩ : ∃ m1, m + 1 = m1 := ⟨_, rfl⟩
  have HM1 : Hid ((m : Int) + 1 = (m1 : Int)) := Lib.hid (by omega)
  have hn1b : 2 ≤ n1 ∧ n1 ≤ 6 := by omega
  have hm1b : 2 ≤ m1 ∧ m1 ≤ 6 := by omega
  obtain ⟨hn1l, hn1h⟩ := hn1b
  obtain ⟨hm1l, hm1h⟩ := hm1b
  have HNM := Lib.hid (And.intro en1 em1)
  clear ha hv hu0 G em en1 em1
  go_enter Try.func43, Try.ntmps43
  go_wp2_with (at_make; refine wpList_make_ints (n := m1) rfl (.tmp 13) (.tmp 13) 27 rfl Try.underlying27 Try.infoI rfl rfl HM1.out HM1.out (by omega) ?_; intro w1 hO1 hg1 hs1)
  have H0 : Hid (RowsO 27 3 w.heap.size (w1.alloc (.cells #[.slice (some ⟨w.heap.size, 0, none⟩) m1 m1] 27)).heap.size (w1.alloc (.cells #[.slice (some ⟨w.heap.size, 0, none⟩) m1 m1] 27)) (.slice (some ⟨w1.heap.size, 0, none⟩) 1 1) ((tabR n1 m1 (preS h)).take 1) ∧ Grew w (w1.alloc (.cells #[.slice (some ⟨w.heap.size, 0, none⟩) m1 m1] 27))) := by
    rw [← tabR_one n1 m1 _ (by omega), ← rowT_zero]
    exact ⟨by have := RowsO.lit1 (T := 27) hO1 hg1.size; simpa using this, hg1.alloc _⟩
  clear hO1 hg1
  go_loopg [4, 5] h.length (fun gk v i wr => ∃ (r k1 g c' : Nat), v = .slice (some ⟨g, 0, none⟩) k1 c' ∧ i = .int .i64 (r : Int) ∧ r ≤ h.length ∧ h.length ≤ gk + r ∧ Hid (k1 = r + 1) ∧ Hid (RowsO 27 3 w.heap.size wr.heap.size wr v ((tabR n1 m1 (preS h)).take (r + 1)) ∧ Grew w wr))
  case atStart => exact ⟨0, 1, _, _, rfl, rfl, Nat.zero_le _, Nat.le_refl _, rfl, H0.out⟩
  case round =>
    obtain ⟨r, k1, g, c', rfl, rfl, hr1, hr2, HK, HI⟩ := hrel
    clear H0
    by_cases hlt : r < h.length
    · obtain ⟨wo, rfl⟩ : ∃ wo : World, wo = wr := ⟨_, rfl⟩
      obtain ⟨gn, rfl⟩ : ∃ gn : Nat, gn = gk := ⟨_, rfl⟩
      have hsw := HI.out.2.size
      have hri : (r : Int) < h.length := by omega
      have hrk : (r : Int) < k1 := by have := HK.out; omega
      have hrk' : r < k1 := by have := HK.out; omega
      have hTL : ((tabR n1 m1 (preS h)).take (r + 1)).length = r + 1 := by rw [List.length_take, tabR_len]; have := HNM.out.1; omega
      obtain ⟨u1, hk1, hU1⟩ := HI.out.1.at rfl (i := r) (by omega)
      rw [getD_take _ _ _ _ (Nat.lt_succ_self _), tabR_row _ _ _ _ (by have := HNM.out.1; omega)] at hU1
      change IntsO _ _ _ _ _ (rowT (preS h) m1 r) at hU1
      obtain ⟨g1, d1, rfl, _, _, _, _⟩ := hU1.pos (by rw [rowT_len]; omega)
      rw [rowT_len] at hk1 hU1
      obtain ⟨u2, hk2', hU2⟩ := HC.out r hlt
      have hrl : (h.getD r []).length = m := HG.out.len r hlt
      obtain ⟨a2, b2, o2, c2, rfl, ⟨hlc2, hcb2⟩, ha2, HR⟩ := hU2.shape
      obtain rfl := ha2 (by omega)
      have hk2 := HI.out.2.cell hk2'
      rw [hrl] at hk2 hlc2 HR
      have HU := Lib.hid (And.intro hU1 HR.out)
      have HTL := Lib.hid hTL
      clear hU1 hU2 ha2 hrl hk2' HR hTL
      go_wp2_with (fail)
      have H0 : Hid (IntsO 3 wo.heap.size (wo.alloc (.cells #[.int .i64 0] 3)).heap.size (wo.alloc (.cells #[.int .i64 0] 3)) (.slice (some ⟨wo.heap.size, 0, none⟩) 1 1) ((rowT (preS h) m1 (r + 1)).take 1) ∧ Grew wo (wo.alloc (.cells #[.int .i64 0] 3))) := by
        have e := rowT_next (preS h) m1 (r + 1) 0 (by omega)
        rw [List.take_zero, List.nil_append, preS_col] at e
        rw [← e]
        exact ⟨by simpa using IntsO.lit 3 wo.heap.size wo [0] #[.int .i64 0] rfl (Nat.le_refl _) (by decide), (Grew.refl wo).alloc _⟩
      go_loopg [6, 7] m (fun gk v i wi => ∃ (j k2 g' c' : Nat), v = .slice (some ⟨g', 0, none⟩) k2 c' ∧ i = .int .i64 (j : Int) ∧ j ≤ m ∧ m ≤ gk + j ∧ Hid (k2 = j + 1) ∧ Hid (IntsO 3 wo.heap.size wi.heap.size wi v ((rowT (preS h) m1 (r + 1)).take (j + 1)) ∧ Grew wo wi))
      case atStart => exact ⟨0, 1, _, _, rfl, rfl, Nat.zero_le _, Nat.le_refl _, rfl, H0.out⟩
      case round =>
        obtain ⟨j, k2, g', c3, rfl, rfl, hj1, hj2, HK2, HX⟩ := hrel
        clear H0
        by_cases hltx : j < m
        · have hjm1 : j + 1 < m1 := by have := HNM.out.2; omega
          have hrl2 : ((rowT (preS h) m1 (r + 1)).take (j + 1)).length = j + 1 := by rw [List.length_take, rowT_len]; omega
          have q2 := (HX.out.1.at rfl (i := j) (by omega)).1
          rw [getD_take _ _ _ _ (Nat.lt_succ_self _), rowT_at _ _ _ _ (by omega)] at q2
          have q1 := (HU.out.1.at rfl (i := j + 1) (by rw [rowT_len]; exact hjm1)).1
          have q3 := (HU.out.1.at rfl (i := j) (by rw [rowT_len]; omega)).1
          rw [rowT_at _ _ _ _ (by omega)] at q1 q3
          have q4 := HI.out.2.cell (HU.out.2 j hltx)
          have hnx := preS_next h r j
          have hb1 := preS_bd HG.out r (j + 1) (by omega) (by omega)
          have hb2 := preS_bd HG.out (r + 1) j (by omega) (by omega)
          have hb3 := preS_bd HG.out r j (by omega) (by omega)
          have hb4 := preS_bd HG.out (r + 1) (j + 1) (by omega) (by omega)
          have hb5 := HG.out.num r hlt j hltx
          have HNX := Lib.hid (rowT_next (preS h) m1 (r + 1) (j + 1) hjm1)
          obtain ⟨pa, epa⟩ : ∃ x, preS h r (j + 1) = x := ⟨_, rfl⟩
          obtain ⟨pb, epb⟩ : ∃ x, preS h (r + 1) j = x := ⟨_, rfl⟩
          obtain ⟨pc, epc⟩ : ∃ x, preS h r j = x := ⟨_, rfl⟩
          obtain ⟨pd, epd⟩ : ∃ x, preS h (r + 1) (j + 1) = x := ⟨_, rfl⟩
          obtain ⟨x, ex⟩ : ∃ x, (h.getD r []).getD j 0 = x := ⟨_, rfl⟩
          rw [show cellS h r j = (h.getD r []).getD j 0 from rfl] at hnx
          rw [epa, epb, epc, epd, ex] at hnx
          rw [epa] at q1 hb1
          rw [epb] at q2 hb2
          rw [epc] at q3 hb3
          rw [epd] at hb4 HNX
          rw [ex] at q4 hb5
          have HE : Hid (pb + pa - pc + x = pd) := Lib.hid (by omega)
          have w1' : IntKind.i64.wrap (pb + pa) = pb + pa := IntWalk.i64_in _ (by omega)
          have w2' : IntKind.i64.wrap (pb + pa - pc) = pb + pa - pc := IntWalk.i64_in _ (by omega)
          have w3' : IntKind.i64.wrap (pb + pa - pc + x) = pb + pa - pc + x := IntWalk.i64_in _ (by omega)
          have w5' : IntKind.i64.wrap ((j : Int) + 1) = (j : Int) + 1 := IntWalk.i64_in _ (by omega)
          have z2 : (0 : Int) ≤ (j : Int) + 1 := by omega
          have z4 : (j : Int) + 1 < m1 := by omega
          have z6 : (j : Int) < m1 := by omega
          have z7 : (j : Int) < m := by omega
          have z8 : (j : Int) < k2 := by have := HK2.out; omega
          have z9 : j < k2 := by have := HK2.out; omega
          have t2 : ((j : Int) + 1).toNat = j + 1 := by omega
          have HL2 := Lib.hid hrl2
          clear hnx epa epb epc epd ex hrl2
          have HS : Hid (∀ W, Grew wo W → W.cell? ⟨g, r, none⟩ = some (.slice (some ⟨g1, 0, none⟩) m1 d1) ∧ W.cell? ⟨g1, j + 1, none⟩ = some (.int .i64 pa) ∧ W.cell? ⟨g1, j, none⟩ = some (.int .i64 pc) ∧ W.cell? ⟨b, o + r, none⟩ = some (.slice (some ⟨b2, o2, none⟩) m c2) ∧ W.cell? ⟨b2, o2 + j, none⟩ = some (.int .i64 x)) := Lib.hid fun W hW => ⟨hW.cell hk1, hW.cell q1, hW.cell q3, hW.cell hk2, hW.cell q4⟩
          obtain ⟨RT, eRT⟩ : ∃ RT, (rowT (preS h) m1 (r + 1)).take (j + 1) = RT := ⟨_, rfl⟩
          have HRL : Hid (RT.length = j + 1) := Lib.hid (by rw [← eRT]; exact HL2.out)
          have HRT : Hid (IntsO 3 g' (g' + 1) wr.drew (.slice (some ⟨g', 0, none⟩) k2 c3) RT ∧ k2 = RT.length) := Lib.hid ⟨by rw [← eRT]; exact (HX.out.1.grew (Grew.refl _).drew).at1, by rw [HRL.out]; exact HK2.out⟩
          have HEND : Hid (∀ g5 c5 w5, IntsO 3 g5 (g5 + 1) w5 (.slice (some ⟨g5, 0, none⟩) (RT.length + 1) c5) (RT ++ [pb + pa - pc + x]) → Within g' (g' + 1) wr.drew w5 → (g5 = g' ∨ wr.drew.heap.size ≤ g5) → g5 < w5.heap.size → IntsO 3 wo.heap.size w5.heap.size w5 (.slice (some ⟨g5, 0, none⟩) (j + 1 + 1) c5) ((rowT (preS h) m1 (r + 1)).take (j + 1 + 1)) ∧ Grew wo w5) := Lib.hid fun g5 c5 w5 k1 k3 k4 k5 => by
            rw [HE.out, ← eRT, HNX.out, HL2.out] at k1
            have hgl := HX.out.1.blk.1
            refine ⟨k1.wide ?_ (by omega), Within.grew HX.out.2.drew k3 hgl⟩
            rcases k4 with e | e
            · omega
            · exact Nat.le_trans HX.out.2.size e
          clear eRT q1 q3 q4
          go_wp2
          refine wp_region_noPanic ?_
          refine wp_region_held_drew (S := fun W => W.cell? ⟨g, r, none⟩ = some (.slice (some ⟨g1, 0, none⟩) m1 d1) ∧ W.cell? ⟨g1, j + 1, none⟩ = some (.int .i64 pa) ∧ W.cell? ⟨g1, j, none⟩ = some (.int .i64 pc) ∧ W.cell? ⟨b, o + r, none⟩ = some (.slice (some ⟨b2, o2, none⟩) m c2) ∧ W.cell? ⟨b2, o2 + j, none⟩ = some (.int .i64 x)) (by kernel_rfl) (by exact HS.out _ HX.out.2.drew) (fun hHeld => ?_)
          refine wpAnyH_take (i := 0) (oi := { dst := some 28, op := Op.move (Operand.tmp 6), type := 27, pos := _, after := #[], guard := none }) (v := ?_) rfl (by kernel_rfl) (by kernel_rfl) (by kernel_rfl) (fun _ _ _ h => h) (Or.inl ⟨by rfl, ?hy⟩) (by assumption) ?_
          case hy => (intro w hSw; (try dsimp only at hSw); go_simp; try with_reducible rfl)
          try simp only [Act.put, List.setIfInBounds_toArray, List.set_cons_zero, List.set_cons_succ]
          refine wpAnyH_take (i := 1) (oi := { dst := some 29, op := Op.move (Operand.tmp 6), type := 27, pos := _, after := #[], guard := none }) (v := ?_) rfl (by kernel_rfl) (by kernel_rfl) (by kernel_rfl) (fun _ _ _ h => h) (Or.inl ⟨by rfl, ?hy⟩) (by assumption) ?_
          case hy => (intro w hSw; (try dsimp only at hSw); go_simp; try with_reducible rfl)
          try simp only [Act.put, List.setIfInBounds_toArray, List.set_cons_zero, List.set_cons_succ]
          refine wpAnyH_take (i := 2) (oi := { dst := some 30, op := Op.move (Operand.tmp 7), type := 3, pos := _, after := #[], guard := none }) (v := ?_) rfl (by kernel_rfl) (by kernel_rfl) (by kernel_rfl) (fun _ _ _ h => h) (Or.inl ⟨by rfl, ?hy⟩) (by assumption) ?_
          case hy => (intro w hSw; (try dsimp only at hSw); go_simp; try with_reducible rfl)
          try simp only [Act.put, List.setIfInBounds_toArray, List.set_cons_zero, List.set_cons_succ]
          refine wpAnyH_take (i := 3) (oi := { dst := some 31, op := Op.indexAddr 27 (Operand.tmp 29) (Operand.tmp 30), type := 0, pos := _, after := #[{ on := 1, ground := Ground.data }, { on := 2, ground := Ground.data }], guard := none }) (v := ?_) rfl (by kernel_rfl) (by kernel_rfl) (by kernel_rfl) (fun _ _ _ h => h) (Or.inl ⟨by rfl, ?hy⟩) (by assumption) ?_
          case hy => (intro w hSw; (try dsimp only at hSw); go_simp; try with_reducible rfl)
          try simp only [Act.put, List.setIfInBounds_toArray, List.set_cons_zero, List.set_cons_succ]
          refine wpAnyH_take (i := 5) (oi := { dst := some 33, op := Op.move (Operand.tmp 4), type := 23, pos := _, after := #[], guard := none }) (v := ?_) rfl (by kernel_rfl) (by kernel_rfl) (by kernel_rfl) (fun _ _ _ h => h) (Or.inl ⟨by rfl, ?hy⟩) (by assumption) ?_
          case hy => (intro w hSw; (try dsimp only at hSw); go_simp; try with_reducible rfl)
          try simp only [Act.put, List.setIfInBounds_toArray, List.set_cons_zero, List.set_cons_succ]
          refine wpAnyH_take (i := 6) (oi := { dst := some 34, op := Op.move (Operand.tmp 5), type := 3, pos := _, after := #[], guard := none }) (v := ?_) rfl (by kernel_rfl) (by kernel_rfl) (by kernel_rfl) (fun _ _ _ h => h) (Or.inl ⟨by rfl, ?hy⟩) (by assumption) ?_
          case hy => (intro w hSw; (try dsimp only at hSw); go_simp; try with_reducible rfl)
          try simp only [Act.put, List.setIfInBounds_toArray, List.set_cons_zero, List.set_cons_succ]
          refine wpAnyH_take (i := 7) (oi := { dst := some 35, op := Op.indexAddr 23 (Operand.tmp 33) (Operand.tmp 34), type := 0, pos := _, after := #[{ on := 5, ground := Ground.data }, { on := 6, ground := Ground.data }], guard := none }) (v := ?_) rfl (by kernel_rfl) (by kernel_rfl) (by kernel_rfl) (fun _ _ _ h => h) (Or.inl ⟨by rfl, ?hy⟩) (by assumption) ?_
          case hy => (intro w hSw; (try dsimp only at hSw); go_simp; try with_reducible rfl)
          try simp only [Act.put, List.setIfInBounds_toArray, List.set_cons_zero, List.set_cons_succ]
          refine wpAnyH_take (i := 8) (oi := { dst := some 36, op := Op.load 27 (Operand.tmp 35), type := 27, pos := _, after := #[{ on := 7, ground := Ground.data }], guard := none }) (v := ?_) rfl (by kernel_rfl) (by kernel_rfl) (by kernel_rfl) (fun _ _ _ h => h) (Or.inl ⟨by rfl, ?hy⟩) (by assumption) ?_
          case hy => (intro w hSw; (try dsimp only at hSw); go_simp; try with_reducible rfl)
          try simp only [Act.put, List.setIfInBounds_toArray, List.set_cons_zero, List.set_cons_succ]
          refine wpAnyH_take (i := 9) (oi := { dst := some 37, op := Op.move (Operand.tmp 7), type := 3, pos := _, after := #[], guard := none }) (v := ?_) rfl (by kernel_rfl) (by kernel_rfl) (by kernel_rfl) (fun _ _ _ h => h) (Or.inl ⟨by rfl, ?hy⟩) (by assumption) ?_
          case hy => (intro w hSw; (try dsimp only at hSw); go_simp; try with_reducible rfl)
          try simp only [Act.put, List.setIfInBounds_toArray, List.set_cons_zero, List.set_cons_succ]
          refine wpAnyH_take (i := 10) (oi := { dst := some 38, op := Op.binOp BinOp.add 3 (Operand.tmp 37) (Operand.const (Value.int IntKind.i64 1)) 3, type := 3, pos := _, after := #[{ on := 9, ground := Ground.data }], guard := none }) (v := ?_) rfl (by kernel_rfl) (by kernel_rfl) (by kernel_rfl) (fun _ _ _ h => h) (Or.inl ⟨by rfl, ?hy⟩) (by assumption) ?_
          case hy => (intro w hSw; (try dsimp only at hSw); go_simp; try with_reducible rfl)
          try simp only [Act.put, List.setIfInBounds_toArray, List.set_cons_zero, List.set_cons_succ]
          refine wpAnyH_take (i := 11) (oi := { dst := some 39, op := Op.indexAddr 27 (Operand.tmp 36) (Operand.tmp 38), type := 0, pos := _, after := #[{ on := 8, ground := Ground.data }, { on := 10, ground := Ground.data }], guard := none }) (v := ?_) rfl (by kernel_rfl) (by kernel_rfl) (by kernel_rfl) (fun _ _ _ h => h) (Or.inl ⟨by rfl, ?hy⟩) (by assumption) ?_
          case hy => (intro w hSw; (try dsimp only at hSw); go_simp; try with_reducible rfl)
          try simp only [Act.put, List.setIfInBounds_toArray, List.set_cons_zero, List.set_cons_succ]
          refine wpAnyH_take (i := 12) (oi := { dst := some 40, op := Op.load 3 (Operand.tmp 39), type := 3, pos := _, after := #[{ on := 11, ground := Ground.data }], guard := none }) (v := ?_) rfl (by kernel_rfl) (by kernel_rfl) (by kernel_rfl) (fun _ _ _ h => h) (Or.inl ⟨by rfl, ?hy⟩) (by assumption) ?_
          case hy => (intro w hSw; (try dsimp only at hSw); go_simp; try with_reducible rfl)
          try simp only [Act.put, List.setIfInBounds_toArray, List.set_cons_zero, List.set_cons_succ]
          refine wpAnyH_take (i := 14) (oi := { dst := some 42, op := Op.move (Operand.tmp 4), type := 23, pos := _, after := #[], guard := none }) (v := ?_) rfl (by kernel_rfl) (by kernel_rfl) (by kernel_rfl) (fun _ _ _ h => h) (Or.inl ⟨by rfl, ?hy⟩) (by assumption) ?_
          case hy => (intro w hSw; (try dsimp only at hSw); go_simp; try with_reducible rfl)
          try simp only [Act.put, List.setIfInBounds_toArray, List.set_cons_zero, List.set_cons_succ]
          refine wpAnyH_take (i := 15) (oi := { dst := some 43, op := Op.move (Operand.tmp 5), type := 3, pos := _, after := #[], guard := none }) (v := ?_) rfl (by kernel_rfl) (by kernel_rfl) (by kernel_rfl) (fun _ _ _ h => h) (Or.inl ⟨by rfl, ?hy⟩) (by assumption) ?_
          case hy => (intro w hSw; (try dsimp only at hSw); go_simp; try with_reducible rfl)
          try simp only [Act.put, List.setIfInBounds_toArray, List.set_cons_zero, List.set_cons_succ]
          refine wpAnyH_take (i := 16) (oi := { dst := some 44, op := Op.indexAddr 23 (Operand.tmp 42) (Operand.tmp 43), type := 0, pos := _, after := #[{ on := 14, ground := Ground.data }, { on := 15, ground := Ground.data }], guard := none }) (v := ?_) rfl (by kernel_rfl) (by kernel_rfl) (by kernel_rfl) (fun _ _ _ h => h) (Or.inl ⟨by rfl, ?hy⟩) (by assumption) ?_
          case hy => (intro w hSw; (try dsimp only at hSw); go_simp; try with_reducible rfl)
          try simp only [Act.put, List.setIfInBounds_toArray, List.set_cons_zero, List.set_cons_succ]
          refine wpAnyH_take (i := 17) (oi := { dst := some 45, op := Op.load 27 (Operand.tmp 44), type := 27, pos := _, after := #[{ on := 16, ground := Ground.data }], guard := none }) (v := ?_) rfl (by kernel_rfl) (by kernel_rfl) (by kernel_rfl) (fun _ _ _ h => h) (Or.inl ⟨by rfl, ?hy⟩) (by assumption) ?_
          case hy => (intro w hSw; (try dsimp only at hSw); go_simp; try with_reducible rfl)
          try simp only [Act.put, List.setIfInBounds_toArray, List.set_cons_zero, List.set_cons_succ]
          refine wpAnyH_take (i := 18) (oi := { dst := some 46, op := Op.move (Operand.tmp 7), type := 3, pos := _, after := #[], guard := none }) (v := ?_) rfl (by kernel_rfl) (by kernel_rfl) (by kernel_rfl) (fun _ _ _ h => h) (Or.inl ⟨by rfl, ?hy⟩) (by assumption) ?_
          case hy => (intro w hSw; (try dsimp only at hSw); go_simp; try with_reducible rfl)
          try simp only [Act.put, List.setIfInBounds_toArray, List.set_cons_zero, List.set_cons_succ]
          refine wpAnyH_take (i := 19) (oi := { dst := some 47, op := Op.indexAddr 27 (Operand.tmp 45) (Operand.tmp 46), type := 0, pos := _, after := #[{ on := 17, ground := Ground.data }, { on := 18, ground := Ground.data }], guard := none }) (v := ?_) rfl (by kernel_rfl) (by kernel_rfl) (by kernel_rfl) (fun _ _ _ h => h) (Or.inl ⟨by rfl, ?hy⟩) (by assumption) ?_
          case hy => (intro w hSw; (try dsimp only at hSw); go_simp; try with_reducible rfl)
          try simp only [Act.put, List.setIfInBounds_toArray, List.set_cons_zero, List.set_cons_succ]
          refine wpAnyH_take (i := 20) (oi := { dst := some 48, op := Op.load 3 (Operand.tmp 47), type := 3, pos := _, after := #[{ on := 19, ground := Ground.data }], guard := none }) (v := ?_) rfl (by kernel_rfl) (by kernel_rfl) (by kernel_rfl) (fun _ _ _ h => h) (Or.inl ⟨by rfl, ?hy⟩) (by assumption) ?_
          case hy => (intro w hSw; (try dsimp only at hSw); go_simp; try with_reducible rfl)
          try simp only [Act.put, List.setIfInBounds_toArray, List.set_cons_zero, List.set_cons_succ]
          refine wpAnyH_take (i := 22) (oi := { dst := some 50, op := Op.move (Operand.tmp 0), type := 23, pos := _, after := #[], guard := none }) (v := ?_) rfl (by kernel_rfl) (by kernel_rfl) (by kernel_rfl) (fun _ _ _ h => h) (Or.inl ⟨by rfl, ?hy⟩) (by assumption) ?_
          case hy => (intro w hSw; (try dsimp only at hSw); go_simp; try with_reducible rfl)
          try simp only [Act.put, List.setIfInBounds_toArray, List.set_cons_zero, List.set_cons_succ]
          refine wpAnyH_take (i := 23) (oi := { dst := some 51, op := Op.move (Operand.tmp 5), type := 3, pos := _, after := #[], guard := none }) (v := ?_) rfl (by kernel_rfl) (by kernel_rfl) (by kernel_rfl) (fun _ _ _ h => h) (Or.inl ⟨by rfl, ?hy⟩) (by assumption) ?_
          case hy => (intro w hSw; (try dsimp only at hSw); go_simp; try with_reducible rfl)
          try simp only [Act.put, List.setIfInBounds_toArray, List.set_cons_zero, List.set_cons_succ]
          refine wpAnyH_take (i := 24) (oi := { dst := some 52, op := Op.indexAddr 23 (Operand.tmp 50) (Operand.tmp 51), type := 0, pos := _, after := #[{ on := 22, ground := Ground.data }, { on := 23, ground := Ground.data }], guard := none }) (v := ?_) rfl (by kernel_rfl) (by kernel_rfl) (by kernel_rfl) (fun _ _ _ h => h) (Or.inl ⟨by rfl, ?hy⟩) (by assumption) ?_
          case hy => (intro w hSw; (try dsimp only at hSw); go_simp; try with_reducible rfl)
          try simp only [Act.put, List.setIfInBounds_toArray, List.set_cons_zero, List.set_cons_succ]
          refine wpAnyH_take (i := 25) (oi := { dst := some 53, op := Op.load 27 (Operand.tmp 52), type := 27, pos := _, after := #[{ on := 24, ground := Ground.data }], guard := none }) (v := ?_) rfl (by kernel_rfl) (by kernel_rfl) (by kernel_rfl) (fun _ _ _ h => h) (Or.inl ⟨by rfl, ?hy⟩) (by assumption) ?_
          case hy => (intro w hSw; (try dsimp only at hSw); go_simp; try with_reducible rfl)
          try simp only [Act.put, List.setIfInBounds_toArray, List.set_cons_zero, List.set_cons_succ]
          refine wpAnyH_take (i := 26) (oi := { dst := some 54, op := Op.move (Operand.tmp 7), type := 3, pos := _, after := #[], guard := none }) (v := ?_) rfl (by kernel_rfl) (by kernel_rfl) (by kernel_rfl) (fun _ _ _ h => h) (Or.inl ⟨by rfl, ?hy⟩) (by assumption) ?_
          case hy => (intro w hSw; (try dsimp only at hSw); go_simp; try with_reducible rfl)
          try simp only [Act.put, List.setIfInBounds_toArray, List.set_cons_zero, List.set_cons_succ]
          refine wpAnyH_take (i := 27) (oi := { dst := some 55, op := Op.indexAddr 27 (Operand.tmp 53) (Operand.tmp 54), type := 0, pos := _, after := #[{ on := 25, ground := Ground.data }, { on := 26, ground := Ground.data }], guard := none }) (v := ?_) rfl (by kernel_rfl) (by kernel_rfl) (by kernel_rfl) (fun _ _ _ h => h) (Or.inl ⟨by rfl, ?hy⟩) (by assumption) ?_
          case hy => (intro w hSw; (try dsimp only at hSw); go_simp; try with_reducible rfl)
          try simp only [Act.put, List.setIfInBounds_toArray, List.set_cons_zero, List.set_cons_succ]
          refine wpAnyH_take (i := 28) (oi := { dst := some 56, op := Op.load 3 (Operand.tmp 55), type := 3, pos := _, after := #[{ on := 27, ground := Ground.data }], guard := none }) (v := ?_) rfl (by kernel_rfl) (by kernel_rfl) (by kernel_rfl) (fun _ _ _ h => h) (Or.inl ⟨by rfl, ?hy⟩) (by assumption) ?_
          case hy => (intro w hSw; (try dsimp only at hSw); go_simp; try with_reducible rfl)
          try simp only [Act.put, List.setIfInBounds_toArray, List.set_cons_zero, List.set_cons_succ]
          refine wpAnyH_ready (rs := [4]) (by kernel_rfl) (by simp) ?_
          refine AllReadyH.cons (i := 4) (o := { dst := some 32, op := Op.load 3 (Operand.tmp 31), type := 3, pos := _, after := #[{ on := 3, ground := Ground.data }], guard := none }) rfl (fun KK hKK => ?_) AllReadyH.nil
          go_simp
          refine hKK.out _ _ (by exact hHeld) (fun hHeld => ?_)
          clear hKK KK
          try simp only [Act.put, List.setIfInBounds_toArray, List.set_cons_zero, List.set_cons_succ]
          refine wpAnyH_take (i := 13) (oi := { dst := some 41, op := Op.binOp BinOp.add 3 (Operand.tmp 32) (Operand.tmp 40) 3, type := 3, pos := _, after := #[{ on := 4, ground := Ground.data }, { on := 12, ground := Ground.data }], guard := none }) (v := ?_) rfl (by kernel_rfl) (by kernel_rfl) (by kernel_rfl) (fun _ _ _ h => h) (Or.inl ⟨by rfl, ?hy⟩) (by assumption) ?_
          case hy => (intro w hSw; (try dsimp only at hSw); go_simp; try with_reducible rfl)
          try simp only [Act.put, List.setIfInBounds_toArray, List.set_cons_zero, List.set_cons_succ]
          refine wpAnyH_take (i := 21) (oi := { dst := some 49, op := Op.binOp BinOp.sub 3 (Operand.tmp 41) (Operand.tmp 48) 3, type := 3, pos := _, after := #[{ on := 13, ground := Ground.data }, { on := 20, ground := Ground.data }], guard := none }) (v := ?_) rfl (by kernel_rfl) (by kernel_rfl) (by kernel_rfl) (fun _ _ _ h => h) (Or.inl ⟨by rfl, ?hy⟩) (by assumption) ?_
          case hy => (intro w hSw; (try dsimp only at hSw); go_simp; try with_reducible rfl)
          try simp only [Act.put, List.setIfInBounds_toArray, List.set_cons_zero, List.set_cons_succ]
          refine wpAnyH_take (i := 29) (oi := { dst := some 57, op := Op.binOp BinOp.add 3 (Operand.tmp 49) (Operand.tmp 56) 3, type := 3, pos := _, after := #[{ on := 21, ground := Ground.data }, { on := 28, ground := Ground.data }], guard := none }) (v := ?_) rfl (by kernel_rfl) (by kernel_rfl) (by kernel_rfl) (fun _ _ _ h => h) (Or.inl ⟨by rfl, ?hy⟩) (by assumption) ?_
          case hy => (intro w hSw; (try dsimp only at hSw); go_simp; try with_reducible rfl)
          try simp only [Act.put, List.setIfInBounds_toArray, List.set_cons_zero, List.set_cons_succ]
          refine wpAnyH_ready (rs := [30]) (by kernel_rfl) (by simp) ?_
          refine AllReadyH.cons (i := 30) (o := { dst := some 58, op := Op.buildSlice 27 1 #[(0, Operand.tmp 57)], type := 27, pos := _, after := #[{ on := 29, ground := Ground.data }], guard := none }) rfl (fun KK hKK => ?_) AllReadyH.nil
          go_simp
          refine hKK.out _ _ (by exact HS.out _ ((HX.out.2.drew).alloc _)) (fun hHeld => ?_)
          clear hKK KK
          try simp only [Act.put, List.setIfInBounds_toArray, List.set_cons_zero, List.set_cons_succ]
          refine wpAnyH_ready (rs := [31]) (by kernel_rfl) (by simp) ?_
          refine AllReadyH.cons (i := 31) (o := { dst := some 59, op := Op.call { callee := Callee.builtin Builtin.append, args := #[Operand.tmp 28, Operand.tmp 58], argTypes := #[27, 27] }, type := 27, pos := _, after := #[{ on := 0, ground := Ground.data }, { on := 30, ground := Ground.data }], guard := none }) rfl (fun KK hKK => ?_) AllReadyH.nil
          refine step_append_int (w := wr.drew) (g := g') (n := k2) (c := c3) (xs := RT) rfl (.tmp 28) (.tmp 58) 27 rfl Try.underlying27 Try.infoI (by simp [Act.eval]) (by simp [Act.eval]) rfl HRT.out.1 (by have := HRL.out; omega) HRT.out.2 ?_
          intro g5 c5 w5 hO5 hW5 hA5 hL5
          have HF : Hid (IntsO 3 wo.heap.size w5.heap.size w5 (.slice (some ⟨g5, 0, none⟩) (j + 1 + 1) c5) ((rowT (preS h) m1 (r + 1)).take (j + 1 + 1)) ∧ Grew wo w5) := HEND.out g5 c5 w5 hO5 hW5 hA5 hL5
          have eRT := HRL.out
          rw [eRT]
          clear hO5 hW5 hA5 hL5 eRT
          refine hKK.out _ _ (by exact HS.out _ HF.out.2) (fun hHeld => ?_)
          clear hKK KK
          try simp only [Act.put, List.setIfInBounds_toArray, List.set_cons_zero, List.set_cons_succ]
          refine wpAnyH_take (i := 32) (oi := { dst := some 6, op := Op.assign (Operand.tmp 59), type := 27, pos := _, after := #[{ on := 31, ground := Ground.data }, { on := 31, ground := Ground.chain }, { on := 0, ground := Ground.phase }, { on := 1, ground := Ground.phase }, { on := 2, ground := Ground.phase }, { on := 3, ground := Ground.phase }, { on := 4, ground := Ground.phase }, { on := 5, ground := Ground.phase }, { on := 6, ground := Ground.phase }, { on := 7, ground := Ground.phase }, { on := 8, ground := Ground.phase }, { on := 9, ground := Ground.phase }, { on := 10, ground := Ground.phase }, { on := 11, ground := Ground.phase }, { on := 12, ground := Ground.phase }, { on := 13, ground := Ground.phase }, { on := 14, ground := Ground.phase }, { on := 15, ground := Ground.phase }, { on := 16, ground := Ground.phase }, { on := 17, ground := Ground.phase }, { on := 18, ground := Ground.phase }, { on := 19, ground := Ground.phase }, { on := 20, ground := Ground.phase }, { on := 21, ground := Ground.phase }, { on := 22, ground := Ground.phase }, { on := 23, ground := Ground.phase }, { on := 24, ground := Ground.phase }, { on := 25, ground := Ground.phase }, { on := 26, ground := Ground.phase }, { on := 27, ground := Ground.phase }, { on := 28, ground := Ground.phase }, { on := 29, ground := Ground.phase }, { on := 30, ground := Ground.phase }, { on := 31, ground := Ground.phase }], guard := none }) (v := ?_) rfl (by kernel_rfl) (by kernel_rfl) (by kernel_rfl) (fun _ _ _ h => h) (Or.inl ⟨by rfl, ?hy⟩) (by assumption) ?_
          case hy => (intro w hSw; (try dsimp only at hSw); go_simp; try with_reducible rfl)
          try simp only [Act.put, List.setIfInBounds_toArray, List.set_cons_zero, List.set_cons_succ]
          refine wpAnyH_done (by kernel_rfl) ?_ _
          refine NoPanic.normal ?_
          have HF2 := HF
          clear hHeld HS
          go_wp2
          go_roundg (gk - 1)
          case measure => omega
          case rel => exact ⟨j + 1, j + 1 + 1, g5, c5, rfl, by go_num, by omega, by omega, rfl, HF.out⟩
        · obtain rfl : j = m := by omega
          have hn' : ¬ (j : Int) < j := by omega
          go_wp2_with (at_builtin; refine wpList_append_row rfl (.tmp 60) (.tmp 62) 23 rfl (by decide) Try.underlying23 Try.infoIs rfl rfl (by simp) (HI.out.1.grew HX.out.2) HX.out.1 (by rw [HTL.out]; omega) (by have := HX.out.2.size; omega) hsw ?_; intro g5 c5 w5 hO5 hW5 hS5)
          have HF : Hid (RowsO 27 3 w.heap.size w5.heap.size w5 (.slice (some ⟨g5, 0, none⟩) (r + 1 + 1) c5) ((tabR n1 m1 (preS h)).take (r + 1 + 1)) ∧ Grew w w5) := by
            have e : (rowT (preS h) m1 (r + 1)).take (j + 1) = rowT (preS h) m1 (r + 1) := List.take_of_length_le (by rw [rowT_len]; have := HNM.out.2; omega)
            rw [e, tabR_next n1 m1 _ (r + 1) (by have := HNM.out.1; omega), HTL.out] at hO5
            exact ⟨hO5, hW5.grew (HI.out.2.trans HX.out.2) (Nat.le_refl _)⟩
          rw [show min (r + 1) (tabR n1 m1 (preS h)).length = r + 1 by rw [tabR_len]; have := HNM.out.1; omega]
          clear hO5 hW5
          go_wp2
          go_roundg (gn - 1)
          case measure => omega
          case rel => exact ⟨r + 1, r + 1 + 1, g5, c5, rfl, by go_num, by omega, by omega, rfl, HF.out⟩
    · obtain rfl : r = h.length := by omega
      have HF : Hid (RowsO 27 3 w.heap.size wr.heap.size wr (.slice (some ⟨g, 0, none⟩) k1 c') (sumsL h m) ∧ Grew w wr) := by
        have := HI.out
        rw [List.take_of_length_le (by rw [tabR_len]; have := HNM.out.1; omega), ← HNM.out.1, ← HNM.out.2] at this
        exact this
      go_wp2
      go_ret
      exact ⟨_, rfl, HF.out⟩

set_option maxRecDepth 100000 in
set_option maxHeartbeats 1000000 in
theorem SSumsOf_any (v : Value) (h : List (List Int)) (w : World) (hv : RowsV w v h) :
    Calls Try.prog 15 #[v] w (NewRows w (sumsX h)) := by
  have HK := Lib.hid (sValidGrid_any v h w hv)
  have HV := Lib.hid hv
  obtain ⟨a, b, o, c, rfl, _, _, _⟩ := hv.shape
  clear hv
  unfold sumsX
  cases hp : vGrid h with
  | false =>
    have HP := Lib.hid hp
    clear hp
    go_enter Try.func15, Try.ntmps15
    go_wp2_with (fail)
    refine HK.out.mono ?_
    rw [HP.out]
    rintro e w1 ⟨rfl, hg1⟩
    have HG1 := Lib.hid hg1
    clear hg1
    go_wp2
    go_ret
    exact ⟨_, rfl, RowsO.nil _ _ _ _ _, HG1.out⟩
  | true =>
    have HP := Lib.hid (And.intro hp (Grid.of hp))
    clear hp
    rw [if_pos rfl]
    go_enter Try.func15, Try.ntmps15
    go_wp2_with (fail)
    refine HK.out.mono ?_
    rw [HP.out.1]
    rintro e w1 ⟨rfl, hg1⟩
    have HG1 := Lib.hid hg1
    clear hg1
    go_wp2_with (fail)
    refine (prefix_any _ h _ _ (HV.out.grew HG1.out) HP.out.2).mono ?_
    rintro e w2 ⟨v2, rfl, hO2, hg2⟩
    have H2 : Hid (RowsO 27 3 w.heap.size w2.heap.size w2 v2 (sumsL h (h.getD 0 []).length) ∧ Grew w w2) := ⟨hO2.wide HG1.out.size (Nat.le_refl _), HG1.out.trans hg2⟩
    obtain ⟨a2, c2, rfl⟩ := hO2.sh
    clear hO2 hg2
    go_wp2
    go_ret
    exact ⟨_, rfl, H2.out⟩
end Go.Proofs.Ytkeeonjbkfgeeaa
