/- The contract of spec.order. -/
import Derived.Test.YtaeenedjmakelaaDoorOrdM
import Derived.Test.YtaeenedjmakelaaDoorAround
import Derived.Test.YtaeenedjmakelaaDoorAt
import Derived.Test.YtaeenedjmakelaaDoorAppendInts
import Derived.Test.YtaeenedjmakelaaDoorHeldMono
namespace Go.Proofs.YtaeenedjmakelaaDoor
open Go.RowKit

/-- 'append(s, x...)' at a slice of numbers of the call's own, as a step of a region that draws its order. -/
theorem step_append_of {P : Program} {w : World} {ops : Array Oper} {o : Oper} {a : Act} {K : Act → World → Prop} {Q : Exit → Act → World → Prop} {X : Prop} (hgd : o.guard = none) (s x : Operand) (t : TypeId)
    (ho : o.op = .call { callee := .builtin .append, args := #[s, x], argTypes := #[t, t] }) {E : TypeId} (ht : P.underlying t = some (.slice E))
    (hinfo : (P.info? E).map (fun i => (i.zero, i.size, i.bytes)) = some (some (.int .i64 0), 1, 8)) {lo hi g n0 c0 : Nat} {xs ys : List Int} {b o' n c : Nat} (hs : a.eval s = .slice (some ⟨g, 0, none⟩) n0 c0) (hx : a.eval x = .slice (some ⟨b, o', none⟩) n c) (hn : n = ys.length)
    (hcells : ∀ i, i < ys.length → w.cell? ⟨b, o' + i, none⟩ = some (.int .i64 (ys.getD i 0)))
    (hv : IntsO E lo hi w (.slice (some ⟨g, 0, none⟩) n0 c0) xs) (hlen : xs.length + ys.length ≤ 17592186044416) (hbase : lo ≤ w.heap.size)
    (h : ∀ g' c' w', IntsO E lo w'.heap.size w' (.slice (some ⟨g', 0, none⟩) (xs.length + ys.length) c') (xs ++ ys) → Within lo hi w w' →
      K (a.put o.dst (.slice (some ⟨g', 0, none⟩) (xs.length + ys.length) c')) w') : if Region.wanted o (yielded ops a.tmps) = true then Oper.wp P o a w K Q else X := by
  subst hn
  have hw : Region.wanted o (yielded ops a.tmps) = true := by simp [Region.wanted, hgd]
  rw [if_pos hw]
  obtain ⟨i, hi1, hi2, hi3, hi4⟩ := info_parts hinfo
  refine wp_append_own _ s x t ho lo E i (.int .i64 0) 1 8 ht hi1 hi2 hi3 hi4 rfl (by decide) _ xs.length _ hs hv.1 ⟨b, o', none⟩ ys.length c (ys.map (.int .i64)) hx (by simp) ?_ ?_ (by unfold maxLen; omega) (by omega) hbase ?_
  · intro j u hu
    rw [List.getElem?_map, Option.map_eq_some_iff] at hu
    obtain ⟨y, h1, rfl⟩ := hu
    obtain ⟨hj, h2⟩ := List.getElem?_eq_some_iff.1 h1
    have := hcells j hj
    have e : ys.getD j 0 = y := by simp [hj, h2]
    rw [e] at this
    rw [Addr.add_lit]; exact this
  · intro u hu
    obtain ⟨y, _, rfl⟩ := List.mem_map.1 hu
    rfl
  · intro v' w' hown hg hnil
    have hW : Within lo hi w w' := grownBy_within hg fun g e => ⟨(World.ownsRow.lt hv.1 g e).1, hv.2 g e⟩
    have hO : IntsO E lo w'.heap.size w' v' (xs ++ ys) := IntsO.mk (by simpa using hown) (Nat.le_refl _)
    have e : (xs ++ ys).length = xs.length + ys.length := by simp
    rcases hO.shape with ⟨e0, _⟩ | ⟨g', c', hv', _⟩
    · have := (hnil.1 e0).1
      cases this
    · rw [e] at hv'
      subst hv'
      exact h g' c' w' hO hW
theorem castL_take (l : List Nat) (k : Nat) : castL (l.take k) = (castL l).take k := by simp [castL, List.map_take]
theorem castL_drop (l : List Nat) (k : Nat) : castL (l.drop k) = (castL l).drop k := by simp [castL, List.map_drop]
theorem castL_ins (l : List Nat) (k i : Nat) : ([] ++ castL (l.take k) ++ [(i : Int)]) ++ castL (l.drop k) = castL (l.take k ++ i :: l.drop k) := by simp [castL]
set_option maxRecDepth 100000 in
set_option maxHeartbeats 8000000 in
theorem sorder_any (v : Value) (h : List (List Int)) (w : World) (hv : RowsV w v h) (hg : vGrid h = true) :
    Calls Tryd.prog 90 #[v] w (OwnI w (castL (ordTo h.flatten h.flatten.length))) := by
  have G := Grid.of hg
  have hpl := flat_grid_len G
  have hN25 : h.flatten.length ≤ 25 := by rw [hpl]; exact Nat.le_trans (Nat.mul_le_mul G.n5 G.m5) (by decide)
  have HN : Hid (∀ W, Grew w W → Calls Tryd.prog 89 #[v] W fun e w' => e = .returned (.int .i64 (h.flatten.length : Nat)) ∧ W = w') := Lib.hid fun W hW => by
    rw [hpl]; exact cells_any v h W (hv.grew hW) G.n1 (by have := G.n5; omega) (by have := G.m5; omega)
  have HAT : Hid (∀ (I : Nat) W, Grew w W → I < h.flatten.length → Calls Tryd.prog 93 #[v, .int .i64 I] W fun e w' => e = .returned (.int .i64 (h.flatten.getD I 0)) ∧ ∃ q, w' = W.drewN q) := Lib.hid fun I W hW hI =>
    at_any v h I W (hv.grew hW) hg (by rw [← hpl]; exact hI)
  obtain ⟨p, ep⟩ : ∃ p, h.flatten = p := ⟨_, rfl⟩
  rw [ep] at HN HAT hN25 ⊢
  obtain ⟨N, eN⟩ : ∃ N, p.length = N := ⟨_, rfl⟩
  rw [eN] at HN HAT hN25 ⊢
  have HB := Lib.hid (fun i (_ : i < N) => (show -9223372036854775808 ≤ p.getD i 0 from by rw [← ep]; have := grid_num G i (by rw [← hpl, ep, eN]; assumption); omega))
  obtain ⟨a, b, o, c, rfl, _, _, _⟩ := hv.shape
  clear hv hg G hpl ep
  go_enter Tryd.func90, Tryd.ntmps90
  go_wp2_with (fail)
  have H0 : Hid (IntsO 3 w.heap.size (w.alloc (.cells #[] 3)).heap.size (w.alloc (.cells #[] 3)) (.slice (some ⟨w.heap.size, 0, none⟩) 0 0) [] ∧ Grew w (w.alloc (.cells #[] 3))) :=
    ⟨by simpa using IntsO.lit 3 w.heap.size w [] #[] rfl (Nat.le_refl _) (by decide), (Grew.refl w).alloc _⟩
  go_loopw [3, 4] (fun v' i' wr => ∃ (i g c' : Nat), i ≤ N ∧ i' = .int .i64 i ∧ v' = .slice (some ⟨g, 0, none⟩) i c' ∧ Hid (IntsO 3 w.heap.size wr.heap.size wr v' (castL (ordTo p i)) ∧ Grew w wr)) (fun _ i' _ => N - (intOf i').toNat)
  case atStart => exact ⟨0, _, _, Nat.zero_le _, rfl, rfl, H0.out⟩
  case round =>
    obtain ⟨i, g, c', hi, rfl, rfl, HI⟩ := hrel
    clear H0
    by_cases hlt : i < N
    · go_wp2_with (fail)
      refine (HN.out _ HI.out.2).mono ?_
      rintro e w1 ⟨rfl, rfl⟩
      obtain ⟨W1, eW1⟩ : ∃ W1, W1 = wr := ⟨_, rfl⟩
      have hll := ordTo_len p i
      obtain ⟨l, el⟩ : ∃ l, ordTo p i = l := ⟨_, rfl⟩
      have HEL := Lib.hid el
      rw [el] at HI hll
      go_wp2_with (fail)
      go_loopw [5] (fun k' wi => ∃ k : Nat, k ≤ i ∧ k' = .int .i64 k ∧ Hid (posO l p (p.getD i 0) i = posO l p (p.getD i 0) k ∧ ∃ q, wi = wr.drewN q)) (fun k' _ => (intOf k').toNat)
      case atStart => exact ⟨i, Nat.le_refl _, rfl, rfl, 0, rfl⟩
      case round =>
        obtain ⟨k, hk, rfl, HK⟩ := hrel
        obtain ⟨hkp, q, rfl⟩ := HK.out
        have hgw : Grew wr (wr.drewN q) := (Grew.refl _).drewN q
        have hOq := HI.out.1.grew hgw
        have hic : i ≤ c' := by
          rcases HI.out.1.shape with ⟨e0, _⟩ | ⟨_, _, e0, _, _, e1, _⟩
          · cases e0
          · simp only [Value.slice.injEq] at e0
            rw [castL_len] at e1
            omega
        have hgl : g < wr.heap.size := HI.out.1.blkLt
        cases k with
        | zero =>
          have HP : Hid (posO l p (p.getD i 0) i = 0) := Lib.hid hkp
          obtain ⟨W0, eW0⟩ : ∃ W0, wr.drewN q = W0 := ⟨_, rfl⟩
          have HQ : Hid (IntsV W0 (.slice (some ⟨g, 0, none⟩) i c') (castL l) ∧ Grew w W0) := Lib.hid (by rw [← eW0]; exact ⟨hOq.toV, HI.out.2.trans hgw⟩)
          have hz2 : 0 ≤ c' := Nat.zero_le _
          rw [eW0]
          clear hkp HK hgw hOq hgl HI eW0
          go_wp2
          have HNX : Hid (∀ (g9 c9 : Nat) (w9 : World), (IntsO 3 w.heap.size w9.heap.size w9 (.slice (some ⟨g9, 0, none⟩) ((([] ++ castL (l.take (0))) ++ [(i : Int)]).length + (castL (l.drop (0))).length) c9) ((([] ++ castL (l.take (0))) ++ [(i : Int)]) ++ castL (l.drop (0))) ∧ Grew w w9) → IntsO 3 w.heap.size w9.heap.size w9 (.slice (some ⟨g9, 0, none⟩) (i + 1) c9) (castL (ordTo p (i + 1))) ∧ Grew w w9) := Lib.hid (fun g9 c9 w9 hh => by
            rw [castL_ins] at hh
            have e1 : (([] ++ castL (l.take (0))) ++ [(i : Int)]).length + (castL (l.drop (0))).length = i + 1 := by
              rw [List.nil_append, List.length_append, castL_len, castL_len, List.length_take, List.length_drop, List.length_singleton]; omega
            rw [e1] at hh
            have e2 : ordTo p (i + 1) = l.take (0) ++ i :: l.drop (0) := by
              rw [ordTo, HEL.out, hll, HP.out]
            rw [e2]; exact hh)
          have HB0 : Hid (W0.heap.size = W0.heap.size) := Lib.hid rfl
          obtain ⟨B0, eB0⟩ : ∃ B0, W0.heap.size = B0 := ⟨_, rfl⟩
          have HB0 := Lib.hid eB0
          have HYS : Hid ((castL ([] : List Nat)).length + 1 + (castL l).length = i + 1) := Lib.hid (by
              first | (rw [castL_len, castL_len, List.length_take, List.length_drop]; omega) | (rw [castL_len, castL_len, hll]; simp; omega))
          have HYL : Hid ((0) = (castL (l.take (0))).length ∧ i - (0) = (castL (l.drop (0))).length ∧ ([] : List Int).length + (castL (l.take (0))).length ≤ 17592186044416 ∧ ([] ++ castL (l.take (0))).length + [(i : Int)].length ≤ 17592186044416 ∧ (([] ++ castL (l.take (0))) ++ [(i : Int)]).length + (castL (l.drop (0))).length ≤ 17592186044416) := Lib.hid (by
            simp only [List.nil_append, List.length_append, castL_len, List.length_take, List.length_drop, List.length_singleton, List.length_nil]
            omega)
          have HCE : ∀ W, Grew W0 W → ∀ j, j < i → W.cell? ⟨g, j, none⟩ = some (.int .i64 ((castL l).getD j 0)) := fun W hW j hj => by
            have := NumsV.at (HQ.out.1.grew hW) j (by rw [castL_len, hll]; exact hj)
            simpa using this
          have HY4 : Hid (∀ W, Grew W0 W → ∀ j, j < (castL (l.take (0))).length → W.cell? ⟨g, 0 + j, none⟩ = some (.int .i64 ((castL (l.take (0))).getD j 0))) := Lib.hid (fun W hW j hj => by
            have hj2 : j < 0 := by rw [castL_len, List.length_take] at hj; omega
            rw [Nat.zero_add, HCE W hW j (by omega), castL_take]
            congr 2
            rw [List.getD_eq_getElem?_getD, List.getD_eq_getElem?_getD, List.getElem?_take_of_lt hj2])
          have HY11 : Hid (∀ W, Grew W0 W → ∀ j, j < (castL (l.drop (0))).length → W.cell? ⟨g, 0 + j, none⟩ = some (.int .i64 ((castL (l.drop (0))).getD j 0))) := Lib.hid (fun W hW j hj => by
            have hj2 : (0) + j < i := by rw [castL_len, List.length_drop] at hj; omega
            have hO : 0 = 0 := rfl
            rw [hO, HCE W hW _ hj2, castL_drop]
            congr 2
            rw [List.getD_eq_getElem?_getD, List.getD_eq_getElem?_getD, List.getElem?_drop])
          have HLA : Hid (IntsO 3 B0 (B0 + 1) (W0.drew.alloc (.cells #[] 3)) (.slice (some ⟨B0, 0, none⟩) 0 0) []) := Lib.hid (by
            have := IntsO.lit 3 W0.drew.heap.size W0.drew [] #[] rfl (Nat.le_refl _) (by decide)
            rw [← eB0]; exact this)
          have HLB : Hid (IntsO 3 B0 (B0 + 1) ((W0.drew.alloc (.cells #[] 3)).alloc (.cells #[.int .i64 i] 3)) (.slice (some ⟨B0, 0, none⟩) 0 0) []) := Lib.hid (HLA.out.grew ((Grew.refl _).alloc _))
          have HLC : Hid (IntsO 3 (B0 + 1) (B0 + 1 + 1) ((W0.drew.alloc (.cells #[.int .i64 i] 3)).alloc (.cells #[] 3)) (.slice (some ⟨B0 + 1, 0, none⟩) 0 0) []) := Lib.hid (by
            have := IntsO.lit 3 (W0.drew.alloc (.cells #[.int .i64 i] 3)).heap.size (W0.drew.alloc (.cells #[.int .i64 i] 3)) [] #[] rfl (Nat.le_refl _) (by decide)
            have e3 : (W0.drew.alloc (.cells #[.int .i64 i] 3)).heap.size = B0 + 1 := by rw [← eB0]; simp
            rw [e3] at this; exact this)
          clear HCE eB0
          have HOE : Hid (True) := Lib.hid trivial
          refine wp_region_noPanic ?_
          refine wp_region_held_drew (S := fun W => Grew W0 W) (by kernel_rfl) (by exact (Grew.refl W0).drew) (fun hHeld => ?_)
          refine wpAnyH_take (i := 1) (oi := { dst := some 33, op := Op.move (Operand.tmp 3), type := 22, pos := _, after := #[], guard := none }) (v := ?_) rfl (by kernel_rfl) (by kernel_rfl) (by kernel_rfl) (fun _ _ _ h => h) (Or.inl ⟨by rfl, ?hy⟩) (by assumption) ?_
          case hy => (intro w hSw; (try dsimp only at hSw); go_simp; try with_reducible rfl)
          try simp only [Act.put, List.setIfInBounds_toArray, List.set_cons_zero, List.set_cons_succ]
          refine wpAnyH_take (i := 2) (oi := { dst := some 34, op := Op.move (Operand.tmp 5), type := 3, pos := _, after := #[], guard := none }) (v := ?_) rfl (by kernel_rfl) (by kernel_rfl) (by kernel_rfl) (fun _ _ _ h => h) (Or.inl ⟨by rfl, ?hy⟩) (by assumption) ?_
          case hy => (intro w hSw; (try dsimp only at hSw); go_simp; try with_reducible rfl)
          try simp only [Act.put, List.setIfInBounds_toArray, List.set_cons_zero, List.set_cons_succ]
          refine wpAnyH_take (i := 3) (oi := { dst := some 35, op := Op.slice 22 (Operand.tmp 33) none (some (Operand.tmp 34)) none, type := 22, pos := _, after := #[{ on := 1, ground := Ground.data }, { on := 2, ground := Ground.data }], guard := none }) (v := ?_) rfl (by kernel_rfl) (by kernel_rfl) (by kernel_rfl) (fun _ _ _ h => h) (Or.inl ⟨by rfl, ?hy⟩) (by assumption) ?_
          case hy => (intro w hSw; (try dsimp only at hSw); go_simp; try with_reducible rfl)
          try simp only [Act.put, List.setIfInBounds_toArray, List.set_cons_zero, List.set_cons_succ]
          refine wpAnyH_take (i := 5) (oi := { dst := some 37, op := Op.move (Operand.tmp 4), type := 3, pos := _, after := #[], guard := none }) (v := ?_) rfl (by kernel_rfl) (by kernel_rfl) (by kernel_rfl) (fun _ _ _ h => h) (Or.inl ⟨by rfl, ?hy⟩) (by assumption) ?_
          case hy => (intro w hSw; (try dsimp only at hSw); go_simp; try with_reducible rfl)
          try simp only [Act.put, List.setIfInBounds_toArray, List.set_cons_zero, List.set_cons_succ]
          refine wpAnyH_take (i := 8) (oi := { dst := some 40, op := Op.move (Operand.tmp 3), type := 22, pos := _, after := #[], guard := none }) (v := ?_) rfl (by kernel_rfl) (by kernel_rfl) (by kernel_rfl) (fun _ _ _ h => h) (Or.inl ⟨by rfl, ?hy⟩) (by assumption) ?_
          case hy => (intro w hSw; (try dsimp only at hSw); go_simp; try with_reducible rfl)
          try simp only [Act.put, List.setIfInBounds_toArray, List.set_cons_zero, List.set_cons_succ]
          refine wpAnyH_take (i := 9) (oi := { dst := some 41, op := Op.move (Operand.tmp 5), type := 3, pos := _, after := #[], guard := none }) (v := ?_) rfl (by kernel_rfl) (by kernel_rfl) (by kernel_rfl) (fun _ _ _ h => h) (Or.inl ⟨by rfl, ?hy⟩) (by assumption) ?_
          case hy => (intro w hSw; (try dsimp only at hSw); go_simp; try with_reducible rfl)
          try simp only [Act.put, List.setIfInBounds_toArray, List.set_cons_zero, List.set_cons_succ]
          refine wpAnyH_take (i := 10) (oi := { dst := some 42, op := Op.slice 22 (Operand.tmp 40) (some (Operand.tmp 41)) none none, type := 22, pos := _, after := #[{ on := 8, ground := Ground.data }, { on := 9, ground := Ground.data }], guard := none }) (v := .slice (some ⟨g, 0, none⟩) (i - (0)) (c' - (0))) rfl (by kernel_rfl) (by kernel_rfl) (by kernel_rfl) (fun _ _ _ h => h) (Or.inl ⟨by rfl, ?hy⟩) (by assumption) ?_
          case hy => (intro w hSw; (try dsimp only at hSw); go_simp <;> (try with_reducible rfl) <;> (try simp [HOE.out]))
          try simp only [Act.put, List.setIfInBounds_toArray, List.set_cons_zero, List.set_cons_succ]
          refine wpAnyH_ready (rs := [0, 6]) (by kernel_rfl) (by simp) ?_
          refine AllReadyH.cons (i := 0) (o := { dst := some 32, op := Op.buildSlice 22 0 #[], type := 22, pos := _, after := #[], guard := none }) rfl (fun KK hKK => ?_) (AllReadyH.cons (i := 6) (o := { dst := some 38, op := Op.buildSlice 22 1 #[(0, Operand.tmp 37)], type := 22, pos := _, after := #[{ on := 5, ground := Ground.data }], guard := none }) rfl (fun KK hKK => ?_) (AllReadyH.nil))
          · go_simp
            refine hKK.out _ _ (by exact hHeld.alloc _) (fun hHeld => ?_)
            clear hKK KK
            try simp only [Act.put, List.setIfInBounds_toArray, List.set_cons_zero, List.set_cons_succ]
            refine wpAnyH_ready (rs := [4, 6]) (by kernel_rfl) (by simp) ?_
            refine AllReadyH.cons (i := 4) (o := { dst := some 36, op := Op.call { callee := Callee.builtin Builtin.append, args := #[Operand.tmp 32, Operand.tmp 35], argTypes := #[22, 22] }, type := 22, pos := _, after := #[{ on := 0, ground := Ground.data }, { on := 3, ground := Ground.data }], guard := none }) rfl (fun KK hKK => ?_) (AllReadyH.cons (i := 6) (o := { dst := some 38, op := Op.buildSlice 22 1 #[(0, Operand.tmp 37)], type := 22, pos := _, after := #[{ on := 5, ground := Ground.data }], guard := none }) rfl (fun KK hKK => ?_) (AllReadyH.nil))
            · refine step_append_of (lo := B0) (hi := B0 + 1) (g := B0) (n0 := 0) (c0 := 0) (xs := []) (ys := castL (l.take (0))) rfl (.tmp 32) (.tmp 35) 22 rfl Tryd.underlying22 Tryd.infoI (by first | rfl | (rw [← HB0.out]; rfl) | (rw [← HB0.out]; simp [Act.eval])) rfl HYL.out.1 (HY4.out _ hHeld) HLA.out HYL.out.2.2.1 (by have := hHeld.size; have := HB0.out; first | omega | (simp; omega)) ?_
              intro g4 c4 w4 hO4 hW4
              have hO4b := hO4
              rw [List.length_nil, Nat.zero_add] at hO4b
              have H4b := Lib.hid hO4b
              clear hO4b
              have H4 := Lib.hid (And.intro hO4 (And.intro hW4 (And.intro (Within.grew hHeld hW4 (by have := HB0.out; omega)) (show B0 + 1 ≤ w4.heap.size from by have h1 := hW4.size; simp at h1; have := HB0.out; omega))))
              clear hO4 hW4
              refine hKK.out _ _ (by exact H4.out.2.2.1) (fun hHeld => ?_)
              clear hKK KK
              try simp only [Act.put, List.setIfInBounds_toArray, List.set_cons_zero, List.set_cons_succ]
              refine wpAnyH_ready (rs := [6]) (by kernel_rfl) (by simp) ?_
              refine AllReadyH.cons (i := 6) (o := { dst := some 38, op := Op.buildSlice 22 1 #[(0, Operand.tmp 37)], type := 22, pos := _, after := #[{ on := 5, ground := Ground.data }], guard := none }) rfl (fun KK hKK => ?_) (AllReadyH.nil)
              go_simp
              refine hKK.out _ _ (by exact hHeld.alloc _) (fun hHeld => ?_)
              clear hKK KK
              try simp only [Act.put, List.setIfInBounds_toArray, List.set_cons_zero, List.set_cons_succ]
              refine wpAnyH_ready (rs := [7]) (by kernel_rfl) (by simp) ?_
              refine AllReadyH.cons (i := 7) (o := { dst := some 39, op := Op.call { callee := Callee.builtin Builtin.append, args := #[Operand.tmp 36, Operand.tmp 38], argTypes := #[22, 22] }, type := 22, pos := _, after := #[{ on := 4, ground := Ground.data }, { on := 6, ground := Ground.data }, { on := 4, ground := Ground.chain }], guard := none }) rfl (fun KK hKK => ?_) (AllReadyH.nil)
              have HC7 : Hid (∀ j, j < ([(i : Int)]).length → World.cell? (w4.alloc (.cells #[.int .i64 i] 3)) ⟨w4.heap.size, 0 + j, none⟩ = some (.int .i64 (([(i : Int)]).getD j 0))) := Lib.hid (fun j hj => by
                have e0 : j = 0 := by (simp at hj; omega)
                subst e0
                simp)
              refine step_append_of (lo := B0) (hi := w4.heap.size) (g := g4) (n0 := _) (c0 := c4) (b := w4.heap.size) (o' := 0) (n := 1) (c := 1) (ys := [(i : Int)]) rfl (.tmp 36) (.tmp 38) 22 rfl Tryd.underlying22 Tryd.infoI rfl (by first | rfl | (rw [← HB0.out]; rfl) | (rw [← HB0.out]; simp [Act.eval])) rfl HC7.out (H4b.out.grew ((Grew.refl _).alloc _)) HYL.out.2.2.2.1 (by have := H4.out.2.2.2; first | omega | (simp; omega)) ?_
              intro g7 c7 w7 hO7 hW7
              have H7 := Lib.hid (And.intro hO7 (And.intro (Within.grew hHeld hW7 (by have := HB0.out; omega)) (show B0 + 1 ≤ w7.heap.size from by have h1 := hW7.size; have := H4.out.2.2.2; first | omega | (simp at h1; omega))))
              clear hO7 hW7 HC7 H4 H4b
              refine hKK.out _ _ (by exact H7.out.2.1) (fun hHeld => ?_)
              clear hKK KK
              try simp only [Act.put, List.setIfInBounds_toArray, List.set_cons_zero, List.set_cons_succ]
              refine wpAnyH_ready (rs := [11]) (by kernel_rfl) (by simp) ?_
              refine AllReadyH.cons (i := 11) (o := { dst := some 43, op := Op.call { callee := Callee.builtin Builtin.append, args := #[Operand.tmp 39, Operand.tmp 42], argTypes := #[22, 22] }, type := 22, pos := _, after := #[{ on := 7, ground := Ground.data }, { on := 10, ground := Ground.data }, { on := 7, ground := Ground.chain }], guard := none }) rfl (fun KK hKK => ?_) (AllReadyH.nil)
              refine step_append_of (lo := B0) (hi := w7.heap.size) (g := g7) (n0 := _) (c0 := c7) (b := g) (o' := 0) (ys := castL (l.drop (0))) rfl (.tmp 39) (.tmp 42) 22 rfl Tryd.underlying22 Tryd.infoI rfl rfl HYL.out.2.1 (HY11.out _ hHeld) H7.out.1 HYL.out.2.2.2.2 (by have := H7.out.2.2; omega) ?_
              intro g9 c9 w9 hO9 hW9
              have H9 := Lib.hid (And.intro (hO9.wide (show w.heap.size ≤ B0 from by have := HQ.out.2.size; have := HB0.out; omega) (Nat.le_refl _)) (HQ.out.2.trans (Within.grew hHeld hW9 (by have := HB0.out; omega))))
              have HW9 := Lib.hid (Within.grew hHeld hW9 (show W0.heap.size ≤ B0 from by have := HB0.out; omega))
              clear hO9 hW9 H7
              refine hKK.out _ _ (by exact HW9.out) (fun hHeld => ?_)
              clear hKK KK
              try simp only [Act.put, List.setIfInBounds_toArray, List.set_cons_zero, List.set_cons_succ]
              refine wpAnyH_take (i := 12) (oi := { dst := some 3, op := Op.assign (Operand.tmp 43), type := 22, pos := _, after := #[{ on := 11, ground := Ground.data }, { on := 11, ground := Ground.chain }, { on := 0, ground := Ground.phase }, { on := 1, ground := Ground.phase }, { on := 2, ground := Ground.phase }, { on := 3, ground := Ground.phase }, { on := 4, ground := Ground.phase }, { on := 5, ground := Ground.phase }, { on := 6, ground := Ground.phase }, { on := 7, ground := Ground.phase }, { on := 8, ground := Ground.phase }, { on := 9, ground := Ground.phase }, { on := 10, ground := Ground.phase }, { on := 11, ground := Ground.phase }], guard := none }) (v := ?_) rfl (by kernel_rfl) (by kernel_rfl) (by kernel_rfl) (fun _ _ _ h => h) (Or.inl ⟨by rfl, ?hy⟩) (by assumption) ?_
              case hy => (intro w hSw; (try dsimp only at hSw); go_simp; try with_reducible rfl)
              try simp only [Act.put, List.setIfInBounds_toArray, List.set_cons_zero, List.set_cons_succ]
              refine wpAnyH_done (by kernel_rfl) ?_ _
              refine NoPanic.normal ?_
              have HF : Hid (IntsO 3 w.heap.size w9.heap.size w9 (.slice (some ⟨g9, 0, none⟩) (i + 1) c9) (castL (ordTo p (i + 1))) ∧ Grew w w9) := Lib.hid (HNX.out _ _ _ H9.out)
              rw [HYS.out]
              clear H9 hHeld HYL HY4 HY11 HLA HLB HLC HNX HQ
              go_wp2
              go_roundw
              case rel => exact ⟨i + 1, g9, c9, by omega, by first | rfl | go_num, rfl, HF.out⟩
              case measure => simp [intOf]; omega
            · go_simp
              refine hKK.out _ _ (by exact hHeld.alloc _) (fun hHeld => ?_)
              clear hKK KK
              try simp only [Act.put, List.setIfInBounds_toArray, List.set_cons_zero, List.set_cons_succ]
              refine wpAnyH_ready (rs := [4]) (by kernel_rfl) (by simp) ?_
              refine AllReadyH.cons (i := 4) (o := { dst := some 36, op := Op.call { callee := Callee.builtin Builtin.append, args := #[Operand.tmp 32, Operand.tmp 35], argTypes := #[22, 22] }, type := 22, pos := _, after := #[{ on := 0, ground := Ground.data }, { on := 3, ground := Ground.data }], guard := none }) rfl (fun KK hKK => ?_) (AllReadyH.nil)
              refine step_append_of (lo := B0) (hi := B0 + 1) (g := B0) (n0 := 0) (c0 := 0) (xs := []) (ys := castL (l.take (0))) rfl (.tmp 32) (.tmp 35) 22 rfl Tryd.underlying22 Tryd.infoI (by first | rfl | (rw [← HB0.out]; rfl) | (rw [← HB0.out]; simp [Act.eval])) rfl HYL.out.1 (HY4.out _ hHeld) HLB.out HYL.out.2.2.1 (by have := hHeld.size; have := HB0.out; first | omega | (simp; omega)) ?_
              intro g4 c4 w4 hO4 hW4
              have hO4b := hO4
              rw [List.length_nil, Nat.zero_add] at hO4b
              have H4b := Lib.hid hO4b
              clear hO4b
              have H4 := Lib.hid (And.intro hO4 (And.intro hW4 (And.intro (Within.grew hHeld hW4 (by have := HB0.out; omega)) (show B0 + 1 ≤ w4.heap.size from by have h1 := hW4.size; simp at h1; have := HB0.out; omega))))
              clear hO4 hW4
              refine hKK.out _ _ (by exact H4.out.2.2.1) (fun hHeld => ?_)
              clear hKK KK
              try simp only [Act.put, List.setIfInBounds_toArray, List.set_cons_zero, List.set_cons_succ]
              refine wpAnyH_ready (rs := [7]) (by kernel_rfl) (by simp) ?_
              refine AllReadyH.cons (i := 7) (o := { dst := some 39, op := Op.call { callee := Callee.builtin Builtin.append, args := #[Operand.tmp 36, Operand.tmp 38], argTypes := #[22, 22] }, type := 22, pos := _, after := #[{ on := 4, ground := Ground.data }, { on := 6, ground := Ground.data }, { on := 4, ground := Ground.chain }], guard := none }) rfl (fun KK hKK => ?_) (AllReadyH.nil)
              have HC7 : Hid (∀ j, j < ([(i : Int)]).length → World.cell? w4 ⟨B0 + 1, 0 + j, none⟩ = some (.int .i64 (([(i : Int)]).getD j 0))) := Lib.hid (fun j hj => by
                have e0 : j = 0 := by (simp at hj; omega)
                subst e0
                exact H4.out.2.1.cell (p := ⟨B0 + 1, 0, none⟩) (by rw [← HB0.out]; simp) (.inr (Nat.le_refl _)))
              refine step_append_of (lo := B0) (hi := w4.heap.size) (g := g4) (n0 := _) (c0 := c4) (b := B0 + 1) (o' := 0) (n := 1) (c := 1) (ys := [(i : Int)]) rfl (.tmp 36) (.tmp 38) 22 rfl Tryd.underlying22 Tryd.infoI rfl (by first | rfl | (rw [← HB0.out]; rfl) | (rw [← HB0.out]; simp [Act.eval])) rfl HC7.out H4.out.1 HYL.out.2.2.2.1 (by have := H4.out.2.2.2; first | omega | (simp; omega)) ?_
              intro g7 c7 w7 hO7 hW7
              have H7 := Lib.hid (And.intro hO7 (And.intro (Within.grew hHeld hW7 (by have := HB0.out; omega)) (show B0 + 1 ≤ w7.heap.size from by have h1 := hW7.size; have := H4.out.2.2.2; first | omega | (simp at h1; omega))))
              clear hO7 hW7 HC7 H4 H4b
              refine hKK.out _ _ (by exact H7.out.2.1) (fun hHeld => ?_)
              clear hKK KK
              try simp only [Act.put, List.setIfInBounds_toArray, List.set_cons_zero, List.set_cons_succ]
              refine wpAnyH_ready (rs := [11]) (by kernel_rfl) (by simp) ?_
              refine AllReadyH.cons (i := 11) (o := { dst := some 43, op := Op.call { callee := Callee.builtin Builtin.append, args := #[Operand.tmp 39, Operand.tmp 42], argTypes := #[22, 22] }, type := 22, pos := _, after := #[{ on := 7, ground := Ground.data }, { on := 10, ground := Ground.data }, { on := 7, ground := Ground.chain }], guard := none }) rfl (fun KK hKK => ?_) (AllReadyH.nil)
              refine step_append_of (lo := B0) (hi := w7.heap.size) (g := g7) (n0 := _) (c0 := c7) (b := g) (o' := 0) (ys := castL (l.drop (0))) rfl (.tmp 39) (.tmp 42) 22 rfl Tryd.underlying22 Tryd.infoI rfl rfl HYL.out.2.1 (HY11.out _ hHeld) H7.out.1 HYL.out.2.2.2.2 (by have := H7.out.2.2; omega) ?_
              intro g9 c9 w9 hO9 hW9
              have H9 := Lib.hid (And.intro (hO9.wide (show w.heap.size ≤ B0 from by have := HQ.out.2.size; have := HB0.out; omega) (Nat.le_refl _)) (HQ.out.2.trans (Within.grew hHeld hW9 (by have := HB0.out; omega))))
              have HW9 := Lib.hid (Within.grew hHeld hW9 (show W0.heap.size ≤ B0 from by have := HB0.out; omega))
              clear hO9 hW9 H7
              refine hKK.out _ _ (by exact HW9.out) (fun hHeld => ?_)
              clear hKK KK
              try simp only [Act.put, List.setIfInBounds_toArray, List.set_cons_zero, List.set_cons_succ]
              refine wpAnyH_take (i := 12) (oi := { dst := some 3, op := Op.assign (Operand.tmp 43), type := 22, pos := _, after := #[{ on := 11, ground := Ground.data }, { on := 11, ground := Ground.chain }, { on := 0, ground := Ground.phase }, { on := 1, ground := Ground.phase }, { on := 2, ground := Ground.phase }, { on := 3, ground := Ground.phase }, { on := 4, ground := Ground.phase }, { on := 5, ground := Ground.phase }, { on := 6, ground := Ground.phase }, { on := 7, ground := Ground.phase }, { on := 8, ground := Ground.phase }, { on := 9, ground := Ground.phase }, { on := 10, ground := Ground.phase }, { on := 11, ground := Ground.phase }], guard := none }) (v := ?_) rfl (by kernel_rfl) (by kernel_rfl) (by kernel_rfl) (fun _ _ _ h => h) (Or.inl ⟨by rfl, ?hy⟩) (by assumption) ?_
              case hy => (intro w hSw; (try dsimp only at hSw); go_simp; try with_reducible rfl)
              try simp only [Act.put, List.setIfInBounds_toArray, List.set_cons_zero, List.set_cons_succ]
              refine wpAnyH_done (by kernel_rfl) ?_ _
              refine NoPanic.normal ?_
              have HF : Hid (IntsO 3 w.heap.size w9.heap.size w9 (.slice (some ⟨g9, 0, none⟩) (i + 1) c9) (castL (ordTo p (i + 1))) ∧ Grew w w9) := Lib.hid (HNX.out _ _ _ H9.out)
              rw [HYS.out]
              clear H9 hHeld HYL HY4 HY11 HLA HLB HLC HNX HQ
              go_wp2
              go_roundw
              case rel => exact ⟨i + 1, g9, c9, by omega, by first | rfl | go_num, rfl, HF.out⟩
              case measure => simp [intOf]; omega
          · go_simp
            refine hKK.out _ _ (by exact hHeld.alloc _) (fun hHeld => ?_)
            clear hKK KK
            try simp only [Act.put, List.setIfInBounds_toArray, List.set_cons_zero, List.set_cons_succ]
            refine wpAnyH_ready (rs := [0]) (by kernel_rfl) (by simp) ?_
            refine AllReadyH.cons (i := 0) (o := { dst := some 32, op := Op.buildSlice 22 0 #[], type := 22, pos := _, after := #[], guard := none }) rfl (fun KK hKK => ?_) (AllReadyH.nil)
            go_simp
            refine hKK.out _ _ (by exact hHeld.alloc _) (fun hHeld => ?_)
            clear hKK KK
            try simp only [Act.put, List.setIfInBounds_toArray, List.set_cons_zero, List.set_cons_succ]
            refine wpAnyH_ready (rs := [4]) (by kernel_rfl) (by simp) ?_
            refine AllReadyH.cons (i := 4) (o := { dst := some 36, op := Op.call { callee := Callee.builtin Builtin.append, args := #[Operand.tmp 32, Operand.tmp 35], argTypes := #[22, 22] }, type := 22, pos := _, after := #[{ on := 0, ground := Ground.data }, { on := 3, ground := Ground.data }], guard := none }) rfl (fun KK hKK => ?_) (AllReadyH.nil)
            refine step_append_of (lo := B0 + 1) (hi := B0 + 1 + 1) (g := B0 + 1) (n0 := 0) (c0 := 0) (xs := []) (ys := castL (l.take (0))) rfl (.tmp 32) (.tmp 35) 22 rfl Tryd.underlying22 Tryd.infoI (by first | rfl | (rw [← HB0.out]; rfl) | (rw [← HB0.out]; simp [Act.eval])) rfl HYL.out.1 (HY4.out _ hHeld) HLC.out HYL.out.2.2.1 (by have := hHeld.size; have := HB0.out; first | omega | (simp; omega)) ?_
            intro g4 c4 w4 hO4 hW4
            have hO4b := hO4
            rw [List.length_nil, Nat.zero_add] at hO4b
            have H4b := Lib.hid hO4b
            clear hO4b
            have H4 := Lib.hid (And.intro hO4 (And.intro hW4 (And.intro (Within.grew hHeld hW4 (by have := HB0.out; omega)) (show B0 + 1 ≤ w4.heap.size from by have h1 := hW4.size; simp at h1; have := HB0.out; omega))))
            clear hO4 hW4
            refine hKK.out _ _ (by exact H4.out.2.2.1) (fun hHeld => ?_)
            clear hKK KK
            try simp only [Act.put, List.setIfInBounds_toArray, List.set_cons_zero, List.set_cons_succ]
            refine wpAnyH_ready (rs := [7]) (by kernel_rfl) (by simp) ?_
            refine AllReadyH.cons (i := 7) (o := { dst := some 39, op := Op.call { callee := Callee.builtin Builtin.append, args := #[Operand.tmp 36, Operand.tmp 38], argTypes := #[22, 22] }, type := 22, pos := _, after := #[{ on := 4, ground := Ground.data }, { on := 6, ground := Ground.data }, { on := 4, ground := Ground.chain }], guard := none }) rfl (fun KK hKK => ?_) (AllReadyH.nil)
            have HC7 : Hid (∀ j, j < ([(i : Int)]).length → World.cell? w4 ⟨B0, 0 + j, none⟩ = some (.int .i64 (([(i : Int)]).getD j 0))) := Lib.hid (fun j hj => by
              have e0 : j = 0 := by (simp at hj; omega)
              subst e0
              exact H4.out.2.1.cell (p := ⟨B0, 0, none⟩) (by rw [← HB0.out]; simp) (.inl (Nat.lt_succ_self _)))
            refine step_append_of (lo := B0 + 1) (hi := w4.heap.size) (g := g4) (n0 := _) (c0 := c4) (b := B0) (o' := 0) (n := 1) (c := 1) (ys := [(i : Int)]) rfl (.tmp 36) (.tmp 38) 22 rfl Tryd.underlying22 Tryd.infoI rfl (by first | rfl | (rw [← HB0.out]; rfl) | (rw [← HB0.out]; simp [Act.eval])) rfl HC7.out H4.out.1 HYL.out.2.2.2.1 (by have := H4.out.2.2.2; first | omega | (simp; omega)) ?_
            intro g7 c7 w7 hO7 hW7
            have H7 := Lib.hid (And.intro hO7 (And.intro (Within.grew hHeld hW7 (by have := HB0.out; omega)) (show B0 + 1 ≤ w7.heap.size from by have h1 := hW7.size; have := H4.out.2.2.2; first | omega | (simp at h1; omega))))
            clear hO7 hW7 HC7 H4 H4b
            refine hKK.out _ _ (by exact H7.out.2.1) (fun hHeld => ?_)
            clear hKK KK
            try simp only [Act.put, List.setIfInBounds_toArray, List.set_cons_zero, List.set_cons_succ]
            refine wpAnyH_ready (rs := [11]) (by kernel_rfl) (by simp) ?_
            refine AllReadyH.cons (i := 11) (o := { dst := some 43, op := Op.call { callee := Callee.builtin Builtin.append, args := #[Operand.tmp 39, Operand.tmp 42], argTypes := #[22, 22] }, type := 22, pos := _, after := #[{ on := 7, ground := Ground.data }, { on := 10, ground := Ground.data }, { on := 7, ground := Ground.chain }], guard := none }) rfl (fun KK hKK => ?_) (AllReadyH.nil)
            refine step_append_of (lo := B0 + 1) (hi := w7.heap.size) (g := g7) (n0 := _) (c0 := c7) (b := g) (o' := 0) (ys := castL (l.drop (0))) rfl (.tmp 39) (.tmp 42) 22 rfl Tryd.underlying22 Tryd.infoI rfl rfl HYL.out.2.1 (HY11.out _ hHeld) H7.out.1 HYL.out.2.2.2.2 (by have := H7.out.2.2; omega) ?_
            intro g9 c9 w9 hO9 hW9
            have H9 := Lib.hid (And.intro (hO9.wide (show w.heap.size ≤ B0 + 1 from by have := HQ.out.2.size; have := HB0.out; omega) (Nat.le_refl _)) (HQ.out.2.trans (Within.grew hHeld hW9 (by have := HB0.out; omega))))
            have HW9 := Lib.hid (Within.grew hHeld hW9 (show W0.heap.size ≤ B0 + 1 from by have := HB0.out; omega))
            clear hO9 hW9 H7
            refine hKK.out _ _ (by exact HW9.out) (fun hHeld => ?_)
            clear hKK KK
            try simp only [Act.put, List.setIfInBounds_toArray, List.set_cons_zero, List.set_cons_succ]
            refine wpAnyH_take (i := 12) (oi := { dst := some 3, op := Op.assign (Operand.tmp 43), type := 22, pos := _, after := #[{ on := 11, ground := Ground.data }, { on := 11, ground := Ground.chain }, { on := 0, ground := Ground.phase }, { on := 1, ground := Ground.phase }, { on := 2, ground := Ground.phase }, { on := 3, ground := Ground.phase }, { on := 4, ground := Ground.phase }, { on := 5, ground := Ground.phase }, { on := 6, ground := Ground.phase }, { on := 7, ground := Ground.phase }, { on := 8, ground := Ground.phase }, { on := 9, ground := Ground.phase }, { on := 10, ground := Ground.phase }, { on := 11, ground := Ground.phase }], guard := none }) (v := ?_) rfl (by kernel_rfl) (by kernel_rfl) (by kernel_rfl) (fun _ _ _ h => h) (Or.inl ⟨by rfl, ?hy⟩) (by assumption) ?_
            case hy => (intro w hSw; (try dsimp only at hSw); go_simp; try with_reducible rfl)
            try simp only [Act.put, List.setIfInBounds_toArray, List.set_cons_zero, List.set_cons_succ]
            refine wpAnyH_done (by kernel_rfl) ?_ _
            refine NoPanic.normal ?_
            have HF : Hid (IntsO 3 w.heap.size w9.heap.size w9 (.slice (some ⟨g9, 0, none⟩) (i + 1) c9) (castL (ordTo p (i + 1))) ∧ Grew w w9) := Lib.hid (HNX.out _ _ _ H9.out)
            rw [HYS.out]
            clear H9 hHeld HYL HY4 HY11 HLA HLB HLC HNX HQ
            go_wp2
            go_roundw
            case rel => exact ⟨i + 1, g9, c9, by omega, by first | rfl | go_num, rfl, HF.out⟩
            case measure => simp [intOf]; omega
        | succ k =>
          have hkl : k < l.length := by omega
          have hcl := (hOq.at rfl (i := k) (by rw [castL_len]; exact hkl)).1
          rw [castL_at _ _ hkl] at hcl
          have hxN : l.getD k 0 < N := by
            have hmm : l.getD k 0 ∈ ordTo p i := by rw [HEL.out, List.getD_eq_getElem?_getD, List.getElem?_eq_getElem hkl]; exact List.getElem_mem _
            have := mem_ordTo.1 hmm
            omega
          have HA1 := Lib.hid (HAT.out (l.getD k 0) (wr.drewN q) (HI.out.2.trans hgw) hxN)
          have HA2 := Lib.hid (fun (q2 : Nat) => HAT.out i (wr.drewN (q + q2)) (HI.out.2.drewN _) hlt)
          have hstep : posO l p (p.getD i 0) (k + 1) = if p.getD i 0 < p.getD (l.getD k 0) 0 then posO l p (p.getD i 0) k else k + 1 := rfl
          rw [hstep] at hkp
          obtain ⟨z, ez⟩ : ∃ z, l.getD k 0 = z := ⟨_, rfl⟩
          rw [ez] at hcl HA1 hkp
          obtain ⟨x, ex⟩ : ∃ x, p.getD i 0 = x := ⟨_, rfl⟩
          obtain ⟨y, ey⟩ : ∃ y, p.getD z 0 = y := ⟨_, rfl⟩
          rw [ex] at HA2 hkp HK
          rw [ey] at HA1 hkp
          have HEX := Lib.hid ex
          have w1 : IntKind.i64.wrap (((k + 1 : Nat) : Int) - 1) = (k : Int) := by rw [IntWalk.i64_in _ (by omega)]; omega
          have r1 : ((k : Nat) : Int) < i := by omega
          have r2 : (0 : Int) ≤ (k : Int) := by omega
          have r3 : (0 : Int) < ((k + 1 : Nat) : Int) := by omega
          by_cases hc : x < y
          · rw [if_pos hc] at hkp
            have HP : Hid (posO l p x i = posO l p x k) := Lib.hid hkp
            clear hkp HK hgw hOq hgl hstep ez ex ey hxN hkl
            go_wp2_with (fail)
            refine HA1.out.mono ?_
            rintro e w5 ⟨rfl, q1, rfl⟩
            go_wp2_with (fail)
            refine (HA2.out q1).mono ?_
            rintro e w6 ⟨rfl, q2, rfl⟩
            go_wp2
            go_roundw
            case rel => exact ⟨k, by omega, by first | rfl | go_num, Lib.hid ⟨by rw [HEX.out]; exact HP.out, _, rfl⟩⟩
            case measure => simp [intOf]
          · rw [if_neg hc] at hkp
            have HP : Hid (posO l p x i = k + 1) := Lib.hid hkp
            clear hkp HK hgw hOq hgl hstep ez ex ey hxN hkl
            go_wp2_with (fail)
            refine HA1.out.mono ?_
            rintro e w5 ⟨rfl, q1, rfl⟩
            go_wp2_with (fail)
            refine (HA2.out q1).mono ?_
            rintro e w6 ⟨rfl, q2, rfl⟩
            go_wp2
            obtain ⟨W0, eW0⟩ : ∃ W0, wr.drewN (q + q1 + q2) = W0 := ⟨_, rfl⟩
            have HQ : Hid (IntsV W0 (.slice (some ⟨g, 0, none⟩) i c') (castL l) ∧ Grew w W0) := Lib.hid (by rw [← eW0]; exact ⟨(HI.out.1.grew ((Grew.refl _).drewN _)).toV, HI.out.2.drewN _⟩)
            rw [eW0]
            clear HI eW0
            obtain ⟨O, eO⟩ : ∃ O, (if c' = k + 1 then 0 else k + 1) = O := ⟨_, rfl⟩
            have HOE : Hid ((if c' = k + 1 then (some ⟨g, 0, none⟩ : Option Addr) else some ⟨g, k + 1, none⟩) = some ⟨g, O, none⟩) := Lib.hid (by rw [← eO]; split <;> rfl)
            have hkc : (k : Int) + 1 ≤ c' := by omega
            have hki : (k : Int) + 1 ≤ i := by omega
            have hk0 : (0 : Int) ≤ (k : Int) + 1 := by omega
            have HNX : Hid (∀ (g9 c9 : Nat) (w9 : World), (IntsO 3 w.heap.size w9.heap.size w9 (.slice (some ⟨g9, 0, none⟩) ((([] ++ castL (l.take (k + 1))) ++ [(i : Int)]).length + (castL (l.drop (k + 1))).length) c9) ((([] ++ castL (l.take (k + 1))) ++ [(i : Int)]) ++ castL (l.drop (k + 1))) ∧ Grew w w9) → IntsO 3 w.heap.size w9.heap.size w9 (.slice (some ⟨g9, 0, none⟩) (i + 1) c9) (castL (ordTo p (i + 1))) ∧ Grew w w9) := Lib.hid (fun g9 c9 w9 hh => by
              rw [castL_ins] at hh
              have e1 : (([] ++ castL (l.take (k + 1))) ++ [(i : Int)]).length + (castL (l.drop (k + 1))).length = i + 1 := by
                rw [List.nil_append, List.length_append, castL_len, castL_len, List.length_take, List.length_drop, List.length_singleton]; omega
              rw [e1] at hh
              have e2 : ordTo p (i + 1) = l.take (k + 1) ++ i :: l.drop (k + 1) := by
                rw [ordTo, HEL.out, hll, show posO l p (p.getD i 0) i = k + 1 from by rw [HEX.out]; exact HP.out]
              rw [e2]; exact hh)
            have HB0 : Hid (W0.heap.size = W0.heap.size) := Lib.hid rfl
            obtain ⟨B0, eB0⟩ : ∃ B0, W0.heap.size = B0 := ⟨_, rfl⟩
            have HB0 := Lib.hid eB0
            have HYS : Hid ((castL (l.take (k + 1))).length + 1 + (castL (l.drop (k + 1))).length = i + 1) := Lib.hid (by
              first | (rw [castL_len, castL_len, List.length_take, List.length_drop]; omega) | (rw [castL_len, castL_len, hll]; simp; omega))
            have HYL : Hid ((k + 1) = (castL (l.take (k + 1))).length ∧ i - (k + 1) = (castL (l.drop (k + 1))).length ∧ ([] : List Int).length + (castL (l.take (k + 1))).length ≤ 17592186044416 ∧ ([] ++ castL (l.take (k + 1))).length + [(i : Int)].length ≤ 17592186044416 ∧ (([] ++ castL (l.take (k + 1))) ++ [(i : Int)]).length + (castL (l.drop (k + 1))).length ≤ 17592186044416) := Lib.hid (by
              simp only [List.nil_append, List.length_append, castL_len, List.length_take, List.length_drop, List.length_singleton, List.length_nil]
              omega)
            have HCE : ∀ W, Grew W0 W → ∀ j, j < i → W.cell? ⟨g, j, none⟩ = some (.int .i64 ((castL l).getD j 0)) := fun W hW j hj => by
              have := NumsV.at (HQ.out.1.grew hW) j (by rw [castL_len, hll]; exact hj)
              simpa using this
            have HY4 : Hid (∀ W, Grew W0 W → ∀ j, j < (castL (l.take (k + 1))).length → W.cell? ⟨g, 0 + j, none⟩ = some (.int .i64 ((castL (l.take (k + 1))).getD j 0))) := Lib.hid (fun W hW j hj => by
              have hj2 : j < k + 1 := by rw [castL_len, List.length_take] at hj; omega
              rw [Nat.zero_add, HCE W hW j (by omega), castL_take]
              congr 2
              rw [List.getD_eq_getElem?_getD, List.getD_eq_getElem?_getD, List.getElem?_take_of_lt hj2])
            have HY11 : Hid (∀ W, Grew W0 W → ∀ j, j < (castL (l.drop (k + 1))).length → W.cell? ⟨g, O + j, none⟩ = some (.int .i64 ((castL (l.drop (k + 1))).getD j 0))) := Lib.hid (fun W hW j hj => by
              have hj2 : (k + 1) + j < i := by rw [castL_len, List.length_drop] at hj; omega
              have hO : O = k + 1 := (by rw [← eO]; split <;> omega)
              rw [hO, HCE W hW _ hj2, castL_drop]
              congr 2
              rw [List.getD_eq_getElem?_getD, List.getD_eq_getElem?_getD, List.getElem?_drop])
            have HLA : Hid (IntsO 3 B0 (B0 + 1) (W0.drew.alloc (.cells #[] 3)) (.slice (some ⟨B0, 0, none⟩) 0 0) []) := Lib.hid (by
              have := IntsO.lit 3 W0.drew.heap.size W0.drew [] #[] rfl (Nat.le_refl _) (by decide)
              rw [← eB0]; exact this)
            have HLB : Hid (IntsO 3 B0 (B0 + 1) ((W0.drew.alloc (.cells #[] 3)).alloc (.cells #[.int .i64 i] 3)) (.slice (some ⟨B0, 0, none⟩) 0 0) []) := Lib.hid (HLA.out.grew ((Grew.refl _).alloc _))
            have HLC : Hid (IntsO 3 (B0 + 1) (B0 + 1 + 1) ((W0.drew.alloc (.cells #[.int .i64 i] 3)).alloc (.cells #[] 3)) (.slice (some ⟨B0 + 1, 0, none⟩) 0 0) []) := Lib.hid (by
              have := IntsO.lit 3 (W0.drew.alloc (.cells #[.int .i64 i] 3)).heap.size (W0.drew.alloc (.cells #[.int .i64 i] 3)) [] #[] rfl (Nat.le_refl _) (by decide)
              have e3 : (W0.drew.alloc (.cells #[.int .i64 i] 3)).heap.size = B0 + 1 := by rw [← eB0]; simp
              rw [e3] at this; exact this)
            clear HCE eB0
            clear eO
            refine wp_region_noPanic ?_
            refine wp_region_held_drew (S := fun W => Grew W0 W) (by kernel_rfl) (by exact (Grew.refl W0).drew) (fun hHeld => ?_)
            refine wpAnyH_take (i := 1) (oi := { dst := some 33, op := Op.move (Operand.tmp 3), type := 22, pos := _, after := #[], guard := none }) (v := ?_) rfl (by kernel_rfl) (by kernel_rfl) (by kernel_rfl) (fun _ _ _ h => h) (Or.inl ⟨by rfl, ?hy⟩) (by assumption) ?_
            case hy => (intro w hSw; (try dsimp only at hSw); go_simp; try with_reducible rfl)
            try simp only [Act.put, List.setIfInBounds_toArray, List.set_cons_zero, List.set_cons_succ]
            refine wpAnyH_take (i := 2) (oi := { dst := some 34, op := Op.move (Operand.tmp 5), type := 3, pos := _, after := #[], guard := none }) (v := ?_) rfl (by kernel_rfl) (by kernel_rfl) (by kernel_rfl) (fun _ _ _ h => h) (Or.inl ⟨by rfl, ?hy⟩) (by assumption) ?_
            case hy => (intro w hSw; (try dsimp only at hSw); go_simp; try with_reducible rfl)
            try simp only [Act.put, List.setIfInBounds_toArray, List.set_cons_zero, List.set_cons_succ]
            refine wpAnyH_take (i := 3) (oi := { dst := some 35, op := Op.slice 22 (Operand.tmp 33) none (some (Operand.tmp 34)) none, type := 22, pos := _, after := #[{ on := 1, ground := Ground.data }, { on := 2, ground := Ground.data }], guard := none }) (v := ?_) rfl (by kernel_rfl) (by kernel_rfl) (by kernel_rfl) (fun _ _ _ h => h) (Or.inl ⟨by rfl, ?hy⟩) (by assumption) ?_
            case hy => (intro w hSw; (try dsimp only at hSw); go_simp; try with_reducible rfl)
            try simp only [Act.put, List.setIfInBounds_toArray, List.set_cons_zero, List.set_cons_succ]
            refine wpAnyH_take (i := 5) (oi := { dst := some 37, op := Op.move (Operand.tmp 4), type := 3, pos := _, after := #[], guard := none }) (v := ?_) rfl (by kernel_rfl) (by kernel_rfl) (by kernel_rfl) (fun _ _ _ h => h) (Or.inl ⟨by rfl, ?hy⟩) (by assumption) ?_
            case hy => (intro w hSw; (try dsimp only at hSw); go_simp; try with_reducible rfl)
            try simp only [Act.put, List.setIfInBounds_toArray, List.set_cons_zero, List.set_cons_succ]
            refine wpAnyH_take (i := 8) (oi := { dst := some 40, op := Op.move (Operand.tmp 3), type := 22, pos := _, after := #[], guard := none }) (v := ?_) rfl (by kernel_rfl) (by kernel_rfl) (by kernel_rfl) (fun _ _ _ h => h) (Or.inl ⟨by rfl, ?hy⟩) (by assumption) ?_
            case hy => (intro w hSw; (try dsimp only at hSw); go_simp; try with_reducible rfl)
            try simp only [Act.put, List.setIfInBounds_toArray, List.set_cons_zero, List.set_cons_succ]
            refine wpAnyH_take (i := 9) (oi := { dst := some 41, op := Op.move (Operand.tmp 5), type := 3, pos := _, after := #[], guard := none }) (v := ?_) rfl (by kernel_rfl) (by kernel_rfl) (by kernel_rfl) (fun _ _ _ h => h) (Or.inl ⟨by rfl, ?hy⟩) (by assumption) ?_
            case hy => (intro w hSw; (try dsimp only at hSw); go_simp; try with_reducible rfl)
            try simp only [Act.put, List.setIfInBounds_toArray, List.set_cons_zero, List.set_cons_succ]
            refine wpAnyH_take (i := 10) (oi := { dst := some 42, op := Op.slice 22 (Operand.tmp 40) (some (Operand.tmp 41)) none none, type := 22, pos := _, after := #[{ on := 8, ground := Ground.data }, { on := 9, ground := Ground.data }], guard := none }) (v := .slice (some ⟨g, O, none⟩) (i - (k + 1)) (c' - (k + 1))) rfl (by kernel_rfl) (by kernel_rfl) (by kernel_rfl) (fun _ _ _ h => h) (Or.inl ⟨by rfl, ?hy⟩) (by assumption) ?_
            case hy => (intro w hSw; (try dsimp only at hSw); go_simp <;> (try with_reducible rfl) <;> (try simp [HOE.out]))
            try simp only [Act.put, List.setIfInBounds_toArray, List.set_cons_zero, List.set_cons_succ]
            refine wpAnyH_ready (rs := [0, 6]) (by kernel_rfl) (by simp) ?_
            refine AllReadyH.cons (i := 0) (o := { dst := some 32, op := Op.buildSlice 22 0 #[], type := 22, pos := _, after := #[], guard := none }) rfl (fun KK hKK => ?_) (AllReadyH.cons (i := 6) (o := { dst := some 38, op := Op.buildSlice 22 1 #[(0, Operand.tmp 37)], type := 22, pos := _, after := #[{ on := 5, ground := Ground.data }], guard := none }) rfl (fun KK hKK => ?_) (AllReadyH.nil))
            · go_simp
              refine hKK.out _ _ (by exact hHeld.alloc _) (fun hHeld => ?_)
              clear hKK KK
              try simp only [Act.put, List.setIfInBounds_toArray, List.set_cons_zero, List.set_cons_succ]
              refine wpAnyH_ready (rs := [4, 6]) (by kernel_rfl) (by simp) ?_
              refine AllReadyH.cons (i := 4) (o := { dst := some 36, op := Op.call { callee := Callee.builtin Builtin.append, args := #[Operand.tmp 32, Operand.tmp 35], argTypes := #[22, 22] }, type := 22, pos := _, after := #[{ on := 0, ground := Ground.data }, { on := 3, ground := Ground.data }], guard := none }) rfl (fun KK hKK => ?_) (AllReadyH.cons (i := 6) (o := { dst := some 38, op := Op.buildSlice 22 1 #[(0, Operand.tmp 37)], type := 22, pos := _, after := #[{ on := 5, ground := Ground.data }], guard := none }) rfl (fun KK hKK => ?_) (AllReadyH.nil))
              · refine step_append_of (lo := B0) (hi := B0 + 1) (g := B0) (n0 := 0) (c0 := 0) (xs := []) (ys := castL (l.take (k + 1))) rfl (.tmp 32) (.tmp 35) 22 rfl Tryd.underlying22 Tryd.infoI (by first | rfl | (rw [← HB0.out]; rfl) | (rw [← HB0.out]; simp [Act.eval])) rfl HYL.out.1 (HY4.out _ hHeld) HLA.out HYL.out.2.2.1 (by have := hHeld.size; have := HB0.out; first | omega | (simp; omega)) ?_
                intro g4 c4 w4 hO4 hW4
                have hO4b := hO4
                rw [List.length_nil, Nat.zero_add] at hO4b
                have H4b := Lib.hid hO4b
                clear hO4b
                have H4 := Lib.hid (And.intro hO4 (And.intro hW4 (And.intro (Within.grew hHeld hW4 (by have := HB0.out; omega)) (show B0 + 1 ≤ w4.heap.size from by have h1 := hW4.size; simp at h1; have := HB0.out; omega))))
                clear hO4 hW4
                refine hKK.out _ _ (by exact H4.out.2.2.1) (fun hHeld => ?_)
                clear hKK KK
                try simp only [Act.put, List.setIfInBounds_toArray, List.set_cons_zero, List.set_cons_succ]
                refine wpAnyH_ready (rs := [6]) (by kernel_rfl) (by simp) ?_
                refine AllReadyH.cons (i := 6) (o := { dst := some 38, op := Op.buildSlice 22 1 #[(0, Operand.tmp 37)], type := 22, pos := _, after := #[{ on := 5, ground := Ground.data }], guard := none }) rfl (fun KK hKK => ?_) (AllReadyH.nil)
                go_simp
                refine hKK.out _ _ (by exact hHeld.alloc _) (fun hHeld => ?_)
                clear hKK KK
                try simp only [Act.put, List.setIfInBounds_toArray, List.set_cons_zero, List.set_cons_succ]
                refine wpAnyH_ready (rs := [7]) (by kernel_rfl) (by simp) ?_
                refine AllReadyH.cons (i := 7) (o := { dst := some 39, op := Op.call { callee := Callee.builtin Builtin.append, args := #[Operand.tmp 36, Operand.tmp 38], argTypes := #[22, 22] }, type := 22, pos := _, after := #[{ on := 4, ground := Ground.data }, { on := 6, ground := Ground.data }, { on := 4, ground := Ground.chain }], guard := none }) rfl (fun KK hKK => ?_) (AllReadyH.nil)
                have HC7 : Hid (∀ j, j < ([(i : Int)]).length → World.cell? (w4.alloc (.cells #[.int .i64 i] 3)) ⟨w4.heap.size, 0 + j, none⟩ = some (.int .i64 (([(i : Int)]).getD j 0))) := Lib.hid (fun j hj => by
                  have e0 : j = 0 := by (simp at hj; omega)
                  subst e0
                  simp)
                refine step_append_of (lo := B0) (hi := w4.heap.size) (g := g4) (n0 := _) (c0 := c4) (b := w4.heap.size) (o' := 0) (n := 1) (c := 1) (ys := [(i : Int)]) rfl (.tmp 36) (.tmp 38) 22 rfl Tryd.underlying22 Tryd.infoI rfl (by first | rfl | (rw [← HB0.out]; rfl) | (rw [← HB0.out]; simp [Act.eval])) rfl HC7.out (H4b.out.grew ((Grew.refl _).alloc _)) HYL.out.2.2.2.1 (by have := H4.out.2.2.2; first | omega | (simp; omega)) ?_
                intro g7 c7 w7 hO7 hW7
                have H7 := Lib.hid (And.intro hO7 (And.intro (Within.grew hHeld hW7 (by have := HB0.out; omega)) (show B0 + 1 ≤ w7.heap.size from by have h1 := hW7.size; have := H4.out.2.2.2; first | omega | (simp at h1; omega))))
                clear hO7 hW7 HC7 H4 H4b
                refine hKK.out _ _ (by exact H7.out.2.1) (fun hHeld => ?_)
                clear hKK KK
                try simp only [Act.put, List.setIfInBounds_toArray, List.set_cons_zero, List.set_cons_succ]
                refine wpAnyH_ready (rs := [11]) (by kernel_rfl) (by simp) ?_
                refine AllReadyH.cons (i := 11) (o := { dst := some 43, op := Op.call { callee := Callee.builtin Builtin.append, args := #[Operand.tmp 39, Operand.tmp 42], argTypes := #[22, 22] }, type := 22, pos := _, after := #[{ on := 7, ground := Ground.data }, { on := 10, ground := Ground.data }, { on := 7, ground := Ground.chain }], guard := none }) rfl (fun KK hKK => ?_) (AllReadyH.nil)
                refine step_append_of (lo := B0) (hi := w7.heap.size) (g := g7) (n0 := _) (c0 := c7) (b := g) (o' := O) (ys := castL (l.drop (k + 1))) rfl (.tmp 39) (.tmp 42) 22 rfl Tryd.underlying22 Tryd.infoI rfl rfl HYL.out.2.1 (HY11.out _ hHeld) H7.out.1 HYL.out.2.2.2.2 (by have := H7.out.2.2; omega) ?_
                intro g9 c9 w9 hO9 hW9
                have H9 := Lib.hid (And.intro (hO9.wide (show w.heap.size ≤ B0 from by have := HQ.out.2.size; have := HB0.out; omega) (Nat.le_refl _)) (HQ.out.2.trans (Within.grew hHeld hW9 (by have := HB0.out; omega))))
                have HW9 := Lib.hid (Within.grew hHeld hW9 (show W0.heap.size ≤ B0 from by have := HB0.out; omega))
                clear hO9 hW9 H7
                refine hKK.out _ _ (by exact HW9.out) (fun hHeld => ?_)
                clear hKK KK
                try simp only [Act.put, List.setIfInBounds_toArray, List.set_cons_zero, List.set_cons_succ]
                refine wpAnyH_take (i := 12) (oi := { dst := some 3, op := Op.assign (Operand.tmp 43), type := 22, pos := _, after := #[{ on := 11, ground := Ground.data }, { on := 11, ground := Ground.chain }, { on := 0, ground := Ground.phase }, { on := 1, ground := Ground.phase }, { on := 2, ground := Ground.phase }, { on := 3, ground := Ground.phase }, { on := 4, ground := Ground.phase }, { on := 5, ground := Ground.phase }, { on := 6, ground := Ground.phase }, { on := 7, ground := Ground.phase }, { on := 8, ground := Ground.phase }, { on := 9, ground := Ground.phase }, { on := 10, ground := Ground.phase }, { on := 11, ground := Ground.phase }], guard := none }) (v := ?_) rfl (by kernel_rfl) (by kernel_rfl) (by kernel_rfl) (fun _ _ _ h => h) (Or.inl ⟨by rfl, ?hy⟩) (by assumption) ?_
                case hy => (intro w hSw; (try dsimp only at hSw); go_simp; try with_reducible rfl)
                try simp only [Act.put, List.setIfInBounds_toArray, List.set_cons_zero, List.set_cons_succ]
                refine wpAnyH_done (by kernel_rfl) ?_ _
                refine NoPanic.normal ?_
                have HF : Hid (IntsO 3 w.heap.size w9.heap.size w9 (.slice (some ⟨g9, 0, none⟩) (i + 1) c9) (castL (ordTo p (i + 1))) ∧ Grew w w9) := Lib.hid (HNX.out _ _ _ H9.out)
                rw [HYS.out]
                clear H9 hHeld HYL HY4 HY11 HLA HLB HLC HNX HQ
                go_wp2
                go_roundw
                case rel => exact ⟨i + 1, g9, c9, by omega, by first | rfl | go_num, rfl, HF.out⟩
                case measure => simp [intOf]; omega
              · go_simp
                refine hKK.out _ _ (by exact hHeld.alloc _) (fun hHeld => ?_)
                clear hKK KK
                try simp only [Act.put, List.setIfInBounds_toArray, List.set_cons_zero, List.set_cons_succ]
                refine wpAnyH_ready (rs := [4]) (by kernel_rfl) (by simp) ?_
                refine AllReadyH.cons (i := 4) (o := { dst := some 36, op := Op.call { callee := Callee.builtin Builtin.append, args := #[Operand.tmp 32, Operand.tmp 35], argTypes := #[22, 22] }, type := 22, pos := _, after := #[{ on := 0, ground := Ground.data }, { on := 3, ground := Ground.data }], guard := none }) rfl (fun KK hKK => ?_) (AllReadyH.nil)
                refine step_append_of (lo := B0) (hi := B0 + 1) (g := B0) (n0 := 0) (c0 := 0) (xs := []) (ys := castL (l.take (k + 1))) rfl (.tmp 32) (.tmp 35) 22 rfl Tryd.underlying22 Tryd.infoI (by first | rfl | (rw [← HB0.out]; rfl) | (rw [← HB0.out]; simp [Act.eval])) rfl HYL.out.1 (HY4.out _ hHeld) HLB.out HYL.out.2.2.1 (by have := hHeld.size; have := HB0.out; first | omega | (simp; omega)) ?_
                intro g4 c4 w4 hO4 hW4
                have hO4b := hO4
                rw [List.length_nil, Nat.zero_add] at hO4b
                have H4b := Lib.hid hO4b
                clear hO4b
                have H4 := Lib.hid (And.intro hO4 (And.intro hW4 (And.intro (Within.grew hHeld hW4 (by have := HB0.out; omega)) (show B0 + 1 ≤ w4.heap.size from by have h1 := hW4.size; simp at h1; have := HB0.out; omega))))
                clear hO4 hW4
                refine hKK.out _ _ (by exact H4.out.2.2.1) (fun hHeld => ?_)
                clear hKK KK
                try simp only [Act.put, List.setIfInBounds_toArray, List.set_cons_zero, List.set_cons_succ]
                refine wpAnyH_ready (rs := [7]) (by kernel_rfl) (by simp) ?_
                refine AllReadyH.cons (i := 7) (o := { dst := some 39, op := Op.call { callee := Callee.builtin Builtin.append, args := #[Operand.tmp 36, Operand.tmp 38], argTypes := #[22, 22] }, type := 22, pos := _, after := #[{ on := 4, ground := Ground.data }, { on := 6, ground := Ground.data }, { on := 4, ground := Ground.chain }], guard := none }) rfl (fun KK hKK => ?_) (AllReadyH.nil)
                have HC7 : Hid (∀ j, j < ([(i : Int)]).length → World.cell? w4 ⟨B0 + 1, 0 + j, none⟩ = some (.int .i64 (([(i : Int)]).getD j 0))) := Lib.hid (fun j hj => by
                  have e0 : j = 0 := by (simp at hj; omega)
                  subst e0
                  exact H4.out.2.1.cell (p := ⟨B0 + 1, 0, none⟩) (by rw [← HB0.out]; simp) (.inr (Nat.le_refl _)))
                refine step_append_of (lo := B0) (hi := w4.heap.size) (g := g4) (n0 := _) (c0 := c4) (b := B0 + 1) (o' := 0) (n := 1) (c := 1) (ys := [(i : Int)]) rfl (.tmp 36) (.tmp 38) 22 rfl Tryd.underlying22 Tryd.infoI rfl (by first | rfl | (rw [← HB0.out]; rfl) | (rw [← HB0.out]; simp [Act.eval])) rfl HC7.out H4.out.1 HYL.out.2.2.2.1 (by have := H4.out.2.2.2; first | omega | (simp; omega)) ?_
                intro g7 c7 w7 hO7 hW7
                have H7 := Lib.hid (And.intro hO7 (And.intro (Within.grew hHeld hW7 (by have := HB0.out; omega)) (show B0 + 1 ≤ w7.heap.size from by have h1 := hW7.size; have := H4.out.2.2.2; first | omega | (simp at h1; omega))))
                clear hO7 hW7 HC7 H4 H4b
                refine hKK.out _ _ (by exact H7.out.2.1) (fun hHeld => ?_)
                clear hKK KK
                try simp only [Act.put, List.setIfInBounds_toArray, List.set_cons_zero, List.set_cons_succ]
                refine wpAnyH_ready (rs := [11]) (by kernel_rfl) (by simp) ?_
                refine AllReadyH.cons (i := 11) (o := { dst := some 43, op := Op.call { callee := Callee.builtin Builtin.append, args := #[Operand.tmp 39, Operand.tmp 42], argTypes := #[22, 22] }, type := 22, pos := _, after := #[{ on := 7, ground := Ground.data }, { on := 10, ground := Ground.data }, { on := 7, ground := Ground.chain }], guard := none }) rfl (fun KK hKK => ?_) (AllReadyH.nil)
                refine step_append_of (lo := B0) (hi := w7.heap.size) (g := g7) (n0 := _) (c0 := c7) (b := g) (o' := O) (ys := castL (l.drop (k + 1))) rfl (.tmp 39) (.tmp 42) 22 rfl Tryd.underlying22 Tryd.infoI rfl rfl HYL.out.2.1 (HY11.out _ hHeld) H7.out.1 HYL.out.2.2.2.2 (by have := H7.out.2.2; omega) ?_
                intro g9 c9 w9 hO9 hW9
                have H9 := Lib.hid (And.intro (hO9.wide (show w.heap.size ≤ B0 from by have := HQ.out.2.size; have := HB0.out; omega) (Nat.le_refl _)) (HQ.out.2.trans (Within.grew hHeld hW9 (by have := HB0.out; omega))))
                have HW9 := Lib.hid (Within.grew hHeld hW9 (show W0.heap.size ≤ B0 from by have := HB0.out; omega))
                clear hO9 hW9 H7
                refine hKK.out _ _ (by exact HW9.out) (fun hHeld => ?_)
                clear hKK KK
                try simp only [Act.put, List.setIfInBounds_toArray, List.set_cons_zero, List.set_cons_succ]
                refine wpAnyH_take (i := 12) (oi := { dst := some 3, op := Op.assign (Operand.tmp 43), type := 22, pos := _, after := #[{ on := 11, ground := Ground.data }, { on := 11, ground := Ground.chain }, { on := 0, ground := Ground.phase }, { on := 1, ground := Ground.phase }, { on := 2, ground := Ground.phase }, { on := 3, ground := Ground.phase }, { on := 4, ground := Ground.phase }, { on := 5, ground := Ground.phase }, { on := 6, ground := Ground.phase }, { on := 7, ground := Ground.phase }, { on := 8, ground := Ground.phase }, { on := 9, ground := Ground.phase }, { on := 10, ground := Ground.phase }, { on := 11, ground := Ground.phase }], guard := none }) (v := ?_) rfl (by kernel_rfl) (by kernel_rfl) (by kernel_rfl) (fun _ _ _ h => h) (Or.inl ⟨by rfl, ?hy⟩) (by assumption) ?_
                case hy => (intro w hSw; (try dsimp only at hSw); go_simp; try with_reducible rfl)
                try simp only [Act.put, List.setIfInBounds_toArray, List.set_cons_zero, List.set_cons_succ]
                refine wpAnyH_done (by kernel_rfl) ?_ _
                refine NoPanic.normal ?_
                have HF : Hid (IntsO 3 w.heap.size w9.heap.size w9 (.slice (some ⟨g9, 0, none⟩) (i + 1) c9) (castL (ordTo p (i + 1))) ∧ Grew w w9) := Lib.hid (HNX.out _ _ _ H9.out)
                rw [HYS.out]
                clear H9 hHeld HYL HY4 HY11 HLA HLB HLC HNX HQ
                go_wp2
                go_roundw
                case rel => exact ⟨i + 1, g9, c9, by omega, by first | rfl | go_num, rfl, HF.out⟩
                case measure => simp [intOf]; omega
            · go_simp
              refine hKK.out _ _ (by exact hHeld.alloc _) (fun hHeld => ?_)
              clear hKK KK
              try simp only [Act.put, List.setIfInBounds_toArray, List.set_cons_zero, List.set_cons_succ]
              refine wpAnyH_ready (rs := [0]) (by kernel_rfl) (by simp) ?_
              refine AllReadyH.cons (i := 0) (o := { dst := some 32, op := Op.buildSlice 22 0 #[], type := 22, pos := _, after := #[], guard := none }) rfl (fun KK hKK => ?_) (AllReadyH.nil)
              go_simp
              refine hKK.out _ _ (by exact hHeld.alloc _) (fun hHeld => ?_)
              clear hKK KK
              try simp only [Act.put, List.setIfInBounds_toArray, List.set_cons_zero, List.set_cons_succ]
              refine wpAnyH_ready (rs := [4]) (by kernel_rfl) (by simp) ?_
              refine AllReadyH.cons (i := 4) (o := { dst := some 36, op := Op.call { callee := Callee.builtin Builtin.append, args := #[Operand.tmp 32, Operand.tmp 35], argTypes := #[22, 22] }, type := 22, pos := _, after := #[{ on := 0, ground := Ground.data }, { on := 3, ground := Ground.data }], guard := none }) rfl (fun KK hKK => ?_) (AllReadyH.nil)
              refine step_append_of (lo := B0 + 1) (hi := B0 + 1 + 1) (g := B0 + 1) (n0 := 0) (c0 := 0) (xs := []) (ys := castL (l.take (k + 1))) rfl (.tmp 32) (.tmp 35) 22 rfl Tryd.underlying22 Tryd.infoI (by first | rfl | (rw [← HB0.out]; rfl) | (rw [← HB0.out]; simp [Act.eval])) rfl HYL.out.1 (HY4.out _ hHeld) HLC.out HYL.out.2.2.1 (by have := hHeld.size; have := HB0.out; first | omega | (simp; omega)) ?_
              intro g4 c4 w4 hO4 hW4
              have hO4b := hO4
              rw [List.length_nil, Nat.zero_add] at hO4b
              have H4b := Lib.hid hO4b
              clear hO4b
              have H4 := Lib.hid (And.intro hO4 (And.intro hW4 (And.intro (Within.grew hHeld hW4 (by have := HB0.out; omega)) (show B0 + 1 ≤ w4.heap.size from by have h1 := hW4.size; simp at h1; have := HB0.out; omega))))
              clear hO4 hW4
              refine hKK.out _ _ (by exact H4.out.2.2.1) (fun hHeld => ?_)
              clear hKK KK
              try simp only [Act.put, List.setIfInBounds_toArray, List.set_cons_zero, List.set_cons_succ]
              refine wpAnyH_ready (rs := [7]) (by kernel_rfl) (by simp) ?_
              refine AllReadyH.cons (i := 7) (o := { dst := some 39, op := Op.call { callee := Callee.builtin Builtin.append, args := #[Operand.tmp 36, Operand.tmp 38], argTypes := #[22, 22] }, type := 22, pos := _, after := #[{ on := 4, ground := Ground.data }, { on := 6, ground := Ground.data }, { on := 4, ground := Ground.chain }], guard := none }) rfl (fun KK hKK => ?_) (AllReadyH.nil)
              have HC7 : Hid (∀ j, j < ([(i : Int)]).length → World.cell? w4 ⟨B0, 0 + j, none⟩ = some (.int .i64 (([(i : Int)]).getD j 0))) := Lib.hid (fun j hj => by
                have e0 : j = 0 := by (simp at hj; omega)
                subst e0
                exact H4.out.2.1.cell (p := ⟨B0, 0, none⟩) (by rw [← HB0.out]; simp) (.inl (Nat.lt_succ_self _)))
              refine step_append_of (lo := B0 + 1) (hi := w4.heap.size) (g := g4) (n0 := _) (c0 := c4) (b := B0) (o' := 0) (n := 1) (c := 1) (ys := [(i : Int)]) rfl (.tmp 36) (.tmp 38) 22 rfl Tryd.underlying22 Tryd.infoI rfl (by first | rfl | (rw [← HB0.out]; rfl) | (rw [← HB0.out]; simp [Act.eval])) rfl HC7.out H4.out.1 HYL.out.2.2.2.1 (by have := H4.out.2.2.2; first | omega | (simp; omega)) ?_
              intro g7 c7 w7 hO7 hW7
              have H7 := Lib.hid (And.intro hO7 (And.intro (Within.grew hHeld hW7 (by have := HB0.out; omega)) (show B0 + 1 ≤ w7.heap.size from by have h1 := hW7.size; have := H4.out.2.2.2; first | omega | (simp at h1; omega))))
              clear hO7 hW7 HC7 H4 H4b
              refine hKK.out _ _ (by exact H7.out.2.1) (fun hHeld => ?_)
              clear hKK KK
              try simp only [Act.put, List.setIfInBounds_toArray, List.set_cons_zero, List.set_cons_succ]
              refine wpAnyH_ready (rs := [11]) (by kernel_rfl) (by simp) ?_
              refine AllReadyH.cons (i := 11) (o := { dst := some 43, op := Op.call { callee := Callee.builtin Builtin.append, args := #[Operand.tmp 39, Operand.tmp 42], argTypes := #[22, 22] }, type := 22, pos := _, after := #[{ on := 7, ground := Ground.data }, { on := 10, ground := Ground.data }, { on := 7, ground := Ground.chain }], guard := none }) rfl (fun KK hKK => ?_) (AllReadyH.nil)
              refine step_append_of (lo := B0 + 1) (hi := w7.heap.size) (g := g7) (n0 := _) (c0 := c7) (b := g) (o' := O) (ys := castL (l.drop (k + 1))) rfl (.tmp 39) (.tmp 42) 22 rfl Tryd.underlying22 Tryd.infoI rfl rfl HYL.out.2.1 (HY11.out _ hHeld) H7.out.1 HYL.out.2.2.2.2 (by have := H7.out.2.2; omega) ?_
              intro g9 c9 w9 hO9 hW9
              have H9 := Lib.hid (And.intro (hO9.wide (show w.heap.size ≤ B0 + 1 from by have := HQ.out.2.size; have := HB0.out; omega) (Nat.le_refl _)) (HQ.out.2.trans (Within.grew hHeld hW9 (by have := HB0.out; omega))))
              have HW9 := Lib.hid (Within.grew hHeld hW9 (show W0.heap.size ≤ B0 + 1 from by have := HB0.out; omega))
              clear hO9 hW9 H7
              refine hKK.out _ _ (by exact HW9.out) (fun hHeld => ?_)
              clear hKK KK
              try simp only [Act.put, List.setIfInBounds_toArray, List.set_cons_zero, List.set_cons_succ]
              refine wpAnyH_take (i := 12) (oi := { dst := some 3, op := Op.assign (Operand.tmp 43), type := 22, pos := _, after := #[{ on := 11, ground := Ground.data }, { on := 11, ground := Ground.chain }, { on := 0, ground := Ground.phase }, { on := 1, ground := Ground.phase }, { on := 2, ground := Ground.phase }, { on := 3, ground := Ground.phase }, { on := 4, ground := Ground.phase }, { on := 5, ground := Ground.phase }, { on := 6, ground := Ground.phase }, { on := 7, ground := Ground.phase }, { on := 8, ground := Ground.phase }, { on := 9, ground := Ground.phase }, { on := 10, ground := Ground.phase }, { on := 11, ground := Ground.phase }], guard := none }) (v := ?_) rfl (by kernel_rfl) (by kernel_rfl) (by kernel_rfl) (fun _ _ _ h => h) (Or.inl ⟨by rfl, ?hy⟩) (by assumption) ?_
              case hy => (intro w hSw; (try dsimp only at hSw); go_simp; try with_reducible rfl)
              try simp only [Act.put, List.setIfInBounds_toArray, List.set_cons_zero, List.set_cons_succ]
              refine wpAnyH_done (by kernel_rfl) ?_ _
              refine NoPanic.normal ?_
              have HF : Hid (IntsO 3 w.heap.size w9.heap.size w9 (.slice (some ⟨g9, 0, none⟩) (i + 1) c9) (castL (ordTo p (i + 1))) ∧ Grew w w9) := Lib.hid (HNX.out _ _ _ H9.out)
              rw [HYS.out]
              clear H9 hHeld HYL HY4 HY11 HLA HLB HLC HNX HQ
              go_wp2
              go_roundw
              case rel => exact ⟨i + 1, g9, c9, by omega, by first | rfl | go_num, rfl, HF.out⟩
              case measure => simp [intOf]; omega
    · obtain rfl : i = N := by omega
      have HF := HI
      go_wp2_with (fail)
      refine (HN.out _ HI.out.2).mono ?_
      rintro e w1 ⟨rfl, rfl⟩
      go_wp2
      go_ret
      exact ⟨_, _, by rw [castL_len, ordTo_len]; rfl, by rw [castL_len, ordTo_len]; exact HI.out⟩
end Go.Proofs.YtaeenedjmakelaaDoor
