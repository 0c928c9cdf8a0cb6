/- The contract of impl.inRows: a list cut into rows, by slices.Chunk. -/
import Derived.Test.YtdjjimnfhfdjdaaDoorChunk
namespace Go.Proofs.YtdjjimnfhfdjdaaDoor
open Go.RowKit Go.Shelf

attribute [local go_sem] Oper.semAt_some

theorem shapeL_fin (xs : List Int) (n m : Nat) : ((List.finRange n).map fun k => (xs.drop (k.1 * m)).take m) = shapeL xs m n := by
  apply List.ext_getElem
  · simp [shapeL]
  · intro i h1 h2
    simp [shapeL]

/-- What a round leaves: a row was made, appended, and the slice put back into its box. -/
theorem round_end {w W w3 w6 : World} {v v6 : Value} {H H6 : List (List Int)} {o : Obj} (hv : Boxed W w.heap.size 23 v) (hO : RowsO 25 3 (w.heap.size + 3) W.heap.size W v H) (hs : w.heap.size + 3 ≤ W.heap.size) (hbl : Below w.heap.size w W)
    (hg3 : Grew W w3) (hO6 : RowsO 25 3 (w.heap.size + 3) w6.heap.size w6 v6 H6) (hG6 : (w3.alloc o).grownBy w6 v.ownBlock) :
    Boxed w6 w.heap.size 23 v ∧ KeepsOthers W (w6.setCell ⟨w.heap.size, 0, none⟩ v6) ∧ Keep2 (w.heap.size + 1) (w.heap.size + 1 + 1) W (w6.setCell ⟨w.heap.size, 0, none⟩ v6) ∧
      Boxed (w6.setCell ⟨w.heap.size, 0, none⟩ v6) w.heap.size 23 v6 ∧ RowsO 25 3 (w.heap.size + 3) (w6.setCell ⟨w.heap.size, 0, none⟩ v6).heap.size (w6.setCell ⟨w.heap.size, 0, none⟩ v6) v6 H6 ∧
      w.heap.size + 3 ≤ (w6.setCell ⟨w.heap.size, 0, none⟩ v6).heap.size ∧ Below w.heap.size w (w6.setCell ⟨w.heap.size, 0, none⟩ v6) := by
  have hsz : (w6.setCell ⟨w.heap.size, 0, none⟩ v6).heap.size = w6.heap.size := by simp [World.setCell]
  have h36 : w3.heap.size + 1 ≤ w6.heap.size := by have := hG6.size; simpa using this
  have h3 := hg3.size
  have hrow : ∀ g, v.ownBlock = some g → w.heap.size + 3 ≤ g ∧ ∃ ob : Obj, W.heap[g]? = some ob ∧ ob.isCells = true := fun g e => by
    obtain ⟨V, h1, _⟩ := hO
    refine ⟨(World.ownsRow.lt h1 g e).1, ?_⟩
    rcases h1.2 with ⟨e4, _⟩ | ⟨g1, cap, cur, e4, _, h6, _⟩
    · subst e4; simp [Value.ownBlock] at e
    · subst e4
      simp only [Value.ownBlock, Option.some.injEq] at e
      subst e
      exact ⟨_, h6, rfl⟩
  have hold : ∀ k, k < W.heap.size → (∀ g, v.ownBlock = some g → k ≠ g) → k ≠ w.heap.size → (w6.setCell ⟨w.heap.size, 0, none⟩ v6).heap[k]? = W.heap[k]? := fun k hk hne hk2 => by
    rw [Below.heap_setCell _ _ _ _ hk2, hG6.block k (by simp; omega) (fun e => hne k e.symm rfl), Below.heap_alloc _ _ _ (by omega), hg3.block hk]
  have hv6 : Boxed w6 w.heap.size 23 v := Boxed.kept (Boxed.alloc ((hg3.block hv.lt).trans hv) o) hG6 fun e => by have := (hrow _ e.symm).1; omega
  refine ⟨hv6, ?_, ?_, hv6.set v6, ?_, by omega, ?_⟩
  · refine (((grew_others hg3).trans (KeepsOthers.alloc _ _)).trans (KeepsOthers.of_grownBy hG6 fun j ob e hj => ?_)).trans (KeepsOthers.setCell _ _ _)
    obtain ⟨hj1, ob2, hj2, hj3⟩ := hrow j e
    have hjl := (Array.getElem?_eq_some_iff.1 hj2).1
    rw [Below.heap_alloc _ _ _ (by omega), hg3.block hjl, hj2] at hj
    simp only [Option.some.injEq] at hj
    subst hj
    exact hj3
  · exact ⟨hold (w.heap.size + 1) (by omega) (fun g e => by have := (hrow g e).1; omega) (by omega), hold (w.heap.size + 1 + 1) (by omega) (fun g e => by have := (hrow g e).1; omega) (by omega)⟩
  · rw [hsz]
    exact hO6.within ((Within.refl w.heap.size (w.heap.size + 1) w6).setCell (p := ⟨w.heap.size, 0, none⟩) (Nat.le_refl _) (Nat.lt_succ_self _) _) (.inr (by omega))
  · refine hbl.trans (((((Below.mono hg3 (show w.heap.size ≤ W.heap.size by omega)).alloc (show w.heap.size ≤ w3.heap.size by omega) o).grown hG6 (by simp; omega) fun j e => ?_)).setCell (p := ⟨w.heap.size, 0, none⟩) (Nat.le_refl _) _)
    have := (hrow j e).1
    show w.heap.size ≤ j
    omega

set_option maxRecDepth 100000 in
set_option maxHeartbeats 4000000 in
theorem inRows6_any (b o c n m N : Nat) (xs : List Int) (w : World) (hN : n * m = N) (hn5 : n ≤ 6) (hm1 : 1 ≤ m) (hm5 : m ≤ 6) (hNc : N ≤ c) (hcb : c ≤ 9223372036854775807) (hxl : xs.length = N)
    (hx : ∀ i, i < N → w.cell? ⟨b, o + i, none⟩ = some (.int .i64 (xs.getD i 0))) :
    Calls Tryd.prog 47 #[.slice (some ⟨b, o, none⟩) N c, .int .i64 m] w (NewRows w (shapeL xs m n)) := by
  have HX := Lib.hid hx
  have HN := Lib.hid (And.intro hN hxl)
  clear hx hN hxl
  refine (callsIn_wide (n := 3)).1 ?_
  refine callsIn_of_wp_marks Tryd.func47 rfl trivial ?_ rfl
  simp only [Tryd.ntmps47, List.size_toArray, List.length_cons, List.length_nil, Nat.reduceAdd, Nat.reduceSub, Array.replicate_succ, Array.replicate_zero, List.push_toArray, List.append_toArray, List.nil_append, List.cons_append]
  gi_wp2_with (refine ⟨trivial, ?_⟩; gi_at_call 70; refine (callsIn_wide.2 (chunk_any _ _ _ m hm1 _)).mono ?_; rintro e w' ⟨rfl, rfl⟩)
  have hW : Hid (((w.alloc (.cells #[.slice none 0 0] 23)).alloc (.cells #[.slice (some ⟨b, o, none⟩) N c] 25)).alloc (.cells #[.int .i64 m] 3) = ((w.alloc (.cells #[.slice none 0 0] 23)).alloc (.cells #[.slice (some ⟨b, o, none⟩) N c] 25)).alloc (.cells #[.int .i64 m] 3)) := Lib.hid rfl
  obtain ⟨W0, hW0⟩ : ∃ W0, ((w.alloc (.cells #[.slice none 0 0] 23)).alloc (.cells #[.slice (some ⟨b, o, none⟩) N c] 25)).alloc (.cells #[.int .i64 m] 3) = W0 := ⟨_, rfl⟩
  have hsz : W0.heap.size = w.heap.size + 3 := by rw [← hW0]; simp
  have hcs : W0.cell? ⟨w.heap.size + 1, 0, none⟩ = some (.slice (some ⟨b, o, none⟩) N c) := by rw [← hW0, World.cell?_alloc_past _ _ _ (by simp), World.cell?_alloc_at _ _ _ _ (by simp)]; rfl
  have hcm : W0.cell? ⟨w.heap.size + 1 + 1, 0, none⟩ = some (.int .i64 m) := by rw [← hW0, World.cell?_alloc_at _ _ _ _ (by simp)]; rfl
  have hI0 : RowsSoFar w xs n m [] W0 := by
    rw [← hW0]
    exact ⟨⟨_, ((Boxed.new w _ _).alloc _).alloc _, RowsO.nil _ _ _ _ _⟩, by simp, (((Below.refl _ w).alloc (Nat.le_refl _) _).alloc (by simp) _).alloc (by simp; omega) _⟩
  rw [hW0]
  clear hW hW0
  refine wpIn_rangeFunc_ownG rfl (by omega) (gf := 85) (lb := #[.pointer (some ⟨w.heap.size + 1, 0, none⟩), .pointer (some ⟨w.heap.size + 1 + 1, 0, none⟩)]) rfl trivial (enters_of Tryd.func85 (by kernel_rfl) rfl)
    (chunk_stops Fence.wide _ trivial rfl (by omega) (w.heap.size + 1) (w.heap.size + 1 + 1) b o n m N c HN.out.1 hn5 hm1 hm5 hNc hcb W0 (by omega) (by omega) hcs hcm) (fun h k => h.trans k) ?hkb (Below.refl _ _) (fun _ => rfl)
    (RowsSoFar w xs n m) (fun _ _ _ => False) (rowsSoFar_own w xs n m _ (by omega)) (fun _ _ _ _ _ hs _ _ => hs) hI0
    (fun x => { tmps := #[.slice (some ⟨b, o, none⟩) N c, .int .i64 m, undef, undef, .slice none 0 0, .pointer (some ⟨w.heap.size, 0, none⟩), cutV b o m x.1, .slice (some ⟨b, o, none⟩) N c, .int .i64 m, .func (.func 85) #[] #[.pointer (some ⟨w.heap.size + 1, 0, none⟩), .pointer (some ⟨w.heap.size + 1 + 1, 0, none⟩)], cutV b o m x.1, undef, undef, undef, undef, undef, undef], defers := [] }) ?assign ?body ?done ?stop
  case hkb =>
    intro W l o1 o2 hl h1 h2 _
    exact ⟨World.putObj_heap_other (by omega), World.putObj_heap_other (by omega)⟩
  case assign =>
    intro l x W K hK
    gi_wp2
    exact hK
  case body =>
    rintro l pre x W ⟨⟨v, hv, hO⟩, hs, hbl⟩ hlt
    have hmx : Tryd.prog.follows .mixedOrders = true := by kernel_rfl
    have hc := hv.cell
    have hxm : x.1 * m + m ≤ N := by
      rw [← HN.out.1]
      have := Nat.mul_le_mul_right m (show x.1 + 1 ≤ n from x.2)
      rw [Nat.succ_mul] at this
      exact this
    obtain ⟨ys, eys⟩ : ∃ ys, (xs.drop (x.1 * m)).take m = ys := ⟨_, rfl⟩
    have hyl : ys.length = m := by rw [← eys]; exact cut_len xs m _ (by rw [HN.out.2]; exact hxm)
    have HCL : Hid (∀ W', Grew W W' → Calls Tryd.prog 71 #[cutV b o m x.1] W' (FlatPost W' ys)) := by
      refine Lib.hid fun W' hg' => ?_
      have := slicesClone_any b (o + x.1 * m) m ys W' (fun i hi => ?_) (by omega) (by omega)
      · rw [hyl] at this
        exact this
      · rw [hyl] at hi
        rw [← eys, cut_at xs m _ i hi, Nat.add_assoc]
        exact hg'.cell ((Below.cell hbl (World.block_lt_of_cell? _ _ (HX.out (x.1 * m + i) (by omega)))).trans (HX.out (x.1 * m + i) (by omega)))
    gi_wp2
    refine wpIn_region_any hmx ?_
    have hgd : Grew W W.drew := (Grew.refl W).drew
    have hpl : (pre.map fun k : Fin n => (xs.drop (k.1 * m)).take m).length = pre.length := by simp
    obtain ⟨H, eH⟩ : ∃ H, (pre.map fun k : Fin n => (xs.drop (k.1 * m)).take m) = H := ⟨_, rfl⟩
    rw [eH] at hO hpl
    have HEH := Lib.hid (And.intro eH (And.intro eys (And.intro hpl (And.intro hv (And.intro hO (And.intro hs hbl))))))
    clear eH eys hpl hv hO
    have hc0 : W.drew.cell? ⟨w.heap.size, 0, none⟩ = some v := hc
    refine wpAnyIn_ready (rs := [0, 1]) (by kernel_rfl) (by simp) ?_
    refine AllReadyIn.cons rfl (fun K hK => ?_) (AllReadyIn.cons rfl (fun K hK => ?_) AllReadyIn.nil)
    all_goals (go_simp; refine hK _ _ ?_; clear hK K)
    · refine wpAnyIn_ready (rs := [1]) (by kernel_rfl) (by simp) ?_
      refine AllReadyIn.cons rfl (fun K hK => ?_) AllReadyIn.nil
      go_simp
      refine hK _ _ ?_
      clear hK K
      refine wpAnyIn_ready (rs := [2]) (by kernel_rfl) (by simp) ?_
      refine AllReadyIn.cons rfl (fun K hK => ?_) AllReadyIn.nil
      go_simp
      refine ⟨trivial, ?_⟩
      refine (CallsIn.inRound l (callsIn_wide.2 (HCL.out _ hgd))).mono ?_
      rintro e w3 ⟨g3, c3, rfl, hO3, hg3'⟩
      rw [hyl] at hO3 ⊢
      refine hK _ _ ?_
      clear hK K
      have hg3 := hgd.trans hg3'
      have hc3 := hg3.cell hc
      have hc3a := ((Grew.refl w3).alloc (.cells #[.slice (some ⟨g3, 0, none⟩) m c3] 25)).cell hc3
      refine wpAnyIn_ready (rs := [3]) (by kernel_rfl) (by simp) ?_
      refine AllReadyIn.cons rfl (fun K hK => ?_) AllReadyIn.nil
      go_simp
      refine hK _ _ ?_
      clear hK K
      refine wpAnyIn_ready (rs := [4]) (by kernel_rfl) (by simp) ?_
      refine AllReadyIn.cons rfl (fun K hK => ?_) AllReadyIn.nil
      refine stepIn_append_row rfl (.tmp 11) (.tmp 14) 23 rfl (by decide) Tryd.underlying23 Tryd.infoIs rfl rfl rfl (HEH.out.2.2.2.2.1.grew hg3) hO3 (by rw [HEH.out.2.2.1]; omega) (Nat.le_trans hs hg3.size) hs ?_
      rw [HEH.out.2.2.1]
      intro g6 c6 w6 hO6 hG6
      refine hK _ _ ?_
      clear hK K
      obtain ⟨hv6, hR1, hR2, hR3, hR4, hR5, hR6⟩ := round_end HEH.out.2.2.2.1 HEH.out.2.2.2.2.1 hs hbl hg3 hO6 hG6
      have HF : Hid (KeepsFrom W0.heap.size W (w6.setCell ⟨w.heap.size, 0, none⟩ (.slice (some ⟨g6, 0, none⟩) (pre.length + 1) c6)) ∧ Keep2 (w.heap.size + 1) (w.heap.size + 1 + 1) W (w6.setCell ⟨w.heap.size, 0, none⟩ (.slice (some ⟨g6, 0, none⟩) (pre.length + 1) c6)) ∧ RowsSoFar w xs n m (pre ++ [x]) (w6.setCell ⟨w.heap.size, 0, none⟩ (.slice (some ⟨g6, 0, none⟩) (pre.length + 1) c6))) :=
        Lib.hid ⟨hR1.from _, hR2, ⟨_, hR3, by rw [List.map_append, List.map_singleton, HEH.out.1, HEH.out.2.1]; exact hR4⟩, hR5, hR6⟩
      have hc6 := hv6.cell
      have hf6 := hv6.frozen
      clear hR1 hR2 hR3 hR4 hR5 hR6 hv6 hO6 hG6
      refine wpAnyIn_ready (rs := [5]) (by kernel_rfl) (by simp) ?_
      refine AllReadyIn.cons rfl (fun K hK => ?_) AllReadyIn.nil
      go_simp
      refine hK _ _ ?_
      refine wpAnyIn_done (by kernel_rfl) ?_ _
      exact HF.out
    · refine wpAnyIn_ready (rs := [0, 2]) (by kernel_rfl) (by simp) ?_
      refine AllReadyIn.cons rfl (fun K hK => ?_) (AllReadyIn.cons rfl (fun K hK => ?_) AllReadyIn.nil)
      · go_simp
        refine hK _ _ ?_
        clear hK K
        refine wpAnyIn_ready (rs := [2]) (by kernel_rfl) (by simp) ?_
        refine AllReadyIn.cons rfl (fun K hK => ?_) AllReadyIn.nil
        go_simp
        refine ⟨trivial, ?_⟩
        refine (CallsIn.inRound l (callsIn_wide.2 (HCL.out _ hgd))).mono ?_
        rintro e w3 ⟨g3, c3, rfl, hO3, hg3'⟩
        rw [hyl] at hO3 ⊢
        refine hK _ _ ?_
        clear hK K
        have hg3 := hgd.trans hg3'
        have hc3 := hg3.cell hc
        have hc3a := ((Grew.refl w3).alloc (.cells #[.slice (some ⟨g3, 0, none⟩) m c3] 25)).cell hc3
        refine wpAnyIn_ready (rs := [3]) (by kernel_rfl) (by simp) ?_
        refine AllReadyIn.cons rfl (fun K hK => ?_) AllReadyIn.nil
        go_simp
        refine hK _ _ ?_
        clear hK K
        refine wpAnyIn_ready (rs := [4]) (by kernel_rfl) (by simp) ?_
        refine AllReadyIn.cons rfl (fun K hK => ?_) AllReadyIn.nil
        refine stepIn_append_row rfl (.tmp 11) (.tmp 14) 23 rfl (by decide) Tryd.underlying23 Tryd.infoIs rfl rfl rfl (HEH.out.2.2.2.2.1.grew hg3) hO3 (by rw [HEH.out.2.2.1]; omega) (Nat.le_trans hs hg3.size) hs ?_
        rw [HEH.out.2.2.1]
        intro g6 c6 w6 hO6 hG6
        refine hK _ _ ?_
        clear hK K
        obtain ⟨hv6, hR1, hR2, hR3, hR4, hR5, hR6⟩ := round_end HEH.out.2.2.2.1 HEH.out.2.2.2.2.1 hs hbl hg3 hO6 hG6
        have HF : Hid (KeepsFrom W0.heap.size W (w6.setCell ⟨w.heap.size, 0, none⟩ (.slice (some ⟨g6, 0, none⟩) (pre.length + 1) c6)) ∧ Keep2 (w.heap.size + 1) (w.heap.size + 1 + 1) W (w6.setCell ⟨w.heap.size, 0, none⟩ (.slice (some ⟨g6, 0, none⟩) (pre.length + 1) c6)) ∧ RowsSoFar w xs n m (pre ++ [x]) (w6.setCell ⟨w.heap.size, 0, none⟩ (.slice (some ⟨g6, 0, none⟩) (pre.length + 1) c6))) :=
          Lib.hid ⟨hR1.from _, hR2, ⟨_, hR3, by rw [List.map_append, List.map_singleton, HEH.out.1, HEH.out.2.1]; exact hR4⟩, hR5, hR6⟩
        have hc6 := hv6.cell
        have hf6 := hv6.frozen
        clear hR1 hR2 hR3 hR4 hR5 hR6 hv6 hO6 hG6
        refine wpAnyIn_ready (rs := [5]) (by kernel_rfl) (by simp) ?_
        refine AllReadyIn.cons rfl (fun K hK => ?_) AllReadyIn.nil
        go_simp
        refine hK _ _ ?_
        refine wpAnyIn_done (by kernel_rfl) ?_ _
        exact HF.out
      · go_simp
        refine ⟨trivial, ?_⟩
        refine (CallsIn.inRound l (callsIn_wide.2 (HCL.out _ hgd))).mono ?_
        rintro e w3 ⟨g3, c3, rfl, hO3, hg3'⟩
        rw [hyl] at hO3 ⊢
        refine hK _ _ ?_
        clear hK K
        have hg3 := hgd.trans hg3'
        have hc3 := hg3.cell hc
        have hc3a := ((Grew.refl w3).alloc (.cells #[.slice (some ⟨g3, 0, none⟩) m c3] 25)).cell hc3
        refine wpAnyIn_ready (rs := [0, 3]) (by kernel_rfl) (by simp) ?_
        refine AllReadyIn.cons rfl (fun K hK => ?_) (AllReadyIn.cons rfl (fun K hK => ?_) AllReadyIn.nil)
        · go_simp
          refine hK _ _ ?_
          clear hK K
          refine wpAnyIn_ready (rs := [3]) (by kernel_rfl) (by simp) ?_
          refine AllReadyIn.cons rfl (fun K hK => ?_) AllReadyIn.nil
          go_simp
          refine hK _ _ ?_
          clear hK K
          refine wpAnyIn_ready (rs := [4]) (by kernel_rfl) (by simp) ?_
          refine AllReadyIn.cons rfl (fun K hK => ?_) AllReadyIn.nil
          refine stepIn_append_row rfl (.tmp 11) (.tmp 14) 23 rfl (by decide) Tryd.underlying23 Tryd.infoIs rfl rfl rfl (HEH.out.2.2.2.2.1.grew hg3) hO3 (by rw [HEH.out.2.2.1]; omega) (Nat.le_trans hs hg3.size) hs ?_
          rw [HEH.out.2.2.1]
          intro g6 c6 w6 hO6 hG6
          refine hK _ _ ?_
          clear hK K
          obtain ⟨hv6, hR1, hR2, hR3, hR4, hR5, hR6⟩ := round_end HEH.out.2.2.2.1 HEH.out.2.2.2.2.1 hs hbl hg3 hO6 hG6
          have HF : Hid (KeepsFrom W0.heap.size W (w6.setCell ⟨w.heap.size, 0, none⟩ (.slice (some ⟨g6, 0, none⟩) (pre.length + 1) c6)) ∧ Keep2 (w.heap.size + 1) (w.heap.size + 1 + 1) W (w6.setCell ⟨w.heap.size, 0, none⟩ (.slice (some ⟨g6, 0, none⟩) (pre.length + 1) c6)) ∧ RowsSoFar w xs n m (pre ++ [x]) (w6.setCell ⟨w.heap.size, 0, none⟩ (.slice (some ⟨g6, 0, none⟩) (pre.length + 1) c6))) :=
            Lib.hid ⟨hR1.from _, hR2, ⟨_, hR3, by rw [List.map_append, List.map_singleton, HEH.out.1, HEH.out.2.1]; exact hR4⟩, hR5, hR6⟩
          have hc6 := hv6.cell
          have hf6 := hv6.frozen
          clear hR1 hR2 hR3 hR4 hR5 hR6 hv6 hO6 hG6
          refine wpAnyIn_ready (rs := [5]) (by kernel_rfl) (by simp) ?_
          refine AllReadyIn.cons rfl (fun K hK => ?_) AllReadyIn.nil
          go_simp
          refine hK _ _ ?_
          refine wpAnyIn_done (by kernel_rfl) ?_ _
          exact HF.out
        · go_simp
          refine hK _ _ ?_
          clear hK K
          refine wpAnyIn_ready (rs := [0]) (by kernel_rfl) (by simp) ?_
          refine AllReadyIn.cons rfl (fun K hK => ?_) AllReadyIn.nil
          go_simp
          refine hK _ _ ?_
          clear hK K
          refine wpAnyIn_ready (rs := [4]) (by kernel_rfl) (by simp) ?_
          refine AllReadyIn.cons rfl (fun K hK => ?_) AllReadyIn.nil
          refine stepIn_append_row rfl (.tmp 11) (.tmp 14) 23 rfl (by decide) Tryd.underlying23 Tryd.infoIs rfl rfl rfl (HEH.out.2.2.2.2.1.grew hg3) hO3 (by rw [HEH.out.2.2.1]; omega) (Nat.le_trans hs hg3.size) hs ?_
          rw [HEH.out.2.2.1]
          intro g6 c6 w6 hO6 hG6
          refine hK _ _ ?_
          clear hK K
          obtain ⟨hv6, hR1, hR2, hR3, hR4, hR5, hR6⟩ := round_end HEH.out.2.2.2.1 HEH.out.2.2.2.2.1 hs hbl hg3 hO6 hG6
          have HF : Hid (KeepsFrom W0.heap.size W (w6.setCell ⟨w.heap.size, 0, none⟩ (.slice (some ⟨g6, 0, none⟩) (pre.length + 1) c6)) ∧ Keep2 (w.heap.size + 1) (w.heap.size + 1 + 1) W (w6.setCell ⟨w.heap.size, 0, none⟩ (.slice (some ⟨g6, 0, none⟩) (pre.length + 1) c6)) ∧ RowsSoFar w xs n m (pre ++ [x]) (w6.setCell ⟨w.heap.size, 0, none⟩ (.slice (some ⟨g6, 0, none⟩) (pre.length + 1) c6))) :=
            Lib.hid ⟨hR1.from _, hR2, ⟨_, hR3, by rw [List.map_append, List.map_singleton, HEH.out.1, HEH.out.2.1]; exact hR4⟩, hR5, hR6⟩
          have hc6 := hv6.cell
          have hf6 := hv6.frozen
          clear hR1 hR2 hR3 hR4 hR5 hR6 hv6 hO6 hG6
          refine wpAnyIn_ready (rs := [5]) (by kernel_rfl) (by simp) ?_
          refine AllReadyIn.cons rfl (fun K hK => ?_) AllReadyIn.nil
          go_simp
          refine hK _ _ ?_
          refine wpAnyIn_done (by kernel_rfl) ?_ _
          exact HF.out
  case done =>
    rintro D ys W hD rfl ⟨⟨v, hv, hO⟩, hs, hbl⟩ hK
    have hc := hv.cell
    rw [shapeL_fin] at hO
    have HK := Lib.hid (And.intro hO (And.intro hbl hK))
    clear hO
    gi_wp2
    refine ⟨by simp, .inl ⟨_, _, rfl, run_takeDeferred HK.out.2.2, ?_⟩⟩
    have hDw : w.heap.size ≤ D := by omega
    have hO2 : RowsO 25 3 (w.heap.size + 3) (W.putObj D (.deferred none)).heap.size (W.putObj D (.deferred none)) v (shapeL xs m n) :=
      HK.out.1.kept (grownBy_putObj' W D _) fun r e => by cases e; exact ⟨_, HK.out.2.2, rfl⟩
    exact ⟨_, results_tmp rfl _ _ _, v, rfl, hO2.wide (by omega) (Nat.le_refl _), HK.out.2.1.trans (belowK_b (w := w) (Nat.le_refl _) W D _ _ hDw HK.out.2.2 rfl rfl)⟩
  case stop =>
    rintro D c pre W _ _ h _
    exact h.elim

/-- .. of a list of a call's own. -/
theorem inRows6_own {lo hi g c n m N : Nat} {xs : List Int} {w : World} (hO : IntsO 3 lo hi w (.slice (some ⟨g, 0, none⟩) N c) xs) (hn5 : n ≤ 6) (hm1 : 1 ≤ m) (hm5 : m ≤ 6) (hN : n * m = N) :
    Calls Tryd.prog 47 #[.slice (some ⟨g, 0, none⟩) N c, .int .i64 m] w (NewRows w (shapeL xs m n)) := by
  have hl : xs.length = N := by
    rcases hO.1.2 with ⟨e, _⟩ | ⟨_, _, _, e, _⟩
    · cases e
    · cases e; rfl
  obtain ⟨g1, c1, e1, _, _, h4, h5⟩ := hO.shape.resolve_left (fun h => by cases h.1)
  simp only [Value.slice.injEq, Option.some.injEq, Addr.mk.injEq] at e1
  refine inRows6_any g 0 c n m N xs w hN hn5 hm1 hm5 (by omega) (by unfold maxLen at h5; omega) hl fun i hi => ?_
  rw [Nat.zero_add]
  exact (hO.at rfl (by omega)).1
theorem inRows_any (b o c n m N : Nat) (xs : List Int) (w : World) (hN : n * m = N) (hn5 : n ≤ 5) (hm1 : 1 ≤ m) (hm5 : m ≤ 5) (hNc : N ≤ c) (hcb : c ≤ 9223372036854775807) (hxl : xs.length = N)
    (hx : ∀ i, i < N → w.cell? ⟨b, o + i, none⟩ = some (.int .i64 (xs.getD i 0))) :
    Calls Tryd.prog 47 #[.slice (some ⟨b, o, none⟩) N c, .int .i64 m] w (NewRows w (shapeL xs m n)) := inRows6_any b o c n m N xs w hN (by omega) hm1 (by omega) hNc hcb hxl hx
theorem inRows_own {lo hi g c n m N : Nat} {xs : List Int} {w : World} (hO : IntsO 3 lo hi w (.slice (some ⟨g, 0, none⟩) N c) xs) (hn5 : n ≤ 5) (hm1 : 1 ≤ m) (hm5 : m ≤ 5) (hN : n * m = N) :
    Calls Tryd.prog 47 #[.slice (some ⟨g, 0, none⟩) N c, .int .i64 m] w (NewRows w (shapeL xs m n)) := inRows6_own hO (by omega) hm1 (by omega) hN
end Go.Proofs.YtdjjimnfhfdjdaaDoor
