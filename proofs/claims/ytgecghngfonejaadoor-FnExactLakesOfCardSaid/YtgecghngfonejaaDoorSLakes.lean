/- The contract of spec.LakesOf. -/
import Derived.Test.YtgecghngfonejaaDoorLakesM
import Derived.Test.YtgecghngfonejaaDoorSByQueue
namespace Go.Proofs.YtgecghngfonejaaDoor
open Go.RowKit

theorem RowsO.setB {T E Eb lo hi l2 h2 : Nat} (hT : T ≠ Eb) (hE : E ≠ Eb) {w : World} {v : Value} {H : List (List Int)} (hv : RowsO T E lo hi w v H) {gs n c : Nat} {sb : List Bool} (hb : BoolsO Eb l2 h2 w (.slice (some ⟨gs, 0, none⟩) n c) sb) (j : Nat) (x : Bool) :
    RowsO T E lo hi (w.setCell ⟨gs, j, none⟩ (.bool x)) v H := by
  obtain ⟨V, h1, h2, h3, h4⟩ := hv
  have hsame : ∀ k, k ≠ gs → (w.setCell ⟨gs, j, none⟩ (.bool x)).heap[k]? = w.heap[k]? := fun k hk => Below.heap_setCell _ _ _ _ hk
  exact ⟨V, ownsRow_block h1 fun g e => hsame g fun e2 => ownsRow_int_block hT h1 hb.1 gs rfl (by rw [e, e2]), h2, fun r hr => ⟨ownsRow_block (h3 r hr).1 fun g e => hsame g fun e2 => ownsRow_int_block hE (h3 r hr).1 hb.1 gs rfl (by rw [e, e2]), (h3 r hr).2⟩, h4⟩
/-- 'append(s, u)' at rows of the call's own; what isn't the rows' own block stays. -/
theorem wpList_append_rowB {P : Program} {w : World} {ops : Array Oper} {rest : List Oper} {o : Oper} {a : Act} {Q : Exit → Act → World → Prop} (hgd : o.guard = none) (s x : Operand) (t : TypeId)
    (ho : o.op = .call { callee := .builtin .append, args := #[s, x], argTypes := #[t, t] }) {T E : TypeId} (hTE : T ≠ E) (ht : P.underlying t = some (.slice T))
    (hinfo : (P.info? T).map (fun i => (i.zero, i.size, i.bytes)) = some (some (.slice none 0 0), 1, 24)) {lo mid hi : Nat} {v u : Value} {H : List (List Int)} {xs : List Int} {nb : Nat} (hs : a.eval s = v) (hx : a.eval x = .slice (some ⟨nb, 0, none⟩) 1 1) (hnb : nb = w.heap.size)
    (hv : RowsO T E lo mid w v H) (hu : IntsO E mid hi w u xs) (hlen : H.length + 1 ≤ 5864062014805) (hbase : lo ≤ w.heap.size) (hlo : lo ≤ mid)
    (h : ∀ g c w', RowsO T E lo w'.heap.size w' (.slice (some ⟨g, 0, none⟩) (H.length + 1) c) (H ++ [xs]) → Within lo mid w w' → (∀ k, k < w.heap.size → v.ownBlock ≠ some k → w'.heap[k]? = w.heap[k]?) →
      wpList P ops Q rest (a.put o.dst (.slice (some ⟨g, 0, none⟩) (H.length + 1) c)) w') : wpList P ops Q (o :: rest) a (w.alloc (.cells #[u] T)) := by
  subst hnb
  obtain ⟨i, hi1, hi2, hi3, hi4⟩ := info_parts hinfo
  obtain ⟨V, h1, h2, h3, h4⟩ := hv
  refine wpList_append_own _ hgd s x t ho lo T i (.slice none 0 0) 1 24 ht hi1 hi2 hi3 hi4 rfl (by decide) v H.length _ hs (h1.alloc _) ⟨w.heap.size, 0, none⟩ 1 1 [u] hx rfl (cell_one_new _ _ _) (by simpa using hu.one) (by unfold maxLen; omega) (by omega) (by simp; omega) ?_
  intro v' w' hown hg _
  have hW : Within lo mid w w' := (((Grew.refl w).alloc _).within lo mid).trans (grownBy_within hg fun g e => ⟨(World.ownsRow.lt h1 g e).1, h2 g e⟩)
  have ga : Grew w (w.alloc (.cells #[u] T)) := (Grew.refl w).alloc _
  have hO := rows_snoc hTE hlo (h1.alloc (.cells #[u] T)) (fun r hr => (h3 r hr).grew ga) h4 (hu.grew ga) hg hown
  obtain ⟨g, c, hv', _⟩ := hO.pos (by simp)
  have e : (H ++ [xs]).length = H.length + 1 := by simp
  rw [e] at hv'
  subst hv'
  exact h g c w' hO hW fun k hk hne => (hg.block k (Nat.lt_of_lt_of_le hk ga.size) (fun e => hne e.symm)).trans (ga.block hk)

/-- The memory while a lake is gone over. -/
structure LM (wL : World) (B0 Bs gs N : Nat) (va : Value) (L : List (List Int)) (w : World) (sn : List Bool) (g : Nat) (v : Value) (met : List Int) : Prop where
  rows : RowsO 26 3 B0 Bs w va L
  see : BoolsO 4 gs (gs + 1) w (.slice (some ⟨gs, 0, none⟩) N N) sn
  lst : IntsO 3 g (g + 1) w v met
  grew : Grew wL w
  big : Bs ≤ g
  sta : wL.heap.size = B0 ∧ B0 ≤ gs ∧ gs < Bs
section
variable {wL w w' : World} {B0 Bs gs N g : Nat} {va v : Value} {L : List (List Int)} {sn : List Bool} {met : List Int}
theorem LM.step (h : LM wL B0 Bs gs N va L w sn g v met) (hg : Grew w w') : LM wL B0 Bs gs N va L w' sn g v met := ⟨h.rows.grew hg, h.see.grew hg, h.lst.grew hg, h.grew.trans hg, h.big, h.sta⟩
theorem LM.set (h : LM wL B0 Bs gs N va L w sn g v met) (K : Nat) : LM wL B0 Bs gs N va L (w.setCell ⟨gs, K, none⟩ (.bool true)) (sn.set K true) g v met := by
  obtain ⟨s1, s2, s3⟩ := h.sta
  have hb := h.big
  have hwi : Within gs (gs + 1) w (w.setCell ⟨gs, K, none⟩ (.bool true)) := (Within.refl _ _ _).setCell (p := ⟨gs, K, none⟩) (Nat.le_refl _) (Nat.lt_succ_self _) _
  exact ⟨h.rows.setB (by decide) (by decide) h.see K true, h.see.set rfl K true, h.lst.within hwi (.inr (by omega)), Within.grew h.grew hwi (by omega), h.big, h.sta⟩
theorem LM.app (h : LM wL B0 Bs gs N va L w sn g v met) {g' : Nat} {v' : Value} {met' : List Int} (hO : IntsO 3 g' (g' + 1) w' v' met') (hW : Within g (g + 1) w w') (hat : g' = g ∨ w.heap.size ≤ g') (hlt : g < w.heap.size) : LM wL B0 Bs gs N va L w' sn g' v' met' := by
  obtain ⟨s1, s2, s3⟩ := h.sta
  have hb := h.big
  exact ⟨h.rows.within hW (.inl hb), h.see.within hW (.inl (by omega)), hO, Within.grew h.grew hW (by omega), by omega, h.sta⟩
theorem LM.seeAt (h : LM wL B0 Bs gs N va L w sn g v met) (hl : sn.length = N) (K : Nat) (hK : K < N) : w.cell? ⟨gs, K, none⟩ = some (.bool (sn.getD K false)) ∧ w.frozen? ⟨gs, K, none⟩ = false := h.see.at rfl (by omega)
end
/-- What spec.LakesOf's searches call, from a world on. -/
structure LakeS (v lv : Value) (n m N : Nat) (pf wf : Nat → Int) (wL : World) : Prop where
  g : SpecH v n m N pf wL
  l : SpecH lv n m N wf wL
theorem lakeS {v lv : Value} {h : List (List Int)} {n m N : Nat} {pf wf : Nat → Int} {ws : List Int} {wL : World} (hv : RowsV wL v h) (hl : RowsV wL lv (shapeL ws m n)) (hg : vGrid h = true) (en : h.length = n) (em : (h.getD 0 []).length = m) (eN : n * m = N) (W : Level n m h.flatten ws) (hpf : ∀ i, pf i = h.flatten.getD i 0) (hwf : ∀ i, wf i = ws.getD i 0) : LakeS v lv n m N pf wf wL := by
  obtain ⟨A, _, _⟩ := fill_grid hg
  rw [fillL_yes hg en em W] at A
  have G := Grid.of hg
  exact ⟨specH hv hg en em eN hpf, specH hl A.to (shapeL_len _ _ _) (shapeL_row _ _ _ _ W.len (by have := G.n1; omega)) eN (by rw [shapeL_flat _ _ _ W.len]; exact hwf)⟩

set_option maxRecDepth 100000 in
set_option maxHeartbeats 8000000 in
theorem SLakesOf_any (v : Value) (h : List (List Int)) (w : World) (hv : RowsV w v h) :
    Calls Tryd.prog 24 #[v] w (NewRows w (lakesL h)) := by
  have HK := sValidGrid_any v h w hv
  cases hg : vGrid h with
  | false =>
    rw [hg] at HK
    have HK2 := Lib.hid HK
    rw [lakesL_no hg]
    obtain ⟨a, b, o, c, rfl, _, _, _⟩ := hv.shape
    clear hv HK hg
    go_enter Tryd.func24, Tryd.ntmps24
    go_wp2_with (fail)
    refine HK2.out.mono ?_
    rintro e w1 ⟨rfl, hG⟩
    have HG := Lib.hid hG
    clear hG
    go_wp2
    go_ret
    exact ⟨_, rfl, RowsO.nil _ _ _ _ _, HG.out⟩
  | true =>
    rw [hg] at HK
    have HK2 := Lib.hid HK
    have G := Grid.of hg
    obtain ⟨n, en⟩ : ∃ n, h.length = n := ⟨_, rfl⟩
    obtain ⟨m, em⟩ : ∃ m, (h.getD 0 []).length = m := ⟨_, rfl⟩
    obtain ⟨N, eN⟩ : ∃ N, n * m = N := ⟨_, rfl⟩
    obtain ⟨ws, W⟩ : ∃ ws, Level n m h.flatten ws := ⟨_, by have := grid_level hg; rwa [en, em] at this⟩
    have HF := Lib.hid fun X (hX : Grew w X) => byQueue_any v h n m N X (hv.grew hX) hg en em eN
    have HU := Lib.hid fun ys (Y : Level n m h.flatten ys) => Y.uniq W
    have hn5 := G.n5
    have hn1 := G.n1
    have hm5 := G.m5
    have hm1 := G.m1
    rw [en] at hn5 hn1
    rw [em] at hm5 hm1
    have hN25 : N ≤ 25 := by rw [← eN]; exact Nat.mul_le_mul hn5 hm5
    have hN1 : 1 ≤ N := by rw [← eN]; exact Nat.mul_pos hn1 hm1
    obtain ⟨pf, hpf⟩ : ∃ pf : Nat → Int, ∀ i, pf i = h.flatten.getD i 0 := ⟨fun i => h.flatten.getD i 0, fun _ => rfl⟩
    obtain ⟨wf, hwf⟩ : ∃ wf : Nat → Int, ∀ i, wf i = ws.getD i 0 := ⟨fun i => ws.getD i 0, fun _ => rfl⟩
    have HLS := Lib.hid fun lv X (hX : Grew w X) (hl : RowsV X lv (shapeL ws m n)) => lakeS (hv.grew hX) hl hg en em eN W hpf hwf
    have hdw : ∀ i, i < N → (subL ws h.flatten).getD i 0 = wf i - pf i := fun i hi => by rw [subL_at _ _ _ (by rw [W.len, eN]; exact hi), hwf, hpf]
    have hY := fun fs (F : Flats n m (jLake (subL ws h.flatten) ws) fs) => lakesL_yes hg en em W F
    rw [eN] at hY
    have hbase : ∀ i, i < N → pf i ≤ wf i := fun i hi => by rw [hpf, hwf]; exact W.base (by rw [eN]; exact hi)
    have hwl : ws.length = n * m := W.len
    obtain ⟨ds, eds⟩ : ∃ ds, subL ws h.flatten = ds := ⟨_, rfl⟩
    rw [eds] at hdw hY
    obtain ⟨R, eR⟩ : ∃ R, lakesL h = R := ⟨_, rfl⟩
    rw [eR] at hY ⊢
    have HD := Lib.hid (And.intro hdw (And.intro hbase (And.intro hwf hwl)))
    have HY := Lib.hid hY
    have HNM := Lib.hid (And.intro hn5 (And.intro hm1 (And.intro hm5 eN)))
    obtain ⟨a, b, o, c, rfl, ⟨hlc, hcb⟩, ha, HCR⟩ := hv.shape
    obtain rfl := ha (by omega)
    obtain ⟨u0, hcu0, hu0⟩ := HCR.out 0 (by omega)
    rw [Nat.add_zero] at hcu0
    obtain ⟨a0, b0, o0, c0, rfl, _, _, _⟩ := hu0.shape
    rw [em] at hcu0
    rw [en] at HK2 HF HLS hlc ⊢
    have hn0 : (0 : Int) < (n : Int) := by omega
    have hnN : 0 < n := hn1
    clear hv HK hg G ha HCR hu0 en em eN W hpf hwf hdw hY hbase hwl eds eR
    go_enter Tryd.func24, Tryd.ntmps24
    go_wp2_with (fail)
    refine HK2.out.mono ?_
    rintro e w1 ⟨rfl, hG1⟩
    have HG1 := Lib.hid hG1
    have hcu1 := hG1.cell hcu0
    clear hG1 hcu0 HK2
    go_wp2_with (fail)
    go_region_held3 (fun W => W.cell? ⟨b, o, none⟩ = some (.slice a0 m c0))
      (first
        | exact hcu1
        | assumption
        | exact hcu2
        | exact hcu3)
      (first
        | (go_at_call 59; refine (HF.out _ (HG1.out.drew)).mono ?_; rintro e w2 ⟨g2, c2, fs, rfl, hO2, hF2, hg2⟩; obtain rfl := HU.out fs hF2; have hcu2 := (((Grew.refl w1).drew).trans hg2).cell hcu1)
        | (go_at_call 64; refine (shaped_own hO2 (by rw [HD.out.2.2.2]) HNM.out.1 HNM.out.2.1 HNM.out.2.2.1).mono ?_; rintro e w3 ⟨v3, rfl, hO3, hg3⟩; obtain ⟨a3, c3, rfl⟩ := hO3.sh; have hcu3 := hg3.cell hcu2))
    have hgL := HG1.out.drew.trans (hg2.trans hg3)
    have HS := Lib.hid (HLS.out _ w3 hgL hO3.toV)
    have HGL := Lib.hid hgL
    clear hO2 hF2 hg2 hcu2 hO3 hg3 hcu3 hcu1 hgL HLS HF HU
    obtain ⟨B0, eB0⟩ : ∃ B0, w3.heap.size = B0 := ⟨_, rfl⟩
    have HB0 := Lib.hid eB0
    have H4 : Hid (RowsO 26 3 B0 (B0 + 1) (w3.alloc (.cells #[] 26)) (.slice (some ⟨B0, 0, none⟩) 0 0) [] ∧ Grew w3 (w3.alloc (.cells #[] 26)) ∧ (w3.alloc (.cells #[] 26)).heap.size = B0 + 1) := by
      subst eB0
      refine Lib.hid ⟨RowsO.lit0 _ _ _ _ (Nat.le_refl _), (Grew.refl _).alloc _, by simp⟩
    have HC4 := Lib.hid (HS.out.g.cells _ H4.out.2.1)
    go_wp2_with (fail)
    try rw [eB0]
    clear eB0
    refine HC4.out.mono ?_
    rintro e w4 ⟨rfl, rfl⟩
    obtain ⟨wz, ewz⟩ : ∃ wz, w3.alloc (.cells #[] 26) = wz := ⟨_, rfl⟩
    rw [ewz] at H4 ⊢
    clear ewz HC4
    go_wp2_with (at_make; refine wpList_make_bools rfl (.tmp 24) (.tmp 24) 50 rfl Tryd.underlying50 Tryd.infoBool rfl rfl rfl rfl (by omega) ?_; intro w5 hO5 hg5 hs5)
    obtain ⟨gs, egs⟩ : ∃ gs, wz.heap.size = gs := ⟨_, rfl⟩
    rw [egs] at hO5 ⊢
    have hbl : BoolsO 4 gs (gs + 1) w5 (.slice (some ⟨gs, 0, none⟩) N N) (List.replicate N false) := ⟨ownsRow_base hO5.1 (Nat.le_refl _), fun g e => by simp [Value.ownBlock] at e; omega⟩
    have HG : Hid (gs = B0 + 1 ∧ w3.heap.size = B0) := Lib.hid ⟨by rw [← egs]; exact H4.out.2.2, HB0.out⟩
    have H5 : Hid (∃ L gh sn, LOut n m N ds fs 0 L gh sn ∧ RowsO 26 3 B0 w5.heap.size w5 (.slice (some ⟨B0, 0, none⟩) 0 0) L ∧ BoolsO 4 gs (gs + 1) w5 (.slice (some ⟨gs, 0, none⟩) N N) sn ∧ Grew w3 w5 ∧ gs < w5.heap.size) := by
      refine Lib.hid ⟨[], _, _, LOut.start HNM.out.2.2.2 ds fs, (H4.out.1.grew hg5).wide (Nat.le_refl _) ?_, hbl, H4.out.2.1.trans hg5, by omega⟩
      have := HG.out.1
      omega
    clear hO5 hg5 hs5 hbl H4 egs HB0
    go_wp2_with (fail)
    go_loopg [4, 6] N (fun gk v i wr => ∃ (k : Nat) (va : Value), va = v ∧ i = .int .i64 (k : Int) ∧ k ≤ N ∧ N ≤ gk + k ∧ Hid (∃ L gh sn, LOut n m N ds fs k L gh sn ∧ RowsO 26 3 B0 wr.heap.size wr va L ∧ BoolsO 4 gs (gs + 1) wr (.slice (some ⟨gs, 0, none⟩) N N) sn ∧ Grew w3 wr ∧ gs < wr.heap.size))
    case atStart => exact ⟨0, _, rfl, rfl, Nat.zero_le _, Nat.le_refl _, H5.out⟩
    case round =>
      obtain ⟨k, va, rfl, rfl, hk1, hk2, HI⟩ := hrel
      clear H5
      have hgr : Grew w3 wr := by obtain ⟨_, _, _, _, _, _, h, _⟩ := HI.out; exact h
      have HC := Lib.hid (HS.out.g.cells _ hgr)
      by_cases hlt : k < N
      · obtain ⟨L, gh, sn, HX⟩ : ∃ L gh sn, Hid (LOut n m N ds fs k L gh sn ∧ RowsO 26 3 B0 wr.heap.size wr va L ∧ BoolsO 4 gs (gs + 1) wr (.slice (some ⟨gs, 0, none⟩) N N) sn ∧ Grew w3 wr ∧ gs < wr.heap.size) := by
          obtain ⟨L, gh, sn, h⟩ := HI.out
          exact ⟨L, gh, sn, Lib.hid h⟩
        obtain ⟨hel, hfr⟩ := HX.out.2.2.1.at rfl (i := k) (by rw [HX.out.1.seen.1]; exact hlt)
        have hki : (k : Int) < (N : Int) := by omega
        clear HI
        cases hs : sn.getD k false with
        | true =>
          rw [hs] at hel
          have HN : Hid (∃ L gh sn, LOut n m N ds fs (k + 1) L gh sn ∧ RowsO 26 3 B0 wr.heap.size wr va L ∧ BoolsO 4 gs (gs + 1) wr (.slice (some ⟨gs, 0, none⟩) N N) sn ∧ Grew w3 wr ∧ gs < wr.heap.size) := Lib.hid ⟨L, gh, sn, HX.out.1.skip HNM.out.2.2.2 hlt hs, HX.out.2⟩
          clear HX hs hfr hgr
          go_wp2_with (fail)
          refine HC.out.mono ?_
          rintro e w6 ⟨rfl, rfl⟩
          go_wp2
          go_roundg (gk - 1)
          case measure => omega
          case rel => exact ⟨k + 1, _, rfl, by go_num, by omega, by omega, HN.out⟩
        | false =>
          rw [hs] at hel
          have HLA := Lib.hid (HS.out.l.hat k wr hgr hlt)
          have HGA := Lib.hid fun X (hX : Grew w3 X) => HS.out.g.hat k X hX hlt
          have HLA2 := Lib.hid fun X (hX : Grew w3 X) => HS.out.l.hat k X hX hlt
          have hdk := HD.out.1 k hlt
          have hbk := HD.out.2.1 k hlt
          obtain ⟨u, eu⟩ : ∃ u, wf k = u := ⟨_, rfl⟩
          obtain ⟨y, ey⟩ : ∃ y, pf k = y := ⟨_, rfl⟩
          have huf : fs.getD k 0 = u := by rw [← HD.out.2.2.1 k]; exact eu
          rw [eu] at HLA HLA2 hdk hbk
          rw [ey] at HGA hdk hbk
          clear eu ey
          by_cases hd : u = y
          · subst hd
            obtain ⟨gh', hO'⟩ := HX.out.1.dry HNM.out.2.2.2 hlt (by omega)
            have HN := Lib.hid (And.intro hO' HX.out.2)
            clear hO' HX hs hfr hdk hbk huf
            go_wp2_with (fail)
            refine HC.out.mono ?_
            rintro e w6 ⟨rfl, rfl⟩
            go_wp2_with (fail)
            refine HLA.out.mono ?_
            rintro e w7 ⟨rfl, hq7⟩
            have hg7 := quiet_grew hq7
            clear hq7
            go_wp2_with (fail)
            refine (HGA.out _ (hgr.trans hg7)).mono ?_
            rintro e w8 ⟨rfl, hq8⟩
            have hg8 := hg7.trans (quiet_grew hq8)
            have HN2 : Hid (∃ L gh sn, LOut n m N ds fs (k + 1) L gh sn ∧ RowsO 26 3 B0 w8.heap.size w8 va L ∧ BoolsO 4 gs (gs + 1) w8 (.slice (some ⟨gs, 0, none⟩) N N) sn ∧ Grew w3 w8 ∧ gs < w8.heap.size) := by
              obtain ⟨j1, j2, j3, j4, j5⟩ := HN.out
              exact Lib.hid ⟨L, gh', sn, j1, (j2.grew hg8).wide (Nat.le_refl _) hg8.size, j3.grew hg8, j4.trans hg8, Nat.lt_of_lt_of_le j5 hg8.size⟩
            clear hq8 hg8 hg7 HN
            go_wp2
            go_roundg (gk - 1)
            case measure => omega
            case rel => exact ⟨k + 1, _, rfl, by go_num, by omega, by omega, HN2.out⟩
          · have hd0 : 0 < ds.getD k 0 := by omega
            have hB := HX.out.1.begin HNM.out.2.2.2 hlt hs hd0
            have hue : (u == y) = false := beq_eq_false_iff_ne.2 hd
            clear hs hdk
            go_wp2_with (fail)
            refine HC.out.mono ?_
            rintro e w6 ⟨rfl, rfl⟩
            go_wp2_with (fail)
            refine HLA.out.mono ?_
            rintro e w7 ⟨rfl, hq7⟩
            have hg7 := quiet_grew hq7
            clear hq7
            go_wp2_with (fail)
            refine (HGA.out _ (hgr.trans hg7)).mono ?_
            rintro e w8 ⟨rfl, hq8⟩
            have hg8 := hg7.trans (quiet_grew hq8)
            obtain ⟨Bs, eBs⟩ : ∃ Bs, w8.heap.size = Bs := ⟨_, rfl⟩
            have hsee8 := HX.out.2.2.1.grew hg8
            obtain ⟨hel8, hfr8⟩ := hsee8.at rfl (i := k) (by rw [HX.out.1.seen.1]; exact hlt)
            have hsz8 : (w8.setCell ⟨gs, k, none⟩ (.bool true)).heap.size = Bs := by rw [← eBs]; simp
            have H9 : Hid (LIn n m N ds fs k L (gh.set k (k : Int)) (sn.set k true) [(k : Int)] 0 ∧ LM w3 B0 Bs gs N va L ((w8.setCell ⟨gs, k, none⟩ (.bool true)).alloc (.cells #[.int .i64 k] 3)) (sn.set k true) Bs (.slice (some ⟨Bs, 0, none⟩) 1 1) [(k : Int)]) := by
              have hgs8 : gs < w8.heap.size := Nat.lt_of_lt_of_le HX.out.2.2.2.2 hg8.size
              have hlit := IntsO.lit 3 (w8.setCell ⟨gs, k, none⟩ (.bool true)).heap.size (w8.setCell ⟨gs, k, none⟩ (.bool true)) [(k : Int)] #[.int .i64 k] rfl (Nat.le_refl _) (show 1 ≤ maxLen by decide)
              rw [hsz8] at hlit
              have hal : Grew (w8.setCell ⟨gs, k, none⟩ (.bool true)) ((w8.setCell ⟨gs, k, none⟩ (.bool true)).alloc (.cells #[.int .i64 k] 3)) := (Grew.refl _).alloc _
              have hwi : Within gs (gs + 1) w8 (w8.setCell ⟨gs, k, none⟩ (.bool true)) := (Within.refl _ _ _).setCell (p := ⟨gs, k, none⟩) (Nat.le_refl _) (Nat.lt_succ_self _) _
              have hrow := (((HX.out.2.1.grew hg8).setB (by decide) (by decide) hsee8 k true).grew hal).wide (Nat.le_refl _) (Nat.le_trans hg8.size (Nat.le_of_eq eBs))
              have hgg := HG.out
              exact Lib.hid ⟨hB, hrow, (hsee8.set rfl k true).grew hal, hlit.at1, (Within.grew (HX.out.2.2.2.1.trans hg8) hwi (by omega)).trans hal, Nat.le_refl _, hgg.2, by omega, by omega⟩
            have HBS : Hid (B0 ≤ Bs ∧ gs = B0 + 1 ∧ w3.heap.size = B0) := Lib.hid ⟨by rw [← eBs]; have := (HX.out.2.2.2.1.trans hg8).size; have := HG.out.2; omega, HG.out⟩
            clear hq8 hg8 hg7 HX hB hsee8 hfr hgr hel
            go_wp2_with (fail)
            obtain ⟨go, rfl⟩ : ∃ go : Nat, go = gk := ⟨_, rfl⟩
            go_loopg [7, 8] N (fun gk2 v i wm => ∃ q met g c', v = .slice (some ⟨g, 0, none⟩) (List.length met) c' ∧ i = .int .i64 ((q : Nat) : Int) ∧ q ≤ List.length met ∧ List.length met ≤ N ∧ N ≤ gk2 + q ∧ Hid (∃ gh sn, LIn n m N ds fs k L gh sn met q ∧ LM w3 B0 Bs gs N va L wm sn g v met))
            case atStart => exact ⟨0, [(k : Int)], _, _, rfl, rfl, by simp, by simpa using hN1, by omega, _, _, H9.out.1, H9.out.2⟩
            case round =>
              obtain ⟨q, met, g, c', rfl, rfl, hq1, hq3, hq2, HM⟩ := hrel
              clear H9
              by_cases hlq : q < met.length
              · obtain ⟨gh1, sn1, HX⟩ : ∃ gh1 sn1, Hid (LIn n m N ds fs k L gh1 sn1 met q ∧ LM w3 B0 Bs gs N va L wr sn1 g (.slice (some ⟨g, 0, none⟩) (List.length met) c') met) := by
                  obtain ⟨gh, sn, h⟩ := HM.out
                  exact ⟨gh, sn, Lib.hid h⟩
                obtain ⟨X, eX, hXN, _, _⟩ := HX.out.1.cell hlq
                rw [HNM.out.2.2.2] at hXN
                have hel := (HX.out.2.lst.at rfl hlq).1
                rw [eX] at hel
                have HBX := Lib.hid (HS.out.g.around X wr HX.out.2.grew hXN)
                have hfac := around_facts HNM.out.1 HNM.out.2.2.1 (I := X) (by rw [HNM.out.2.2.2]; exact hXN)
                obtain ⟨A, eA⟩ : ∃ A, aroundL n m X = A := ⟨_, rfl⟩
                rw [eA] at HBX hfac
                have HEA := Lib.hid (And.intro eA hfac.1)
                have hA4 := hfac.2.2
                obtain ⟨gm0, rfl⟩ : ∃ gm0 : Nat, gm0 = gk := ⟨_, rfl⟩
                clear eA hfac HM
                go_wp2_with (fail)
                refine HBX.out.mono ?_
                rintro e w9 ⟨a5, c5, rfl, hO9, hg9⟩
                obtain ⟨S4, eS4⟩ : ∃ S4, wr.heap.size = S4 := ⟨_, rfl⟩
                obtain ⟨S5, eS5⟩ : ∃ S5, w9.heap.size = S5 := ⟨_, rfl⟩
                have hS45 : S4 ≤ S5 := by rw [← eS4, ← eS5]; exact hg9.size
                have H10 : Hid (∃ gh sn, LIn n m N ds fs k L gh sn met q ∧ Done n m (jLake ds fs) k gh met q 0 ∧ met.getD q 0 = X ∧ LM w3 B0 Bs gs N va L w9 sn g (.slice (some ⟨g, 0, none⟩) (List.length met) c') met ∧ IntsO 3 S4 S5 w9 (.slice a5 A.length c5) A ∧ (g < S4 ∨ S5 ≤ g) ∧ S5 ≤ w9.heap.size) := by
                  refine Lib.hid ⟨gh1, sn1, HX.out.1, fun s j h => absurd h (Nat.not_lt_zero _), eX, HX.out.2.step hg9, ?_, .inl (by rw [← eS4]; exact HX.out.2.lst.blkLt), Nat.le_of_eq eS5.symm⟩
                  rw [eS4, eS5] at hO9
                  exact hO9
                have HBG : Hid (Bs ≤ S4) := Lib.hid (by rw [← eS4]; have h1 := HX.out.2.big; have h2 := HX.out.2.lst.blkLt; omega)
                clear hO9 hg9 eS4 eS5 HX hel HBX eX
                go_wp2
                go_loopg [7, 10] A.length (fun gl v i wi => ∃ t met g c', v = .slice (some ⟨g, 0, none⟩) (List.length met) c' ∧ i = .int .i64 ((t : Nat) : Int) ∧ t ≤ A.length ∧ q < List.length met ∧ List.length met ≤ N ∧ A.length ≤ gl + t ∧ Hid (∃ gh sn, LIn n m N ds fs k L gh sn met q ∧ Done n m (jLake ds fs) k gh met q t ∧ met.getD q 0 = X ∧ LM w3 B0 Bs gs N va L wi sn g v met ∧ IntsO 3 S4 S5 wi (.slice a5 A.length c5) A ∧ (g < S4 ∨ S5 ≤ g) ∧ S5 ≤ wi.heap.size))
                case atStart => exact ⟨0, met, _, _, rfl, rfl, Nat.zero_le _, hlq, hq3, Nat.le_refl _, H10.out⟩
                case round =>
                  obtain ⟨t, met1, gm, c6, rfl, rfl, ht1, hqm, hm3, ht2, HT⟩ := hrel
                  clear H10
                  by_cases hlt2 : t < A.length
                  · obtain ⟨gh2, sn2, HZ⟩ : ∃ gh2 sn2, Hid (LIn n m N ds fs k L gh2 sn2 met1 q ∧ Done n m (jLake ds fs) k gh2 met1 q t ∧ met1.getD q 0 = X ∧ LM w3 B0 Bs gs N va L wr sn2 gm (.slice (some ⟨gm, 0, none⟩) (List.length met1) c6) met1 ∧ IntsO 3 S4 S5 wr (.slice a5 A.length c5) A ∧ (gm < S4 ∨ S5 ≤ gm) ∧ S5 ≤ wr.heap.size) := by
                      obtain ⟨gh, sn, h⟩ := HT.out
                      exact ⟨gh, sn, Lib.hid h⟩
                    obtain ⟨a6, b6, o6, c7, e6, _, ha6, HC6⟩ := HZ.out.2.2.2.2.1.toV.shape
                    obtain ⟨rfl, rfl⟩ : a5 = a6 ∧ c5 = c7 := by simpa using e6
                    obtain rfl := ha6 (by omega)
                    have hlc := HC6.out t hlt2
                    have hmem : A.getD t 0 ∈ A := by
                      rw [List.getD_eq_getElem?_getD, List.getElem?_eq_getElem hlt2]; exact List.getElem_mem hlt2
                    obtain ⟨y1, ey1⟩ : ∃ y1, A.getD t 0 = y1 := ⟨_, rfl⟩
                    rw [ey1] at hlc hmem
                    have hy1 := HEA.out.2 y1 hmem
                    obtain ⟨K, rfl⟩ := Int.eq_ofNat_of_zero_le hy1.1
                    have hKN : K < N := by have := hy1.2.1; rw [HNM.out.2.2.2] at this; omega
                    have hKi : (K : Int) < (N : Int) := by omega
                    have hti : (t : Int) < (A.length : Int) := by omega
                    have HEY : Hid (t < (aroundL n m (met1.getD q 0).toNat).length ∧ (aroundL n m (met1.getD q 0).toNat).getD t 0 = K) := Lib.hid (by rw [HZ.out.2.2.1, Int.toNat_natCast, HEA.out.1]; exact ⟨hlt2, ey1⟩)
                    obtain ⟨hel, hfr⟩ := HZ.out.2.2.2.1.seeAt HZ.out.1.seen.1 K hKN
                    have hgr := HZ.out.2.2.2.1.grew
                    have HSK : Hid (∀ W, Grew wr W → (sn2.getD K false = true ∨ ¬ 0 < ds.getD K 0 ∨ ¬ fs.getD K 0 = fs.getD k 0) → ∃ gh sn, LIn n m N ds fs k L gh sn met1 q ∧ Done n m (jLake ds fs) k gh met1 q (t + 1) ∧ met1.getD q 0 = X ∧ LM w3 B0 Bs gs N va L W sn gm (.slice (some ⟨gm, 0, none⟩) (List.length met1) c6) met1 ∧ IntsO 3 S4 S5 W (.slice (some ⟨b6, o6, none⟩) A.length c5) A ∧ (gm < S4 ∨ S5 ≤ gm) ∧ S5 ≤ W.heap.size) := Lib.hid fun W hW hc => by
                      obtain ⟨j1, j2, j3, j4, j5, j6, j7⟩ := HZ.out
                      exact ⟨gh2, sn2, j1, j1.skip HNM.out.1 HNM.out.2.2.1 hqm j2 HEY.out.1 HEY.out.2 hKN hc, j3, j4.step hW, j5.grew hW, j6, Nat.le_trans j7 hW.size⟩
                    clear HT e6 ha6 HC6 hmem ey1 hy1
                    cases hs : sn2.getD K false with
                    | true =>
                      rw [hs] at hel
                      have HN := Lib.hid (HSK.out wr (Grew.refl _) (.inl hs))
                      clear HZ HSK hs hfr hgr
                      go_wp2
                      go_roundg (gk - 1)
                      case measure => omega
                      case rel => exact ⟨t + 1, met1, gm, c6, rfl, by go_num, by omega, hqm, hm3, by omega, HN.out⟩
                    | false =>
                      rw [hs] at hel
                      have HLK := Lib.hid fun W (hW : Grew w3 W) => HS.out.l.hat K W hW hKN
                      have HGK := Lib.hid fun W (hW : Grew w3 W) => HS.out.g.hat K W hW hKN
                      have hdk := HD.out.1 K hKN
                      obtain ⟨u1, eu1⟩ : ∃ u1, wf K = u1 := ⟨_, rfl⟩
                      obtain ⟨p1, ep1⟩ : ∃ p1, pf K = p1 := ⟨_, rfl⟩
                      have hufK : fs.getD K 0 = u1 := by rw [← HD.out.2.2.1 K]; exact eu1
                      rw [eu1] at HLK hdk
                      rw [ep1] at HGK hdk
                      clear eu1 ep1
                      go_wp2_with (fail)
                      refine (HLK.out _ hgr).mono ?_
                      rintro e wa ⟨rfl, hqa⟩
                      have hga := quiet_grew hqa
                      clear hqa
                      go_wp2_with (fail)
                      refine (HGK.out _ (hgr.trans hga)).mono ?_
                      rintro e wb ⟨rfl, hqb⟩
                      have hgb := hga.trans (quiet_grew hqb)
                      clear hqb hga
                      by_cases hd : p1 < u1
                      · go_wp2_with (fail)
                        refine (HLK.out _ (hgr.trans hgb)).mono ?_
                        rintro e wc ⟨rfl, hqc⟩
                        have hgc := hgb.trans (quiet_grew hqc)
                        clear hqc hgb
                        go_wp2_with (fail)
                        refine (HLA2.out _ (hgr.trans hgc)).mono ?_
                        rintro e wd ⟨rfl, hqd⟩
                        have hgd := hgc.trans (quiet_grew hqd)
                        clear hqd hgc
                        by_cases hw : u1 = u
                        · subst hw
                          have hseed := (HZ.out.2.2.2.1.step hgd).seeAt HZ.out.1.seen.1 K hKN
                          obtain ⟨held, hfrd⟩ := hseed
                          rw [hs] at held
                          have hM := HZ.out.1.mark HNM.out.1 HNM.out.2.2.1 HNM.out.2.2.2 hlt hqm HZ.out.2.1 HEY.out.1 HEY.out.2 hKN hs (by omega) (by rw [hufK, huf])
                          have hroom := hM.1.room HNM.out.2.2.2
                          rw [List.length_append, List.length_singleton] at hroom
                          have HE1 := Lib.hid ((HZ.out.2.2.2.1.step hgd).set K)
                          have HE2 := Lib.hid (And.intro hM hgd)
                          clear hs hdk hM hgd hel hfr hgr HSK
                          go_wp2_with (at_builtin; refine wpList_append_int_at rfl (.tmp 98) (.tmp 100) 26 rfl Tryd.underlying26 Tryd.infoI rfl rfl (by simp) HE1.out.lst (by omega) rfl ?_; intro g5 c5' w5 hO5 hW5 hat5 hlt5)
                          have HN : Hid (∃ gh sn, LIn n m N ds fs k L gh sn (met1 ++ [(K : Int)]) q ∧ Done n m (jLake ds fs) k gh (met1 ++ [(K : Int)]) q (t + 1) ∧ (met1 ++ [(K : Int)]).getD q 0 = X ∧ LM w3 B0 Bs gs N va L w5 sn g5 (.slice (some ⟨g5, 0, none⟩) (met1.length + 1) c5') (met1 ++ [(K : Int)]) ∧ IntsO 3 S4 S5 w5 (.slice (some ⟨b6, o6, none⟩) A.length c5) A ∧ (g5 < S4 ∨ S5 ≤ g5) ∧ S5 ≤ w5.heap.size) := by
                            obtain ⟨j1, j2, j3, j4, j5, j6, j7⟩ := HZ.out
                            obtain ⟨⟨k1, k2, k3⟩, k4⟩ := HE2.out
                            obtain ⟨s1, s2, s3⟩ := j4.sta
                            have hwi : Within gs (gs + 1) wd (wd.setCell ⟨gs, K, none⟩ (.bool true)) := (Within.refl _ _ _).setCell (p := ⟨gs, K, none⟩) (Nat.le_refl _) (Nat.lt_succ_self _) _
                            have hbg := HBG.out
                            have hsz : (wd.setCell ⟨gs, K, none⟩ (.bool true)).heap.size = wd.heap.size := by simp
                            have h45 := k4.size
                            have h5s := hW5.size
                            refine Lib.hid ⟨_, _, k1, k2, by rw [k3]; exact j3, HE1.out.app hO5 hW5 hat5 HE1.out.lst.blkLt, ((j5.grew k4).within hwi (.inr (by omega))).within hW5 ?_, ?_, by omega⟩
                            · rcases j6 with h6 | h6
                              · exact .inr (by omega)
                              · exact .inl h6
                            · omega
                          clear HZ HE1 HE2 hO5 hW5 hat5 hlt5 held hfrd
                          go_wp2
                          go_roundg (gk - 1)
                          case measure => omega
                          case rel => exact ⟨t + 1, met1 ++ [(K : Int)], g5, c5', by simp, by go_num, by omega, by simp; omega, by simp; omega, by omega, HN.out⟩
                        · have HN := Lib.hid (HSK.out wd hgd (.inr (.inr (by rw [hufK, huf]; exact hw))))
                          have hwu : (u1 == u) = false := beq_eq_false_iff_ne.2 hw
                          clear HZ HSK hs hdk hel hfr hgr hgd
                          go_wp2
                          go_roundg (gk - 1)
                          case measure => omega
                          case rel => exact ⟨t + 1, met1, gm, c6, rfl, by go_num, by omega, hqm, hm3, by omega, HN.out⟩
                      · have HN := Lib.hid (HSK.out wb hgb (.inr (.inl (by omega))))
                        clear HZ HSK hs hdk hel hfr hgr hgb
                        go_wp2
                        go_roundg (gk - 1)
                        case measure => omega
                        case rel => exact ⟨t + 1, met1, gm, c6, rfl, by go_num, by omega, hqm, hm3, by omega, HN.out⟩
                  · obtain rfl : t = A.length := by omega
                    have HN : Hid (∃ gh sn, LIn n m N ds fs k L gh sn met1 (q + 1) ∧ LM w3 B0 Bs gs N va L wr sn gm (.slice (some ⟨gm, 0, none⟩) (List.length met1) c6) met1) := by
                      obtain ⟨gh, sn, j1, j2, j3, j4, _⟩ := HT.out
                      refine Lib.hid ⟨gh, sn, j1.next hqm ?_, j4⟩
                      rw [j3, Int.toNat_natCast, HEA.out.1]
                      exact j2
                    clear HT
                    go_wp2
                    go_roundg (gm0 - 1)
                    case measure => omega
                    case rel => exact ⟨q + 1, met1, gm, c6, rfl, by go_num, by omega, hm3, by omega, HN.out⟩
              · obtain rfl : q = met.length := by omega
                obtain ⟨gh1, sn1, HX⟩ : ∃ gh1 sn1, Hid (LIn n m N ds fs k L gh1 sn1 met met.length ∧ LM w3 B0 Bs gs N va L wr sn1 g (.slice (some ⟨g, 0, none⟩) (List.length met) c') met) := by
                  obtain ⟨gh, sn, h⟩ := HM.out
                  exact ⟨gh, sn, Lib.hid h⟩
                have hLl : L.length ≤ k := by rw [HX.out.1.out]; exact lakesTo_len _ _ _ _ _
                clear HM
                go_wp2_with (fail)
                refine (HLA2.out _ HX.out.2.grew).mono ?_
                rintro e wq ⟨rfl, hqq⟩
                have HLQ := Lib.hid (HX.out.2.step (quiet_grew hqq))
                clear hqq
                obtain ⟨wa, ewa⟩ : ∃ wa, wq.alloc (.cells #[.int .i64 k, .int .i64 met.length, .int .i64 u] 3) = wa := ⟨_, rfl⟩
                have hwa : wa.heap.size = wq.heap.size + 1 := by rw [← ewa]; simp
                have HA : Hid (IntsO 3 wq.heap.size wa.heap.size wa (.slice (some ⟨wq.heap.size, 0, none⟩) 3 3) [(k : Int), (met.length : Int), u] ∧ RowsO 26 3 B0 wq.heap.size wa va L ∧ LM w3 B0 Bs gs N va L wa sn1 g (.slice (some ⟨g, 0, none⟩) (List.length met) c') met ∧ B0 ≤ wq.heap.size ∧ va.ownBlock ≠ some gs ∧ gs < wq.heap.size) := by
                  have hga : Grew wq wa := by rw [← ewa]; exact (Grew.refl _).alloc _
                  have hlit := IntsO.lit 3 wq.heap.size wq [(k : Int), (met.length : Int), u] #[.int .i64 k, .int .i64 met.length, .int .i64 u] rfl (Nat.le_refl _) (show 3 ≤ maxLen by decide)
                  rw [ewa] at hlit
                  have hbig := HLQ.out.big
                  have hb2 := HLQ.out.lst.blkLt
                  obtain ⟨s1, s2, s3⟩ := HLQ.out.sta
                  obtain ⟨V, h1, _⟩ := HLQ.out.rows
                  exact Lib.hid ⟨hlit.wide (Nat.le_refl _) (by omega), (HLQ.out.rows.grew hga).wide (Nat.le_refl _) (by omega), HLQ.out.step hga, by omega, ownsRow_int_block (by decide) h1 HLQ.out.see.1 gs rfl, by omega⟩
                go_wp2_with (at_builtin; (first | (refine wpList_append_rowB (w := wa) rfl (.tmp 102) (.tmp 110) 23 rfl (by decide) Tryd.underlying23 Tryd.infoIs rfl rfl rfl HA.out.2.1 HA.out.1 (by omega) (by have := HA.out.2.2.2.1; omega) HA.out.2.2.2.1 ?_) | (refine wpList_append_rowB (w := wa) (nb := wq.heap.size + 1) rfl (.tmp 102) (.tmp 110) 23 rfl (by decide) Tryd.underlying23 Tryd.infoIs rfl rfl hwa.symm HA.out.2.1 HA.out.1 (by omega) (by have := HA.out.2.2.2.1; omega) HA.out.2.2.2.1 ?_)); intro g5 c5 w8 hO8 hW8 hK8)
                have HN : Hid (∃ L2 gh sn, LOut n m N ds fs (k + 1) L2 gh sn ∧ RowsO 26 3 B0 w8.heap.size w8 (.slice (some ⟨g5, 0, none⟩) (L.length + 1) c5) L2 ∧ BoolsO 4 gs (gs + 1) w8 (.slice (some ⟨gs, 0, none⟩) N N) sn ∧ Grew w3 w8 ∧ gs < w8.heap.size) := by
                  obtain ⟨j1, j2, j3, j4, j5, j6⟩ := HA.out
                  have hd := HX.out.1.done HNM.out.2.2.2 hlt
                  rw [huf] at hd
                  have hss := hW8.size
                  refine Lib.hid ⟨_, _, _, hd, hO8, ⟨ownsRow_block j3.see.1 fun g0 e0 => ?_, j3.see.2⟩, Within.grew j3.grew hW8 (by rw [j3.sta.1]; exact Nat.le_refl _), by omega⟩
                  simp [Value.ownBlock] at e0
                  subst e0
                  exact hK8 gs (by omega) j5
                clear HA HLQ hO8 hW8 hK8 ewa
                go_wp2
                go_roundg (go - 1)
                case measure => omega
                case rel => exact ⟨k + 1, _, rfl, by go_num, by omega, by omega, HN.out⟩
      · obtain rfl : k = N := by omega
        have HE : Hid (∃ L, R = L ∧ RowsO 26 3 B0 wr.heap.size wr va L ∧ Grew w wr ∧ w.heap.size ≤ B0) := by
          obtain ⟨L, gh, sn, j1, j2, j3, j4, j5⟩ := HI.out
          have hF := j1.bet
          rw [← HNM.out.2.2.2] at hF
          refine Lib.hid ⟨L, ?_, j2, HGL.out.trans j4, by rw [← HG.out.2]; exact HGL.out.size⟩
          rw [HY.out gh hF.flats, j1.out]
        clear HI
        go_wp2_with (fail)
        refine HC.out.mono ?_
        rintro e w6 ⟨rfl, rfl⟩
        go_wp2
        go_ret
        obtain ⟨L, rfl, j2, j3, j4⟩ := HE.out
        exact ⟨_, rfl, j2.wide j4 (Nat.le_refl _), j3⟩
end Go.Proofs.YtgecghngfonejaaDoor
