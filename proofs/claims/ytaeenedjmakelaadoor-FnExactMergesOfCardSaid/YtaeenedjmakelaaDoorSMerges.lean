/- The contracts of spec.merges and spec.MergesOf. -/
import Derived.Test.YtaeenedjmakelaaDoorSMergeM
import Derived.Test.YtaeenedjmakelaaDoorTurns
namespace Go.Proofs.YtaeenedjmakelaaDoor
open Go.RowKit

/-- 'append(s, u)' at rows of the call's own; all but the rows' own block stays, and the new rows lie in it or in a new one. -/
theorem wpList_append_rowC {P : Program} {w : World} {ops : Array Oper} {rest : List Oper} {o : Oper} {a : Act} {Q : Exit → Act → World → Prop} (hgd : o.guard = none) (s x : Operand) (t : TypeId)
    (ho : o.op = .call { callee := .builtin .append, args := #[s, x], argTypes := #[t, t] }) {T E : TypeId} (hTE : T ≠ E) (ht : P.underlying t = some (.slice T))
    (hinfo : (P.info? T).map (fun i => (i.zero, i.size, i.bytes)) = some (some (.slice none 0 0), 1, 24)) {lo mid hi : Nat} {v u : Value} {H : List (List Int)} {xs : List Int} {nb : Nat} (hs : a.eval s = v) (hx : a.eval x = .slice (some ⟨nb, 0, none⟩) 1 1) (hnb : nb = w.heap.size)
    (hv : RowsO T E lo mid w v H) (hu : IntsO E mid hi w u xs) (hlen : H.length + 1 ≤ 5864062014805) (hbase : lo ≤ w.heap.size) (hlo : lo ≤ mid)
    (h : ∀ g c w', RowsO T E lo w'.heap.size w' (.slice (some ⟨g, 0, none⟩) (H.length + 1) c) (H ++ [xs]) → Within lo mid w w' → (∀ k, k < w.heap.size → v.ownBlock ≠ some k → w'.heap[k]? = w.heap[k]?) → (v.ownBlock = some g ∨ w.heap.size ≤ g) →
      wpList P ops Q rest (a.put o.dst (.slice (some ⟨g, 0, none⟩) (H.length + 1) c)) w') : wpList P ops Q (o :: rest) a (w.alloc (.cells #[u] T)) := by
  subst hnb
  obtain ⟨i, hi1, hi2, hi3, hi4⟩ := info_parts hinfo
  obtain ⟨V, h1, h2, h3, h4⟩ := hv
  refine wpList_append_own_at _ hgd s x t ho lo T i (.slice none 0 0) 1 24 ht hi1 hi2 hi3 hi4 rfl (by decide) v H.length _ hs (h1.alloc _) ⟨w.heap.size, 0, none⟩ 1 1 [u] hx rfl (cell_one_new _ _ _) (by simpa using hu.one) (by unfold maxLen; omega) (by omega) (by simp; omega) ?_
  intro v' w' hown hg _ hat
  have hW : Within lo mid w w' := (((Grew.refl w).alloc _).within lo mid).trans (grownBy_within hg fun g e => ⟨(World.ownsRow.lt h1 g e).1, h2 g e⟩)
  have ga : Grew w (w.alloc (.cells #[u] T)) := (Grew.refl w).alloc _
  have hO := rows_snoc hTE hlo (h1.alloc (.cells #[u] T)) (fun r hr => (h3 r hr).grew ga) h4 (hu.grew ga) hg hown
  obtain ⟨g, c, hv', _⟩ := hO.pos (by simp)
  have e : (H ++ [xs]).length = H.length + 1 := by simp
  rw [e] at hv'
  subst hv'
  refine h g c w' hO hW (fun k hk hne => (hg.block k (Nat.lt_of_lt_of_le hk ga.size) (fun e => hne e.symm)).trans (ga.block hk)) ?_
  rcases hat with h5 | h5
  · exact .inl h5.symm
  · simp [Value.ownBlock] at h5; exact .inr (by omega)
theorem mergS_snoc (p : List Int) (q : List (Nat × Nat × Int)) (e : Nat × Nat × Int) : mergS p (q ++ [e]) = mergS p q ++ if p.getD e.1 0 < e.2.2 then [rowM e] else [] := by
  unfold mergS
  rw [List.filter_append, List.map_append]
  congr 1
  by_cases h : p.getD e.1 0 < e.2.2
  · rw [if_pos h, List.filter_cons, decide_eq_true h]; rfl
  · rw [if_neg h, List.filter_cons, decide_eq_false h]; rfl
theorem mergS_len (p : List Int) (q : List (Nat × Nat × Int)) : (mergS p q).length ≤ q.length := by
  unfold mergS
  rw [List.length_map]; exact List.length_filter_le _ _
/-- What stands of the call's memory and lists within a cell's loop. -/
structure SJ (wo : World) (s9 gu gt gl cl gr N : Nat) (ls rk : List Int) (pr : Nat → Bool) (p : List Int) (st : MeetS) (K g5 l : Nat) (ar : List Int) (go oc : Nat) (ol : Nat) (w : World) : Prop where
  mem : ∃ u th, SM wo s9 gu gt gl cl gr N u ls rk th w ∧ UpF u N st.1 ∧ th.length = N ∧ ∀ c, c < N → th.getD c false = pr c
  out : RowsO 22 3 s9 w.heap.size w (.slice (some ⟨go, 0, none⟩) ol oc) (mergS p st.2)
  len : ol = (mergS p st.2).length
  bnd : st.2.length ≤ K
  nxt : ∀ t, t < l → w.cell? ⟨g5, t, none⟩ = some (.int .i64 (ar.getD t 0))
theorem SJ.grew {wo : World} {s9 gu gt gl cl gr N : Nat} {ls rk : List Int} {pr : Nat → Bool} {p : List Int} {st : MeetS} {K g5 l : Nat} {ar : List Int} {go oc ol : Nat} {w w' : World} (h : SJ wo s9 gu gt gl cl gr N ls rk pr p st K g5 l ar go oc ol w) (hg : Grew w w') : SJ wo s9 gu gt gl cl gr N ls rk pr p st K g5 l ar go oc ol w' := by
  obtain ⟨⟨u, th, h1, h2, h3, h4⟩, h5, h6, h7, h8⟩ := h
  exact ⟨⟨u, th, h1.grew hg, h2, h3, h4⟩, (h5.grew hg).wide (Nat.le_refl _) hg.size, h6, h7, fun t ht => hg.cell (h8 t ht)⟩
theorem SJ.mono {wo : World} {s9 gu gt gl cl gr N : Nat} {ls rk : List Int} {pr : Nat → Bool} {p : List Int} {st : MeetS} {K K' g5 l : Nat} {ar : List Int} {go oc ol : Nat} {w : World} (h : SJ wo s9 gu gt gl cl gr N ls rk pr p st K g5 l ar go oc ol w) (hk : K ≤ K') : SJ wo s9 gu gt gl cl gr N ls rk pr p st K' g5 l ar go oc ol w :=
  ⟨h.mem, h.out, h.len, Nat.le_trans h.bnd hk, h.nxt⟩
/-- Up goes the younger water, and the merge is a row or none. -/
theorem SJ.next {wo : World} {s9 gu gt gl cl gr N : Nat} {ls rk : List Int} {pr : Nat → Bool} {p : List Int} {st st' : MeetS} {K g5 l : Nat} {ar : List Int} {go oc ol go' oc' ol' y e : Nat} {x : Int} {w w' : World} (h : SJ wo s9 gu gt gl cl gr N ls rk pr p st K g5 l ar go oc ol w)
    (hy : y < N) (he : e < N) (ry : st.1 y = y) (re : st.1 e = e) (hne : y ≠ e) (hst : st' = (joinR st.1 y e, st.2 ++ [(y, e, x)]))
    (hw : Within s9 w.heap.size w w') (hnx : ∀ t, t < l → w'.cell? ⟨g5, t, none⟩ = some (.int .i64 (ar.getD t 0))) (hg5 : s9 ≤ g5) (hout : RowsO 22 3 s9 w'.heap.size w' (.slice (some ⟨go', 0, none⟩) ol' oc') (mergS p st'.2)) (hl' : ol' = (mergS p st'.2).length) :
    SJ wo s9 gu gt gl cl gr N ls rk pr p st' (K + 1) g5 l ar go' oc' ol' (w'.setCell ⟨gu, y, none⟩ (.int .i64 e)) := by
  obtain ⟨⟨u, th, h1, h2, h3, h4⟩, h5, h6, h7, h8⟩ := h
  have hM := h1.app hw
  have b1 := hM.o1; have b2 := hM.o2; have b3 := hM.o3; have b4 := hM.o4; have b5 := hM.o5; have b6 := hM.o6
  have hwi : Within gu (gu + 1) w' (w'.setCell ⟨gu, y, none⟩ (.int .i64 e)) := (Within.refl _ _ _).setCell (p := ⟨gu, y, none⟩) (Nat.le_refl _) (Nat.lt_succ_self _) _
  have hsz : (w'.setCell ⟨gu, y, none⟩ (.int .i64 e)).heap.size = w'.heap.size := by simp [World.setCell]
  refine ⟨⟨_, th, hM.setU y e, ?_, h3, h4⟩, ?_, hl', by rw [hst, List.length_append, List.length_singleton]; omega, fun t ht => hwi.cell (hnx t ht) (.inr (by show gu + 1 ≤ g5; omega))⟩
  · rw [hst]; exact h2.join hy he ry re hne
  · rw [hsz]; exact hout.within hwi (.inr (by omega))
theorem SJ.cellU {wo : World} {s9 gu gt gl cl gr N : Nat} {ls rk : List Int} {pr : Nat → Bool} {p : List Int} {st : MeetS} {K g5 l : Nat} {ar : List Int} {go oc ol y hi : Nat} {w w' : World} (h : SJ wo s9 gu gt gl cl gr N ls rk pr p st K g5 l ar go oc ol w) (hw : Within s9 hi w w') (hy : y < N) :
    ∃ x : Int, w'.cell? ⟨gu, y, none⟩ = some (.int .i64 x) ∧ w'.frozen? ⟨gu, y, none⟩ = false := by
  obtain ⟨⟨u, th, h1, h2, h3, h4⟩, _⟩ := h
  obtain ⟨h5, h6⟩ := (h1.app hw).up.at rfl (i := y) (by rw [h2.len]; exact hy)
  exact ⟨_, h5, h6⟩
/-- A row is put to the merges. -/
theorem SJ.row {wo : World} {s9 gu gt gl cl gr N : Nat} {ls rk : List Int} {pr : Nat → Bool} {p : List Int} {st st' : MeetS} {K g5 l : Nat} {ar : List Int} {go oc ol go' oc' ol' y e s3 s4 : Nat} {x : Int} {w w' : World} {ob : Obj} (h : SJ wo s9 gu gt gl cl gr N ls rk pr p st K g5 l ar go oc ol w)
    (hy : y < N) (he : e < N) (hye : st.1 y = y ∧ st.1 e = e ∧ y ≠ e) (hst : st' = (joinR st.1 y e, st.2 ++ [(y, e, x)]))
    (hgo : go < s3 ∨ s4 ≤ go) (hg53 : s3 ≤ g5) (hg54 : g5 < s4) (hs4 : s4 ≤ w.heap.size) (hg5 : s9 ≤ g5)
    (hO : RowsO 22 3 s9 w'.heap.size w' (.slice (some ⟨go', 0, none⟩) ol' oc') (mergS p st'.2)) (hl' : ol' = (mergS p st'.2).length)
    (hW : Within s9 w.heap.size (w.alloc ob) w') (hK : ∀ k, k < (w.alloc ob).heap.size → (Value.slice (some ⟨go, 0, none⟩) ol oc).ownBlock ≠ some k → w'.heap[k]? = (w.alloc ob).heap[k]?) (hat : (Value.slice (some ⟨go, 0, none⟩) ol oc).ownBlock = some go' ∨ (w.alloc ob).heap.size ≤ go') :
    SJ wo s9 gu gt gl cl gr N ls rk pr p st' (K + 1) g5 l ar go' oc' ol' (w'.setCell ⟨gu, y, none⟩ (.int .i64 e)) ∧ (go' < s3 ∨ s4 ≤ go') ∧ s4 ≤ (w'.setCell ⟨gu, y, none⟩ (.int .i64 e)).heap.size := by
  have hsz : (w.alloc ob).heap.size = w.heap.size + 1 := by simp
  have hOn : Only (fun k => k = go) (w.alloc ob) w' := ⟨hW.os, hW.tape, hW.output, hW.size, fun k hk hne => hK k hk (fun e => hne (by simp [Value.ownBlock] at e; omega))⟩
  refine ⟨h.next hy he hye.1 hye.2.1 hye.2.2 hst ((((Grew.refl w).alloc ob).within _ _).trans hW) (fun t ht => hOn.cell (((Grew.refl w).alloc ob).cell (h.nxt t ht)) (show ¬ g5 = go by omega)) hg5 hO hl', ?_, ?_⟩
  · rcases hat with h1 | h1
    · simp [Value.ownBlock] at h1; omega
    · omega
  · have := hW.size
    simp [World.setCell]; omega
/-- Nothing is joined. -/
theorem SJ.stay {wo : World} {s9 gu gt gl cl gr N : Nat} {ls rk : List Int} {pr : Nat → Bool} {p : List Int} {st st' : MeetS} {K g5 l : Nat} {ar : List Int} {go oc ol : Nat} {w : World} (h : SJ wo s9 gu gt gl cl gr N ls rk pr p st K g5 l ar go oc ol w) (hst : st' = st) : SJ wo s9 gu gt gl cl gr N ls rk pr p st' (K + 1) g5 l ar go oc ol w := by
  rw [hst]; exact h.mono (Nat.le_succ _)
set_option maxRecDepth 100000 in
set_option maxHeartbeats 16000000 in
theorem smerges_any (v : Value) (h : List (List Int)) (w : World) (hv : RowsV w v h) (hg : vGrid h = true) :
    Calls Tryd.prog 59 #[v] w (NewRows w (mergS h.flatten (meetsX h))) := by
  have G := Grid.of hg
  have hpl := flat_grid_len G
  have hN25 : h.flatten.length ≤ 25 := by rw [hpl]; exact Nat.le_trans (Nat.mul_le_mul G.n5 G.m5) (by decide)
  have hN1 : 1 ≤ h.flatten.length := by rw [hpl]; exact Nat.mul_pos G.n1 G.m1
  have HN : Hid (∀ W, Grew w W → Calls Tryd.prog 89 #[v] W fun e w' => e = .returned (.int .i64 (h.flatten.length : Nat)) ∧ W = w') := Lib.hid fun W hW => by
    rw [hpl]; exact cells_any v h W (hv.grew hW) G.n1 (by have := G.n5; omega) (by have := G.m5; omega)
  have HAT : Hid (∀ (I : Nat) W, Grew w W → I < h.flatten.length → Calls Tryd.prog 93 #[v, .int .i64 I] W fun e w' => e = .returned (.int .i64 (h.flatten.getD I 0)) ∧ ∃ q, w' = W.drewN q) := Lib.hid fun I W hW hI =>
    at_any v h I W (hv.grew hW) hg (by rw [← hpl]; exact hI)
  have HBS : Hid (∀ (I : Nat) W, Grew w W → I < h.flatten.length → Calls Tryd.prog 91 #[v, .int .i64 I] W (OwnI W (aroundL h.length (h.getD 0 []).length I))) := Lib.hid fun I W hW hI => around_any v h I W (hv.grew hW) hg (by rw [← hpl]; exact hI)
  have HOR : Hid (∀ W, Grew w W → Calls Tryd.prog 90 #[v] W (OwnI W (castL (ordTo h.flatten h.flatten.length)))) := Lib.hid fun W hW => sorder_any v h W (hv.grew hW) hg
  have HAR : Hid (∀ I, I < h.flatten.length → (aroundL h.length (h.getD 0 []).length I).length ≤ 4 ∧ ∀ t, t < (aroundL h.length (h.getD 0 []).length I).length → ∃ b : Nat, (aroundL h.length (h.getD 0 []).length I).getD t 0 = (b : Int) ∧ b < h.flatten.length) := Lib.hid fun I hI => by
    obtain ⟨h1, _, h3⟩ := around_facts G.n5 G.m5 (n := h.length) (m := (h.getD 0 []).length) (I := I) (by rw [← hpl]; exact hI)
    refine ⟨h3, fun t ht => ?_⟩
    obtain ⟨A, eA⟩ : ∃ A, aroundL h.length (h.getD 0 []).length I = A := ⟨_, rfl⟩
    rw [eA] at ht h1 ⊢
    have hm : A.getD t 0 ∈ A := by rw [List.getD_eq_getElem?_getD, List.getElem?_eq_getElem ht]; exact List.getElem_mem _
    obtain ⟨g1, g2, _⟩ := h1 _ hm
    exact ⟨(A.getD t 0).toNat, by omega, by rw [hpl]; omega⟩
  unfold meetsX
  obtain ⟨n, en⟩ : ∃ n, h.length = n := ⟨_, rfl⟩
  obtain ⟨m, em⟩ : ∃ m, (h.getD 0 []).length = m := ⟨_, rfl⟩
  obtain ⟨p, ep⟩ : ∃ p, h.flatten = p := ⟨_, rfl⟩
  rw [en, em] at HBS HAR
  rw [ep] at HN HAT HBS HOR HAR hN25 hN1 ⊢
  rw [en, em]
  obtain ⟨N, eN⟩ : ∃ N, p.length = N := ⟨_, rfl⟩
  rw [eN] at HN HAT HBS HOR HAR hN25 hN1 ⊢
  obtain ⟨ord, eord⟩ : ∃ ord, ordTo p N = ord := ⟨_, rfl⟩
  have hordl : ord.length = N := by rw [← eord]; exact ordTo_len p N
  have HORD : Hid (∀ k, k < N → ord.getD k 0 < N) := Lib.hid fun k hk => by rw [← eord]; exact ordTo_at_lt hk
  have HEO := Lib.hid eord
  rw [eord] at HOR ⊢
  have hcl : (castL ord).length = N := by rw [castL_len, hordl]
  have HL := Lib.hid (And.intro hordl hcl)
  obtain ⟨a, b, o, c, rfl, _, _, _⟩ := hv.shape
  rw [en] at HN HAT HBS HOR ⊢
  clear hv hg G hpl en em ep eord hordl eN hcl
  go_enter Tryd.func59, Tryd.ntmps59
  go_wp2_with (fail)
  refine (HN.out _ (Grew.refl _)).mono ?_
  rintro e w1 ⟨rfl, rfl⟩
  obtain ⟨gu, egu⟩ : ∃ gu, w.heap.size = gu := ⟨_, rfl⟩
  go_wp2_with (at_make; (first | (refine wpList_make_ints rfl (.tmp 20) (.tmp 20) 22 rfl Tryd.underlying22 Tryd.infoI rfl rfl rfl rfl (by omega) ?_; intro w2 hO2 hg2 hs2; rw [egu] at hO2 hs2 ⊢; obtain ⟨gt, egt⟩ : ∃ gt, w2.heap.size = gt := ⟨_, rfl⟩; have H2 := Lib.hid (And.intro hO2.at1 (And.intro hg2 hs2)); clear hO2 hg2 hs2) | (refine wpList_make_bools rfl (.tmp 22) (.tmp 22) 29 rfl Tryd.underlying29 Tryd.infoBool rfl rfl rfl rfl (by omega) ?_; intro w3 hO3 hg3 hs3; rw [egt] at hO3 hs3 ⊢; have H3 := Lib.hid (And.intro (bools_at1 hO3) (And.intro (H2.out.1.grew hg3) (And.intro (H2.out.2.1.trans hg3) hs3))); clear hO3 hg3 hs3)))
  go_wp2_with (fail)
  refine (HOR.out w3 H3.out.2.2.1).mono ?_
  rintro e w4 ⟨a4, c4, rfl, hO4, hg4⟩
  obtain ⟨g4, c4', e4, hb1, hb2, _, _⟩ := hO4.pos (by rw [HL.out.2]; omega)
  simp only [Value.slice.injEq] at e4
  obtain ⟨rfl, _, rfl⟩ := e4
  rw [HL.out.2] at hO4 ⊢
  obtain ⟨gr, egr⟩ : ∃ gr, w4.heap.size = gr := ⟨_, rfl⟩
  have H4 := Lib.hid (And.intro hO4.at1 (And.intro (H3.out.1.grew hg4) (And.intro (H3.out.2.1.grew hg4) (H3.out.2.2.1.trans hg4))))
  have q1 : gu + 1 ≤ gt := by have := H2.out.2.2; omega
  have q2 : gt + 1 ≤ g4 := by have := H3.out.2.2.2; omega
  have q3 : g4 + 1 ≤ gr := by omega
  clear hO4 hg4 H2 H3 hb1 hb2
  go_wp2_with (at_make; refine wpList_make_ints rfl (.tmp 26) (.tmp 26) 22 rfl Tryd.underlying22 Tryd.infoI rfl rfl rfl rfl (by omega) ?_; intro w5 hO5 hg5 hs5; rw [egr] at hO5 hs5 ⊢; have H5 := Lib.hid (And.intro hO5.at1 (And.intro hg5 hs5)); clear hO5 hg5 hs5)
  obtain ⟨s9, es9⟩ : ∃ s9, w5.heap.size = s9 := ⟨_, rfl⟩
  have HM5 : Hid (SM w s9 gu gt g4 c4 gr N (List.replicate N 0) (castL ord) (List.replicate N 0) (List.replicate N false) w5) :=
    Lib.hid ⟨H4.out.2.2.1.grew H5.out.2.1, H4.out.2.1.grew H5.out.2.1, H4.out.1.grew H5.out.2.1, H5.out.1, H4.out.2.2.2.trans H5.out.2.1, by omega, q1, q2, q3, by have := H5.out.2.2; omega, by omega⟩
  clear H4 H5 egu egt egr
  go_wp2_with (fail)
  go_loopw [8] (fun k' wr => ∃ k : Nat, k ≤ N ∧ k' = .int .i64 k ∧ Hid (∃ u rk, SM w s9 gu gt g4 c4 gr N u (castL ord) rk (List.replicate N false) wr ∧ Rk ord N k u rk)) (fun k' _ => N - (intOf k').toNat)
  case atStart => exact ⟨0, Nat.zero_le _, rfl, _, _, HM5.out, by simp, by simp, fun j hj => absurd hj (Nat.not_lt_zero _), fun j hj => absurd hj (Nat.not_lt_zero _)⟩
  case round =>
    obtain ⟨k, hk, rfl, HK⟩ := hrel
    by_cases hlt : k < N
    · obtain ⟨u, rk, hM, hR⟩ := HK.out
      have hiN := HORD.out k hlt
      obtain ⟨hcl, hfl⟩ := hM.ls.at rfl (i := k) (by rw [HL.out.2]; exact hlt)
      rw [castL_at _ _ (by rw [HL.out.1]; exact hlt)] at hcl
      have hR2 : Rk ord N (k + 1) (u.set (ord.getD k 0) ((ord.getD k 0 : Nat) : Int)) (rk.set (ord.getD k 0) (k : Int)) := by
        rw [← HEO.out] at hR ⊢; exact hR.next hlt
      obtain ⟨i, ei⟩ : ∃ i, ord.getD k 0 = i := ⟨_, rfl⟩
      rw [ei] at hcl hR2 hiN
      obtain ⟨hcu, hfu⟩ := hM.up.at rfl (i := i) (by rw [hR.lu]; exact hiN)
      have hcud : wr.drew.cell? ⟨gu, i, none⟩ = some (.int .i64 (u.getD i 0)) := hcu
      have hfud : wr.drew.frozen? ⟨gu, i, none⟩ = false := hfu
      have hcld : wr.drew.cell? ⟨g4, k, none⟩ = some (.int .i64 (i : Nat)) := hcl
      have hM1 := hM.setU i (i : Int)
      obtain ⟨hcr, hfr⟩ := hM1.rk.at rfl (i := i) (by rw [hR.lr]; exact hiN)
      obtain ⟨hcl3, _⟩ := hM1.ls.at rfl (i := k) (by rw [HL.out.2]; exact hlt)
      rw [castL_at _ _ (by rw [HL.out.1]; exact hlt), ei] at hcl3
      have hcrd : (wr.setCell ⟨gu, i, none⟩ (.int .i64 (i : Int))).drew.cell? ⟨gr, i, none⟩ = some (.int .i64 (rk.getD i 0)) := hcr
      have hfrd : (wr.setCell ⟨gu, i, none⟩ (.int .i64 (i : Int))).drew.frozen? ⟨gr, i, none⟩ = false := hfr
      have hcl3d : (wr.setCell ⟨gu, i, none⟩ (.int .i64 (i : Int))).drew.cell? ⟨g4, k, none⟩ = some (.int .i64 (i : Nat)) := hcl3
      have HF := Lib.hid (And.intro ((hM1.setR i (k : Int)).grew (Grew.refl _).drew) hR2)
      have r1 : (i : Int) < N := by omega
      have r2 : (0 : Int) ≤ i := by omega
      have r3 : (k : Int) < N := by omega
      have r4 : (0 : Int) ≤ k := by omega
      clear hM hR hR2 hM1 ei HK
      go_wp2_with (fail)
      go_region
      all_goals go_wp2_with (fail)
      all_goals go_roundw
      case rel => exact ⟨k + 1, by omega, by first | rfl | go_num, _, _, HF.out⟩
      case measure => simp [intOf]; omega
    · obtain rfl : k = N := by omega
      obtain ⟨u, rk, hM, hR⟩ := HK.out
      have hR' := hR
      rw [← HEO.out] at hR'
      have hU := hR'.forest
      have HRK : Hid (∀ a b, a < k → b < k → decide (rk.getD a 0 < rk.getD b 0) = ahead p a b) := Lib.hid fun a b ha hb => (hR'.rank ha hb).1
      have HRL := Lib.hid hR.lr
      obtain ⟨B, eB⟩ : ∃ B, wr.heap.size = B := ⟨_, rfl⟩
      have H0 : Hid (SJ w s9 gu gt g4 c4 gr k (castL ord) rk (presB ord 0) p (meetTo p n m ord 0) 0 0 0 [] B 0 0 (wr.alloc (.cells #[] 22))) := Lib.hid
        ⟨⟨u, _, hM.grew ((Grew.refl _).alloc _), hU, by simp, fun c hc => by rw [presB_zero]; simp [hc]⟩, by
          have := RowsO.lit0 22 3 s9 wr hM.o6
          rw [eB] at this
          have e1 : (wr.alloc (.cells #[] 22)).heap.size = B + 1 := by simp [eB]
          rw [e1]; exact this, rfl, Nat.le_refl _, fun t ht => absurd ht (Nat.not_lt_zero _)⟩
      clear hM hR hR' hU HK HM5
      go_wp2_with (fail)
      (try rw [eB])
      go_loopw [9, 10] (fun o' k' wr => ∃ (x go oc ol : Nat), x ≤ k ∧ k' = .int .i64 x ∧ o' = .slice (some ⟨go, 0, none⟩) ol oc ∧ Hid (SJ w s9 gu gt g4 c4 gr k (castL ord) rk (presB ord x) p (meetTo p n m ord x) (4 * x) 0 0 [] go oc ol wr)) (fun _ k' _ => k - (intOf k').toNat)
      case atStart => exact ⟨0, B, 0, 0, Nat.zero_le _, rfl, rfl, H0.out⟩
      case round =>
        obtain ⟨x, go, oc, ol, hx, rfl, rfl, HI⟩ := hrel
        clear H0
        by_cases hlt2 : x < k
        · obtain ⟨⟨u, th, hM, hU, htl, hth⟩, hout, holl, hbnd, _⟩ := HI.out
          have hiN := HORD.out x hlt2
          obtain ⟨hcl, _⟩ := hM.ls.at rfl (i := x) (by rw [HL.out.2]; exact hlt2)
          rw [castL_at _ _ (by rw [HL.out.1]; exact hlt2)] at hcl
          have hps := presB_succ (ord := ord) (k := x) (by rw [HL.out.1]; exact hlt2)
          have hR := meetTo_RI p n m ord x (by rw [HL.out.1]; omega)
          have hR1 := hR.more (by rw [HL.out.1]; exact hlt2)
          have hself := presB_self (ord := ord) (k := x) (by rw [HL.out.1]; exact hlt2)
          have hnext : meetTo p n m ord (x + 1) = meetN p (presB ord (x + 1)) (ord.getD x 0) (aroundL n m (ord.getD x 0)) (meetTo p n m ord x) (aroundL n m (ord.getD x 0)).length := rfl
          obtain ⟨hl4, hbs⟩ := HAR.out _ hiN
          obtain ⟨i, ei⟩ : ∃ i, ord.getD x 0 = i := ⟨_, rfl⟩
          obtain ⟨st, est⟩ : ∃ st, meetTo p n m ord x = st := ⟨_, rfl⟩
          obtain ⟨pr, epr⟩ : ∃ pr, presB ord (x + 1) = pr := ⟨_, rfl⟩
          rw [ei] at hiN hcl hself hnext hl4 hbs
          rw [epr] at hps hR1 hself hnext
          rw [ei] at hps
          rw [est] at hout holl hbnd hU hR hR1 hnext
          obtain ⟨hct, hft⟩ := hM.th.at rfl (i := i) (by rw [htl]; exact hiN)
          have hM1 := hM.setT i true
          have hwi : Within gt (gt + 1) wr (wr.setCell ⟨gt, i, none⟩ (.bool true)) := (Within.refl _ _ _).setCell (p := ⟨gt, i, none⟩) (Nat.le_refl _) (Nat.lt_succ_self _) _
          obtain ⟨W1, eW1⟩ : ∃ W1, wr.setCell ⟨gt, i, none⟩ (.bool true) = W1 := ⟨_, rfl⟩
          have hsW1 : W1.heap.size = wr.heap.size := by rw [← eW1]; simp [World.setCell]
          rw [eW1] at hM1 hwi
          have b1 := hM.o1; have b2 := hM.o2; have b3 := hM.o3; have b4 := hM.o4; have b5 := hM.o5; have b6 := hM.o6
          have H1 : Hid (SM w s9 gu gt g4 c4 gr k u (castL ord) rk (th.set i true) W1 ∧ UpF u k st.1 ∧ RowsO 22 3 s9 W1.heap.size W1 (.slice (some ⟨go, 0, none⟩) ol oc) (mergS p st.2) ∧ (th.set i true).length = k ∧ ∀ c, c < k → (th.set i true).getD c false = pr c) := Lib.hid ⟨hM1, hU, by
              rw [hsW1]; exact hout.within hwi (.inr (by omega)), by rw [List.length_set]; exact htl, fun c hc => by
              rw [hps]
              by_cases e : i = c
              · subst e
                rw [getD_set_self _ _ _ _ (by rw [htl]; exact hiN), decide_eq_true rfl, Bool.or_true]
              · rw [getD_set_other _ _ _ _ _ e, hth c hc, decide_eq_false (fun e2 => e e2.symm), Bool.or_false]⟩
          have HST := Lib.hid (And.intro hR1 (And.intro hself (And.intro hnext (And.intro holl (And.intro hbnd (And.intro hl4 hbs))))))
          have HIN := Lib.hid hiN
          have HGO : Hid (go < wr.heap.size) := Lib.hid (by
            obtain ⟨_, h1, _⟩ := hout
            exact (World.ownsRow.lt h1 go rfl).2)
          have r1 : (x : Int) < k := by omega
          have r2 : (0 : Int) ≤ x := by omega
          have r3 : (i : Int) < k := by omega
          have r4 : (0 : Int) ≤ i := by omega
          have HEP := Lib.hid epr
          clear hM hU htl hth hout holl hbnd hps hR hR1 hself hnext hl4 hbs ei est epr hM1 hwi HI
          go_wp2_with (fail)
          (try rw [eW1])
          refine (HBS.out i W1 H1.out.1.gw HIN.out).mono ?_
          rintro e w5 ⟨a5, c5, rfl, hO5, hg5⟩
          obtain ⟨ar, ear⟩ : ∃ ar, aroundL n m i = ar := ⟨_, rfl⟩
          rw [ear] at HST hO5 ⊢
          obtain ⟨l, el⟩ : ∃ l, ar.length = l := ⟨_, rfl⟩
          obtain ⟨s3, es3⟩ : ∃ s3, W1.heap.size = s3 := ⟨_, rfl⟩
          obtain ⟨s4, es4⟩ : ∃ s4, w5.heap.size = s4 := ⟨_, rfl⟩
          have hs34 : s3 ≤ s4 := by have := hg5.size; omega
          have hA5 : ∃ g5, (0 < l → a5 = some ⟨g5, 0, none⟩ ∧ g5 < s4) ∧ s3 ≤ g5 ∧ ∀ t, t < l → w5.cell? ⟨g5, t, none⟩ = some (.int .i64 (ar.getD t 0)) := by
            by_cases h0 : 0 < l
            · obtain ⟨g5, cc5, e5, x1, x2, _, _⟩ := hO5.pos (by omega)
              simp only [Value.slice.injEq] at e5
              obtain ⟨rfl, _, rfl⟩ := e5
              exact ⟨g5, fun _ => ⟨rfl, by omega⟩, by omega, fun t ht => (hO5.at rfl (by omega)).1⟩
            · exact ⟨s3, fun h => absurd h h0, Nat.le_refl _, fun t ht => by omega⟩
          obtain ⟨g5, hA5, hg53, hcn5⟩ := hA5
          have hg59 : s9 ≤ g5 := by omega
          have H5 : Hid (SJ w s9 gu gt g4 c4 gr k (castL ord) rk pr p (meetN p pr i ar st 0) (4 * x) g5 l ar go oc ol w5 ∧ (go < s3 ∨ s4 ≤ go)) := Lib.hid
            ⟨⟨⟨u, _, H1.out.1.grew hg5, H1.out.2.1, H1.out.2.2.2.1, H1.out.2.2.2.2⟩, (H1.out.2.2.1.grew hg5).wide (Nat.le_refl _) hg5.size, HST.out.2.2.2.1, HST.out.2.2.2.2.1, hcn5⟩, .inl (by have := HGO.out; omega)⟩
          have HA5 := Lib.hid hA5
          have HS4 := Lib.hid es4
          have hl4 : l ≤ 4 := by rw [← el]; exact HST.out.2.2.2.2.2.1
          have HBB : Hid (∀ t, t < l → ∃ b : Nat, ar.getD t 0 = (b : Int) ∧ b < k) := Lib.hid fun t ht => HST.out.2.2.2.2.2.2 t (by rw [el]; exact ht)
          have HRJ : Hid (∀ j, RI (meetN p pr i ar st j).1 pr) := Lib.hid fun j => meetN_RI HST.out.1 HST.out.2.1 j
          have HNX : Hid (meetTo p n m ord (x + 1) = meetN p pr i ar st l ∧ presB ord (x + 1) = pr ∧ pr i = true) := Lib.hid ⟨by rw [HST.out.2.2.1, el], HEP.out, HST.out.2.1⟩
          rw [el]
          clear hO5 hg5 ear el es3 es4 hA5 hcn5 H1 HST hsW1 eW1 HGO
          go_wp2_with (fail)
          go_loopw [9, 13] (fun o' j' wj => ∃ (j go oc ol : Nat), j ≤ l ∧ j' = .int .i64 j ∧ o' = .slice (some ⟨go, 0, none⟩) ol oc ∧ (go < s3 ∨ s4 ≤ go) ∧ Hid (SJ w s9 gu gt g4 c4 gr k (castL ord) rk pr p (meetN p pr i ar st j) (4 * x + j) g5 l ar go oc ol wj ∧ s4 ≤ wj.heap.size)) (fun _ j' _ => l - (intOf j').toNat)
          case atStart => exact ⟨0, go, oc, ol, Nat.zero_le _, rfl, rfl, H5.out.2, H5.out.1, Nat.le_of_eq HS4.out.symm⟩
          case round =>
            obtain ⟨j, go, oc, ol, hj, rfl, rfl, hgo, HJ⟩ := hrel
            clear H5
            by_cases hlt3 : j < l
            · obtain ⟨rfl, hg54⟩ := HA5.out (by omega)
              obtain ⟨bb, ebb, hbN⟩ := HBB.out j hlt3
              have hcn := HJ.out.1.nxt j hlt3
              rw [ebb] at hcn
              obtain ⟨⟨u, th, hM, hU, htl, hth⟩, hout, holl, hbnd, _⟩ := HJ.out.1
              obtain ⟨hct, _⟩ := hM.th.at rfl (i := bb) (by rw [htl]; exact hbN)
              rw [hth bb hbN] at hct
              have hstep : meetN p pr i ar st (j + 1) = meetB p pr i (meetN p pr i ar st j) bb := by
                rw [meetN, ebb]; rfl
              have hRI := HRJ.out j
              obtain ⟨sj, esj⟩ : ∃ sj, meetN p pr i ar st j = sj := ⟨_, rfl⟩
              rw [esj] at hstep hout holl hbnd hU hRI HJ
              have r1 : (j : Int) < l := by omega
              have r2 : (0 : Int) ≤ j := by omega
              have r3 : (bb : Int) < k := by omega
              have r4 : (0 : Int) ≤ bb := by omega
              cases hpb : pr bb with
              | false =>
                have HF : Hid (SJ w s9 gu gt g4 c4 gr k (castL ord) rk pr p (meetN p pr i ar st (j + 1)) (4 * x + (j + 1)) g5 l ar go oc ol wr ∧ s4 ≤ wr.heap.size) := Lib.hid
                  ⟨HJ.out.1.stay (by rw [hstep]; unfold meetB; rw [if_neg (fun h => by rw [hpb] at h; cases h.1)]), HJ.out.2⟩
                rw [hpb] at hct
                clear hM hU htl hth hout holl hbnd hstep hRI HJ ebb esj
                go_wp2
                go_roundw
                case rel => exact ⟨j + 1, go, oc, ol, by omega, by first | rfl | go_num, rfl, hgo, HF.out⟩
                case measure => simp [intOf]; omega
              | true =>
                rw [hpb] at hct
                have hri := hU.lt HIN.out
                have hrb := hU.lt hbN
                have HRI1 := Lib.hid (sroot_any _ u k sj.1 i wr hM.up.toV hU HIN.out (by omega))
                have HRB1 := Lib.hid (sroot_any _ u k sj.1 bb wr hM.up.toV hU hbN (by omega))
                have hcra := (hM.rk.at rfl (i := sj.1 i) (by rw [HRL.out]; exact hri.1)).1
                have hcrb := (hM.rk.at rfl (i := sj.1 bb) (by rw [HRL.out]; exact hrb.1)).1
                have hrk := HRK.out (sj.1 i) (sj.1 bb) hri.1 hrb.1
                have hgw := hM.gw
                have hs9 := hM.o6
                have HST2 : Hid (meetN p pr i ar st (j + 1) = if sj.1 bb ≠ sj.1 i then (if ahead p (sj.1 i) (sj.1 bb) = true then (joinR sj.1 (sj.1 bb) (sj.1 i), sj.2 ++ [(sj.1 bb, sj.1 i, p.getD i 0)]) else (joinR sj.1 (sj.1 i) (sj.1 bb), sj.2 ++ [(sj.1 i, sj.1 bb, p.getD i 0)])) else sj) := Lib.hid (by
                  rw [hstep]; unfold meetB
                  by_cases h : sj.1 bb ≠ sj.1 i
                  · rw [if_pos ⟨hpb, h⟩, if_pos h]
                  · rw [if_neg (fun h2 => h h2.2), if_neg h])
                obtain ⟨A, eA⟩ : ∃ A, sj.1 i = A := ⟨_, rfl⟩
                obtain ⟨C, eC⟩ : ∃ C, sj.1 bb = C := ⟨_, rfl⟩
                rw [eA] at hri HRI1 hcra hrk HST2
                rw [eC] at hrb HRB1 hcrb hrk HST2
                have HA := Lib.hid (And.intro hri hrb)
                have hA1 := hri.1
                have hC1 := hrb.1
                have HAT1 : Hid (∀ (I : Nat) W, Grew wr W → I < k → Calls Tryd.prog 93 #[.slice a n c, .int .i64 I] W fun e w' => e = .returned (.int .i64 (p.getD I 0)) ∧ Grew W w') := Lib.hid fun I W hW hI => (HAT.out I W (hgw.trans hW) hI).mono fun e w' hh => ⟨hh.1, by obtain ⟨q, rfl⟩ := hh.2; exact (Grew.refl _).drewN q⟩
                obtain ⟨ra, era⟩ : ∃ ra, rk.getD A 0 = ra := ⟨_, rfl⟩
                obtain ⟨rc, erc⟩ : ∃ rc, rk.getD C 0 = rc := ⟨_, rfl⟩
                rw [era] at hcra hrk
                rw [erc] at hcrb hrk
                clear hM hU htl hth hout holl hbnd hstep hRI ebb esj hri hrb eA eC era erc hgw
                go_wp2_with (fail)
                refine HRI1.out.mono ?_
                rintro e w6 ⟨rfl, rfl⟩
                go_wp2_with (fail)
                refine HRB1.out.mono ?_
                rintro e w7 ⟨rfl, rfl⟩
                by_cases hac : A = C
                · subst hac
                  have HF : Hid (SJ w s9 gu gt g4 c4 gr k (castL ord) rk pr p (meetN p pr i ar st (j + 1)) (4 * x + (j + 1)) g5 l ar go oc ol w7 ∧ s4 ≤ w7.heap.size) := Lib.hid
                    ⟨HJ.out.1.stay (by rw [HST2.out, if_neg (fun h => h rfl)]), HJ.out.2⟩
                  have heq : ((A : Int) == (A : Int)) = true := by simp
                  clear HJ hrk
                  go_wp2
                  go_roundw
                  case rel => exact ⟨j + 1, go, oc, ol, by omega, by first | rfl | go_num, rfl, hgo, HF.out⟩
                  case measure => simp [intOf]; omega
                · have heq : ((A : Int) == (C : Int)) = false := by simp; omega
                  have HAC := Lib.hid hac
                  have r5 : (A : Int) < k := by omega
                  have r6 : (0 : Int) ≤ A := by omega
                  have r7 : (C : Int) < k := by omega
                  have r8 : (0 : Int) ≤ C := by omega
                  cases hah : ahead p A C with
                  | true =>
                    have HX : Hid (meetN p pr i ar st (j + 1) = (joinR sj.1 C A, sj.2 ++ [(C, A, p.getD i 0)])) := Lib.hid (by rw [HST2.out, if_pos (fun h => HAC.out h.symm), if_pos hah])
                    rw [hah] at hrk
                    have hrd : ra < rc := of_decide_eq_true hrk
                    have HYE : Hid (sj.1 C = C ∧ sj.1 A = A ∧ C ≠ A) := Lib.hid ⟨HA.out.2.2, HA.out.1.2, fun h => HAC.out h.symm⟩
                    clear HST2 hac hrk hah
                    go_wp2
                    go_quiet (fail)
                    obtain ⟨W6, eW6⟩ : ∃ W6, w7.drewN nq = W6 := ⟨_, rfl⟩
                    have hg6 : Grew w7 W6 := by rw [← eW6]; exact (Grew.refl _).drewN _
                    rw [eW6]
                    have HC1 := Lib.hid (HAT1.out C W6 hg6 hC1)
                    obtain ⟨py, epy⟩ : ∃ py, p.getD C 0 = py := ⟨_, rfl⟩
                    obtain ⟨pi, epi⟩ : ∃ pi, p.getD i 0 = pi := ⟨_, rfl⟩
                    have HEP := Lib.hid (And.intro epy epi)
                    rw [epy] at HC1
                    rw [epi] at HX
                    have HG6 := Lib.hid hg6
                    clear eW6 hg6 hcra hcrb hcn hct epy epi
                    go_wp2_with (fail)
                    refine HC1.out.mono ?_
                    rintro e w8 ⟨rfl, hg8⟩
                    have HG8 := Lib.hid (HG6.out.trans hg8)
                    clear hg8
                    go_wp2_with (fail)
                    refine (HAT1.out i w8 HG8.out HIN.out).mono ?_
                    rw [HEP.out.2]
                    rintro e w9 ⟨rfl, hg9⟩
                    have HG9 := Lib.hid (HG8.out.trans hg9)
                    clear hg9
                    by_cases hpp : py < pi
                    · go_wp2_with (fail)
                      refine (HAT1.out i w9 HG9.out HIN.out).mono ?_
                      rw [HEP.out.2]
                      rintro e w10 ⟨rfl, hg10⟩
                      have HJ2 := Lib.hid (HJ.out.1.grew (HG9.out.trans hg10))
                      have hs10 := Nat.le_trans HJ.out.2 (HG9.out.trans hg10).size
                      have h9s : s9 ≤ w10.heap.size := by omega
                      have hlen : ol = (mergS p sj.2).length := HJ.out.1.len
                      have hq1 : (mergS p sj.2).length + 1 ≤ 5864062014805 := by have := mergS_len p sj.2; have := HJ.out.1.bnd; omega
                      have HN2 : Hid (mergS p (meetN p pr i ar st (j + 1)).2 = mergS p sj.2 ++ [[(C : Int), (A : Int), pi]]) := Lib.hid (by
                        rw [HX.out]
                        show mergS p (sj.2 ++ [(C, A, pi)]) = _
                        rw [mergS_snoc, if_pos (by show p.getD C 0 < pi; rw [HEP.out.1]; exact hpp)]; rfl)
                      subst hlen
                      clear hg10
                      go_wp2_with (at_builtin; refine wpList_append_rowC (w := w10.alloc (.cells #[.int .i64 (C : Int), .int .i64 (A : Int), .int .i64 pi] 3)) rfl (.tmp 112) (.tmp 119) 32 rfl (by decide) Tryd.underlying32 Tryd.infoIs rfl rfl (by simp) (HJ2.out.out.grew ((Grew.refl _).alloc _)) (IntsO.lit 3 w10.heap.size w10 [(C : Int), (A : Int), pi] #[.int .i64 C, .int .i64 A, .int .i64 pi] rfl (Nat.le_refl _) (by simp [maxLen])) hq1 (by simp; omega) h9s ?_; intro g11 c11 w11 hO11 hW11 hK11 hat11; have H11 := Lib.hid (And.intro hO11 (And.intro hW11 (And.intro hK11 hat11))); clear hO11 hW11 hK11 hat11; obtain ⟨cv, hcu11, hfu11⟩ := (HJ2.out.grew ((Grew.refl _).alloc (.cells #[.int .i64 (C : Int), .int .i64 (A : Int), .int .i64 pi] 3))).cellU H11.out.2.1 hC1)
                      have HF := Lib.hid (SJ.row (ob := .cells #[.int .i64 (C : Int), .int .i64 (A : Int), .int .i64 pi] 3) HJ2.out hC1 hA1 HYE.out HX.out hgo hg53 hg54 hs10 hg59 (by rw [HN2.out]; exact H11.out.1) (by rw [HN2.out, List.length_append]; rfl) H11.out.2.1 H11.out.2.2.1 H11.out.2.2.2)
                      clear hcu11 hfu11 H11
                      go_roundw
                      case rel => exact ⟨j + 1, g11, c11, _, by omega, by first | rfl | go_num, rfl, HF.out.2.1, HF.out.1, HF.out.2.2⟩
                      case measure => simp [intOf]; omega
                    · obtain ⟨cv, hcu11, hfu11⟩ := HJ.out.1.cellU (hi := s9) (HG9.out.within s9 s9) hC1
                      have HN2 : Hid (mergS p (meetN p pr i ar st (j + 1)).2 = mergS p sj.2) := Lib.hid (by
                        rw [HX.out]
                        show mergS p (sj.2 ++ [(C, A, pi)]) = _
                        rw [mergS_snoc, if_neg (by show ¬ p.getD C 0 < pi; rw [HEP.out.1]; exact hpp), List.append_nil])
                      have HF := Lib.hid ((HJ.out.1.grew HG9.out).next (w' := w9) hC1 hA1 HYE.out.1 HYE.out.2.1 HYE.out.2.2 HX.out (Within.refl _ _ _) (HJ.out.1.grew HG9.out).nxt hg59 (by rw [HN2.out]; exact (HJ.out.1.grew HG9.out).out) (by rw [HN2.out]; exact HJ.out.1.len))
                      have HSZ : Hid (s4 ≤ (w9.setCell ⟨gu, C, none⟩ (.int .i64 (A : Int))).heap.size) := Lib.hid (by have := HG9.out.size; have := HJ.out.2; simp [World.setCell]; omega)
                      go_wp2
                      go_roundw
                      case rel => exact ⟨j + 1, go, oc, ol, by omega, by first | rfl | go_num, rfl, hgo, HF.out, HSZ.out⟩
                      case measure => simp [intOf]; omega
                  | false =>
                    have HX : Hid (meetN p pr i ar st (j + 1) = (joinR sj.1 A C, sj.2 ++ [(A, C, p.getD i 0)])) := Lib.hid (by rw [HST2.out, if_pos (fun h => HAC.out h.symm), if_neg (by rw [hah]; simp)])
                    rw [hah] at hrk
                    have hrd : ¬ ra < rc := of_decide_eq_false hrk
                    have HYE : Hid (sj.1 A = A ∧ sj.1 C = C ∧ A ≠ C) := Lib.hid ⟨HA.out.1.2, HA.out.2.2, HAC.out⟩
                    clear HST2 hac hrk hah
                    go_wp2
                    go_quiet (fail)
                    obtain ⟨W6, eW6⟩ : ∃ W6, w7.drewN nq = W6 := ⟨_, rfl⟩
                    have hg6 : Grew w7 W6 := by rw [← eW6]; exact (Grew.refl _).drewN _
                    rw [eW6]
                    have HC1 := Lib.hid (HAT1.out A W6 hg6 hA1)
                    obtain ⟨py, epy⟩ : ∃ py, p.getD A 0 = py := ⟨_, rfl⟩
                    obtain ⟨pi, epi⟩ : ∃ pi, p.getD i 0 = pi := ⟨_, rfl⟩
                    have HEP := Lib.hid (And.intro epy epi)
                    rw [epy] at HC1
                    rw [epi] at HX
                    have HG6 := Lib.hid hg6
                    clear eW6 hg6 hcra hcrb hcn hct epy epi
                    go_wp2_with (fail)
                    refine HC1.out.mono ?_
                    rintro e w8 ⟨rfl, hg8⟩
                    have HG8 := Lib.hid (HG6.out.trans hg8)
                    clear hg8
                    go_wp2_with (fail)
                    refine (HAT1.out i w8 HG8.out HIN.out).mono ?_
                    rw [HEP.out.2]
                    rintro e w9 ⟨rfl, hg9⟩
                    have HG9 := Lib.hid (HG8.out.trans hg9)
                    clear hg9
                    by_cases hpp : py < pi
                    · go_wp2_with (fail)
                      refine (HAT1.out i w9 HG9.out HIN.out).mono ?_
                      rw [HEP.out.2]
                      rintro e w10 ⟨rfl, hg10⟩
                      have HJ2 := Lib.hid (HJ.out.1.grew (HG9.out.trans hg10))
                      have hs10 := Nat.le_trans HJ.out.2 (HG9.out.trans hg10).size
                      have h9s : s9 ≤ w10.heap.size := by omega
                      have hlen : ol = (mergS p sj.2).length := HJ.out.1.len
                      have hq1 : (mergS p sj.2).length + 1 ≤ 5864062014805 := by have := mergS_len p sj.2; have := HJ.out.1.bnd; omega
                      have HN2 : Hid (mergS p (meetN p pr i ar st (j + 1)).2 = mergS p sj.2 ++ [[(A : Int), (C : Int), pi]]) := Lib.hid (by
                        rw [HX.out]
                        show mergS p (sj.2 ++ [(A, C, pi)]) = _
                        rw [mergS_snoc, if_pos (by show p.getD A 0 < pi; rw [HEP.out.1]; exact hpp)]; rfl)
                      subst hlen
                      clear hg10
                      go_wp2_with (at_builtin; refine wpList_append_rowC (w := w10.alloc (.cells #[.int .i64 (A : Int), .int .i64 (C : Int), .int .i64 pi] 3)) rfl (.tmp 112) (.tmp 119) 32 rfl (by decide) Tryd.underlying32 Tryd.infoIs rfl rfl (by simp) (HJ2.out.out.grew ((Grew.refl _).alloc _)) (IntsO.lit 3 w10.heap.size w10 [(A : Int), (C : Int), pi] #[.int .i64 A, .int .i64 C, .int .i64 pi] rfl (Nat.le_refl _) (by simp [maxLen])) hq1 (by simp; omega) h9s ?_; intro g11 c11 w11 hO11 hW11 hK11 hat11; have H11 := Lib.hid (And.intro hO11 (And.intro hW11 (And.intro hK11 hat11))); clear hO11 hW11 hK11 hat11; obtain ⟨cv, hcu11, hfu11⟩ := (HJ2.out.grew ((Grew.refl _).alloc (.cells #[.int .i64 (A : Int), .int .i64 (C : Int), .int .i64 pi] 3))).cellU H11.out.2.1 hA1)
                      have HF := Lib.hid (SJ.row (ob := .cells #[.int .i64 (A : Int), .int .i64 (C : Int), .int .i64 pi] 3) HJ2.out hA1 hC1 HYE.out HX.out hgo hg53 hg54 hs10 hg59 (by rw [HN2.out]; exact H11.out.1) (by rw [HN2.out, List.length_append]; rfl) H11.out.2.1 H11.out.2.2.1 H11.out.2.2.2)
                      clear hcu11 hfu11 H11
                      go_roundw
                      case rel => exact ⟨j + 1, g11, c11, _, by omega, by first | rfl | go_num, rfl, HF.out.2.1, HF.out.1, HF.out.2.2⟩
                      case measure => simp [intOf]; omega
                    · obtain ⟨cv, hcu11, hfu11⟩ := HJ.out.1.cellU (hi := s9) (HG9.out.within s9 s9) hA1
                      have HN2 : Hid (mergS p (meetN p pr i ar st (j + 1)).2 = mergS p sj.2) := Lib.hid (by
                        rw [HX.out]
                        show mergS p (sj.2 ++ [(A, C, pi)]) = _
                        rw [mergS_snoc, if_neg (by show ¬ p.getD A 0 < pi; rw [HEP.out.1]; exact hpp), List.append_nil])
                      have HF := Lib.hid ((HJ.out.1.grew HG9.out).next (w' := w9) hA1 hC1 HYE.out.1 HYE.out.2.1 HYE.out.2.2 HX.out (Within.refl _ _ _) (HJ.out.1.grew HG9.out).nxt hg59 (by rw [HN2.out]; exact (HJ.out.1.grew HG9.out).out) (by rw [HN2.out]; exact HJ.out.1.len))
                      have HSZ : Hid (s4 ≤ (w9.setCell ⟨gu, A, none⟩ (.int .i64 (C : Int))).heap.size) := Lib.hid (by have := HG9.out.size; have := HJ.out.2; simp [World.setCell]; omega)
                      go_wp2
                      go_roundw
                      case rel => exact ⟨j + 1, go, oc, ol, by omega, by first | rfl | go_num, rfl, hgo, HF.out, HSZ.out⟩
                      case measure => simp [intOf]; omega
            · obtain rfl : j = l := by omega
              have HF : Hid (SJ w s9 gu gt g4 c4 gr k (castL ord) rk (presB ord (x + 1)) p (meetTo p n m ord (x + 1)) (4 * (x + 1)) 0 0 [] go oc ol wr) := by
                obtain ⟨h1, h2, h3, h4, _⟩ := HJ.out.1
                rw [HNX.out.1, HNX.out.2.1]
                exact Lib.hid ⟨h1, h2, h3, by omega, fun t ht => absurd ht (Nat.not_lt_zero _)⟩
              go_wp2_with (fail)
              go_roundw
              case rel => exact ⟨x + 1, go, oc, ol, by omega, by first | rfl | go_num, rfl, HF.out⟩
              case measure => simp [intOf]; omega
        · obtain rfl : x = k := by omega
          have HF : Hid (RowsO 22 3 w.heap.size wr.heap.size wr (.slice (some ⟨go, 0, none⟩) ol oc) (mergS p (meetTo p n m ord x).2) ∧ Grew w wr) := by
            obtain ⟨⟨u, th, hM, _⟩, h1, _⟩ := HI.out
            have b1 := hM.o1; have b2 := hM.o2; have b3 := hM.o3; have b4 := hM.o4; have b5 := hM.o5
            exact Lib.hid ⟨h1.wide (by omega) (Nat.le_refl _), hM.gw⟩
          go_wp2
          go_ret
          exact ⟨_, rfl, HF.out⟩
end Go.Proofs.YtaeenedjmakelaaDoor
