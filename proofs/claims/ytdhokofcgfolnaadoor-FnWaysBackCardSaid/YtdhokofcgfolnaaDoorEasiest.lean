/- The contract of impl.easiestTo. -/
import Derived.Test.YtdhokofcgfolnaaDoorClimb
import Derived.Deep.RegionHeld
import Derived.OrdersIn
namespace Go.Proofs.YtdhokofcgfolnaaDoor
open Go Go.RowKit Go.Shelf
attribute [local go_sem] Oper.semAt_some

/-- No way but on. -/
def onlyN (Q : Exit → Act → World → Prop) : Exit → Act → World → Prop
  | .normal, a, w => Q .normal a w
  | _, _, _ => False
theorem rowsIn_wide {n : Nat} {P : Program} {row : String} {args : Array Value} {w : World} {R : Value → World → Prop} (h : Rows P row args w R) : RowsIn Fence.wide n P row args w R :=
  fun c cs _ => by
    obtain ⟨v, w', h1, h2⟩ := h c cs
    exact ⟨v, w', h1, stepsIn_wide.2 h2⟩
theorem wpOp_round {n l : Nat} {P : Program} {ops : Array Oper} {Q : Exit → Act → World → Prop} {i : Nat} {K : Act → World → Prop} {a : Act} {w : World} (hnd : ∀ (i : Nat) (o : Oper) (c : Call), ops[i]? = some o → o.op ≠ .defer c)
    (h : wpOp P ops (onlyN Q) i K a w) : wpOpIn (Fence.wide.inRound l) n P ops (onlyN Q) i K a w := by
  unfold wpOp at h
  unfold wpOpIn
  cases ho : ops[i]? with
  | none => rw [ho] at h; exact h
  | some o =>
    rw [ho] at h
    simp only at h ⊢
    by_cases hw : Region.wanted o (yielded ops a.tmps) = true
    · rw [if_pos hw] at h ⊢
      rcases h with h | ⟨_, a', w', h⟩
      · refine ⟨fun f _ => trivial, ?_⟩
        unfold Oper.wp at h
        rw [Oper.semAt_eq _ _ _ (fun c => hnd i o c ho)]
        generalize (execOp a.eval o).run P w = r at h ⊢
        cases r with
        | ok nx w' =>
          cases nx with
          | value v => exact h
          | skip => exact h
          | defer d => exact h
          | enter f args => exact ⟨fun h => (by cases h), (callsIn_wide (n := n - 1)).2 h⟩
          | row r args => exact ⟨fun h => (by cases h), rowsIn_wide h⟩
          | _ => exact h.elim
        | halt hh w' => cases hh <;> exact h
      · exact h.elim
    · rw [if_neg hw] at h ⊢
      exact ⟨fun f _ => trivial, h⟩
theorem wpAny_round {n l : Nat} {P : Program} {md : Region.Mode} {ops : Array Oper} {Q : Exit → Act → World → Prop} (hnd : ∀ (i : Nat) (o : Oper) (c : Call), ops[i]? = some o → o.op ≠ .defer c) :
    ∀ {fuel : Nat} {listed : Array Bool} {a : Act} {w : World}, wpAny P md ops (onlyN Q) fuel listed a w → wpAnyIn (Fence.wide.inRound l) n P md ops (onlyN Q) fuel listed a w
  | 0, _, _, _, h => h
  | _ + 1, _, _, _, h => ⟨h.1, fun i hi => wpOp_round hnd (wpOp_mono (fun _ _ h' => wpAny_round hnd h') (h.2 i hi))⟩
def noDefer (ops : Array Oper) : Bool := ops.toList.all fun o => match o.op with | .defer _ => false | _ => true
theorem noDefer_spec {ops : Array Oper} (h : noDefer ops = true) : ∀ (i : Nat) (o : Oper) (c : Call), ops[i]? = some o → o.op ≠ .defer c := fun i o c ho e => by
  have := List.all_eq_true.1 h o (by
    rw [← Array.getElem?_toList] at ho
    exact List.mem_of_getElem? ho)
  rw [e] at this
  cases this
/-- A region that draws its order, in a round. -/
theorem round_region {n l id : Nat} {P : Program} {ops : Array Oper} {Q : Exit → Act → World → Prop} {S : World → Prop} {a : Act} {w : World} (hm : P.follows .mixedOrders = true) (hnd : noDefer ops = true) (hS : S w.drew)
    (h : S w.drew → wpAnyH P .any ops (onlyN Q) S ops.size (Array.replicate ops.size false) a w.drew) : (Code.region id ops true).wpIn (Fence.wide.inRound l) n P Q a w :=
  Code.wpIn_mono (fun e _ _ h => by cases e <;> first | exact h | exact h.elim) (wpIn_region_any hm (wpAny_round (noDefer_spec hnd) (wpAny_of_held _ _ _ _ (h hS))))

/-- The last number of steps, of at most s, with which it became cheaper. -/
def lastCh (ar : Nat → List Int) (p : List Int) (e : Nat) : Nat → Nat → Int
  | 0, _ => 0
  | s + 1, i => if costT ar p upF e (s + 1) i = costT ar p upF e s i then lastCh ar p e s i else (s + 1 : Nat)
theorem lastCh_still {ar : Nat → List Int} {p : List Int} {e N T : Nat} (hN : ∀ i x, i < N → x ∈ ar i → 0 ≤ x ∧ x < N) (h : StillC ar p upF e N T) (d i : Nat) (hi : i < N) : lastCh ar p e (T + d) i = lastCh ar p e T i := by
  induction d with
  | zero => rfl
  | succ d ih =>
    rw [← Nat.add_assoc, lastCh, if_pos, ih]
    rw [h.all hN (T + d + 1) (by omega) i hi, h.all hN (T + d) (by omega) i hi]
/-- A part is told anew. -/
def partT (c d : Nat → Int) (j : Nat) : Nat → Int := fun i => if i < j then d i else c i
theorem part_zero (c d : Nat → Int) : partT c d 0 = c := by funext i; unfold partT; rw [if_neg (Nat.not_lt_zero _)]
theorem part_all {c d : Nat → Int} {N : Nat} : tabL N (partT c d N) = tabL N d := tabL_congr fun i hi => by unfold partT; rw [if_pos hi]
theorem part_skip {c d : Nat → Int} {N j : Nat} (h : d j = c j) : tabL N (partT c d j) = tabL N (partT c d (j + 1)) := tabL_congr fun i _ => by
  unfold partT
  by_cases e : i = j
  · subst e; rw [if_neg (by omega), if_pos (by omega), h]
  · by_cases h2 : i < j
    · rw [if_pos h2, if_pos (by omega)]
    · rw [if_neg h2, if_neg (by omega)]
theorem part_set {c d : Nat → Int} {N j : Nat} : (tabL N (partT c d j)).set j (d j) = tabL N (partT c d (j + 1)) := by
  rw [tabL_set]
  refine tabL_congr fun i _ => ?_
  unfold partT
  by_cases e : i = j
  · subst e; rw [if_pos rfl, if_pos (by omega)]
  · rw [if_neg e]
    by_cases h2 : i < j
    · rw [if_pos h2, if_pos (by omega)]
    · rw [if_neg h2, if_neg (by omega)]

theorem IntsO.soft {E lo hi B : Nat} {w w' : World} {v : Value} {xs : List Int} (h : IntsO E lo hi w v xs) (s : Soft B w w') : IntsO E lo hi w' v xs :=
  ⟨ownsRow_block h.1 fun g e => by
    rcases h.1.2 with ⟨rfl, _⟩ | ⟨g', cap, cur, rfl, _, h4, _⟩
    · simp [Value.ownBlock] at e
    · simp only [Value.ownBlock, Option.some.injEq] at e
      subst e
      rw [s.block _ _ h4 (.inr rfl), h4], h.2⟩

set_option maxRecDepth 100000 in
set_option maxHeartbeats 4000000 in
theorem easiestTo_any (v : Value) (h : List (List Int)) (n m N K : Nat) (w : World) (hv : RowsV w v h) (hg : vGrid h = true) (hS : Steps w) (en : h.length = n) (em : (h.getD 0 []).length = m) (eN : n * m = N) (hK : K < N) :
    Calls Tryd.prog 58 #[v, .int .i64 K] w fun e w' => ∃ vc vs, e = .returned (.agg #[vc, vs]) ∧ IntsAt w.heap.size w' vc (costL n m h.flatten upF K N N) ∧ IntsAt w.heap.size w' vs (tabL N (lastCh (aroundL n m) h.flatten K N)) ∧ Grew w w' := by
  have G := Grid.of hg
  have hNb := around_range G en em eN
  have n5 := G.n5
  have m5 := G.m5
  have n1 := G.n1
  have m1 := G.m1
  rw [en] at n5 n1
  rw [em] at m5 m1
  have hN25 : N ≤ 25 := by rw [← eN]; exact Nat.mul_le_mul n5 m5
  have hN1 : 1 ≤ N := by rw [← eN]; exact Nat.mul_pos n1 m1
  have h0 : ∀ i x, x ∈ aroundL n m i → 0 ≤ x := fun i x hx => around_nonneg hx
  obtain ⟨T, hT1, hT2, hT3⟩ := still_first (p := h.flatten) upF_rule up_short (e := K) hNb h0
  have eT : costL n m h.flatten upF K N N = costL n m h.flatten upF K N T := tabL_congr (hT2.all hNb N (by omega))
  have eL : tabL N (lastCh (aroundL n m) h.flatten K N) = tabL N (lastCh (aroundL n m) h.flatten K T) := tabL_congr fun i hi => by
    have := lastCh_still hNb hT2 (N - T) i hi
    rwa [show T + (N - T) = N by omega] at this
  rw [eT, eL]
  have HIT := Lib.hid fun (S : Nat → Prop) (B1 B2 B3 : Nat) (W : World) (hW : Grew w W) hSb hbx hB1 hB2 hB3 => costsIter_in 9 (by decide) S B1 B2 B3 K n m N 51 T upF v h w W hv hg hS hW hSb hbx hB1 hB2 hB3 en em eN hK (fun _ _ => rfl) climbsOf_any upF_rule hT1 hT2 hT3
  obtain ⟨p, ep⟩ : ∃ p, h.flatten = p := ⟨_, rfl⟩
  rw [ep] at HIT ⊢
  obtain ⟨a, b, o, c, rfl, ⟨hlc, hcb⟩, ha, HCR⟩ := hv.shape
  obtain rfl := ha (by omega)
  obtain ⟨u0, hcu0, hu0⟩ := HCR.out 0 (by omega)
  rw [Nat.add_zero] at hcu0
  obtain ⟨a0, b0, o0, c0, rfl, _, _, _⟩ := hu0.shape
  rw [em] at hcu0
  have hmul : (n : Int) * (m : Int) = (N : Int) := by rw [← eN]; simp
  have HCT := Lib.hid fun (W : World) => costsTo_any (some ⟨b, o, none⟩) n c K 51 W
  have hn0 : 0 < n := n1
  rw [en] at HIT hlc ⊢
  clear hv hg hS G hNb h0 hT2 hT3 eT eL ep en em eN ha HCR hu0
  have hcu1 := ((Grew.refl w).alloc (.cells #[.slice none 0 0, .slice none 0 0] 59)).cell hcu0
  refine (callsIn_wide (n := 10)).1 ?_
  refine callsIn_of_wp_marks Tryd.func58 rfl trivial ?_ rfl
  simp only [Tryd.ntmps58, List.size_toArray, List.length_cons, List.length_nil, Nat.reduceAdd, Nat.reduceSub, Array.replicate_succ, Array.replicate_zero, List.push_toArray, List.append_toArray, List.nil_append, List.cons_append]
  refine wpIn_wide.2 ?_
  go_wp2_with (at_make; refine wpList_make_ints rfl (.tmp 15) (.tmp 15) 27 rfl Tryd.underlying27 Tryd.infoI rfl rfl (by first | exact hmul | rfl) (by first | exact hmul | rfl) (by omega) ?_; intro w1 hO1 hg1 hs1)
  obtain ⟨wB, hwB⟩ : ∃ wB, w1.alloc (.cells #[.slice none 0 0, .slice (some ⟨w.heap.size + 1, 0, none⟩) N N] 59) = wB := ⟨_, rfl⟩
  obtain ⟨gB, egB⟩ : ∃ gB, w1.heap.size = gB := ⟨_, rfl⟩
  obtain ⟨gA, egA⟩ : ∃ gA, w.heap.size + 1 = gA := ⟨_, rfl⟩
  have hgB : Grew w1 wB := by rw [← hwB]; exact (Grew.refl w1).alloc _
  have hb0 : wB.cell? ⟨gB, 0, none⟩ = some (.slice none 0 0) := by rw [← hwB, ← egB]; simp
  have hb1 : wB.cell? ⟨gB, 1, none⟩ = some (.slice (some ⟨gA, 0, none⟩) N N) := by rw [← hwB, ← egB, ← egA]; simp
  have hbf : wB.frozen? ⟨gB, 0, none⟩ = false := by rw [← hwB, ← egB]; simp
  have hsB : wB.heap.size = gB + 1 := by rw [← hwB, ← egB]; simp
  have hsz1 : (w.alloc (.cells #[.slice none 0 0, .slice none 0 0] 59)).heap.size = w.heap.size + 1 := by simp
  rw [hsz1, egA] at hO1 hs1
  have hwgA : w.heap.size < gA := by omega
  have hAB : gA < gB := by omega
  have hfr : wB.heap[w.heap.size]? = some (.cells #[.slice none 0 0, .slice none 0 0] 59) := by
    rw [Grew.block (hg1.trans hgB) (by simp)]
    exact heap_alloc_new w _
  have HB : Hid (IntsO 3 gA (gA + 1) wB (.slice (some ⟨gA, 0, none⟩) N N) (List.replicate N 0) ∧ Grew w wB ∧ wB.cell? ⟨gB, 0, none⟩ = some (.slice none 0 0) ∧ wB.cell? ⟨gB, 1, none⟩ = some (.slice (some ⟨gA, 0, none⟩) N N) ∧ wB.frozen? ⟨gB, 0, none⟩ = false ∧ wB.heap[w.heap.size]? = some (.cells #[.slice none 0 0, .slice none 0 0] 59)) :=
    Lib.hid ⟨hO1.at1.grew hgB, (((Grew.refl w).alloc _).trans hg1).trans hgB, hb0, hb1, hbf, hfr⟩
  rw [hwB, egB, egA]
  have HSB := Lib.hid hsB
  clear hb0 hb1 hbf hO1 hg1 hgB hwB egB hsz1 hcu1 egA hcu0 hsB
  go_wp2_with (fail)
  refine (HCT.out _).mono ?_
  rintro e w2 ⟨_, rfl, hbx, hg2, rfl, hs2⟩
  have h2c0 := hg2.cell HB.out.2.2.1
  have h2c1 := hg2.cell HB.out.2.2.2.1
  have H2 : Hid (CostsBox w2 (.slice (some ⟨b, o, none⟩) n c) (.func (.func 51) #[] #[]) K wB.heap.size (wB.heap.size + 1) (wB.heap.size + 2) ∧ Grew w w2 ∧ IntsO 3 gA (gA + 1) w2 (.slice (some ⟨gA, 0, none⟩) N N) (List.replicate N 0) ∧ w2.cell? ⟨gB, 0, none⟩ = some (.slice none 0 0) ∧ w2.cell? ⟨gB, 1, none⟩ = some (.slice (some ⟨gA, 0, none⟩) N N) ∧ w2.frozen? ⟨gB, 0, none⟩ = false ∧ w2.heap[w.heap.size]? = some (.cells #[.slice none 0 0, .slice none 0 0] 59)) :=
    Lib.hid ⟨hbx, HB.out.2.1.trans hg2, HB.out.1.grew hg2, h2c0, h2c1, (Grew.soft hg2 0).frozen HB.out.2.2.1 HB.out.2.2.2.2.1, (Grew.block hg2 (some_lt HB.out.2.2.2.2.2)).trans HB.out.2.2.2.2.2⟩
  clear hbx hg2
  go_wp2
  refine (wpIn_wide (n := 10)).1 ?_
  have hw2s := H2.out.2.1.size
  have hsB := HSB.out
  have hs2' : gB + 1 ≤ w2.heap.size := by omega
  refine range_law rfl (by omega) (gf := 73) (lb := #[.pointer (some ⟨wB.heap.size, 0, none⟩), .pointer (some ⟨wB.heap.size + 1, 0, none⟩), .pointer (some ⟨wB.heap.size + 2, 0, none⟩)]) rfl trivial (fun _ _ => rfl) rfl (S := fun k => k = gA ∨ k = gB) (fun k hk => by omega)
    (HIT.out (fun k => k = gA ∨ k = gB) _ _ _ w2 H2.out.2.1 (fun k hk => by omega) H2.out.1 (by omega) (by omega) (by omega))
    (fun t W => Only (fun k => k = gA ∨ k = gB) w2 W ∧ W.frozen? ⟨gB, 0, none⟩ = false ∧ W.cell? ⟨gB, 1, none⟩ = some (.slice (some ⟨gA, 0, none⟩) N N) ∧ IntsO 3 gA (gA + 1) W (.slice (some ⟨gA, 0, none⟩) N N) (tabL N (lastCh (aroundL n m) p K (t - 1))) ∧
      ∃ u, W.cell? ⟨gB, 0, none⟩ = some u ∧ (0 < t → IntsAt w2.heap.size W u (costL n m p upF K N (t - 1))))
    (fun _ _ _ => False) ?_ (fun _ _ _ _ h _ => h) ⟨Only.refl _ _, H2.out.2.2.2.2.2.1, H2.out.2.2.2.2.1, ?_, _, H2.out.2.2.2.1, fun h => absurd h (Nat.lt_irrefl 0)⟩ ?_ ?_ ?_
  · rintro t A B ⟨k1, k2, k3, k4, u, k5, k6⟩ hs
    exact ⟨k1.soft hs (Nat.le_refl _), hs.frozen k5 k2, hs.cell k3, k4.soft hs, u, hs.cell k5, fun h => (k6 h).soft hs⟩
  · have := H2.out.2.2.1
    rwa [show List.replicate N (0 : Int) = tabL N (lastCh (aroundL n m) p K (0 - 1)) by
      apply List.ext_getElem
      · simp [tabL]
      · intro i h1 h2; simp [tabL, lastCh]] at this
  · rintro l t v W hl ht ⟨k1, k2, k3, k4, u, k5, k6⟩ ⟨⟨g, c, rfl, hg⟩, hv⟩
    gi_wp2
    refine ⟨trivial, ?_⟩
    rintro W2 hs hrec
    have hk2 := hs.frozen k5 k2
    have hk3 := hs.cell k3
    have hk4 := k4.soft hs
    have hk5 := hs.cell k5
    have hk1 : Only (fun k => k = gA ∨ k = gB) w2 W2 := k1.soft hs (Nat.le_refl _)
    have H6 : Hid (0 < t → IntsAt w2.heap.size W2 u (costL n m p upF K N (t - 1))) := Lib.hid fun h => (k6 h).soft hs
    have HV : Hid (IntsAt w2.heap.size W2 (.slice (some ⟨g, 0, none⟩) (costL n m p upF K N t).length c) (costL n m p upF K N t)) := Lib.hid ⟨⟨g, c, rfl, hg⟩, hv.soft hs⟩
    rw [costL_len] at HV ⊢
    have HW : Hid (IntsO 3 gA (gA + 1) W2 (.slice (some ⟨gA, 0, none⟩) N N) (tabL N (lastCh (aroundL n m) p K (t - 1))) ∧ Only (fun k => k = gA ∨ k = gB) w2 W2 ∧ W2.cell? ⟨gB, 0, none⟩ = some u ∧ W2.cell? ⟨gB, 1, none⟩ = some (.slice (some ⟨gA, 0, none⟩) N N) ∧ W2.frozen? ⟨gB, 0, none⟩ = false ∧ w2.heap.size ≤ g) := Lib.hid ⟨hk4, hk1, hk5, hk3, hk2, hg⟩
    have HLT : Hid (t = 0 ∨ ∃ t', t = t' + 1) := Lib.hid (by cases t; exact .inl rfl; exact .inr ⟨_, rfl⟩)
    clear k1 k2 k3 k4 k5 k6 hv hs hk1 hk2 hk4 hg hl hrec
    gi_wp2
    gi_loopw [25] (fun jv wr => ∃ j : Nat, j ≤ N ∧ jv = .int .i64 (j : Int) ∧ Hid (IntsO 3 gA (gA + 1) wr (.slice (some ⟨gA, 0, none⟩) N N) (tabL N (partT (lastCh (aroundL n m) p K (t - 1)) (lastCh (aroundL n m) p K t) j)) ∧ Within gA (gA + 1) W2 wr)) (fun jv _ => N - (intOf jv).toNat)
    case atStart => exact ⟨0, Nat.zero_le _, rfl, by rw [part_zero]; exact HW.out.1, Within.refl _ _ _⟩
    case round =>
      obtain ⟨j, hj, rfl, HX⟩ := hrel
      have hc0 := HX.out.2.cell (p := ⟨gB, 0, none⟩) HW.out.2.2.1 (.inr (by show gA + 1 ≤ gB; omega))
      have hc1 := HX.out.2.cell (p := ⟨gB, 1, none⟩) HW.out.2.2.2.1 (.inr (by show gA + 1 ≤ gB; omega))
      have hfB := HX.out.2.frozen (p := ⟨gB, 0, none⟩) HW.out.2.2.1 HW.out.2.2.2.2.1 (.inr (by show gA + 1 ≤ gB; omega))
      by_cases hjN : j < N
      · have hjn : (j : Int) < (N : Int) := by omega
        have hcx : wr.cell? ⟨g, j, none⟩ = some (.int .i64 (costT (aroundL n m) p upF K t j)) := by
          have := HX.out.2.cell (p := ⟨g, j, none⟩) (HV.out.2.at j (by rw [costL_len]; exact hjN)) (.inr (by have := HW.out.2.2.2.2.2; show gA + 1 ≤ g; omega))
          rwa [costL, tabL_at _ hjN] at this
        obtain ⟨x, ex⟩ : ∃ x, costT (aroundL n m) p upF K t j = x := ⟨_, rfl⟩
        rw [ex] at hcx
        have HEX := Lib.hid ex
        clear ex
        by_cases ht0 : t = 0
        · have htb : ¬ (0 : Int) < (t : Int) := by omega
          have HT0 := Lib.hid ht0
          have HE : Hid (IntsO 3 gA (gA + 1) wr (.slice (some ⟨gA, 0, none⟩) N N) (tabL N (partT (lastCh (aroundL n m) p K (t - 1)) (lastCh (aroundL n m) p K t) (j + 1))) ∧ Within gA (gA + 1) W2 wr) := by
            refine Lib.hid ⟨?_, HX.out.2⟩
            rw [← part_skip (by rw [ht0])]
            exact HX.out.1
          clear HX ht0
          gi_wp2
          refine round_region (S := fun W' => Grew wr W') (by kernel_rfl) (by kernel_rfl) (by exact (Grew.refl wr).drew) (fun hHeld => ?_)
          refine wpAnyH_take (i := 0) (oi := { dst := some 28, op := Op.move (Operand.tmp 6), type := 3, pos := _, after := #[], guard := none }) (v := ?_) rfl (by kernel_rfl) (by kernel_rfl) (by kernel_rfl) (fun _ _ _ h => h) (Or.inl ⟨by rfl, ?hy⟩) (by assumption) ?_
          case hy => (intro w hSw; (try dsimp only at hSw); go_simp; try with_reducible rfl)
          try simp only [Act.put, List.setIfInBounds_toArray, List.set_cons_zero, List.set_cons_succ]
          refine wpAnyH_take (i := 1) (oi := { dst := some 29, op := Op.binOp BinOp.gtr 3 (Operand.tmp 28) (Operand.const (Value.int IntKind.i64 0)) 3, type := 4, pos := _, after := #[{ on := 0, ground := Ground.data }], guard := none }) (v := .bool false) rfl (by kernel_rfl) (by kernel_rfl) (by kernel_rfl) (fun _ _ _ h => h) (Or.inl ⟨by rfl, ?hy⟩) (by assumption) ?_
          case hy => (intro w hSw; (try dsimp only at hSw); go_simp <;> (try with_reducible rfl) <;> (try simp [HT0.out]))
          try simp only [Act.put, List.setIfInBounds_toArray, List.set_cons_zero, List.set_cons_succ]
          refine wpAnyH_take (i := 2) (oi := { dst := some 30, op := Op.move (Operand.tmp 29), type := 4, pos := _, after := #[{ on := 1, ground := Ground.data }], guard := none }) (v := ?_) rfl (by kernel_rfl) (by kernel_rfl) (by kernel_rfl) (fun _ _ _ h => h) (Or.inl ⟨by rfl, ?hy⟩) (by assumption) ?_
          case hy => (intro w hSw; (try dsimp only at hSw); go_simp; try with_reducible rfl)
          try simp only [Act.put, List.setIfInBounds_toArray, List.set_cons_zero, List.set_cons_succ]
          refine wpAnyH_take (i := 3) (oi := { dst := some 31, op := Op.move (Operand.tmp 7), type := 27, pos := _, after := #[{ on := 2, ground := Ground.guard }], guard := some (2, true) }) (v := undef) rfl (by kernel_rfl) (by kernel_rfl) (by kernel_rfl) (fun _ _ _ h => h) (Or.inr ⟨by rfl, rfl⟩) (by assumption) ?_
          try simp only [Act.put, List.setIfInBounds_toArray, List.set_cons_zero, List.set_cons_succ]
          refine wpAnyH_take (i := 4) (oi := { dst := some 32, op := Op.move (Operand.tmp 8), type := 3, pos := _, after := #[{ on := 2, ground := Ground.guard }], guard := some (2, true) }) (v := undef) rfl (by kernel_rfl) (by kernel_rfl) (by kernel_rfl) (fun _ _ _ h => h) (Or.inr ⟨by rfl, rfl⟩) (by assumption) ?_
          try simp only [Act.put, List.setIfInBounds_toArray, List.set_cons_zero, List.set_cons_succ]
          refine wpAnyH_take (i := 5) (oi := { dst := some 33, op := Op.indexAddr 27 (Operand.tmp 31) (Operand.tmp 32), type := 0, pos := _, after := #[{ on := 3, ground := Ground.data }, { on := 4, ground := Ground.data }, { on := 2, ground := Ground.guard }], guard := some (2, true) }) (v := undef) rfl (by kernel_rfl) (by kernel_rfl) (by kernel_rfl) (fun _ _ _ h => h) (Or.inr ⟨by rfl, rfl⟩) (by assumption) ?_
          try simp only [Act.put, List.setIfInBounds_toArray, List.set_cons_zero, List.set_cons_succ]
          refine wpAnyH_take (i := 6) (oi := { dst := some 34, op := Op.load 3 (Operand.tmp 33), type := 3, pos := _, after := #[{ on := 5, ground := Ground.data }, { on := 2, ground := Ground.guard }], guard := some (2, true) }) (v := undef) rfl (by kernel_rfl) (by kernel_rfl) (by kernel_rfl) (fun _ _ _ h => h) (Or.inr ⟨by rfl, rfl⟩) (by assumption) ?_
          try simp only [Act.put, List.setIfInBounds_toArray, List.set_cons_zero, List.set_cons_succ]
          refine wpAnyH_take (i := 7) (oi := { dst := some 35, op := Op.fieldAddr 59 (Operand.tmp 5) 0, type := 0, pos := _, after := #[{ on := 2, ground := Ground.guard }], guard := some (2, true) }) (v := undef) rfl (by kernel_rfl) (by kernel_rfl) (by kernel_rfl) (fun _ _ _ h => h) (Or.inr ⟨by rfl, rfl⟩) (by assumption) ?_
          try simp only [Act.put, List.setIfInBounds_toArray, List.set_cons_zero, List.set_cons_succ]
          refine wpAnyH_take (i := 8) (oi := { dst := some 36, op := Op.load 27 (Operand.tmp 35), type := 27, pos := _, after := #[{ on := 7, ground := Ground.data }, { on := 2, ground := Ground.guard }], guard := some (2, true) }) (v := undef) rfl (by kernel_rfl) (by kernel_rfl) (by kernel_rfl) (fun _ _ _ h => h) (Or.inr ⟨by rfl, rfl⟩) (by assumption) ?_
          try simp only [Act.put, List.setIfInBounds_toArray, List.set_cons_zero, List.set_cons_succ]
          refine wpAnyH_take (i := 9) (oi := { dst := some 37, op := Op.move (Operand.tmp 8), type := 3, pos := _, after := #[{ on := 2, ground := Ground.guard }], guard := some (2, true) }) (v := undef) rfl (by kernel_rfl) (by kernel_rfl) (by kernel_rfl) (fun _ _ _ h => h) (Or.inr ⟨by rfl, rfl⟩) (by assumption) ?_
          try simp only [Act.put, List.setIfInBounds_toArray, List.set_cons_zero, List.set_cons_succ]
          refine wpAnyH_take (i := 10) (oi := { dst := some 38, op := Op.indexAddr 27 (Operand.tmp 36) (Operand.tmp 37), type := 0, pos := _, after := #[{ on := 8, ground := Ground.data }, { on := 9, ground := Ground.data }, { on := 2, ground := Ground.guard }], guard := some (2, true) }) (v := undef) rfl (by kernel_rfl) (by kernel_rfl) (by kernel_rfl) (fun _ _ _ h => h) (Or.inr ⟨by rfl, rfl⟩) (by assumption) ?_
          try simp only [Act.put, List.setIfInBounds_toArray, List.set_cons_zero, List.set_cons_succ]
          refine wpAnyH_take (i := 11) (oi := { dst := some 39, op := Op.load 3 (Operand.tmp 38), type := 3, pos := _, after := #[{ on := 10, ground := Ground.data }, { on := 2, ground := Ground.guard }], guard := some (2, true) }) (v := undef) rfl (by kernel_rfl) (by kernel_rfl) (by kernel_rfl) (fun _ _ _ h => h) (Or.inr ⟨by rfl, rfl⟩) (by assumption) ?_
          try simp only [Act.put, List.setIfInBounds_toArray, List.set_cons_zero, List.set_cons_succ]
          refine wpAnyH_take (i := 12) (oi := { dst := some 40, op := Op.binOp BinOp.neq 3 (Operand.tmp 34) (Operand.tmp 39) 3, type := 4, pos := _, after := #[{ on := 6, ground := Ground.data }, { on := 11, ground := Ground.data }, { on := 2, ground := Ground.guard }], guard := some (2, true) }) (v := undef) rfl (by kernel_rfl) (by kernel_rfl) (by kernel_rfl) (fun _ _ _ h => h) (Or.inr ⟨by rfl, rfl⟩) (by assumption) ?_
          try simp only [Act.put, List.setIfInBounds_toArray, List.set_cons_zero, List.set_cons_succ]
          refine wpAnyH_take (i := 13) (oi := { dst := some 41, op := Op.pick (Operand.tmp 30) (Operand.tmp 40) (Operand.const (Value.bool false)), type := 4, pos := _, after := #[{ on := 2, ground := Ground.data }, { on := 12, ground := Ground.data }], guard := none }) (v := ?_) rfl (by kernel_rfl) (by kernel_rfl) (by kernel_rfl) (fun _ _ _ h => h) (Or.inl ⟨by rfl, ?hy⟩) (by assumption) ?_
          case hy => (intro w hSw; (try dsimp only at hSw); go_simp; try with_reducible rfl)
          try simp only [Act.put, List.setIfInBounds_toArray, List.set_cons_zero, List.set_cons_succ]
          refine wpAnyH_done (by kernel_rfl) ?_ _
          dsimp only [onlyN]
          gi_wp2
          go_roundw
          case rel => exact ⟨j + 1, by omega, by go_num, HE.out.1, HE.out.2.drew⟩
          case measure => simp [intOf]; omega
        · have htb : (0 : Int) < (t : Int) := by omega
          have HT0 : Hid (0 < t) := Lib.hid (by omega)
          obtain ⟨⟨g', c', rfl, hg'⟩, h6⟩ := H6.out (by omega)
          have hcy : wr.cell? ⟨g', j, none⟩ = some (.int .i64 (costT (aroundL n m) p upF K (t - 1) j)) := by
            have := HX.out.2.cell (p := ⟨g', j, none⟩) (h6.at j (by rw [costL_len]; exact hjN)) (.inr (by show gA + 1 ≤ g'; omega))
            rwa [costL, tabL_at _ hjN] at this
          rw [costL_len] at hc0
          obtain ⟨y, ey⟩ : ∃ y, costT (aroundL n m) p upF K (t - 1) j = y := ⟨_, rfl⟩
          rw [ey] at hcy
          have HL : Hid (lastCh (aroundL n m) p K t j = if x = y then lastCh (aroundL n m) p K (t - 1) j else (t : Int)) := by
            rcases HLT.out with h | ⟨t', rfl⟩
            · exact absurd h ht0
            · show _ = _
              rw [lastCh, HEX.out, show costT (aroundL n m) p upF K t' j = y from ey]
              rfl
          clear h6 hg' ey ht0
          by_cases hxy : x = y
          · have hxb : (x != y) = false := by simp [hxy]
            have HE : Hid (IntsO 3 gA (gA + 1) wr (.slice (some ⟨gA, 0, none⟩) N N) (tabL N (partT (lastCh (aroundL n m) p K (t - 1)) (lastCh (aroundL n m) p K t) (j + 1))) ∧ Within gA (gA + 1) W2 wr) := by
              refine Lib.hid ⟨?_, HX.out.2⟩
              rw [← part_skip (by rw [HL.out, if_pos hxy])]
              exact HX.out.1
            clear HX hxy HL
            gi_wp2
            refine round_region (S := fun W' => W'.cell? ⟨g, j, none⟩ = some (.int .i64 x) ∧ W'.cell? ⟨gB, 0, none⟩ = some (.slice (some ⟨g', 0, none⟩) N c') ∧ W'.cell? ⟨g', j, none⟩ = some (.int .i64 y)) (by kernel_rfl) (by kernel_rfl) (by exact ⟨((Grew.refl wr).drew).cell hcx, ((Grew.refl wr).drew).cell hc0, ((Grew.refl wr).drew).cell hcy⟩) (fun hHeld => ?_)
            refine wpAnyH_take (i := 0) (oi := { dst := some 28, op := Op.move (Operand.tmp 6), type := 3, pos := _, after := #[], guard := none }) (v := ?_) rfl (by kernel_rfl) (by kernel_rfl) (by kernel_rfl) (fun _ _ _ h => h) (Or.inl ⟨by rfl, ?hy⟩) (by assumption) ?_
            case hy => (intro w hSw; (try dsimp only at hSw); go_simp; try with_reducible rfl)
            try simp only [Act.put, List.setIfInBounds_toArray, List.set_cons_zero, List.set_cons_succ]
            refine wpAnyH_take (i := 1) (oi := { dst := some 29, op := Op.binOp BinOp.gtr 3 (Operand.tmp 28) (Operand.const (Value.int IntKind.i64 0)) 3, type := 4, pos := _, after := #[{ on := 0, ground := Ground.data }], guard := none }) (v := .bool true) rfl (by kernel_rfl) (by kernel_rfl) (by kernel_rfl) (fun _ _ _ h => h) (Or.inl ⟨by rfl, ?hy⟩) (by assumption) ?_
            case hy => (intro w hSw; (try dsimp only at hSw); go_simp <;> (try with_reducible rfl) <;> (try simp [HT0.out]))
            try simp only [Act.put, List.setIfInBounds_toArray, List.set_cons_zero, List.set_cons_succ]
            refine wpAnyH_take (i := 2) (oi := { dst := some 30, op := Op.move (Operand.tmp 29), type := 4, pos := _, after := #[{ on := 1, ground := Ground.data }], guard := none }) (v := ?_) rfl (by kernel_rfl) (by kernel_rfl) (by kernel_rfl) (fun _ _ _ h => h) (Or.inl ⟨by rfl, ?hy⟩) (by assumption) ?_
            case hy => (intro w hSw; (try dsimp only at hSw); go_simp; try with_reducible rfl)
            try simp only [Act.put, List.setIfInBounds_toArray, List.set_cons_zero, List.set_cons_succ]
            refine wpAnyH_take (i := 3) (oi := { dst := some 31, op := Op.move (Operand.tmp 7), type := 27, pos := _, after := #[{ on := 2, ground := Ground.guard }], guard := some (2, true) }) (v := ?_) rfl (by kernel_rfl) (by kernel_rfl) (by kernel_rfl) (fun _ _ _ h => h) (Or.inl ⟨by rfl, ?hy⟩) (by assumption) ?_
            case hy => (intro w hSw; (try dsimp only at hSw); go_simp; try with_reducible rfl)
            try simp only [Act.put, List.setIfInBounds_toArray, List.set_cons_zero, List.set_cons_succ]
            refine wpAnyH_take (i := 4) (oi := { dst := some 32, op := Op.move (Operand.tmp 8), type := 3, pos := _, after := #[{ on := 2, ground := Ground.guard }], guard := some (2, true) }) (v := ?_) rfl (by kernel_rfl) (by kernel_rfl) (by kernel_rfl) (fun _ _ _ h => h) (Or.inl ⟨by rfl, ?hy⟩) (by assumption) ?_
            case hy => (intro w hSw; (try dsimp only at hSw); go_simp; try with_reducible rfl)
            try simp only [Act.put, List.setIfInBounds_toArray, List.set_cons_zero, List.set_cons_succ]
            refine wpAnyH_take (i := 5) (oi := { dst := some 33, op := Op.indexAddr 27 (Operand.tmp 31) (Operand.tmp 32), type := 0, pos := _, after := #[{ on := 3, ground := Ground.data }, { on := 4, ground := Ground.data }, { on := 2, ground := Ground.guard }], guard := some (2, true) }) (v := ?_) rfl (by kernel_rfl) (by kernel_rfl) (by kernel_rfl) (fun _ _ _ h => h) (Or.inl ⟨by rfl, ?hy⟩) (by assumption) ?_
            case hy => (intro w hSw; (try dsimp only at hSw); go_simp; try with_reducible rfl)
            try simp only [Act.put, List.setIfInBounds_toArray, List.set_cons_zero, List.set_cons_succ]
            refine wpAnyH_take (i := 6) (oi := { dst := some 34, op := Op.load 3 (Operand.tmp 33), type := 3, pos := _, after := #[{ on := 5, ground := Ground.data }, { on := 2, ground := Ground.guard }], guard := some (2, true) }) (v := ?_) rfl (by kernel_rfl) (by kernel_rfl) (by kernel_rfl) (fun _ _ _ h => h) (Or.inl ⟨by rfl, ?hy⟩) (by assumption) ?_
            case hy => (intro w hSw; (try dsimp only at hSw); go_simp; try with_reducible rfl)
            try simp only [Act.put, List.setIfInBounds_toArray, List.set_cons_zero, List.set_cons_succ]
            refine wpAnyH_take (i := 7) (oi := { dst := some 35, op := Op.fieldAddr 59 (Operand.tmp 5) 0, type := 0, pos := _, after := #[{ on := 2, ground := Ground.guard }], guard := some (2, true) }) (v := ?_) rfl (by kernel_rfl) (by kernel_rfl) (by kernel_rfl) (fun _ _ _ h => h) (Or.inl ⟨by rfl, ?hy⟩) (by assumption) ?_
            case hy => (intro w hSw; (try dsimp only at hSw); go_simp; try with_reducible rfl)
            try simp only [Act.put, List.setIfInBounds_toArray, List.set_cons_zero, List.set_cons_succ]
            refine wpAnyH_take (i := 8) (oi := { dst := some 36, op := Op.load 27 (Operand.tmp 35), type := 27, pos := _, after := #[{ on := 7, ground := Ground.data }, { on := 2, ground := Ground.guard }], guard := some (2, true) }) (v := ?_) rfl (by kernel_rfl) (by kernel_rfl) (by kernel_rfl) (fun _ _ _ h => h) (Or.inl ⟨by rfl, ?hy⟩) (by assumption) ?_
            case hy => (intro w hSw; (try dsimp only at hSw); go_simp; try with_reducible rfl)
            try simp only [Act.put, List.setIfInBounds_toArray, List.set_cons_zero, List.set_cons_succ]
            refine wpAnyH_take (i := 9) (oi := { dst := some 37, op := Op.move (Operand.tmp 8), type := 3, pos := _, after := #[{ on := 2, ground := Ground.guard }], guard := some (2, true) }) (v := ?_) rfl (by kernel_rfl) (by kernel_rfl) (by kernel_rfl) (fun _ _ _ h => h) (Or.inl ⟨by rfl, ?hy⟩) (by assumption) ?_
            case hy => (intro w hSw; (try dsimp only at hSw); go_simp; try with_reducible rfl)
            try simp only [Act.put, List.setIfInBounds_toArray, List.set_cons_zero, List.set_cons_succ]
            refine wpAnyH_take (i := 10) (oi := { dst := some 38, op := Op.indexAddr 27 (Operand.tmp 36) (Operand.tmp 37), type := 0, pos := _, after := #[{ on := 8, ground := Ground.data }, { on := 9, ground := Ground.data }, { on := 2, ground := Ground.guard }], guard := some (2, true) }) (v := ?_) rfl (by kernel_rfl) (by kernel_rfl) (by kernel_rfl) (fun _ _ _ h => h) (Or.inl ⟨by rfl, ?hy⟩) (by assumption) ?_
            case hy => (intro w hSw; (try dsimp only at hSw); go_simp; try with_reducible rfl)
            try simp only [Act.put, List.setIfInBounds_toArray, List.set_cons_zero, List.set_cons_succ]
            refine wpAnyH_take (i := 11) (oi := { dst := some 39, op := Op.load 3 (Operand.tmp 38), type := 3, pos := _, after := #[{ on := 10, ground := Ground.data }, { on := 2, ground := Ground.guard }], guard := some (2, true) }) (v := ?_) rfl (by kernel_rfl) (by kernel_rfl) (by kernel_rfl) (fun _ _ _ h => h) (Or.inl ⟨by rfl, ?hy⟩) (by assumption) ?_
            case hy => (intro w hSw; (try dsimp only at hSw); go_simp; try with_reducible rfl)
            try simp only [Act.put, List.setIfInBounds_toArray, List.set_cons_zero, List.set_cons_succ]
            refine wpAnyH_take (i := 12) (oi := { dst := some 40, op := Op.binOp BinOp.neq 3 (Operand.tmp 34) (Operand.tmp 39) 3, type := 4, pos := _, after := #[{ on := 6, ground := Ground.data }, { on := 11, ground := Ground.data }, { on := 2, ground := Ground.guard }], guard := some (2, true) }) (v := ?_) rfl (by kernel_rfl) (by kernel_rfl) (by kernel_rfl) (fun _ _ _ h => h) (Or.inl ⟨by rfl, ?hy⟩) (by assumption) ?_
            case hy => (intro w hSw; (try dsimp only at hSw); go_simp; try with_reducible rfl)
            try simp only [Act.put, List.setIfInBounds_toArray, List.set_cons_zero, List.set_cons_succ]
            refine wpAnyH_take (i := 13) (oi := { dst := some 41, op := Op.pick (Operand.tmp 30) (Operand.tmp 40) (Operand.const (Value.bool false)), type := 4, pos := _, after := #[{ on := 2, ground := Ground.data }, { on := 12, ground := Ground.data }], guard := none }) (v := ?_) rfl (by kernel_rfl) (by kernel_rfl) (by kernel_rfl) (fun _ _ _ h => h) (Or.inl ⟨by rfl, ?hy⟩) (by assumption) ?_
            case hy => (intro w hSw; (try dsimp only at hSw); go_simp; try with_reducible rfl)
            try simp only [Act.put, List.setIfInBounds_toArray, List.set_cons_zero, List.set_cons_succ]
            refine wpAnyH_done (by kernel_rfl) ?_ _
            dsimp only [onlyN]
            gi_wp2
            go_roundw
            case rel => exact ⟨j + 1, by omega, by go_num, HE.out.1, HE.out.2.drew⟩
            case measure => simp [intOf]; omega
          · have hxb : (x != y) = true := by simp [hxy]
            have HLX := Lib.hid (show lastCh (aroundL n m) p K t j = (t : Int) by rw [HL.out, if_neg hxy])
            obtain ⟨hcs, hfs⟩ := HX.out.1.at rfl (i := j) (by rw [tabL_len]; exact hjN)
            have HE : Hid (∀ W, Grew wr W → IntsO 3 gA (gA + 1) (W.setCell ⟨gA, j, none⟩ (.int .i64 (t : Int))) (.slice (some ⟨gA, 0, none⟩) N N) (tabL N (partT (lastCh (aroundL n m) p K (t - 1)) (lastCh (aroundL n m) p K t) (j + 1))) ∧ Within gA (gA + 1) W2 (W.setCell ⟨gA, j, none⟩ (.int .i64 (t : Int)))) := fun W hW =>
              ⟨by rw [← part_set, HLX.out]; exact (HX.out.1.grew hW).set rfl j t, (HX.out.2.trans (hW.within _ _)).setCell (p := ⟨gA, j, none⟩) (Nat.le_refl _) (Nat.lt_succ_self _) _⟩
            obtain ⟨z, ez⟩ : ∃ z, (tabL N (partT (lastCh (aroundL n m) p K (t - 1)) (lastCh (aroundL n m) p K t) j)).getD j 0 = z := ⟨_, rfl⟩
            rw [ez] at hcs
            clear HX hxy HL HLX ez
            gi_wp2
            refine round_region (S := fun W' => W'.cell? ⟨g, j, none⟩ = some (.int .i64 x) ∧ W'.cell? ⟨gB, 0, none⟩ = some (.slice (some ⟨g', 0, none⟩) N c') ∧ W'.cell? ⟨g', j, none⟩ = some (.int .i64 y)) (by kernel_rfl) (by kernel_rfl) (by exact ⟨((Grew.refl wr).drew).cell hcx, ((Grew.refl wr).drew).cell hc0, ((Grew.refl wr).drew).cell hcy⟩) (fun hHeld => ?_)
            refine wpAnyH_take (i := 0) (oi := { dst := some 28, op := Op.move (Operand.tmp 6), type := 3, pos := _, after := #[], guard := none }) (v := ?_) rfl (by kernel_rfl) (by kernel_rfl) (by kernel_rfl) (fun _ _ _ h => h) (Or.inl ⟨by rfl, ?hy⟩) (by assumption) ?_
            case hy => (intro w hSw; (try dsimp only at hSw); go_simp; try with_reducible rfl)
            try simp only [Act.put, List.setIfInBounds_toArray, List.set_cons_zero, List.set_cons_succ]
            refine wpAnyH_take (i := 1) (oi := { dst := some 29, op := Op.binOp BinOp.gtr 3 (Operand.tmp 28) (Operand.const (Value.int IntKind.i64 0)) 3, type := 4, pos := _, after := #[{ on := 0, ground := Ground.data }], guard := none }) (v := .bool true) rfl (by kernel_rfl) (by kernel_rfl) (by kernel_rfl) (fun _ _ _ h => h) (Or.inl ⟨by rfl, ?hy⟩) (by assumption) ?_
            case hy => (intro w hSw; (try dsimp only at hSw); go_simp <;> (try with_reducible rfl) <;> (try simp [HT0.out]))
            try simp only [Act.put, List.setIfInBounds_toArray, List.set_cons_zero, List.set_cons_succ]
            refine wpAnyH_take (i := 2) (oi := { dst := some 30, op := Op.move (Operand.tmp 29), type := 4, pos := _, after := #[{ on := 1, ground := Ground.data }], guard := none }) (v := ?_) rfl (by kernel_rfl) (by kernel_rfl) (by kernel_rfl) (fun _ _ _ h => h) (Or.inl ⟨by rfl, ?hy⟩) (by assumption) ?_
            case hy => (intro w hSw; (try dsimp only at hSw); go_simp; try with_reducible rfl)
            try simp only [Act.put, List.setIfInBounds_toArray, List.set_cons_zero, List.set_cons_succ]
            refine wpAnyH_take (i := 3) (oi := { dst := some 31, op := Op.move (Operand.tmp 7), type := 27, pos := _, after := #[{ on := 2, ground := Ground.guard }], guard := some (2, true) }) (v := ?_) rfl (by kernel_rfl) (by kernel_rfl) (by kernel_rfl) (fun _ _ _ h => h) (Or.inl ⟨by rfl, ?hy⟩) (by assumption) ?_
            case hy => (intro w hSw; (try dsimp only at hSw); go_simp; try with_reducible rfl)
            try simp only [Act.put, List.setIfInBounds_toArray, List.set_cons_zero, List.set_cons_succ]
            refine wpAnyH_take (i := 4) (oi := { dst := some 32, op := Op.move (Operand.tmp 8), type := 3, pos := _, after := #[{ on := 2, ground := Ground.guard }], guard := some (2, true) }) (v := ?_) rfl (by kernel_rfl) (by kernel_rfl) (by kernel_rfl) (fun _ _ _ h => h) (Or.inl ⟨by rfl, ?hy⟩) (by assumption) ?_
            case hy => (intro w hSw; (try dsimp only at hSw); go_simp; try with_reducible rfl)
            try simp only [Act.put, List.setIfInBounds_toArray, List.set_cons_zero, List.set_cons_succ]
            refine wpAnyH_take (i := 5) (oi := { dst := some 33, op := Op.indexAddr 27 (Operand.tmp 31) (Operand.tmp 32), type := 0, pos := _, after := #[{ on := 3, ground := Ground.data }, { on := 4, ground := Ground.data }, { on := 2, ground := Ground.guard }], guard := some (2, true) }) (v := ?_) rfl (by kernel_rfl) (by kernel_rfl) (by kernel_rfl) (fun _ _ _ h => h) (Or.inl ⟨by rfl, ?hy⟩) (by assumption) ?_
            case hy => (intro w hSw; (try dsimp only at hSw); go_simp; try with_reducible rfl)
            try simp only [Act.put, List.setIfInBounds_toArray, List.set_cons_zero, List.set_cons_succ]
            refine wpAnyH_take (i := 6) (oi := { dst := some 34, op := Op.load 3 (Operand.tmp 33), type := 3, pos := _, after := #[{ on := 5, ground := Ground.data }, { on := 2, ground := Ground.guard }], guard := some (2, true) }) (v := ?_) rfl (by kernel_rfl) (by kernel_rfl) (by kernel_rfl) (fun _ _ _ h => h) (Or.inl ⟨by rfl, ?hy⟩) (by assumption) ?_
            case hy => (intro w hSw; (try dsimp only at hSw); go_simp; try with_reducible rfl)
            try simp only [Act.put, List.setIfInBounds_toArray, List.set_cons_zero, List.set_cons_succ]
            refine wpAnyH_take (i := 7) (oi := { dst := some 35, op := Op.fieldAddr 59 (Operand.tmp 5) 0, type := 0, pos := _, after := #[{ on := 2, ground := Ground.guard }], guard := some (2, true) }) (v := ?_) rfl (by kernel_rfl) (by kernel_rfl) (by kernel_rfl) (fun _ _ _ h => h) (Or.inl ⟨by rfl, ?hy⟩) (by assumption) ?_
            case hy => (intro w hSw; (try dsimp only at hSw); go_simp; try with_reducible rfl)
            try simp only [Act.put, List.setIfInBounds_toArray, List.set_cons_zero, List.set_cons_succ]
            refine wpAnyH_take (i := 8) (oi := { dst := some 36, op := Op.load 27 (Operand.tmp 35), type := 27, pos := _, after := #[{ on := 7, ground := Ground.data }, { on := 2, ground := Ground.guard }], guard := some (2, true) }) (v := ?_) rfl (by kernel_rfl) (by kernel_rfl) (by kernel_rfl) (fun _ _ _ h => h) (Or.inl ⟨by rfl, ?hy⟩) (by assumption) ?_
            case hy => (intro w hSw; (try dsimp only at hSw); go_simp; try with_reducible rfl)
            try simp only [Act.put, List.setIfInBounds_toArray, List.set_cons_zero, List.set_cons_succ]
            refine wpAnyH_take (i := 9) (oi := { dst := some 37, op := Op.move (Operand.tmp 8), type := 3, pos := _, after := #[{ on := 2, ground := Ground.guard }], guard := some (2, true) }) (v := ?_) rfl (by kernel_rfl) (by kernel_rfl) (by kernel_rfl) (fun _ _ _ h => h) (Or.inl ⟨by rfl, ?hy⟩) (by assumption) ?_
            case hy => (intro w hSw; (try dsimp only at hSw); go_simp; try with_reducible rfl)
            try simp only [Act.put, List.setIfInBounds_toArray, List.set_cons_zero, List.set_cons_succ]
            refine wpAnyH_take (i := 10) (oi := { dst := some 38, op := Op.indexAddr 27 (Operand.tmp 36) (Operand.tmp 37), type := 0, pos := _, after := #[{ on := 8, ground := Ground.data }, { on := 9, ground := Ground.data }, { on := 2, ground := Ground.guard }], guard := some (2, true) }) (v := ?_) rfl (by kernel_rfl) (by kernel_rfl) (by kernel_rfl) (fun _ _ _ h => h) (Or.inl ⟨by rfl, ?hy⟩) (by assumption) ?_
            case hy => (intro w hSw; (try dsimp only at hSw); go_simp; try with_reducible rfl)
            try simp only [Act.put, List.setIfInBounds_toArray, List.set_cons_zero, List.set_cons_succ]
            refine wpAnyH_take (i := 11) (oi := { dst := some 39, op := Op.load 3 (Operand.tmp 38), type := 3, pos := _, after := #[{ on := 10, ground := Ground.data }, { on := 2, ground := Ground.guard }], guard := some (2, true) }) (v := ?_) rfl (by kernel_rfl) (by kernel_rfl) (by kernel_rfl) (fun _ _ _ h => h) (Or.inl ⟨by rfl, ?hy⟩) (by assumption) ?_
            case hy => (intro w hSw; (try dsimp only at hSw); go_simp; try with_reducible rfl)
            try simp only [Act.put, List.setIfInBounds_toArray, List.set_cons_zero, List.set_cons_succ]
            refine wpAnyH_take (i := 12) (oi := { dst := some 40, op := Op.binOp BinOp.neq 3 (Operand.tmp 34) (Operand.tmp 39) 3, type := 4, pos := _, after := #[{ on := 6, ground := Ground.data }, { on := 11, ground := Ground.data }, { on := 2, ground := Ground.guard }], guard := some (2, true) }) (v := ?_) rfl (by kernel_rfl) (by kernel_rfl) (by kernel_rfl) (fun _ _ _ h => h) (Or.inl ⟨by rfl, ?hy⟩) (by assumption) ?_
            case hy => (intro w hSw; (try dsimp only at hSw); go_simp; try with_reducible rfl)
            try simp only [Act.put, List.setIfInBounds_toArray, List.set_cons_zero, List.set_cons_succ]
            refine wpAnyH_take (i := 13) (oi := { dst := some 41, op := Op.pick (Operand.tmp 30) (Operand.tmp 40) (Operand.const (Value.bool false)), type := 4, pos := _, after := #[{ on := 2, ground := Ground.data }, { on := 12, ground := Ground.data }], guard := none }) (v := ?_) rfl (by kernel_rfl) (by kernel_rfl) (by kernel_rfl) (fun _ _ _ h => h) (Or.inl ⟨by rfl, ?hy⟩) (by assumption) ?_
            case hy => (intro w hSw; (try dsimp only at hSw); go_simp; try with_reducible rfl)
            try simp only [Act.put, List.setIfInBounds_toArray, List.set_cons_zero, List.set_cons_succ]
            refine wpAnyH_done (by kernel_rfl) ?_ _
            dsimp only [onlyN]
            gi_wp2
            go_roundw
            case rel => exact ⟨j + 1, by omega, by go_num, HE.out _ ((Grew.refl wr).drew)⟩
            case measure => simp [intOf]; omega
      · obtain rfl : j = N := by omega
        have HE : Hid (Only (fun k => k = gA ∨ k = gB) W2 (wr.setCell ⟨gB, 0, none⟩ (.slice (some ⟨g, 0, none⟩) j c)) ∧ Only (fun k => k = gA ∨ k = gB) w2 (wr.setCell ⟨gB, 0, none⟩ (.slice (some ⟨g, 0, none⟩) j c)) ∧ (wr.setCell ⟨gB, 0, none⟩ (.slice (some ⟨g, 0, none⟩) j c)).frozen? ⟨gB, 0, none⟩ = false ∧ (wr.setCell ⟨gB, 0, none⟩ (.slice (some ⟨g, 0, none⟩) j c)).cell? ⟨gB, 1, none⟩ = some (.slice (some ⟨gA, 0, none⟩) j j) ∧
            IntsO 3 gA (gA + 1) (wr.setCell ⟨gB, 0, none⟩ (.slice (some ⟨g, 0, none⟩) j c)) (.slice (some ⟨gA, 0, none⟩) j j) (tabL j (lastCh (aroundL n m) p K t)) ∧ (wr.setCell ⟨gB, 0, none⟩ (.slice (some ⟨g, 0, none⟩) j c)).cell? ⟨gB, 0, none⟩ = some (.slice (some ⟨g, 0, none⟩) j c) ∧
            IntsAt w2.heap.size (wr.setCell ⟨gB, 0, none⟩ (.slice (some ⟨g, 0, none⟩) j c)) (.slice (some ⟨g, 0, none⟩) j c) (costL n m p upF K j t)) := by
          have hO := HX.out.1
          rw [part_all] at hO
          have hon : Only (fun k => k = gA ∨ k = gB) W2 (wr.setCell ⟨gB, 0, none⟩ (.slice (some ⟨g, 0, none⟩) j c)) := (HX.out.2.only (S := fun k => k = gA ∨ k = gB) (fun k h1 h2 => by left; omega)).setCell (p := ⟨gB, 0, none⟩) (.inr rfl) _
          have hwi : Within gB (gB + 1) wr (wr.setCell ⟨gB, 0, none⟩ (.slice (some ⟨g, 0, none⟩) j c)) := (Within.refl _ _ _).setCell (p := ⟨gB, 0, none⟩) (Nat.le_refl _) (Nat.lt_succ_self _) _
          refine Lib.hid ⟨hon, HW.out.2.1.trans hon (fun _ _ h => h), by rw [World.frozen?_setCell]; exact hfB, ?_, hO.within hwi (.inl (by omega)), World.cell?_setCell_same' _ _ _ (by rw [hc0]; rfl), HV.out.only hon (fun k hk => by omega)⟩
          have hne : (⟨gB, 0, none⟩ : Addr) ≠ ⟨gB, 1, none⟩ := by intro e; cases e
          have h9 := World.cell?_setCell_other wr ⟨gB, 0, none⟩ ⟨gB, 1, none⟩ (.slice (some ⟨g, 0, none⟩) j c) hne
          rw [h9]
          exact hc1
        clear HX HLT H6
        gi_wp2
        exact ⟨HE.out.1, HE.out.2.1, HE.out.2.2.1, HE.out.2.2.2.1, HE.out.2.2.2.2.1, _, HE.out.2.2.2.2.2.1, fun _ => HE.out.2.2.2.2.2.2⟩
  · rintro D W hD ⟨k1, k2, k3, k4, u, k5, k6⟩ hK
    have hk2 := k2
    have h6 := k6 (Nat.succ_pos _)
    have hblk : W.heap[w.heap.size]? = some (.cells #[.slice none 0 0, .slice none 0 0] 59) := (k1.block _ (some_lt H2.out.2.2.2.2.2.2) (by show ¬ (w.heap.size = gA ∨ w.heap.size = gB); omega)).trans H2.out.2.2.2.2.2.2
    have r0 : W.cell? ⟨w.heap.size, 0, none⟩ = some (.slice none 0 0) := by simp [World.cell?, hblk]
    have r1 : W.cell? ⟨w.heap.size, 1, none⟩ = some (.slice none 0 0) := by simp [World.cell?, hblk]
    have rf : W.frozen? ⟨w.heap.size, 0, none⟩ = false := by simp [World.frozen?, hblk]
    have rf1 : W.frozen? ⟨w.heap.size, 1, none⟩ = false := by simp [World.frozen?, hblk]
    have HG := Lib.hid (Only.grew H2.out.2.1 k1 (fun i hi hk => by omega))
    have HI : Hid (IntsAt w2.heap.size W u (costL n m p upF K N T) ∧ IntsO 3 gA (gA + 1) W (.slice (some ⟨gA, 0, none⟩) N N) (tabL N (lastCh (aroundL n m) p K T))) := Lib.hid ⟨h6, k4⟩
    obtain ⟨⟨g, c3, rfl, hg3⟩, _⟩ := h6
    rw [costL_len] at k5 HI
    clear k1 k2 k4 k6 hblk
    have hDw : w.heap.size ≠ D := by omega
    have HKD : Hid (∀ x y, ((W.setCell ⟨w.heap.size, 0, none⟩ x).setCell ⟨w.heap.size, 1, none⟩ y).heap[D]? = some (.deferred (some []))) := Lib.hid fun x y => by
      rw [Below.heap_setCell _ _ _ _ (by show D ≠ w.heap.size; omega), Below.heap_setCell _ _ _ _ (by show D ≠ w.heap.size; omega)]
      exact hK
    have HR0 : Hid (∀ x y, ((W.setCell ⟨w.heap.size, 0, none⟩ x).setCell ⟨w.heap.size, 1, none⟩ y).cell? ⟨w.heap.size, 0, none⟩ = some x ∧ ((W.setCell ⟨w.heap.size, 0, none⟩ x).setCell ⟨w.heap.size, 1, none⟩ y).cell? ⟨w.heap.size, 1, none⟩ = some y) := Lib.hid fun x y => by
      have hne : (⟨w.heap.size, 1, none⟩ : Addr) ≠ ⟨w.heap.size, 0, none⟩ := by intro e; cases e
      have hne2 : (⟨w.heap.size, 0, none⟩ : Addr) ≠ ⟨w.heap.size, 1, none⟩ := by intro e; cases e
      have e1 : (W.setCell ⟨w.heap.size, 0, none⟩ x).cell? ⟨w.heap.size, 1, none⟩ = some (.slice none 0 0) := (World.cell?_setCell_other W _ _ x hne2).trans r1
      refine ⟨(World.cell?_setCell_other _ _ _ y hne).trans (World.cell?_setCell_same' _ _ _ (by rw [r0]; rfl)), World.cell?_setCell_same' _ _ _ (by rw [e1]; rfl)⟩
    go_wp2
    refine ⟨by simp, .inl ⟨_, _, rfl, run_takeDeferred (HKD.out _ _), ?_⟩⟩
    obtain ⟨W3, hW3⟩ : ∃ W3, (W.setCell ⟨w.heap.size, 0, none⟩ (.slice (some ⟨g, 0, none⟩) N c3)).setCell ⟨w.heap.size, 1, none⟩ (.slice (some ⟨gA, 0, none⟩) N N) = W3 := ⟨_, rfl⟩
    have hK3 := HKD.out (.slice (some ⟨g, 0, none⟩) N c3) (.slice (some ⟨gA, 0, none⟩) N N)
    have hon : Only (fun k => k = w.heap.size) W W3 := by
      rw [← hW3]
      exact (((Only.refl (fun k => k = w.heap.size) W).setCell (p := ⟨w.heap.size, 0, none⟩) rfl _).setCell (p := ⟨w.heap.size, 1, none⟩) rfl _)
    have hr3 := HR0.out (.slice (some ⟨g, 0, none⟩) N c3) (.slice (some ⟨gA, 0, none⟩) N N)
    rw [hW3] at hK3 hr3 ⊢
    have hs := Soft.put hK3 rfl (show w.heap.size ≤ D by omega) (.deferred none)
    have hr4 := hs.cell hr3.1
    have hr5 := hs.cell hr3.2
    have h1 : IntsAt (w.heap.size + 1) W3 (.slice (some ⟨g, 0, none⟩) N c3) (costL n m p upF K N T) := (HI.out.1.low (by omega)).only hon (fun k hk => by omega)
    have h2 : IntsAt (w.heap.size + 1) W3 (.slice (some ⟨gA, 0, none⟩) N N) (tabL N (lastCh (aroundL n m) p K T)) := IntsAt.only ⟨⟨gA, N, by rw [tabL_len], by omega⟩, HI.out.2.toV⟩ hon (fun k hk => by omega)
    have hgr := (Only.grew HG.out hon (fun i hi hk => by omega)).softly hs (Nat.le_refl _)
    refine ⟨.agg #[.slice (some ⟨g, 0, none⟩) N c3, .slice (some ⟨gA, 0, none⟩) N N], ?_, _, _, rfl, (h1.low (by omega)).soft hs, (h2.low (by omega)).soft hs, hgr⟩
    clear h1 h2 hgr hs HI HG HKD HR0 hon hW3
    simp only [results, Tryd.f58]
    go_simp
  · exact fun _ _ _ _ _ _ h _ => h.elim
end Go.Proofs.YtdhokofcgfolnaaDoor
