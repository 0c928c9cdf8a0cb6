/- Flats that nothing beside beats: peaks and pits. -/
import Derived.Test.YthlanmnjkonbjaaDoorPieces2
import Derived.Test.YthlanmnjkonbjaaDoorCells
import Derived.Test.YthlanmnjkonbjaaDoorSFlats
/- Flats that are beaten by a cell beside one of theirs, as lists. -/
namespace Go.Proofs.YthlanmnjkonbjaaDoor
open Go.RowKit

/-- bs tells which first cells (fs) have, among the cells before i and the first t beside i, one that beats (ov). -/
structure Beat (n m : Nat) (p fs : List Int) (ov : Int → Int → Bool) (i t : Nat) (bs : List Bool) : Prop where
  len : bs.length = n * m
  iff : ∀ c, c < n * m → (bs.getD c false = true ↔ ∃ x s k : Nat, (x < i ∨ x = i ∧ s < t) ∧ x < n * m ∧ s < (aroundL n m x).length ∧ (aroundL n m x).getD s 0 = k ∧ ov (p.getD k 0) (p.getD x 0) = true ∧ fs.getD x 0 = c)
theorem beat_start (n m : Nat) (p fs : List Int) (ov : Int → Int → Bool) : Beat n m p fs ov 0 0 (List.replicate (n * m) false) := by
  refine ⟨by simp, fun c hc => ?_⟩
  constructor
  · intro h; simp [hc] at h
  · rintro ⟨x, s, k, h, _⟩; omega
theorem Beat.next {n m i t : Nat} {p fs : List Int} {ov : Int → Int → Bool} {bs : List Bool} (B : Beat n m p fs ov i t bs) (ht : t = (aroundL n m i).length) : Beat n m p fs ov (i + 1) 0 bs := by
  refine ⟨B.len, fun c hc => (B.iff c hc).trans ?_⟩
  constructor
  · rintro ⟨x, s, k, h, r⟩; exact ⟨x, s, k, .inl (by omega), r⟩
  · rintro ⟨x, s, k, h, r1, r2, r⟩
    refine ⟨x, s, k, ?_, r1, r2, r⟩
    by_cases e : x = i
    · subst e; exact .inr ⟨rfl, by omega⟩
    · exact .inl (by omega)
theorem Beat.skip {n m i t K : Nat} {p fs : List Int} {ov : Int → Int → Bool} {bs : List Bool} (B : Beat n m p fs ov i t bs) (hK : (aroundL n m i).getD t 0 = K) (h : ov (p.getD K 0) (p.getD i 0) = false) : Beat n m p fs ov i (t + 1) bs := by
  refine ⟨B.len, fun c hc => (B.iff c hc).trans ?_⟩
  constructor
  · rintro ⟨x, s, k, h, r⟩; exact ⟨x, s, k, by omega, r⟩
  · rintro ⟨x, s, k, h2, r1, r2, r3, r4, r5⟩
    refine ⟨x, s, k, ?_, r1, r2, r3, r4, r5⟩
    rcases h2 with h2 | ⟨rfl, h2⟩
    · exact .inl h2
    · by_cases e : s = t
      · subst e
        have : k = K := by omega
        subst this
        rw [h] at r4; cases r4
      · exact .inr ⟨rfl, by omega⟩
theorem Beat.hit {n m i t K C : Nat} {p fs : List Int} {ov : Int → Int → Bool} {bs : List Bool} (B : Beat n m p fs ov i t bs) (hi : i < n * m) (ht : t < (aroundL n m i).length) (hK : (aroundL n m i).getD t 0 = K) (h : ov (p.getD K 0) (p.getD i 0) = true) (hC : fs.getD i 0 = C) (hCN : C < n * m) :
    Beat n m p fs ov i (t + 1) (bs.set C true) := by
  have hl := B.len
  refine ⟨by simp [hl], fun c hc => ?_⟩
  rw [getD_setB _ _ _ _ (by omega)]
  by_cases e : c = C
  · rw [if_pos e]
    subst e
    exact ⟨fun _ => ⟨i, t, K, .inr ⟨rfl, by omega⟩, hi, ht, hK, h, hC⟩, fun _ => rfl⟩
  · rw [if_neg e]
    refine (B.iff c hc).trans ?_
    constructor
    · rintro ⟨x, s, k, h, r⟩; exact ⟨x, s, k, by omega, r⟩
    · rintro ⟨x, s, k, h2, r1, r2, r3, r4, r5⟩
      refine ⟨x, s, k, ?_, r1, r2, r3, r4, r5⟩
      rcases h2 with h2 | ⟨rfl, h2⟩
      · exact .inl h2
      · by_cases e2 : s = t
        · subst e2; omega
        · exact .inr ⟨rfl, by omega⟩
theorem Beat.uniq {n m i t : Nat} {p fs : List Int} {ov : Int → Int → Bool} {bs cs : List Bool} (B : Beat n m p fs ov i t bs) (C : Beat n m p fs ov i t cs) : bs = cs := by
  apply List.ext_getElem
  · rw [B.len, C.len]
  · intro c h1 h2
    have hc : c < n * m := by rw [← B.len]; exact h1
    have h3 := B.iff c hc
    have h4 := C.iff c hc
    have e1 : bs.getD c false = bs[c] := by simp [h1]
    have e2 : cs.getD c false = cs[c] := by simp [h2]
    rw [← e1, ← e2, Bool.eq_iff_iff, h3, h4]

/-- The first cells that are not beaten. -/
def keptL (fs : List Int) (bs : List Bool) (k : Nat) : List Int := ((List.range k).filter fun i => decide (fs.getD i 0 = (i : Int)) && !bs.getD i false).map fun (i : Nat) => (i : Int)
theorem keptL_yes {fs : List Int} {bs : List Bool} {k : Nat} (h1 : fs.getD k 0 = k) (h2 : bs.getD k false = false) : keptL fs bs (k + 1) = keptL fs bs k ++ [(k : Int)] := by
  unfold keptL
  rw [List.range_succ, List.filter_append, List.map_append]
  simp only [List.filter_cons, List.filter_nil, h1, h2]
  simp
theorem keptL_no {fs : List Int} {bs : List Bool} {k : Nat} (h : fs.getD k 0 ≠ k ∨ bs.getD k false = true) : keptL fs bs (k + 1) = keptL fs bs k := by
  unfold keptL
  rw [List.range_succ, List.filter_append, List.map_append]
  rcases h with h | h
  · simp only [List.filter_cons, List.filter_nil, decide_eq_false h]; simp
  · simp only [List.filter_cons, List.filter_nil, h]; simp
theorem keptL_le (fs : List Int) (bs : List Bool) (k : Nat) : (keptL fs bs k).length ≤ k := by
  unfold keptL
  rw [List.length_map]
  exact Nat.le_trans (List.length_filter_le _ _) (by simp)
theorem mem_keptL {fs : List Int} {bs : List Bool} {k : Nat} {y : Int} : y ∈ keptL fs bs k ↔ ∃ i : Nat, y = i ∧ i < k ∧ fs.getD i 0 = i ∧ bs.getD i false = false := by
  unfold keptL
  simp only [List.mem_map, List.mem_filter, List.mem_range, Bool.and_eq_true, decide_eq_true_eq, Bool.not_eq_true']
  constructor
  · rintro ⟨i, ⟨h1, h2, h3⟩, rfl⟩; exact ⟨i, rfl, h1, h2, h3⟩
  · rintro ⟨i, rfl, h1, h2, h3⟩; exact ⟨i, ⟨h1, h2, h3⟩, rfl⟩

/-- The first cells of the flats that nothing beside beats. -/
noncomputable def endsL (ov : Int → Int → Bool) (h : List (List Int)) : List Int :=
  if vGrid h then keptL (flatsL h.length (h.getD 0 []).length (sameH h.flatten)) (pickL (Beat h.length (h.getD 0 []).length h.flatten (flatsL h.length (h.getD 0 []).length (sameH h.flatten)) ov (h.length * (h.getD 0 []).length) 0)) (h.length * (h.getD 0 []).length) else []
theorem endsL_no {ov : Int → Int → Bool} {h : List (List Int)} (hg : vGrid h = false) : endsL ov h = [] := by unfold endsL; rw [hg]; rfl
theorem endsL_yes {ov : Int → Int → Bool} {h : List (List Int)} {n m N : Nat} {p fs : List Int} {bs : List Bool} (hg : vGrid h = true) (en : h.length = n) (em : (h.getD 0 []).length = m) (ep : h.flatten = p) (eN : n * m = N)
    (F : Flats n m (sameH p) fs) (B : Beat n m p fs ov N 0 bs) : endsL ov h = keptL fs bs N := by
  have G := Grid.of hg
  subst eN
  unfold endsL
  rw [if_pos hg, en, em, ep, F.eq (by rw [← en]; exact G.n5) (by rw [← em]; exact G.m5), pickL_eq B fun _ C => C.uniq B]
theorem endsL_le (ov : Int → Int → Bool) (h : List (List Int)) : (endsL ov h).length ≤ 1000000 := by
  unfold endsL
  by_cases hg : vGrid h = true
  · rw [if_pos hg]
    have G := Grid.of hg
    exact Nat.le_trans (keptL_le _ _ _) (Nat.le_trans (Nat.mul_le_mul G.n5 G.m5) (by decide))
  · rw [if_neg hg]; simp
end Go.Proofs.YthlanmnjkonbjaaDoor

/- The contract of impl.flatsWithout, for whatever function value tells what beats what. -/
namespace Go.Proofs.YthlanmnjkonbjaaDoor
open Go.RowKit

theorem ownI_nil {w w' : World} (hg : Grew w w') : OwnI w [] (.returned (.slice none 0 0)) w' := ⟨none, 0, rfl, ⟨World.ownsRow_nil _ _ _ _, fun g e => by simp [Value.ownBlock] at e⟩, hg⟩

set_option maxRecDepth 100000 in
set_option maxHeartbeats 2000000 in
theorem flatsWithout_any (v : Value) (h : List (List Int)) (ov : Int → Int → Bool) (fk : Nat) (lb : Array Value) (eg : ∀ (args : Array Value) (w : World), (callFunc fk args).run Tryd.prog w = .ok (.enter fk args) w)
    (w : World) (hv : RowsV w v h) (hS : Steps w) (hC : ∀ (x y : Int) (W : World), Calls Tryd.prog fk (#[.int .i64 x, .int .i64 y] ++ lb) W fun e w' => e = .returned (.bool (ov x y)) ∧ w' = W) :
    Calls Tryd.prog 76 #[v, .func (.func fk) #[] lb] w (OwnI w (endsL ov h)) := by
  have HK := ValidGrid_any v h w hv
  cases hg : vGrid h with
  | false =>
    rw [hg] at HK
    have HK2 := Lib.hid HK
    rw [endsL_no hg]
    obtain ⟨a, b, o, c, rfl, _, _, _⟩ := hv.shape
    clear hv hS HK hg hC
    go_enter Tryd.func76, Tryd.ntmps76
    go_wp2_with (fail)
    refine HK2.out.mono ?_
    rintro e w1 ⟨rfl, rfl⟩
    go_wp2
    go_ret
    exact ownI_nil (Grew.refl _)
  | true =>
    rw [hg] at HK
    have HK2 := Lib.hid HK
    have HC := Lib.hid hC
    have G := Grid.of hg
    obtain ⟨n, en⟩ : ∃ n, h.length = n := ⟨_, rfl⟩
    obtain ⟨m, em⟩ : ∃ m, (h.getD 0 []).length = m := ⟨_, rfl⟩
    obtain ⟨N, eN⟩ : ∃ N, n * m = N := ⟨_, rfl⟩
    have hK := fun W (hW : Grew w W) => slicesConcat_any v h W (hv.grew hW) G.n1 (Nat.le_trans G.n5 (by decide)) (fun r hr => by have := G.len r hr; have := G.m1; have := G.m5; omega)
    have hpl := flat_grid_len G
    rw [en, em, eN] at hpl
    obtain ⟨p, ep⟩ : ∃ p, h.flatten = p := ⟨_, rfl⟩
    rw [ep] at hK hpl
    have HKK := Lib.hid hK
    have HF := Lib.hid fun W (hW : Grew w W) => firstsOf_any v h n m W (hv.grew hW) hg (hS.grew hW) en em
    rw [ep] at HF
    have HB : Hid (∀ (I : Nat) (W : World), Grew w W → I < N → Calls Tryd.prog 86 #[v, .int .i64 I] W (OwnI W (aroundL n m I))) :=
      Lib.hid fun I W hW hI => by
        have := cellsBeside_any v h I W (hv.grew hW) hg (by rw [en, em, eN]; exact hI) (hS.grew hW)
        rwa [en, em] at this
    have hn5 := G.n5
    have hn1 := G.n1
    have hm5 := G.m5
    have hm1 := G.m1
    rw [en] at hn5 hn1
    rw [em] at hm5 hm1
    have hN25 : N ≤ 25 := by rw [← eN]; exact Nat.mul_le_mul hn5 hm5
    have hN1 : 1 ≤ N := by rw [← eN]; exact Nat.mul_pos hn1 hm1
    have HNM := Lib.hid (And.intro hn5 (And.intro hm5 eN))
    have HY := Lib.hid fun fs (F : Flats n m (sameH p) fs) bs (B : Beat n m p fs ov N 0 bs) => endsL_yes hg en em ep eN F B
    obtain ⟨R, eR⟩ : ∃ R, endsL ov h = R := ⟨_, rfl⟩
    rw [eR] at HY ⊢
    obtain ⟨a, b, o, c, rfl, _, _, _⟩ := hv.shape
    clear hv hS HK hg hC G hK en em ep eN hn5 hn1 hm5 hm1 eR
    go_enter Tryd.func76, Tryd.ntmps76
    go_wp2_with (fail)
    refine HK2.out.mono ?_
    rintro e w0 ⟨rfl, rfl⟩
    go_wp2_with (fail)
    refine (HKK.out _ (Grew.refl _)).mono ?_
    rintro e w1 ⟨g1, c1, rfl, hO1, hg1⟩
    rw [hpl] at hO1 ⊢
    have H1 := Lib.hid (And.intro hO1 hg1)
    clear hO1 hg1 HKK
    go_wp2_with (fail)
    refine (HF.out _ H1.out.2).mono ?_
    rintro e w2 ⟨g2, c2, fs, rfl, hO2, hF2, hg2⟩
    rw [HNM.out.2.2] at hO2 ⊢
    have H2 : Hid (IntsO 3 w.heap.size w1.heap.size w2 (.slice (some ⟨g1, 0, none⟩) N c1) p ∧ IntsO 3 w1.heap.size w2.heap.size w2 (.slice (some ⟨g2, 0, none⟩) N c2) fs ∧ Flats n m (sameH p) fs ∧ Grew w w2) :=
      Lib.hid ⟨H1.out.1.grew hg2, hO2, hF2, H1.out.2.trans hg2⟩
    clear hO2 hF2 hg2 H1 HF
    go_wp2_with (at_make; refine wpList_make_bools rfl (.tmp 23) (.tmp 23) 80 rfl Tryd.underlying80 Tryd.infoBool rfl rfl rfl rfl (by omega) ?_; intro w3 hO3 hg3 hs3)
    have H3 : Hid (IntsO 3 w.heap.size w1.heap.size w3 (.slice (some ⟨g1, 0, none⟩) N c1) p ∧ IntsO 3 w1.heap.size w2.heap.size w3 (.slice (some ⟨g2, 0, none⟩) N c2) fs ∧ BoolsO 4 w2.heap.size w3.heap.size w3 (.slice (some ⟨w2.heap.size, 0, none⟩) N N) (List.replicate N false) ∧ Flats n m (sameH p) fs ∧ Grew w w3 ∧ w.heap.size ≤ w2.heap.size) :=
      Lib.hid ⟨H2.out.1.grew hg3, H2.out.2.1.grew hg3, hO3, H2.out.2.2.1, H2.out.2.2.2.trans hg3, H2.out.2.2.2.size⟩
    have HS : Hid (w1.heap.size ≤ w2.heap.size ∧ w2.heap.size < w3.heap.size ∧ w.heap.size ≤ w2.heap.size) := by
      have h1 := (World.ownsRow.lt H2.out.2.1.1 g2 rfl)
      exact Lib.hid ⟨by omega, hs3, H2.out.2.2.2.size⟩
    have HFS : Hid (Flats n m (sameH p) fs) := Lib.hid H2.out.2.2.1
    have HFL : Hid (fs.length = N ∧ ∀ i, i < N → ∃ C : Nat, fs.getD i 0 = C ∧ C < N) := by
      have F := H2.out.2.2.1
      refine Lib.hid ⟨by rw [F.len]; exact HNM.out.2.2, fun i hi => ?_⟩
      obtain ⟨j, h1, h2, _⟩ := F.ok i (by rw [HNM.out.2.2]; exact hi)
      exact ⟨j, h1, by omega⟩
    have HPL := Lib.hid hpl
    clear hO3 hg3 hs3 H2 hpl
    go_wp2
    go_loopw [27] (fun i wr => ∃ I : Nat, I ≤ N ∧ i = .int .i64 (I : Int) ∧ Hid (∃ bs, IntsO 3 w.heap.size w1.heap.size wr (.slice (some ⟨g1, 0, none⟩) N c1) p ∧ IntsO 3 w1.heap.size w2.heap.size wr (.slice (some ⟨g2, 0, none⟩) N c2) fs ∧ BoolsO 4 w2.heap.size w3.heap.size wr (.slice (some ⟨w2.heap.size, 0, none⟩) N N) bs ∧ Beat n m p fs ov I 0 bs ∧ Grew w wr ∧ w3.heap.size ≤ wr.heap.size)) (fun i _ => N - (intOf i).toNat)
    case atStart =>
      refine ⟨0, Nat.zero_le _, rfl, _, H3.out.1, H3.out.2.1, H3.out.2.2.1, ?_, H3.out.2.2.2.2.1, Nat.le_refl _⟩
      have := beat_start n m p fs ov
      rwa [HNM.out.2.2] at this
    case round =>
      obtain ⟨I, hI1, rfl, HX⟩ := hrel
      by_cases hI : I < N
      · obtain ⟨C, hC1, hC2⟩ := HFL.out.2 I hI
        have HG : Hid (Grew w wr) := by obtain ⟨_, _, _, _, _, hG, _⟩ := HX.out; exact Lib.hid hG
        have hcf : wr.cell? ⟨g2, I, none⟩ = some (.int .i64 C) := by
          obtain ⟨_, _, h2, _⟩ := HX.out
          rw [← hC1]
          exact (h2.at rfl (by rw [HFL.out.1]; exact hI)).1
        have HBX := Lib.hid (HB.out I _ HG.out hI)
        have HC1 := Lib.hid hC1
        obtain ⟨wb, rfl⟩ : ∃ wb : World, wb = wr := ⟨_, rfl⟩
        clear hC1
        go_wp2_with (fail)
        refine HBX.out.mono ?_
        rintro e w4 ho4
        obtain ⟨a4, c4, rfl, hw4, hg4⟩ := ho4.shape
        have HL4 : Hid ((aroundL n m I).length ≤ 4) := Lib.hid (around_facts HNM.out.1 HNM.out.2.1 (by rw [HNM.out.2.2]; exact hI)).2.2
        obtain ⟨L, eL⟩ : ∃ L, aroundL n m I = L := ⟨_, rfl⟩
        rw [eL] at hw4 HL4 ⊢
        have hl4 := HL4.out
        have HEL := Lib.hid eL
        have H4 : Hid (∃ bs, IntsO 3 w.heap.size w1.heap.size w4 (.slice (some ⟨g1, 0, none⟩) N c1) p ∧ IntsO 3 w1.heap.size w2.heap.size w4 (.slice (some ⟨g2, 0, none⟩) N c2) fs ∧ BoolsO 4 w2.heap.size w3.heap.size w4 (.slice (some ⟨w2.heap.size, 0, none⟩) N N) bs ∧ IntsO 3 wb.heap.size w4.heap.size w4 (.slice a4 L.length c4) L ∧ Beat n m p fs ov I 0 bs ∧ Grew w w4 ∧ w3.heap.size ≤ wb.heap.size ∧ wb.heap.size ≤ w4.heap.size) := by
          obtain ⟨bs, h1, h2, h3, h5, h6, h7⟩ := HX.out
          exact Lib.hid ⟨bs, h1.grew hg4, h2.grew hg4, h3.grew hg4, hw4, h5, h6.trans hg4, h7, hg4.size⟩
        clear ho4 hw4 hg4 eL HX hcf HBX HG
        go_wp2
        go_loopw [36] (fun i wi => ∃ t : Nat, t ≤ L.length ∧ i = .int .i64 (t : Int) ∧ Hid (∃ bs, IntsO 3 w.heap.size w1.heap.size wi (.slice (some ⟨g1, 0, none⟩) N c1) p ∧ IntsO 3 w1.heap.size w2.heap.size wi (.slice (some ⟨g2, 0, none⟩) N c2) fs ∧ BoolsO 4 w2.heap.size w3.heap.size wi (.slice (some ⟨w2.heap.size, 0, none⟩) N N) bs ∧ IntsO 3 wb.heap.size w4.heap.size wi (.slice a4 L.length c4) L ∧ Beat n m p fs ov I t bs ∧ Grew w wi ∧ w3.heap.size ≤ wb.heap.size ∧ w4.heap.size ≤ wi.heap.size)) (fun i _ => L.length - (intOf i).toNat)
        case atStart =>
          obtain ⟨bs, h1, h2, h3, h4, h5, h6, h7, h8⟩ := H4.out
          exact ⟨0, Nat.zero_le _, rfl, bs, h1, h2, h3, h4, h5, h6, h7, Nat.le_refl _⟩
        case round =>
          obtain ⟨t, ht1, rfl, HX⟩ := hrel
          by_cases htl : t < L.length
          · obtain ⟨bs, h1, h2, h3, hA, hB, hG, h7, h8⟩ := HX.out
            obtain ⟨a6, b6, o6, c6, e6, _, ha6, HC6⟩ := hA.toV.shape
            obtain ⟨rfl, rfl⟩ : a4 = a6 ∧ c4 = c6 := by simp at e6; exact e6
            obtain rfl := ha6 (by omega)
            have hlc := HC6.out t htl
            have hAf := (around_facts HNM.out.1 HNM.out.2.1 (I := I) (by rw [HNM.out.2.2]; exact hI)).1
            rw [HEL.out] at hAf
            have hmem : L.getD t 0 ∈ L := by
              rw [List.getD_eq_getElem?_getD, List.getElem?_eq_getElem htl]; exact List.getElem_mem htl
            obtain ⟨y, ey⟩ : ∃ y, L.getD t 0 = y := ⟨_, rfl⟩
            rw [ey] at hlc hmem
            have hy := hAf y hmem
            obtain ⟨K, rfl⟩ := Int.eq_ofNat_of_zero_le hy.1
            have hKN : K < N := by have := hy.2.1; rw [HNM.out.2.2] at this; omega
            have hEY : (aroundL n m I).getD t 0 = K := by rw [HEL.out]; exact ey
            have hEL2 : t < (aroundL n m I).length := by rw [HEL.out]; exact htl
            obtain ⟨hpI, _⟩ := h1.at rfl (i := I) (by rw [HPL.out]; exact hI)
            obtain ⟨hpK, _⟩ := h1.at rfl (i := K) (by rw [HPL.out]; exact hKN)
            obtain ⟨pi, epi⟩ : ∃ pi, p.getD I 0 = pi := ⟨_, rfl⟩
            obtain ⟨pk, epk⟩ : ∃ pk, p.getD K 0 = pk := ⟨_, rfl⟩
            rw [epi] at hpI
            rw [epk] at hpK
            have hIi : (I : Int) < (N : Int) := by omega
            have hKi : (K : Int) < (N : Int) := by omega
            have hbl : bs.length = N := by rw [hB.len]; exact HNM.out.2.2
            obtain ⟨hbC, hfC⟩ := h3.at rfl (i := C) (by omega)
            have hgb := h3.blk
            cases hov : ov pk pi with
            | true =>
              have HCX : Hid (∀ q, Calls Tryd.prog fk (#[.int .i64 pk, .int .i64 pi] ++ lb) (wr.drewN q) fun e w' => e = .returned (.bool true) ∧ w' = wr.drewN q) := Lib.hid fun q => by
                have := HC.out pk pi (wr.drewN q)
                rwa [hov] at this
              have HE : ∀ q, Hid (∃ bs, IntsO 3 w.heap.size w1.heap.size ((wr.drewN q).setCell ⟨w2.heap.size, C, none⟩ (.bool true)) (.slice (some ⟨g1, 0, none⟩) N c1) p ∧ IntsO 3 w1.heap.size w2.heap.size ((wr.drewN q).setCell ⟨w2.heap.size, C, none⟩ (.bool true)) (.slice (some ⟨g2, 0, none⟩) N c2) fs ∧ BoolsO 4 w2.heap.size w3.heap.size ((wr.drewN q).setCell ⟨w2.heap.size, C, none⟩ (.bool true)) (.slice (some ⟨w2.heap.size, 0, none⟩) N N) bs ∧ IntsO 3 wb.heap.size w4.heap.size ((wr.drewN q).setCell ⟨w2.heap.size, C, none⟩ (.bool true)) (.slice (some ⟨b6, o6, none⟩) L.length c4) L ∧ Beat n m p fs ov I (t + 1) bs ∧ Grew w ((wr.drewN q).setCell ⟨w2.heap.size, C, none⟩ (.bool true)) ∧ w3.heap.size ≤ wb.heap.size ∧ w4.heap.size ≤ ((wr.drewN q).setCell ⟨w2.heap.size, C, none⟩ (.bool true)).heap.size) := by
                intro q
                have hdr : Grew wr (wr.drewN q) := (Grew.refl _).drewN q
                have hwi : Within w2.heap.size w3.heap.size wr ((wr.drewN q).setCell ⟨w2.heap.size, C, none⟩ (.bool true)) := (hdr.within _ _).trans ((Within.refl _ _ _).setCell (p := ⟨w2.heap.size, C, none⟩) hgb.1 hgb.2 _)
                have h12 := HS.out.1
                have hw2 := H3.out.2.2.2.2.2
                exact Lib.hid ⟨_, h1.within hwi (.inl h12), h2.within hwi (.inl (Nat.le_refl _)), (h3.grew hdr).set rfl C true, hA.within hwi (.inr h7), hB.hit (by rw [HNM.out.2.2]; exact hI) hEL2 hEY (by rw [epi, epk]; exact hov) HC1.out (by rw [HNM.out.2.2]; exact hC2), Within.grew hG hwi hw2, h7, by simpa using h8⟩
              have HE' := Lib.hid HE
              clear HE h1 h2 h3 hA hB hG h7 h8 e6 ha6 HC6 hAf hmem ey hy hEY hEL2 epi epk hbl hgb hov HX H4
              go_wp2
              go_quiet ((go_at_fn fk; exact Calls.quiet_of_same (HCX.out _)))
              go_wp2
              go_roundw
              case rel => exact ⟨t + 1, by omega, by go_num, HE'.out _⟩
              case measure => simp [intOf]; omega
            | false =>
              have HCX : Hid (∀ q, Calls Tryd.prog fk (#[.int .i64 pk, .int .i64 pi] ++ lb) (wr.drewN q) fun e w' => e = .returned (.bool false) ∧ w' = wr.drewN q) := Lib.hid fun q => by
                have := HC.out pk pi (wr.drewN q)
                rwa [hov] at this
              have HE : ∀ q, Hid (∃ bs, IntsO 3 w.heap.size w1.heap.size (wr.drewN q) (.slice (some ⟨g1, 0, none⟩) N c1) p ∧ IntsO 3 w1.heap.size w2.heap.size (wr.drewN q) (.slice (some ⟨g2, 0, none⟩) N c2) fs ∧ BoolsO 4 w2.heap.size w3.heap.size (wr.drewN q) (.slice (some ⟨w2.heap.size, 0, none⟩) N N) bs ∧ IntsO 3 wb.heap.size w4.heap.size (wr.drewN q) (.slice (some ⟨b6, o6, none⟩) L.length c4) L ∧ Beat n m p fs ov I (t + 1) bs ∧ Grew w (wr.drewN q) ∧ w3.heap.size ≤ wb.heap.size ∧ w4.heap.size ≤ (wr.drewN q).heap.size) := fun q =>
                have hdr : Grew wr (wr.drewN q) := (Grew.refl _).drewN q
                Lib.hid ⟨_, h1.grew hdr, h2.grew hdr, h3.grew hdr, hA.grew hdr, hB.skip hEY (by rw [epi, epk]; exact hov), hG.trans hdr, h7, by simpa using h8⟩
              have HE' := Lib.hid HE
              clear HE h1 h2 h3 hA hB hG h7 h8 e6 ha6 HC6 hAf hmem ey hy hEY hEL2 epi epk hbl hgb hov HX H4 hbC hfC
              go_wp2
              go_quiet ((go_at_fn fk; exact Calls.quiet_of_same (HCX.out _)))
              go_wp2
              go_roundw
              case rel => exact ⟨t + 1, by omega, by go_num, HE'.out _⟩
              case measure => simp [intOf]; omega
          · have HE : Hid (∃ bs, IntsO 3 w.heap.size w1.heap.size wr (.slice (some ⟨g1, 0, none⟩) N c1) p ∧ IntsO 3 w1.heap.size w2.heap.size wr (.slice (some ⟨g2, 0, none⟩) N c2) fs ∧ BoolsO 4 w2.heap.size w3.heap.size wr (.slice (some ⟨w2.heap.size, 0, none⟩) N N) bs ∧ Beat n m p fs ov (I + 1) 0 bs ∧ Grew w wr ∧ w3.heap.size ≤ wr.heap.size) := by
              obtain ⟨bs, h1, h2, h3, hA, hB, hG, h7, h8⟩ := HX.out
              obtain ⟨_, _, _, _, _, _, _, _, h9⟩ := H4.out
              obtain rfl : t = L.length := by omega
              exact Lib.hid ⟨bs, h1, h2, h3, hB.next (by rw [HEL.out]), hG, by omega⟩
            clear HX H4
            go_wp2
            go_roundw
            case rel => exact ⟨I + 1, by omega, by go_num, HE.out⟩
            case measure => simp [intOf]; omega
      · obtain rfl : I = N := by omega
        obtain ⟨bs, HX2⟩ : ∃ bs, Hid (IntsO 3 w1.heap.size w2.heap.size wr (.slice (some ⟨g2, 0, none⟩) I c2) fs ∧ BoolsO 4 w2.heap.size w3.heap.size wr (.slice (some ⟨w2.heap.size, 0, none⟩) I I) bs ∧ Beat n m p fs ov I 0 bs ∧ Grew w wr ∧ w3.heap.size ≤ wr.heap.size) := by
          obtain ⟨bs, h1, h2, h3, h4, h5, h6⟩ := HX.out
          exact ⟨bs, h2, h3, h4, h5, h6⟩
        have HBL : Hid (bs.length = I) := by
          have := HX2.out.2.2.1.len
          rw [HNM.out.2.2] at this
          exact Lib.hid this
        obtain ⟨ws, ews⟩ : ∃ ws : World, ws = wr := ⟨_, rfl⟩
        clear HX H3
        go_wp2
        go_loopg [12, 57] I (fun gk v i wi => ∃ a5 ln c5 k, v = .slice a5 ln c5 ∧ i = .int .i64 ((k : Nat) : Int) ∧ k ≤ I ∧ I ≤ gk + k ∧ ln ≤ 25 ∧
          Hid (ln = (keptL fs bs k).length ∧ IntsO 3 w3.heap.size wi.heap.size wi v (keptL fs bs k) ∧ IntsO 3 w1.heap.size w2.heap.size wi (.slice (some ⟨g2, 0, none⟩) I c2) fs ∧ BoolsO 4 w2.heap.size w3.heap.size wi (.slice (some ⟨w2.heap.size, 0, none⟩) I I) bs ∧ Grew w wi ∧ w3.heap.size ≤ wi.heap.size))
        case atStart => exact ⟨none, 0, 0, 0, rfl, rfl, Nat.zero_le _, Nat.le_refl _, by omega, rfl, ⟨World.ownsRow_nil _ _ _ _, fun g e => by simp [Value.ownBlock] at e⟩, HX2.out.1, HX2.out.2.1, HX2.out.2.2.2.1, HX2.out.2.2.2.2⟩
        case round =>
          obtain ⟨a5, ln, c5, k, rfl, rfl, hk1, hk2, hln, HZ⟩ := hrel
          by_cases hlt : k < I
          · obtain ⟨C, hC1, hC2⟩ := HFL.out.2 k hlt
            have hcf : wr.cell? ⟨g2, k, none⟩ = some (.int .i64 C) := by
              rw [← hC1]
              exact (HZ.out.2.2.1.at rfl (by rw [HFL.out.1]; exact hlt)).1
            have hcb := (HZ.out.2.2.2.1.at rfl (i := k) (by rw [HBL.out]; exact hlt)).1
            obtain ⟨bk, ebk⟩ : ∃ bk, bs.getD k false = bk := ⟨_, rfl⟩
            rw [ebk] at hcb
            have hle : (keptL fs bs k).length ≤ k := keptL_le fs bs k
            by_cases hCk : C = k
            · subst hCk
              cases bk with
              | false =>
                have HY1 := Lib.hid (keptL_yes hC1 ebk)
                have HLN := Lib.hid HZ.out.1
                have HLE := Lib.hid hle
                have hln2 : ln ≤ C := by rw [HZ.out.1]; exact hle
                clear hC1 ebk hle
                go_wp2_with (at_builtin; refine wpList_append_int rfl (.tmp 72) (.tmp 74) 28 rfl Tryd.underlying28 Tryd.infoI rfl rfl (by simp) HZ.out.2.1 (by rw [← HLN.out]; omega) HZ.out.2.2.2.2.2 ?_; intro g5 c5' w5 hO5 hW5 hS5; rw [← HLN.out] at hO5 ⊢)
                have HE : Hid (ln + 1 = (keptL fs bs (C + 1)).length ∧ IntsO 3 w3.heap.size w5.heap.size w5 (.slice (some ⟨g5, 0, none⟩) (ln + 1) c5') (keptL fs bs (C + 1)) ∧ IntsO 3 w1.heap.size w2.heap.size w5 (.slice (some ⟨g2, 0, none⟩) I c2) fs ∧ BoolsO 4 w2.heap.size w3.heap.size w5 (.slice (some ⟨w2.heap.size, 0, none⟩) I I) bs ∧ Grew w w5 ∧ w3.heap.size ≤ w5.heap.size) := by
                  have hs2 := HS.out.2.1
                  have hz := HZ.out.2.2.2.2.2
                  have hw := HX2.out.2.2.2.1.size
                  have hgg := HZ.out.2.2.2.2.1
                  refine Lib.hid ⟨by rw [HY1.out, List.length_append, HLN.out]; rfl, by rw [HY1.out]; exact hO5, HZ.out.2.2.1.within hW5 (.inl (by omega)), HZ.out.2.2.2.1.within hW5 (.inl (Nat.le_refl _)), hW5.grew hgg (by have := HS.out.2.2; omega), by omega⟩
                clear hO5 hW5
                go_wp2
                go_roundg (gk - 1)
                case measure => omega
                case rel => exact ⟨_, ln + 1, c5', C + 1, rfl, by go_num, by omega, by omega, by omega, HE.out⟩
              | true =>
                have HE : Hid (ln = (keptL fs bs (C + 1)).length ∧ IntsO 3 w3.heap.size wr.heap.size wr (.slice a5 ln c5) (keptL fs bs (C + 1)) ∧ IntsO 3 w1.heap.size w2.heap.size wr (.slice (some ⟨g2, 0, none⟩) I c2) fs ∧ BoolsO 4 w2.heap.size w3.heap.size wr (.slice (some ⟨w2.heap.size, 0, none⟩) I I) bs ∧ Grew w wr ∧ w3.heap.size ≤ wr.heap.size) := by
                  rw [keptL_no (.inr ebk)]
                  exact HZ
                clear hC1 ebk hle HZ
                go_wp2
                go_roundg (gk - 1)
                case measure => omega
                case rel => exact ⟨a5, ln, c5, C + 1, rfl, by go_num, by omega, by omega, hln, HE.out⟩
            · have HE : Hid (ln = (keptL fs bs (k + 1)).length ∧ IntsO 3 w3.heap.size wr.heap.size wr (.slice a5 ln c5) (keptL fs bs (k + 1)) ∧ IntsO 3 w1.heap.size w2.heap.size wr (.slice (some ⟨g2, 0, none⟩) I c2) fs ∧ BoolsO 4 w2.heap.size w3.heap.size wr (.slice (some ⟨w2.heap.size, 0, none⟩) I I) bs ∧ Grew w wr ∧ w3.heap.size ≤ wr.heap.size) := by
                rw [keptL_no (.inl (by rw [hC1]; omega))]
                exact HZ
              have hne : ((C : Int) == (k : Int)) = false := beq_eq_false_iff_ne.2 (by omega)
              have hne2 : (C == k) = false := beq_eq_false_iff_ne.2 hCk
              clear hC1 ebk hle HZ
              go_wp2
              go_roundg (gk - 1)
              case measure => omega
              case rel => exact ⟨a5, ln, c5, k + 1, rfl, by go_num, by omega, by omega, hln, HE.out⟩
          · obtain rfl : k = I := by omega
            have HR := HY.out fs HFS.out bs HX2.out.2.2.1
            have HO : Hid (ln = R.length ∧ IntsO 3 w.heap.size wr.heap.size wr (.slice a5 ln c5) R ∧ Grew w wr) := by
              rw [HR]
              exact Lib.hid ⟨HZ.out.1, HZ.out.2.1.wide (by have := HS.out.2.1; have := HS.out.2.2; omega) (Nat.le_refl _), HZ.out.2.2.2.2.1⟩
            clear HZ HR
            go_wp2
            go_ret
            refine ⟨a5, c5, ret_slice HO.out.1, ?_, HO.out.2.2⟩
            rw [← HO.out.1]
            exact HO.out.2.1
end Go.Proofs.YthlanmnjkonbjaaDoor

/- The contract of spec.ends. -/
namespace Go.Proofs.YthlanmnjkonbjaaDoor
open Go.RowKit

def ovUp (x y : Int) : Bool := decide (y < x)
def ovDown (x y : Int) : Bool := decide (x < y)

set_option maxRecDepth 100000 in
set_option maxHeartbeats 4000000 in
theorem ends_any (v : Value) (h : List (List Int)) (up : Bool) (w : World) (hv : RowsV w v h) (hg : vGrid h = true) :
    Calls Tryd.prog 74 #[v, .bool up] w (OwnI w (endsL (if up then ovUp else ovDown) h)) := by
  have G := Grid.of hg
  obtain ⟨n, en⟩ : ∃ n, h.length = n := ⟨_, rfl⟩
  obtain ⟨m, em⟩ : ∃ m, (h.getD 0 []).length = m := ⟨_, rfl⟩
  obtain ⟨N, eN⟩ : ∃ N, n * m = N := ⟨_, rfl⟩
  have hpl := flat_grid_len G
  rw [en, em, eN] at hpl
  obtain ⟨p, ep⟩ : ∃ p, h.flatten = p := ⟨_, rfl⟩
  rw [ep] at hpl
  have HF := Lib.hid (sflats_any v h n m w hv hg en em)
  rw [ep] at HF
  obtain ⟨pf, hpf⟩ : ∃ pf : Nat → Int, ∀ i, pf i = p.getD i 0 := ⟨fun i => p.getD i 0, fun _ => rfl⟩
  have HPF := Lib.hid hpf
  have HSP := Lib.hid (specH hv hg en em eN (by rw [ep]; exact hpf))
  obtain ⟨ov, eov⟩ : ∃ ov, (if up then ovUp else ovDown) = ov := ⟨_, rfl⟩
  rw [eov]
  have hn5 := G.n5
  have hn1 := G.n1
  have hm5 := G.m5
  have hm1 := G.m1
  rw [en] at hn5 hn1
  rw [em] at hm5 hm1
  have hN25 : N ≤ 25 := by rw [← eN]; exact Nat.mul_le_mul hn5 hm5
  have hN1 : 1 ≤ N := by rw [← eN]; exact Nat.mul_pos hn1 hm1
  have HNM := Lib.hid (And.intro hn5 (And.intro hm5 eN))
  have HY := Lib.hid fun fs (F : Flats n m (sameH p) fs) bs (B : Beat n m p fs ov N 0 bs) => endsL_yes hg en em ep eN F B
  obtain ⟨R, eR⟩ : ∃ R, endsL ov h = R := ⟨_, rfl⟩
  rw [eR] at HY ⊢
  have HOV := Lib.hid eov
  obtain ⟨a, b, o, c, rfl, _, _, _⟩ := hv.shape
  clear hv hg G en em ep eN hn5 hn1 hm5 hm1 eR hpf eov
  go_enter Tryd.func74, Tryd.ntmps74
  go_wp2_with (fail)
  refine HF.out.mono ?_
  rintro e w1 ⟨g1, c1, fs, rfl, hO1, hF1, hg1⟩
  rw [HNM.out.2.2] at hO1 ⊢
  have H1 := Lib.hid (And.intro hO1 hg1)
  have HFS : Hid (Flats n m (sameH p) fs) := Lib.hid hF1
  clear hO1 hF1 hg1 HF
  go_wp2_with (fail)
  refine (HSP.out.cells _ H1.out.2).mono ?_
  rintro e w2 ⟨rfl, rfl⟩
  go_wp2_with (at_make; refine wpList_make_bools rfl (.tmp 15) (.tmp 15) 80 rfl Tryd.underlying80 Tryd.infoBool rfl rfl rfl rfl (by omega) ?_; intro w3 hO3 hg3 hs3)
  have H3 : Hid (IntsO 3 w.heap.size w1.heap.size w3 (.slice (some ⟨g1, 0, none⟩) N c1) fs ∧ BoolsO 4 w1.heap.size w3.heap.size w3 (.slice (some ⟨w1.heap.size, 0, none⟩) N N) (List.replicate N false) ∧ Grew w w3 ∧ w.heap.size ≤ w1.heap.size ∧ w1.heap.size < w3.heap.size) :=
    Lib.hid ⟨H1.out.1.grew hg3, hO3, H1.out.2.trans hg3, H1.out.2.size, hs3⟩
  have HFL : Hid (fs.length = N ∧ ∀ i, i < N → ∃ C : Nat, fs.getD i 0 = C ∧ C < N) := by
    refine Lib.hid ⟨by rw [HFS.out.len]; exact HNM.out.2.2, fun i hi => ?_⟩
    obtain ⟨j, h1, h2, _⟩ := HFS.out.ok i (by rw [HNM.out.2.2]; exact hi)
    exact ⟨j, h1, by omega⟩
  clear hO3 hg3 hs3 H1 hpl
  go_wp2
  go_loopg [7] N (fun gk i wr => ∃ I : Nat, i = .int .i64 (I : Int) ∧ I ≤ N ∧ N ≤ gk + I ∧ Hid (∃ bs, IntsO 3 w.heap.size w1.heap.size wr (.slice (some ⟨g1, 0, none⟩) N c1) fs ∧ BoolsO 4 w1.heap.size w3.heap.size wr (.slice (some ⟨w1.heap.size, 0, none⟩) N N) bs ∧ Beat n m p fs ov I 0 bs ∧ Grew w wr ∧ w3.heap.size ≤ wr.heap.size))
  case atStart =>
    refine ⟨0, rfl, Nat.zero_le _, Nat.le_refl _, _, H3.out.1, H3.out.2.1, ?_, H3.out.2.2.1, Nat.le_refl _⟩
    have := beat_start n m p fs ov
    rwa [HNM.out.2.2] at this
  case round =>
    obtain ⟨I, rfl, hI1, hI2, HX⟩ := hrel
    have HG : Hid (Grew w wr) := by obtain ⟨_, _, _, _, hG, _⟩ := HX.out; exact Lib.hid hG
    have HC := Lib.hid (HSP.out.cells _ HG.out)
    by_cases hI : I < N
    · have HA := Lib.hid (HSP.out.around I _ HG.out hI)
      obtain ⟨C, hC1, hC2⟩ := HFL.out.2 I hI
      have HC1 := Lib.hid hC1
      obtain ⟨gb, rfl⟩ : ∃ gb : Nat, gb = gk := ⟨_, rfl⟩
      obtain ⟨wb, rfl⟩ : ∃ wb : World, wb = wr := ⟨_, rfl⟩
      clear hC1
      go_wp2_with (fail)
      refine HC.out.mono ?_
      rintro e w2 ⟨rfl, rfl⟩
      go_wp2_with (fail)
      refine HA.out.mono ?_
      rintro e w4 ho4
      obtain ⟨a4, c4, rfl, hw4, hg4⟩ := ho4.shape
      have HL4 : Hid ((aroundL n m I).length ≤ 4) := Lib.hid (around_facts HNM.out.1 HNM.out.2.1 (by rw [HNM.out.2.2]; exact hI)).2.2
      obtain ⟨L, eL⟩ : ∃ L, aroundL n m I = L := ⟨_, rfl⟩
      rw [eL] at hw4 HL4 ⊢
      have hl4 := HL4.out
      have HEL := Lib.hid eL
      have H4 : Hid (∃ bs, IntsO 3 w.heap.size w1.heap.size w4 (.slice (some ⟨g1, 0, none⟩) N c1) fs ∧ BoolsO 4 w1.heap.size w3.heap.size w4 (.slice (some ⟨w1.heap.size, 0, none⟩) N N) bs ∧ IntsO 3 wb.heap.size w4.heap.size w4 (.slice a4 L.length c4) L ∧ Beat n m p fs ov I 0 bs ∧ Grew w w4 ∧ w3.heap.size ≤ wb.heap.size ∧ wb.heap.size ≤ w4.heap.size) := by
        obtain ⟨bs, h2, h3, h5, h6, h7⟩ := HX.out
        exact Lib.hid ⟨bs, h2.grew hg4, h3.grew hg4, hw4, h5, h6.trans hg4, h7, hg4.size⟩
      clear ho4 hw4 hg4 eL HX HA HC HG
      go_wp2
      go_loopg [9] L.length (fun gl i wi => ∃ t : Nat, i = .int .i64 (t : Int) ∧ t ≤ L.length ∧ L.length ≤ gl + t ∧ Hid (∃ bs, IntsO 3 w.heap.size w1.heap.size wi (.slice (some ⟨g1, 0, none⟩) N c1) fs ∧ BoolsO 4 w1.heap.size w3.heap.size wi (.slice (some ⟨w1.heap.size, 0, none⟩) N N) bs ∧ IntsO 3 wb.heap.size w4.heap.size wi (.slice a4 L.length c4) L ∧ Beat n m p fs ov I t bs ∧ Grew w wi ∧ w3.heap.size ≤ wb.heap.size ∧ w4.heap.size ≤ wi.heap.size))
      case atStart =>
        obtain ⟨bs, h2, h3, h4, h5, h6, h7, h8⟩ := H4.out
        exact ⟨0, rfl, Nat.zero_le _, Nat.le_refl _, bs, h2, h3, h4, h5, h6, h7, Nat.le_refl _⟩
      case round =>
        obtain ⟨t, rfl, ht1, ht2, HX⟩ := hrel
        by_cases htl : t < L.length
        · obtain ⟨bs, h2, h3, hA, hB, hG, h7, h8⟩ := HX.out
          obtain ⟨a6, b6, o6, c6, e6, _, ha6, HC6⟩ := hA.toV.shape
          obtain ⟨rfl, rfl⟩ : a4 = a6 ∧ c4 = c6 := by simp at e6; exact e6
          obtain rfl := ha6 (by omega)
          have hlc := HC6.out t htl
          have hAf := (around_facts HNM.out.1 HNM.out.2.1 (I := I) (by rw [HNM.out.2.2]; exact hI)).1
          rw [HEL.out] at hAf
          have hmem : L.getD t 0 ∈ L := by
            rw [List.getD_eq_getElem?_getD, List.getElem?_eq_getElem htl]; exact List.getElem_mem htl
          obtain ⟨y, ey⟩ : ∃ y, L.getD t 0 = y := ⟨_, rfl⟩
          rw [ey] at hlc hmem
          have hy := hAf y hmem
          obtain ⟨K, rfl⟩ := Int.eq_ofNat_of_zero_le hy.1
          have hKN : K < N := by have := hy.2.1; rw [HNM.out.2.2] at this; omega
          have hEY : (aroundL n m I).getD t 0 = K := by rw [HEL.out]; exact ey
          have hEL2 : t < (aroundL n m I).length := by rw [HEL.out]; exact htl
          obtain ⟨hcf, _⟩ := h2.at rfl (i := I) (by rw [HFL.out.1]; exact hI)
          rw [HC1.out] at hcf
          have hbl : bs.length = N := by rw [hB.len]; exact HNM.out.2.2
          obtain ⟨hbC, hfC⟩ := h3.at rfl (i := C) (by omega)
          have hgb := h3.blk
          have HAT0 : Hid (∀ (X : Nat), X < N → Calls Tryd.prog 75 #[.slice a h.length c, .int .i64 X] wr fun e w' => e = .returned (.int .i64 (pf X)) ∧ ∃ m, w' = wr.drewN m) :=
            Lib.hid fun X hX => HSP.out.hat X _ hG hX
          have HAT : Hid (∀ (X : Nat) (q : Nat), X < N → Calls Tryd.prog 75 #[.slice a h.length c, .int .i64 X] (wr.drewN q) fun e w' => e = .returned (.int .i64 (pf X)) ∧ ∃ m, w' = (wr.drewN q).drewN m) :=
            Lib.hid fun X q hX => HSP.out.hat X _ (hG.drewN q) hX
          have HE1 : Hid (ov (pf K) (pf I) = true → ∀ W, Grew wr W → (∃ bs, IntsO 3 w.heap.size w1.heap.size (W.setCell ⟨w1.heap.size, C, none⟩ (.bool true)) (.slice (some ⟨g1, 0, none⟩) N c1) fs ∧ BoolsO 4 w1.heap.size w3.heap.size (W.setCell ⟨w1.heap.size, C, none⟩ (.bool true)) (.slice (some ⟨w1.heap.size, 0, none⟩) N N) bs ∧ IntsO 3 wb.heap.size w4.heap.size (W.setCell ⟨w1.heap.size, C, none⟩ (.bool true)) (.slice (some ⟨b6, o6, none⟩) L.length c4) L ∧ Beat n m p fs ov I (t + 1) bs ∧ Grew w (W.setCell ⟨w1.heap.size, C, none⟩ (.bool true)) ∧ w3.heap.size ≤ wb.heap.size ∧ w4.heap.size ≤ (W.setCell ⟨w1.heap.size, C, none⟩ (.bool true)).heap.size)) := by
            refine Lib.hid fun hov W hdr => ?_
            have hwi : Within w1.heap.size w3.heap.size wr (W.setCell ⟨w1.heap.size, C, none⟩ (.bool true)) := (hdr.within _ _).trans ((Within.refl _ _ _).setCell (p := ⟨w1.heap.size, C, none⟩) hgb.1 hgb.2 _)
            exact ⟨_, h2.within hwi (.inl (Nat.le_refl _)), (h3.grew hdr).set rfl C true, hA.within hwi (.inr h7), hB.hit (by rw [HNM.out.2.2]; exact hI) hEL2 hEY (by rw [← HPF.out, ← HPF.out]; exact hov) HC1.out (by rw [HNM.out.2.2]; exact hC2), Within.grew hG hwi H3.out.2.2.2.1, h7, Nat.le_trans h8 hwi.size⟩
          have HE2 : Hid (ov (pf K) (pf I) = false → ∀ W, Grew wr W → (∃ bs, IntsO 3 w.heap.size w1.heap.size W (.slice (some ⟨g1, 0, none⟩) N c1) fs ∧ BoolsO 4 w1.heap.size w3.heap.size W (.slice (some ⟨w1.heap.size, 0, none⟩) N N) bs ∧ IntsO 3 wb.heap.size w4.heap.size W (.slice (some ⟨b6, o6, none⟩) L.length c4) L ∧ Beat n m p fs ov I (t + 1) bs ∧ Grew w W ∧ w3.heap.size ≤ wb.heap.size ∧ w4.heap.size ≤ W.heap.size)) := by
            refine Lib.hid fun hov W hdr => ?_
            exact ⟨_, h2.grew hdr, h3.grew hdr, hA.grew hdr, hB.skip hEY (by rw [← HPF.out, ← HPF.out]; exact hov), hG.trans hdr, h7, Nat.le_trans h8 hdr.size⟩
          clear h2 h3 hA hB hG h7 h8 e6 ha6 HC6 hAf hmem ey hy hEY hEL2 hbl hgb HX H4
          obtain ⟨pi, epi⟩ : ∃ pi, pf I = pi := ⟨_, rfl⟩
          obtain ⟨pk, epk⟩ : ∃ pk, pf K = pk := ⟨_, rfl⟩
          rw [epi, epk] at HE1 HE2
          have HPI := Lib.hid (And.intro epi epk)
          clear epi epk
          cases up with
          | true =>
            have HO1 : Hid (∀ x y, ov x y = decide (y < x)) := Lib.hid fun x y => by rw [← HOV.out]; rfl
            by_cases hlt : pi < pk
            · have HE := Lib.hid (HE1.out (by rw [HO1.out]; exact decide_eq_true hlt))
              clear HE1 HE2
              go_wp2_with (fail)
              refine (HAT0.out K hKN).mono ?_
              rw [HPI.out.2]
              rintro e w5 ⟨rfl, q1, rfl⟩
              go_wp2_with (fail)
              refine (HAT.out I q1 hI).mono ?_
              rw [HPI.out.1]
              rintro e w6 ⟨rfl, q2, rfl⟩
              go_wp2
              go_roundg (gk - 1)
              case measure => omega
              case rel => exact ⟨t + 1, by go_num, by omega, by omega, HE.out _ (by first | exact ((Grew.refl _).drewN _).drewN _ | exact (Grew.refl _).drewN _)⟩
            · have HE := Lib.hid (HE2.out (by rw [HO1.out]; exact decide_eq_false hlt))
              clear HE1 HE2
              go_wp2_with (fail)
              refine (HAT0.out K hKN).mono ?_
              rw [HPI.out.2]
              rintro e w5 ⟨rfl, q1, rfl⟩
              go_wp2_with (fail)
              refine (HAT.out I q1 hI).mono ?_
              rw [HPI.out.1]
              rintro e w6 ⟨rfl, q2, rfl⟩
              go_wp2
              go_roundg (gk - 1)
              case measure => omega
              case rel => exact ⟨t + 1, by go_num, by omega, by omega, HE.out _ (by first | exact ((Grew.refl _).drewN _).drewN _ | exact (Grew.refl _).drewN _)⟩
          | false =>
            have HO1 : Hid (∀ x y, ov x y = decide (x < y)) := Lib.hid fun x y => by rw [← HOV.out]; rfl
            by_cases hlt : pk < pi
            · have HE := Lib.hid (HE1.out (by rw [HO1.out]; exact decide_eq_true hlt))
              clear HE1 HE2
              go_wp2_with (fail)
              refine (HAT0.out K hKN).mono ?_
              rw [HPI.out.2]
              rintro e w5 ⟨rfl, q1, rfl⟩
              go_wp2_with (fail)
              refine (HAT.out I q1 hI).mono ?_
              rw [HPI.out.1]
              rintro e w6 ⟨rfl, q2, rfl⟩
              go_wp2
              go_roundg (gk - 1)
              case measure => omega
              case rel => exact ⟨t + 1, by go_num, by omega, by omega, HE.out _ (by first | exact ((Grew.refl _).drewN _).drewN _ | exact (Grew.refl _).drewN _)⟩
            · have HE := Lib.hid (HE2.out (by rw [HO1.out]; exact decide_eq_false hlt))
              clear HE1 HE2
              go_wp2_with (fail)
              refine (HAT0.out K hKN).mono ?_
              rw [HPI.out.2]
              rintro e w5 ⟨rfl, q1, rfl⟩
              go_wp2_with (fail)
              refine (HAT.out I q1 hI).mono ?_
              rw [HPI.out.1]
              rintro e w6 ⟨rfl, q2, rfl⟩
              go_wp2
              go_roundg (gk - 1)
              case measure => omega
              case rel => exact ⟨t + 1, by go_num, by omega, by omega, HE.out _ (by first | exact ((Grew.refl _).drewN _).drewN _ | exact (Grew.refl _).drewN _)⟩
        · have HE : Hid (∃ bs, IntsO 3 w.heap.size w1.heap.size wr (.slice (some ⟨g1, 0, none⟩) N c1) fs ∧ BoolsO 4 w1.heap.size w3.heap.size wr (.slice (some ⟨w1.heap.size, 0, none⟩) N N) bs ∧ Beat n m p fs ov (I + 1) 0 bs ∧ Grew w wr ∧ w3.heap.size ≤ wr.heap.size) := by
            obtain ⟨bs, h2, h3, hA, hB, hG, h7, h8⟩ := HX.out
            obtain ⟨_, _, _, _, _, _, _, h9⟩ := H4.out
            obtain rfl : t = L.length := by omega
            exact Lib.hid ⟨bs, h2, h3, hB.next (by rw [HEL.out]), hG, by omega⟩
          clear HX H4
          go_wp2
          go_roundg (gb - 1)
          case measure => omega
          case rel => exact ⟨I + 1, by go_num, by omega, by omega, HE.out⟩
    · obtain rfl : I = N := by omega
      obtain ⟨bs, HX2⟩ : ∃ bs, Hid (IntsO 3 w.heap.size w1.heap.size wr (.slice (some ⟨g1, 0, none⟩) I c1) fs ∧ BoolsO 4 w1.heap.size w3.heap.size wr (.slice (some ⟨w1.heap.size, 0, none⟩) I I) bs ∧ Beat n m p fs ov I 0 bs ∧ Grew w wr ∧ w3.heap.size ≤ wr.heap.size) := by
        obtain ⟨bs, h⟩ := HX.out
        exact ⟨bs, h⟩
      have HBL : Hid (bs.length = I) := by
        have := HX2.out.2.2.1.len
        rw [HNM.out.2.2] at this
        exact Lib.hid this
      have HS := Lib.hid (And.intro H3.out.2.2.2.1 H3.out.2.2.2.2)
      clear HX H3
      go_wp2_with (fail)
      refine HC.out.mono ?_
      rintro e w2 ⟨rfl, rfl⟩
      clear HC HG
      go_wp2_with (fail)
      have H5 : Hid (IntsO 3 w3.heap.size (wr.alloc (.cells #[] 3)).heap.size (wr.alloc (.cells #[] 3)) (.slice (some ⟨wr.heap.size, 0, none⟩) 0 0) [] ∧ Grew wr (wr.alloc (.cells #[] 3))) :=
        Lib.hid ⟨by simpa using IntsO.lit 3 w3.heap.size wr [] #[] rfl HX2.out.2.2.2.2 (by decide), (Grew.refl wr).alloc _⟩
      go_loopg [10, 11] I (fun gk v i wi => ∃ a5 ln c5 k, v = .slice a5 ln c5 ∧ i = .int .i64 ((k : Nat) : Int) ∧ k ≤ I ∧ I ≤ gk + k ∧ ln ≤ 25 ∧
        Hid (ln = (keptL fs bs k).length ∧ IntsO 3 w3.heap.size wi.heap.size wi v (keptL fs bs k) ∧ IntsO 3 w.heap.size w1.heap.size wi (.slice (some ⟨g1, 0, none⟩) I c1) fs ∧ BoolsO 4 w1.heap.size w3.heap.size wi (.slice (some ⟨w1.heap.size, 0, none⟩) I I) bs ∧ Grew w wi ∧ w3.heap.size ≤ wi.heap.size))
      case atStart => exact ⟨_, 0, 0, 0, rfl, rfl, Nat.zero_le _, Nat.le_refl _, by omega, rfl, H5.out.1, HX2.out.1.grew H5.out.2, HX2.out.2.1.grew H5.out.2, HX2.out.2.2.2.1.trans H5.out.2, Nat.le_trans HX2.out.2.2.2.2 H5.out.2.size⟩
      case round =>
        obtain ⟨a5, ln, c5, k, rfl, rfl, hk1, hk2, hln, HZ⟩ := hrel
        have HC2 := Lib.hid (HSP.out.cells _ HZ.out.2.2.2.2.1)
        clear H5
        by_cases hlt : k < I
        · obtain ⟨C, hC1, hC2⟩ := HFL.out.2 k hlt
          have hcf : wr.cell? ⟨g1, k, none⟩ = some (.int .i64 C) := by
            rw [← hC1]
            exact (HZ.out.2.2.1.at rfl (by rw [HFL.out.1]; exact hlt)).1
          have hcb := (HZ.out.2.2.2.1.at rfl (i := k) (by rw [HBL.out]; exact hlt)).1
          obtain ⟨bk, ebk⟩ : ∃ bk, bs.getD k false = bk := ⟨_, rfl⟩
          rw [ebk] at hcb
          have hle : (keptL fs bs k).length ≤ k := keptL_le fs bs k
          by_cases hCk : C = k
          · subst hCk
            cases bk with
            | false =>
              have HY1 := Lib.hid (keptL_yes hC1 ebk)
              have HLN := Lib.hid HZ.out.1
              have hln2 : ln ≤ C := by rw [HZ.out.1]; exact hle
              clear hC1 ebk hle
              go_wp2_with (fail)
              refine HC2.out.mono ?_
              rintro e w2 ⟨rfl, rfl⟩
              go_wp2_with (at_builtin; refine wpList_append_int rfl (.tmp 87) (.tmp 89) 28 rfl Tryd.underlying28 Tryd.infoI rfl rfl (by simp) HZ.out.2.1 (by rw [← HLN.out]; omega) HZ.out.2.2.2.2.2 ?_; intro g5 c5' w5 hO5 hW5 hS5; rw [← HLN.out] at hO5 ⊢)
              have HE : Hid (ln + 1 = (keptL fs bs (C + 1)).length ∧ IntsO 3 w3.heap.size w5.heap.size w5 (.slice (some ⟨g5, 0, none⟩) (ln + 1) c5') (keptL fs bs (C + 1)) ∧ IntsO 3 w.heap.size w1.heap.size w5 (.slice (some ⟨g1, 0, none⟩) I c1) fs ∧ BoolsO 4 w1.heap.size w3.heap.size w5 (.slice (some ⟨w1.heap.size, 0, none⟩) I I) bs ∧ Grew w w5 ∧ w3.heap.size ≤ w5.heap.size) := by
                have hs1 := HS.out.1
                have hs2 := HS.out.2
                have hz := HZ.out.2.2.2.2.2
                have hgg := HZ.out.2.2.2.2.1
                exact Lib.hid ⟨by rw [HY1.out, List.length_append, HLN.out]; rfl, by rw [HY1.out]; exact hO5, HZ.out.2.2.1.within hW5 (.inl (by omega)), HZ.out.2.2.2.1.within hW5 (.inl (Nat.le_refl _)), hW5.grew hgg (by omega), by omega⟩
              clear hO5 hW5
              go_wp2
              go_roundg (gk - 1)
              case measure => omega
              case rel => exact ⟨_, ln + 1, c5', C + 1, rfl, by go_num, by omega, by omega, by omega, HE.out⟩
            | true =>
              have HE : Hid (ln = (keptL fs bs (C + 1)).length ∧ IntsO 3 w3.heap.size wr.heap.size wr (.slice a5 ln c5) (keptL fs bs (C + 1)) ∧ IntsO 3 w.heap.size w1.heap.size wr (.slice (some ⟨g1, 0, none⟩) I c1) fs ∧ BoolsO 4 w1.heap.size w3.heap.size wr (.slice (some ⟨w1.heap.size, 0, none⟩) I I) bs ∧ Grew w wr ∧ w3.heap.size ≤ wr.heap.size) := by
                rw [keptL_no (.inr ebk)]
                exact HZ
              clear hC1 ebk hle HZ
              go_wp2_with (fail)
              refine HC2.out.mono ?_
              rintro e w2 ⟨rfl, rfl⟩
              go_wp2
              go_roundg (gk - 1)
              case measure => omega
              case rel => exact ⟨a5, ln, c5, C + 1, rfl, by go_num, by omega, by omega, hln, HE.out⟩
          · have HE : Hid (ln = (keptL fs bs (k + 1)).length ∧ IntsO 3 w3.heap.size wr.heap.size wr (.slice a5 ln c5) (keptL fs bs (k + 1)) ∧ IntsO 3 w.heap.size w1.heap.size wr (.slice (some ⟨g1, 0, none⟩) I c1) fs ∧ BoolsO 4 w1.heap.size w3.heap.size wr (.slice (some ⟨w1.heap.size, 0, none⟩) I I) bs ∧ Grew w wr ∧ w3.heap.size ≤ wr.heap.size) := by
              rw [keptL_no (.inl (by rw [hC1]; omega))]
              exact HZ
            have hne : ((C : Int) == (k : Int)) = false := beq_eq_false_iff_ne.2 (by omega)
            have hne2 : (C == k) = false := beq_eq_false_iff_ne.2 hCk
            clear hC1 ebk hle HZ
            go_wp2_with (fail)
            refine HC2.out.mono ?_
            rintro e w2 ⟨rfl, rfl⟩
            go_wp2
            go_roundg (gk - 1)
            case measure => omega
            case rel => exact ⟨a5, ln, c5, k + 1, rfl, by go_num, by omega, by omega, hln, HE.out⟩
        · obtain rfl : k = I := by omega
          have HR := HY.out fs HFS.out bs HX2.out.2.2.1
          have HO : Hid (ln = R.length ∧ IntsO 3 w.heap.size wr.heap.size wr (.slice a5 ln c5) R ∧ Grew w wr) := by
            rw [HR]
            exact Lib.hid ⟨HZ.out.1, HZ.out.2.1.wide (by have := HS.out.1; have := HS.out.2; omega) (Nat.le_refl _), HZ.out.2.2.2.2.1⟩
          clear HZ HR
          go_wp2_with (fail)
          refine HC2.out.mono ?_
          rintro e w2 ⟨rfl, rfl⟩
          go_wp2
          go_ret
          refine ⟨a5, c5, ret_slice HO.out.1, ?_, HO.out.2.2⟩
          rw [← HO.out.1]
          exact HO.out.2.1
end Go.Proofs.YthlanmnjkonbjaaDoor

/- The contracts of PeaksOf and PitsOf, of both packages. -/
namespace Go.Proofs.YthlanmnjkonbjaaDoor
open Go.RowKit

noncomputable def peaksL (h : List (List Int)) : List Int := endsL ovUp h
noncomputable def pitsL (h : List (List Int)) : List Int := endsL ovDown h
theorem peaksL_le (h : List (List Int)) : (peaksL h).length ≤ 1000000 := endsL_le _ h
theorem pitsL_le (h : List (List Int)) : (pitsL h).length ≤ 1000000 := endsL_le _ h

set_option maxRecDepth 100000 in
set_option maxHeartbeats 1000000 in
theorem upClo_any (x y : Int) (W : World) : Calls Tryd.prog 80 (#[.int .i64 x, .int .i64 y] ++ #[]) W fun e w' => e = .returned (.bool (ovUp x y)) ∧ w' = W := by
  show Calls Tryd.prog 80 #[.int .i64 x, .int .i64 y] W _
  go_enter Tryd.func80, Tryd.ntmps80
  go_wp2
  go_ret
  exact ⟨ret_bool (by simp [ovUp]), rfl⟩
set_option maxRecDepth 100000 in
set_option maxHeartbeats 1000000 in
theorem downClo_any (x y : Int) (W : World) : Calls Tryd.prog 77 (#[.int .i64 x, .int .i64 y] ++ #[]) W fun e w' => e = .returned (.bool (ovDown x y)) ∧ w' = W := by
  show Calls Tryd.prog 77 #[.int .i64 x, .int .i64 y] W _
  go_enter Tryd.func77, Tryd.ntmps77
  go_wp2
  go_ret
  exact ⟨ret_bool (by simp [ovDown]), rfl⟩

set_option maxRecDepth 100000 in
set_option maxHeartbeats 1000000 in
theorem PeaksOf_any (v : Value) (h : List (List Int)) (w : World) (hv : RowsV w v h) (hS : Steps w) :
    Calls Tryd.prog 44 #[v] w (OwnI w (peaksL h)) := by
  have HF := Lib.hid (flatsWithout_any v h ovUp 80 #[] (enters_of Tryd.func80 (by kernel_rfl) rfl) w hv hS upClo_any)
  obtain ⟨R, eR⟩ : ∃ R, endsL ovUp h = R := ⟨_, rfl⟩
  rw [peaksL]
  rw [eR] at HF ⊢
  obtain ⟨a, b, o, c, rfl, _, _, _⟩ := hv.shape
  clear hv hS eR
  go_enter Tryd.func44, Tryd.ntmps44
  go_wp2_with (fail)
  refine HF.out.mono ?_
  rintro e w1 ho
  obtain ⟨a1, c1, rfl, hO, hG⟩ := ho.shape
  have H1 := Lib.hid (And.intro hO hG)
  clear ho hO hG
  go_wp2
  go_ret
  exact ⟨a1, c1, rfl, H1.out⟩
set_option maxRecDepth 100000 in
set_option maxHeartbeats 1000000 in
theorem PitsOf_any (v : Value) (h : List (List Int)) (w : World) (hv : RowsV w v h) (hS : Steps w) :
    Calls Tryd.prog 39 #[v] w (OwnI w (pitsL h)) := by
  have HF := Lib.hid (flatsWithout_any v h ovDown 77 #[] (enters_of Tryd.func77 (by kernel_rfl) rfl) w hv hS downClo_any)
  obtain ⟨R, eR⟩ : ∃ R, endsL ovDown h = R := ⟨_, rfl⟩
  rw [pitsL]
  rw [eR] at HF ⊢
  obtain ⟨a, b, o, c, rfl, _, _, _⟩ := hv.shape
  clear hv hS eR
  go_enter Tryd.func39, Tryd.ntmps39
  go_wp2_with (fail)
  refine HF.out.mono ?_
  rintro e w1 ho
  obtain ⟨a1, c1, rfl, hO, hG⟩ := ho.shape
  have H1 := Lib.hid (And.intro hO hG)
  clear ho hO hG
  go_wp2
  go_ret
  exact ⟨a1, c1, rfl, H1.out⟩

end Go.Proofs.YthlanmnjkonbjaaDoor
