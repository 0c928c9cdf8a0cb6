/- Flats that nothing beside beats: peaks and pits. -/
import Derived.Test.YtaeenedjmakelaaDoorPieces2
import Derived.Test.YtaeenedjmakelaaDoorCells
import Derived.Test.YtaeenedjmakelaaDoorSFlats
import Derived.Test.YtaeenedjmakelaaDoorLevel
/- Flats that are beaten by a cell beside one of theirs, as lists. -/
namespace Go.Proofs.YtaeenedjmakelaaDoor
open Go.RowKit

/-- bs tells which first cells (fs) have, among the cells before i and the first t beside i, one that beats (ov). -/
structure Beat (n m : Nat) (p fs : List Int) (ov : Int → Int → Bool) (i t : Nat) (bs : List Bool) : Prop where
  len : bs.length = n * m
  iff : ∀ c, c < n * m → (bs.getD c false = true ↔ ∃ x s k : Nat, (x < i ∨ x = i ∧ s < t) ∧ x < n * m ∧ s < (aroundL n m x).length ∧ (aroundL n m x).getD s 0 = k ∧ ov (p.getD k 0) (p.getD x 0) = true ∧ fs.getD x 0 = c)
theorem beat_start (n m : Nat) (p fs : List Int) (ov : Int → Int → Bool) : Beat n m p fs ov 0 0 (List.replicate (n * m) false) := by
  refine ⟨by simp, fun c hc => ?_⟩
  constructor
  · intro h; simp [hc] at h
  · rintro ⟨x, s, k, h, _⟩; omega
theorem Beat.next {n m i t : Nat} {p fs : List Int} {ov : Int → Int → Bool} {bs : List Bool} (B : Beat n m p fs ov i t bs) (ht : t = (aroundL n m i).length) : Beat n m p fs ov (i + 1) 0 bs := by
  refine ⟨B.len, fun c hc => (B.iff c hc).trans ?_⟩
  constructor
  · rintro ⟨x, s, k, h, r⟩; exact ⟨x, s, k, .inl (by omega), r⟩
  · rintro ⟨x, s, k, h, r1, r2, r⟩
    refine ⟨x, s, k, ?_, r1, r2, r⟩
    by_cases e : x = i
    · subst e; exact .inr ⟨rfl, by omega⟩
    · exact .inl (by omega)
theorem Beat.skip {n m i t K : Nat} {p fs : List Int} {ov : Int → Int → Bool} {bs : List Bool} (B : Beat n m p fs ov i t bs) (hK : (aroundL n m i).getD t 0 = K) (h : ov (p.getD K 0) (p.getD i 0) = false) : Beat n m p fs ov i (t + 1) bs := by
  refine ⟨B.len, fun c hc => (B.iff c hc).trans ?_⟩
  constructor
  · rintro ⟨x, s, k, h, r⟩; exact ⟨x, s, k, by omega, r⟩
  · rintro ⟨x, s, k, h2, r1, r2, r3, r4, r5⟩
    refine ⟨x, s, k, ?_, r1, r2, r3, r4, r5⟩
    rcases h2 with h2 | ⟨rfl, h2⟩
    · exact .inl h2
    · by_cases e : s = t
      · subst e
        have : k = K := by omega
        subst this
        rw [h] at r4; cases r4
      · exact .inr ⟨rfl, by omega⟩
theorem Beat.hit {n m i t K C : Nat} {p fs : List Int} {ov : Int → Int → Bool} {bs : List Bool} (B : Beat n m p fs ov i t bs) (hi : i < n * m) (ht : t < (aroundL n m i).length) (hK : (aroundL n m i).getD t 0 = K) (h : ov (p.getD K 0) (p.getD i 0) = true) (hC : fs.getD i 0 = C) (hCN : C < n * m) :
    Beat n m p fs ov i (t + 1) (bs.set C true) := by
  have hl := B.len
  refine ⟨by simp [hl], fun c hc => ?_⟩
  rw [getD_setB _ _ _ _ (by omega)]
  by_cases e : c = C
  · rw [if_pos e]
    subst e
    exact ⟨fun _ => ⟨i, t, K, .inr ⟨rfl, by omega⟩, hi, ht, hK, h, hC⟩, fun _ => rfl⟩
  · rw [if_neg e]
    refine (B.iff c hc).trans ?_
    constructor
    · rintro ⟨x, s, k, h, r⟩; exact ⟨x, s, k, by omega, r⟩
    · rintro ⟨x, s, k, h2, r1, r2, r3, r4, r5⟩
      refine ⟨x, s, k, ?_, r1, r2, r3, r4, r5⟩
      rcases h2 with h2 | ⟨rfl, h2⟩
      · exact .inl h2
      · by_cases e2 : s = t
        · subst e2; omega
        · exact .inr ⟨rfl, by omega⟩
theorem Beat.uniq {n m i t : Nat} {p fs : List Int} {ov : Int → Int → Bool} {bs cs : List Bool} (B : Beat n m p fs ov i t bs) (C : Beat n m p fs ov i t cs) : bs = cs := by
  apply List.ext_getElem
  · rw [B.len, C.len]
  · intro c h1 h2
    have hc : c < n * m := by rw [← B.len]; exact h1
    have h3 := B.iff c hc
    have h4 := C.iff c hc
    have e1 : bs.getD c false = bs[c] := by simp [h1]
    have e2 : cs.getD c false = cs[c] := by simp [h2]
    rw [← e1, ← e2, Bool.eq_iff_iff, h3, h4]

/-- The first cells that are not beaten. -/
def keptL (fs : List Int) (bs : List Bool) (k : Nat) : List Int := ((List.range k).filter fun i => decide (fs.getD i 0 = (i : Int)) && !bs.getD i false).map fun (i : Nat) => (i : Int)
theorem keptL_yes {fs : List Int} {bs : List Bool} {k : Nat} (h1 : fs.getD k 0 = k) (h2 : bs.getD k false = false) : keptL fs bs (k + 1) = keptL fs bs k ++ [(k : Int)] := by
  unfold keptL
  rw [List.range_succ, List.filter_append, List.map_append]
  simp only [List.filter_cons, List.filter_nil, h1, h2]
  simp
theorem keptL_no {fs : List Int} {bs : List Bool} {k : Nat} (h : fs.getD k 0 ≠ k ∨ bs.getD k false = true) : keptL fs bs (k + 1) = keptL fs bs k := by
  unfold keptL
  rw [List.range_succ, List.filter_append, List.map_append]
  rcases h with h | h
  · simp only [List.filter_cons, List.filter_nil, decide_eq_false h]; simp
  · simp only [List.filter_cons, List.filter_nil, h]; simp
theorem keptL_le (fs : List Int) (bs : List Bool) (k : Nat) : (keptL fs bs k).length ≤ k := by
  unfold keptL
  rw [List.length_map]
  exact Nat.le_trans (List.length_filter_le _ _) (by simp)
theorem mem_keptL {fs : List Int} {bs : List Bool} {k : Nat} {y : Int} : y ∈ keptL fs bs k ↔ ∃ i : Nat, y = i ∧ i < k ∧ fs.getD i 0 = i ∧ bs.getD i false = false := by
  unfold keptL
  simp only [List.mem_map, List.mem_filter, List.mem_range, Bool.and_eq_true, decide_eq_true_eq, Bool.not_eq_true']
  constructor
  · rintro ⟨i, ⟨h1, h2, h3⟩, rfl⟩; exact ⟨i, rfl, h1, h2, h3⟩
  · rintro ⟨i, rfl, h1, h2, h3⟩; exact ⟨i, ⟨h1, h2, h3⟩, rfl⟩

/-- The first cells of the flats that nothing beside beats. -/
noncomputable def endsL (ov : Int → Int → Bool) (h : List (List Int)) : List Int :=
  if vGrid h then keptL (flatsL h.length (h.getD 0 []).length (sameH h.flatten)) (pickL (Beat h.length (h.getD 0 []).length h.flatten (flatsL h.length (h.getD 0 []).length (sameH h.flatten)) ov (h.length * (h.getD 0 []).length) 0)) (h.length * (h.getD 0 []).length) else []
theorem endsL_no {ov : Int → Int → Bool} {h : List (List Int)} (hg : vGrid h = false) : endsL ov h = [] := by unfold endsL; rw [hg]; rfl
theorem endsL_yes {ov : Int → Int → Bool} {h : List (List Int)} {n m N : Nat} {p fs : List Int} {bs : List Bool} (hg : vGrid h = true) (en : h.length = n) (em : (h.getD 0 []).length = m) (ep : h.flatten = p) (eN : n * m = N)
    (F : Flats n m (sameH p) fs) (B : Beat n m p fs ov N 0 bs) : endsL ov h = keptL fs bs N := by
  have G := Grid.of hg
  subst eN
  unfold endsL
  rw [if_pos hg, en, em, ep, F.eq (by rw [← en]; exact G.n5) (by rw [← em]; exact G.m5), pickL_eq B fun _ C => C.uniq B]
theorem endsL_le (ov : Int → Int → Bool) (h : List (List Int)) : (endsL ov h).length ≤ 1000000 := by
  unfold endsL
  by_cases hg : vGrid h = true
  · rw [if_pos hg]
    have G := Grid.of hg
    exact Nat.le_trans (keptL_le _ _ _) (Nat.le_trans (Nat.mul_le_mul G.n5 G.m5) (by decide))
  · rw [if_neg hg]; simp
end Go.Proofs.YtaeenedjmakelaaDoor

/- The contract of impl.flatsWithout, for whatever function value tells what beats what. -/
namespace Go.Proofs.YtaeenedjmakelaaDoor
open Go.RowKit

theorem ownI_nil {w w' : World} (hg : Grew w w') : OwnI w [] (.returned (.slice none 0 0)) w' := ⟨none, 0, rfl, ⟨World.ownsRow_nil _ _ _ _, fun g e => by simp [Value.ownBlock] at e⟩, hg⟩
theorem end_within (w : World) (g j : Nat) (v : Value) : Within g (g + 1) w (w.setCell ⟨g, j, none⟩ v) := (Within.refl _ _ _).setCell (p := ⟨g, j, none⟩) (Nat.le_refl _) (Nat.lt_succ_self _) v
theorem end_at1 {E lo hi : Nat} {w : World} {g n c : Nat} {xs : List Bool} (h : BoolsO E lo hi w (.slice (some ⟨g, 0, none⟩) n c) xs) : BoolsO E g (g + 1) w (.slice (some ⟨g, 0, none⟩) n c) xs := by
  refine ⟨⟨h.1.1, ?_⟩, fun k e => by simp [Value.ownBlock] at e; omega⟩
  rcases h.1.2 with ⟨e, _⟩ | ⟨g1, cap, cur, e, hg, hh⟩
  · simp at e
  · simp only [Value.slice.injEq, Option.some.injEq, Addr.mk.injEq] at e
    obtain ⟨⟨rfl, _⟩, _, rfl⟩ := e
    exact .inr ⟨g, c, cur, by rw [‹n = _›], Nat.le_refl _, hh⟩
/-- What lies in memory while flats are beaten: the numbers, the first cells behind the box A, what is beaten behind the box D. -/
structure EndMem (w wr : World) (A D g1 g2 c2 gB N : Nat) (p fs : List Int) (bs : List Bool) : Prop where
  num : ∀ i, i < N → wr.cell? ⟨g1, i, none⟩ = some (.int .i64 (p.getD i 0))
  fst : ∀ i, i < N → wr.cell? ⟨g2, i, none⟩ = some (.int .i64 (fs.getD i 0))
  abox : wr.cell? ⟨A, 0, none⟩ = some (.slice (some ⟨g2, 0, none⟩) N c2)
  dbox : wr.cell? ⟨D, 0, none⟩ = some (.slice (some ⟨gB, 0, none⟩) N N)
  bea : BoolsO 4 gB (gB + 1) wr (.slice (some ⟨gB, 0, none⟩) N N) bs
  blen : bs.length = N
  apart : gB ≠ A ∧ gB ≠ D ∧ gB ≠ g1 ∧ gB ≠ g2
  new : w.heap.size ≤ gB
  lt : A < wr.heap.size ∧ D < wr.heap.size ∧ g1 < wr.heap.size ∧ g2 < wr.heap.size ∧ gB < wr.heap.size
  grew : Grew w wr
theorem EndMem.later {w wr W : World} {A D g1 g2 c2 gB N : Nat} {p fs : List Int} {bs : List Bool} (h : EndMem w wr A D g1 g2 c2 gB N p fs bs) (hg : Grew wr W) : EndMem w W A D g1 g2 c2 gB N p fs bs := by
  have := hg.size
  have := h.lt
  exact ⟨fun i hi => hg.cell (h.num i hi), fun i hi => hg.cell (h.fst i hi), hg.cell h.abox, hg.cell h.dbox, (h.bea.grew hg).wide (Nat.le_refl _) (Nat.le_refl _), h.blen, h.apart, h.new, ⟨by omega, by omega, by omega, by omega, by omega⟩, h.grew.trans hg⟩
theorem EndMem.at {w wr : World} {A D g1 g2 c2 gB N : Nat} {p fs : List Int} {bs : List Bool} (h : EndMem w wr A D g1 g2 c2 gB N p fs bs) {i : Nat} (hi : i < N) : wr.cell? ⟨gB, i, none⟩ = some (.bool (bs.getD i false)) ∧ wr.frozen? ⟨gB, i, none⟩ = false := h.bea.at rfl (by rw [h.blen]; exact hi)
theorem EndMem.set {w wr : World} {A D g1 g2 c2 gB N : Nat} {p fs : List Int} {bs : List Bool} (h : EndMem w wr A D g1 g2 c2 gB N p fs bs) (i : Nat) : EndMem w (wr.setCell ⟨gB, i, none⟩ (.bool true)) A D g1 g2 c2 gB N p fs (bs.set i true) := by
  have hw := end_within wr gB i (.bool true)
  have hs := hw.size
  have hl := h.lt
  have ha := h.apart
  refine ⟨fun j hj => hw.cell (h.num j hj) (by show g1 < gB ∨ gB + 1 ≤ g1; omega), fun j hj => hw.cell (h.fst j hj) (by show g2 < gB ∨ gB + 1 ≤ g2; omega), hw.cell h.abox (by show A < gB ∨ gB + 1 ≤ A; omega), hw.cell h.dbox (by show D < gB ∨ gB + 1 ≤ D; omega), h.bea.set rfl i true, by rw [List.length_set]; exact h.blen, ha, h.new, ⟨by omega, by omega, by omega, by omega, by omega⟩, Below.setCell h.grew h.new _⟩

set_option maxRecDepth 100000 in
set_option maxHeartbeats 1000000 in
theorem endClo_any (w : World) (A D g1 g2 c2 gB N : Nat) (p fs : List Int) (bs : List Bool) (I : Nat) (W : World) (hI : I < N) (hF : ∃ C : Nat, fs.getD I 0 = C) (hM : EndMem w W A D g1 g2 c2 gB N p fs bs) :
    Calls Tryd.prog 102 #[.int .i64 I, .pointer (some ⟨A, 0, none⟩), .pointer (some ⟨D, 0, none⟩)] W fun e w' => e = .returned (.bool (decide (fs.getD I 0 = (I : Int)) && !bs.getD I false)) ∧ ∃ q, w' = W.drewN q := by
  obtain ⟨C, hC⟩ := hF
  have h1 := hM.abox
  have h2 := hM.fst I hI
  have h3 := hM.dbox
  have h4 := (hM.at hI).1
  rw [hC] at h2
  obtain ⟨z, ez⟩ : ∃ z, bs.getD I false = z := ⟨_, rfl⟩
  rw [ez] at h4 ⊢
  rw [hC]
  obtain ⟨R, eR⟩ : ∃ R, (decide ((C : Int) = (I : Int)) && !z) = R := ⟨_, rfl⟩
  rw [eR]
  have HR := Lib.hid eR
  have hI' : (I : Int) < (N : Int) := by omega
  clear hM hC ez eR
  by_cases hCI : C = I
  · subst hCI
    cases z
    all_goals
      go_enter Tryd.func102, Tryd.ntmps102
      go_wp2
      go_ret
      exact ⟨ret_bool (by rw [← HR.out]; simp), 0, rfl⟩
  · have hne : ((C : Int) == (I : Int)) = false := beq_eq_false_iff_ne.2 (by omega)
    have hne2 : (C == I) = false := beq_eq_false_iff_ne.2 hCI
    have HD : Hid (decide ((C : Int) = (I : Int)) = false) := Lib.hid (decide_eq_false (by omega))
    go_enter Tryd.func102, Tryd.ntmps102
    go_wp2
    go_ret
    exact ⟨ret_bool (by rw [← HR.out, HD.out]; rfl), 0, rfl⟩

set_option maxRecDepth 100000 in
set_option maxHeartbeats 2000000 in
theorem flatsWithout_any (v : Value) (h : List (List Int)) (ov : Int → Int → Bool) (fk : Nat) (lb : Array Value) (eg : ∀ (args : Array Value) (w : World), (callFunc fk args).run Tryd.prog w = .ok (.enter fk args) w)
    (w : World) (hv : RowsV w v h) (hS : Steps w) (hC : ∀ (x y : Int) (W : World), Calls Tryd.prog fk (#[.int .i64 x, .int .i64 y] ++ lb) W fun e w' => e = .returned (.bool (ov x y)) ∧ w' = W) :
    Calls Tryd.prog 64 #[v, .func (.func fk) #[] lb] w (OwnI w (endsL ov h)) := by
  have HK := ValidGrid_any v h w hv
  cases hg : vGrid h with
  | false =>
    rw [hg] at HK
    have HK2 := Lib.hid HK
    rw [endsL_no hg]
    obtain ⟨a, b, o, c, rfl, _, _, _⟩ := hv.shape
    clear hv hS HK hg hC
    go_enter Tryd.func64, Tryd.ntmps64
    go_wp2_with (fail)
    refine HK2.out.mono ?_
    rintro e w1 ⟨rfl, rfl⟩
    go_wp2
    go_ret
    exact ownI_nil (Grew.refl _)
  | true =>
    rw [hg] at HK
    have HK2 := Lib.hid HK
    have HC := Lib.hid hC
    have G := Grid.of hg
    obtain ⟨n, en⟩ : ∃ n, h.length = n := ⟨_, rfl⟩
    obtain ⟨m, em⟩ : ∃ m, (h.getD 0 []).length = m := ⟨_, rfl⟩
    obtain ⟨N, eN⟩ : ∃ N, n * m = N := ⟨_, rfl⟩
    have hK := fun W (hW : Grew w W) => slicesConcat_any v h W (hv.grew hW) G.n1 (Nat.le_trans G.n5 (by decide)) (fun r hr => by have := G.len r hr; have := G.m1; have := G.m5; omega)
    have hpl := flat_grid_len G
    rw [en, em, eN] at hpl
    obtain ⟨p, ep⟩ : ∃ p, h.flatten = p := ⟨_, rfl⟩
    rw [ep] at hK hpl
    have HKK := Lib.hid hK
    have HF := Lib.hid fun W (hW : Grew w W) => firstsOf_any v h n m W (hv.grew hW) hg (hS.grew hW) en em
    rw [ep] at HF
    have HB : Hid (∀ (I : Nat) (W : World), Grew w W → I < N → Calls Tryd.prog 72 #[v, .int .i64 I] W (OwnI W (aroundL n m I))) :=
      Lib.hid fun I W hW hI => by
        have := cellsBeside_any v h I W (hv.grew hW) hg (by rw [en, em, eN]; exact hI) (hS.grew hW)
        rwa [en, em] at this
    have HCW : Hid (∀ (A D g1 g2 c2 gB : Nat) (fs : List Int) (bs : List Bool) (W : World), EndMem w W A D g1 g2 c2 gB N p fs bs → (∀ i, i < N → ∃ C : Nat, fs.getD i 0 = C ∧ C < N) →
        Calls Tryd.prog 69 #[v, .func (.func 102) #[] #[.pointer (some ⟨A, 0, none⟩), .pointer (some ⟨D, 0, none⟩)]] W (fun e w' => ∃ a c, e = .returned (.slice a (keptL fs bs N).length c) ∧ IntsO 3 W.heap.size w'.heap.size w' (.slice a (keptL fs bs N).length c) (keptL fs bs N) ∧ Grew W w')) :=
      Lib.hid fun A D g1 g2 c2 gB fs bs W hM hf => cellsWhere_any v h N (fun i => decide (fs.getD i 0 = (i : Int)) && !bs.getD i false) 102 #[.pointer (some ⟨A, 0, none⟩), .pointer (some ⟨D, 0, none⟩)] (enters_of Tryd.func102 (by kernel_rfl) rfl) W (hv.grew hM.grew) hg (by rw [en, em, eN])
        (fun I W' hW' hI => endClo_any w A D g1 g2 c2 gB N p fs bs I W' hI (by obtain ⟨C, h1, _⟩ := hf I hI; exact ⟨C, h1⟩) (hM.later hW'))
    have hn5 := G.n5
    have hn1 := G.n1
    have hm5 := G.m5
    have hm1 := G.m1
    rw [en] at hn5 hn1
    rw [em] at hm5 hm1
    have hN25 : N ≤ 25 := by rw [← eN]; exact Nat.mul_le_mul hn5 hm5
    have hN1 : 1 ≤ N := by rw [← eN]; exact Nat.mul_pos hn1 hm1
    have HNM := Lib.hid (And.intro hn5 (And.intro hm5 eN))
    have HY := Lib.hid fun fs (F : Flats n m (sameH p) fs) bs (B : Beat n m p fs ov N 0 bs) => endsL_yes hg en em ep eN F B
    obtain ⟨R, eR⟩ : ∃ R, endsL ov h = R := ⟨_, rfl⟩
    rw [eR] at HY ⊢
    have hmf : ∀ (fn : Fn) (first cap : Array Value) (w : World), (Instr.makeFunc fn first cap).run Tryd.prog w = .ok (.func fn first cap) w := fun _ _ _ _ => rfl
    obtain ⟨a, b, o, c, rfl, _, _, _⟩ := hv.shape
    clear hv hS HK hg hC G hK en em ep eN hn5 hn1 hm5 hm1 eR
    go_enter Tryd.func64, Tryd.ntmps64
    go_wp2_with (fail)
    refine HK2.out.mono ?_
    rintro e w0 ⟨rfl, rfl⟩
    go_wp2_with (fail)
    refine (HKK.out _ (Grew.refl _)).mono ?_
    rintro e w1 ⟨g1, c1, rfl, hO1, hg1⟩
    rw [hpl] at hO1 ⊢
    have H1 : Hid ((∀ i, i < N → w1.cell? ⟨g1, i, none⟩ = some (.int .i64 (p.getD i 0))) ∧ Grew w w1 ∧ g1 < w1.heap.size) := Lib.hid ⟨fun i hi => (hO1.at rfl (by rw [hpl]; exact hi)).1, hg1, hO1.blk.2⟩
    clear hO1 hg1 HKK
    go_wp2_with (fail)
    refine (HF.out _ H1.out.2.1).mono ?_
    rintro e w2 ⟨g2, c2, fs, rfl, hO2, hF2, hg2⟩
    have HFL : Hid (fs.length = N ∧ ∀ i, i < N → ∃ C : Nat, fs.getD i 0 = C ∧ C < N) := by
      refine Lib.hid ⟨by rw [hF2.len]; exact HNM.out.2.2, fun i hi => ?_⟩
      obtain ⟨j, h1, h2, _⟩ := hF2.ok i (by rw [HNM.out.2.2]; exact hi)
      exact ⟨j, h1, by omega⟩
    rw [HNM.out.2.2] at hO2 ⊢
    have H2 : Hid ((∀ i, i < N → w2.cell? ⟨g1, i, none⟩ = some (.int .i64 (p.getD i 0))) ∧ (∀ i, i < N → w2.cell? ⟨g2, i, none⟩ = some (.int .i64 (fs.getD i 0))) ∧ Grew w w2 ∧ g1 < w2.heap.size ∧ g2 < w2.heap.size) := by
      have h1 := hg2.size
      have h2 := H1.out.2.2
      exact Lib.hid ⟨fun i hi => hg2.cell (H1.out.1 i hi), fun i hi => (hO2.at rfl (by rw [HFL.out.1]; exact hi)).1, H1.out.2.1.trans hg2, by omega, hO2.blk.2⟩
    have HFS : Hid (Flats n m (sameH p) fs) := Lib.hid hF2
    have HPL := Lib.hid hpl
    clear hO2 hF2 hg2 H1 HF hpl
    go_wp2_with (at_make; refine wpList_make_bools rfl (.tmp 20) (.tmp 20) 29 rfl Tryd.underlying29 Tryd.infoBool rfl rfl rfl rfl (by omega) ?_; intro w3 hO3 hg3 hs3; have hsa : (w3.alloc (.cells #[.slice (some ⟨w2.heap.size + 1, 0, none⟩) N N] 29)).cell? ⟨w2.heap.size, 0, none⟩ = some (.slice (some ⟨g2, 0, none⟩) N c2) := (hg3.alloc _).cell (by simp))
    have HM0 : Hid (EndMem w (w3.alloc (.cells #[.slice (some ⟨w2.heap.size + 1, 0, none⟩) N N] 29)) w2.heap.size w3.heap.size g1 g2 c2 (w2.heap.size + 1) N p fs (List.replicate N false)) := by
      have hg23 : Grew w2 w3 := ((Grew.refl _).alloc _).trans hg3
      have hgA : Grew w2 (w3.alloc (.cells #[.slice (some ⟨w2.heap.size + 1, 0, none⟩) N N] 29)) := hg23.alloc _
      have h1 := hg23.size
      have h2 := H2.out.2.2.1.size
      have h3 := H2.out.2.2.2
      simp only [World.size_alloc] at hs3 hO3
      exact Lib.hid ⟨fun i hi => hgA.cell (H2.out.1 i hi), fun i hi => hgA.cell (H2.out.2.1 i hi), hsa, by simp, (end_at1 hO3).grew ((Grew.refl _).alloc _) |>.wide (Nat.le_refl _) (Nat.le_refl _), by simp, ⟨by omega, by omega, by omega, by omega⟩, by omega, ⟨by simp; omega, by simp, by simp; omega, by simp; omega, by simp; omega⟩, H2.out.2.2.1.trans hgA⟩
    have HSZ : Hid (w2.heap.size + 1 + 1 ≤ w3.heap.size) := Lib.hid (by simp only [World.size_alloc] at hs3; omega)
    clear hO3 hg3 hs3 hsa H2
    try go_wp2
    go_loopw [24] (fun i wr => ∃ I : Nat, I ≤ N ∧ i = .int .i64 (I : Int) ∧ Hid (∃ bs, EndMem w wr w2.heap.size w3.heap.size g1 g2 c2 (w2.heap.size + 1) N p fs bs ∧ Beat n m p fs ov I 0 bs)) (fun i _ => N - (intOf i).toNat)
    case atStart =>
      refine ⟨0, Nat.zero_le _, rfl, _, HM0.out, ?_⟩
      have := beat_start n m p fs ov
      rwa [HNM.out.2.2] at this
    case round =>
      obtain ⟨I, hI1, rfl, HX⟩ := hrel
      by_cases hI : I < N
      · obtain ⟨C, hC1, hC2⟩ := HFL.out.2 I hI
        have HG : Hid (Grew w wr) := by obtain ⟨_, hM, _⟩ := HX.out; exact Lib.hid hM.grew
        have hcf : wr.cell? ⟨g2, I, none⟩ = some (.int .i64 C) := by
          obtain ⟨_, hM, _⟩ := HX.out
          rw [← hC1]
          exact hM.fst I hI
        have HGB : Hid (w2.heap.size + 1 + 1 ≤ wr.heap.size) := by obtain ⟨_, hM, _⟩ := HX.out; have := hM.lt; exact Lib.hid (by omega)
        have HBX := Lib.hid (HB.out I _ HG.out hI)
        have HC1 := Lib.hid hC1
        have hIi : (I : Int) < (N : Int) := by omega
        obtain ⟨wb, rfl⟩ : ∃ wb : World, wb = wr := ⟨_, rfl⟩
        clear hC1
        go_wp2_with (fail)
        refine HBX.out.mono ?_
        rintro e w4 ⟨a4, c4, rfl, hw4, hg4⟩
        have HL4 : Hid ((aroundL n m I).length ≤ 4) := Lib.hid (around_facts HNM.out.1 HNM.out.2.1 (by rw [HNM.out.2.2]; exact hI)).2.2
        obtain ⟨L, eL⟩ : ∃ L, aroundL n m I = L := ⟨_, rfl⟩
        rw [eL] at hw4 HL4 ⊢
        have hl4 := HL4.out
        have HEL := Lib.hid eL
        have H4 : Hid (∃ bs, EndMem w w4 w2.heap.size w3.heap.size g1 g2 c2 (w2.heap.size + 1) N p fs bs ∧ IntsO 3 wb.heap.size w4.heap.size w4 (.slice a4 L.length c4) L ∧ Beat n m p fs ov I 0 bs) := by
          obtain ⟨bs, hM, hB⟩ := HX.out
          exact Lib.hid ⟨bs, hM.later hg4, hw4, hB⟩
        clear hw4 hg4 eL HX hcf HBX HG
        go_wp2
        go_loopw [33] (fun i wi => ∃ t : Nat, t ≤ L.length ∧ i = .int .i64 (t : Int) ∧ Hid (∃ bs, EndMem w wi w2.heap.size w3.heap.size g1 g2 c2 (w2.heap.size + 1) N p fs bs ∧ IntsO 3 wb.heap.size w4.heap.size wi (.slice a4 L.length c4) L ∧ Beat n m p fs ov I t bs)) (fun i _ => L.length - (intOf i).toNat)
        case atStart =>
          obtain ⟨bs, hM, hA, hB⟩ := H4.out
          exact ⟨0, Nat.zero_le _, rfl, bs, hM, hA, hB⟩
        case round =>
          obtain ⟨t, ht1, rfl, HX⟩ := hrel
          by_cases htl : t < L.length
          · obtain ⟨bs, hM, hA, hB⟩ := HX.out
            obtain ⟨a6, b6, o6, c6, e6, _, ha6, HC6⟩ := hA.toV.shape
            obtain ⟨rfl, rfl⟩ : a4 = a6 ∧ c4 = c6 := by simp at e6; exact e6
            obtain rfl := ha6 (by omega)
            have hlc := HC6.out t htl
            have hAf := (around_facts HNM.out.1 HNM.out.2.1 (I := I) (by rw [HNM.out.2.2]; exact hI)).1
            rw [HEL.out] at hAf
            have hmem : L.getD t 0 ∈ L := by
              rw [List.getD_eq_getElem?_getD, List.getElem?_eq_getElem htl]; exact List.getElem_mem htl
            obtain ⟨y, ey⟩ : ∃ y, L.getD t 0 = y := ⟨_, rfl⟩
            rw [ey] at hlc hmem
            have hy := hAf y hmem
            obtain ⟨K, rfl⟩ := Int.eq_ofNat_of_zero_le hy.1
            have hKN : K < N := by have := hy.2.1; rw [HNM.out.2.2] at this; omega
            have hEY : (aroundL n m I).getD t 0 = K := by rw [HEL.out]; exact ey
            have hEL2 : t < (aroundL n m I).length := by rw [HEL.out]; exact htl
            have hpI := hM.num I hI
            have hpK := hM.num K hKN
            obtain ⟨pi, epi⟩ : ∃ pi, p.getD I 0 = pi := ⟨_, rfl⟩
            obtain ⟨pk, epk⟩ : ∃ pk, p.getD K 0 = pk := ⟨_, rfl⟩
            rw [epi] at hpI
            rw [epk] at hpK
            have hKi : (K : Int) < (N : Int) := by omega
            have hCi : (C : Int) < (N : Int) := by omega
            have hdb := hM.dbox
            obtain ⟨hbC, hfC⟩ := hM.at hC2
            cases hov : ov pk pi with
            | true =>
              have HCX : Hid (∀ q, Calls Tryd.prog fk (#[.int .i64 pk, .int .i64 pi] ++ lb) (wr.drewN q) fun e w' => e = .returned (.bool true) ∧ w' = wr.drewN q) := Lib.hid fun q => by
                have := HC.out pk pi (wr.drewN q)
                rwa [hov] at this
              have HE : ∀ q, Hid (∃ bs, EndMem w ((wr.drewN q).setCell ⟨w2.heap.size + 1, C, none⟩ (.bool true)) w2.heap.size w3.heap.size g1 g2 c2 (w2.heap.size + 1) N p fs bs ∧ IntsO 3 wb.heap.size w4.heap.size ((wr.drewN q).setCell ⟨w2.heap.size + 1, C, none⟩ (.bool true)) (.slice (some ⟨b6, o6, none⟩) L.length c4) L ∧ Beat n m p fs ov I (t + 1) bs) := by
                intro q
                have hdr : Grew wr (wr.drewN q) := (Grew.refl _).drewN q
                exact Lib.hid ⟨_, (hM.later hdr).set C, (hA.grew hdr).within (end_within _ _ _ _) (.inr HGB.out), hB.hit (by rw [HNM.out.2.2]; exact hI) hEL2 hEY (by rw [epi, epk]; exact hov) HC1.out (by rw [HNM.out.2.2]; exact hC2)⟩
              have HE' := Lib.hid HE
              clear HE hM hA hB e6 ha6 HC6 hAf hmem ey hy hEY hEL2 epi epk hov HX H4
              go_wp2
              go_quiet ((go_at_fn fk; exact Calls.quiet_of_same (HCX.out _)))
              go_wp2
              go_roundw
              case rel => exact ⟨t + 1, by omega, by go_num, HE'.out _⟩
              case measure => simp [intOf]; omega
            | false =>
              have HCX : Hid (∀ q, Calls Tryd.prog fk (#[.int .i64 pk, .int .i64 pi] ++ lb) (wr.drewN q) fun e w' => e = .returned (.bool false) ∧ w' = wr.drewN q) := Lib.hid fun q => by
                have := HC.out pk pi (wr.drewN q)
                rwa [hov] at this
              have HE : ∀ q, Hid (∃ bs, EndMem w (wr.drewN q) w2.heap.size w3.heap.size g1 g2 c2 (w2.heap.size + 1) N p fs bs ∧ IntsO 3 wb.heap.size w4.heap.size (wr.drewN q) (.slice (some ⟨b6, o6, none⟩) L.length c4) L ∧ Beat n m p fs ov I (t + 1) bs) := fun q =>
                have hdr : Grew wr (wr.drewN q) := (Grew.refl _).drewN q
                Lib.hid ⟨_, hM.later hdr, hA.grew hdr, hB.skip hEY (by rw [epi, epk]; exact hov)⟩
              have HE' := Lib.hid HE
              clear HE hM hA hB e6 ha6 HC6 hAf hmem ey hy hEY hEL2 epi epk hov HX H4 hbC hfC hdb
              go_wp2
              go_quiet ((go_at_fn fk; exact Calls.quiet_of_same (HCX.out _)))
              go_wp2
              go_roundw
              case rel => exact ⟨t + 1, by omega, by go_num, HE'.out _⟩
              case measure => simp [intOf]; omega
          · have HE : Hid (∃ bs, EndMem w wr w2.heap.size w3.heap.size g1 g2 c2 (w2.heap.size + 1) N p fs bs ∧ Beat n m p fs ov (I + 1) 0 bs) := by
              obtain ⟨bs, hM, hA, hB⟩ := HX.out
              obtain rfl : t = L.length := by omega
              exact Lib.hid ⟨bs, hM, hB.next (by rw [HEL.out])⟩
            clear HX H4
            go_wp2
            go_roundw
            case rel => exact ⟨I + 1, by omega, by go_num, HE.out⟩
            case measure => simp [intOf]; omega
      · obtain rfl : I = N := by omega
        obtain ⟨bs, HX2⟩ : ∃ bs, Hid (EndMem w wr w2.heap.size w3.heap.size g1 g2 c2 (w2.heap.size + 1) I p fs bs ∧ Beat n m p fs ov I 0 bs) := by
          obtain ⟨bs, hM, hB⟩ := HX.out
          exact ⟨bs, hM, hB⟩
        have HW := Lib.hid (HCW.out _ _ _ _ _ _ fs bs wr HX2.out.1 HFL.out.2)
        have HR := Lib.hid (HY.out fs HFS.out bs HX2.out.2)
        rw [← HR.out] at HW
        have HGG := Lib.hid HX2.out.1.grew
        clear HX HM0
        go_wp2_with (fail)
        refine HW.out.mono ?_
        rintro e w5 ⟨a5, c5, rfl, hO5, hg5⟩
        have HO := Lib.hid (And.intro (hO5.wide HGG.out.size (Nat.le_refl _)) (HGG.out.trans hg5))
        clear hO5 hg5
        go_wp2
        go_ret
        exact ⟨a5, c5, rfl, HO.out.1, HO.out.2⟩
end Go.Proofs.YtaeenedjmakelaaDoor

/- The contract of spec.ends. -/
namespace Go.Proofs.YtaeenedjmakelaaDoor
open Go.RowKit

def ovUp (x y : Int) : Bool := decide (y < x)
def ovDown (x y : Int) : Bool := decide (x < y)

end Go.Proofs.YtaeenedjmakelaaDoor

/- The contracts of PeaksOf and PitsOf, of both packages. -/
namespace Go.Proofs.YtaeenedjmakelaaDoor
open Go.RowKit

noncomputable def peaksL (h : List (List Int)) : List Int := endsL ovUp h
noncomputable def pitsL (h : List (List Int)) : List Int := endsL ovDown h
theorem peaksL_le (h : List (List Int)) : (peaksL h).length ≤ 1000000 := endsL_le _ h
theorem pitsL_le (h : List (List Int)) : (pitsL h).length ≤ 1000000 := endsL_le _ h

set_option maxRecDepth 100000 in
set_option maxHeartbeats 1000000 in
theorem downClo_any (x y : Int) (W : World) : Calls Tryd.prog 65 (#[.int .i64 x, .int .i64 y] ++ #[]) W fun e w' => e = .returned (.bool (ovDown x y)) ∧ w' = W := by
  show Calls Tryd.prog 65 #[.int .i64 x, .int .i64 y] W _
  go_enter Tryd.func65, Tryd.ntmps65
  go_wp2
  go_ret
  exact ⟨ret_bool (by simp [ovDown]), rfl⟩

set_option maxRecDepth 100000 in
set_option maxHeartbeats 1000000 in
theorem PitsOf_any (v : Value) (h : List (List Int)) (w : World) (hv : RowsV w v h) (hS : Steps w) :
    Calls Tryd.prog 30 #[v] w (OwnI w (pitsL h)) := by
  have HF := Lib.hid (flatsWithout_any v h ovDown 65 #[] (enters_of Tryd.func65 (by kernel_rfl) rfl) w hv hS downClo_any)
  obtain ⟨R, eR⟩ : ∃ R, endsL ovDown h = R := ⟨_, rfl⟩
  rw [pitsL]
  rw [eR] at HF ⊢
  obtain ⟨a, b, o, c, rfl, _, _, _⟩ := hv.shape
  clear hv hS eR
  go_enter Tryd.func30, Tryd.ntmps30
  go_wp2_with (fail)
  refine HF.out.mono ?_
  rintro e w1 ho
  obtain ⟨a1, c1, rfl, hO, hG⟩ := ho.shape
  have H1 := Lib.hid (And.intro hO hG)
  clear ho hO hG
  go_wp2
  go_ret
  exact ⟨a1, c1, rfl, H1.out⟩

end Go.Proofs.YtaeenedjmakelaaDoor
