/- The contracts of spec.climb and spec.climbs. -/
import Derived.Test.YtdhokofcgfolnaaDoorAt
import Derived.Test.YtdhokofcgfolnaaDoorSFlats
import Derived.Test.YtdhokofcgfolnaaDoorAppendInts
import Derived.Test.YtdhokofcgfolnaaDoorCosts
namespace Go.Proofs.YtdhokofcgfolnaaDoor
open Go.RowKit

def climbC (p : List Int) (i k : Nat) : Int := max (p.getD k 0 - p.getD i 0) 0
def relaxL (p : List Int) (x : Int) (i k : Nat) (nx : List Int) : List Int := if nx.getD k 0 < 0 ∨ x + climbC p i k < nx.getD k 0 then nx.set k (x + climbC p i k) else nx
def fanL (p : List Int) (x : Int) (i : Nat) (l nx : List Int) : Nat → List Int
  | 0 => nx
  | t + 1 => relaxL p x i (l.getD t 0).toNat (fanL p x i l nx t)
def sweepL (ar : Nat → List Int) (p out : List Int) : Nat → List Int
  | 0 => out
  | i + 1 => if 0 ≤ out.getD i 0 then fanL p (out.getD i 0) i (ar i) (sweepL ar p out i) (ar i).length else sweepL ar p out i
def climbL (ar : Nat → List Int) (p : List Int) (i N : Nat) : Nat → List Int
  | 0 => (List.replicate N (-1)).set i 0
  | s + 1 => sweepL ar p (climbL ar p i N s) N

/-- A table of least numbers. -/
def LeastT (N : Nat) (P : Nat → Int → Prop) (l : List Int) : Prop := l.length = N ∧ ∀ k, k < N → Least (P k) (l.getD k 0)
theorem LeastT.iff {N : Nat} {P R : Nat → Int → Prop} {l : List Int} (h : LeastT N P l) (e : ∀ k v, k < N → (P k v ↔ R k v)) : LeastT N R l := ⟨h.1, fun k hk => (h.2 k hk).iff fun v => e k v hk⟩
theorem setD {l : List Int} {k : Nat} (x : Int) (hk : k < l.length) (j : Nat) : (l.set k x).getD j 0 = if j = k then x else l.getD j 0 := by
  by_cases h : j = k
  · subst h; rw [if_pos rfl]; simp [hk]
  · rw [if_neg h]
    simp only [List.getD_eq_getElem?_getD]
    rw [List.getElem?_set_ne (fun e => h e.symm)]
theorem relax_least {N : Nat} {P : Nat → Int → Prop} {p nx : List Int} {x : Int} {i K : Nat} (h : LeastT N P nx) (hK : K < N) (hx : 0 ≤ x) : LeastT N (fun k v => P k v ∨ (k = K ∧ v = x + climbC p i K)) (relaxL p x i K nx) := by
  have hc : 0 ≤ x + climbC p i K := by unfold climbC; omega
  have hm := (h.2 K hK).more hc
  have h1 : nx.getD K 0 < 0 ↔ nx.getD K 0 = -1 := by
    rcases h.2 K hK with ⟨e, _⟩ | ⟨e, _⟩ <;> omega
  unfold relaxL
  by_cases hb : nx.getD K 0 < 0 ∨ x + climbC p i K < nx.getD K 0
  · rw [if_pos hb]
    rw [if_pos (by rw [← h1]; exact hb)] at hm
    refine ⟨by simp [h.1], fun k hk => ?_⟩
    rw [setD _ (by rw [h.1]; exact hK)]
    by_cases e : k = K
    · subst e; rw [if_pos rfl]
      exact hm.iff fun v => ⟨fun h => h.imp id fun h => ⟨rfl, h⟩, fun h => h.imp id fun h => h.2⟩
    · rw [if_neg e]
      exact (h.2 k hk).iff fun v => ⟨.inl, fun h => h.elim id fun h => absurd h.1 e⟩
  · rw [if_neg hb]
    rw [if_neg (by rw [← h1]; exact hb)] at hm
    refine ⟨h.1, fun k hk => ?_⟩
    by_cases e : k = K
    · subst e
      exact hm.iff fun v => ⟨fun h => h.imp id fun h => ⟨rfl, h⟩, fun h => h.imp id fun h => h.2⟩
    · exact (h.2 k hk).iff fun v => ⟨.inl, fun h => h.elim id fun h => absurd h.1 e⟩
theorem fan_least {N : Nat} {P : Nat → Int → Prop} {p nx l : List Int} {x : Int} {i : Nat} (h : LeastT N P nx) (hl : ∀ y, y ∈ l → 0 ≤ y ∧ y < N) (hx : 0 ≤ x) :
    ∀ t, t ≤ l.length → LeastT N (fun k v => P k v ∨ ∃ j, j < t ∧ l.getD j 0 = (k : Int) ∧ v = x + climbC p i k) (fanL p x i l nx t)
  | 0, _ => h.iff fun k v _ => ⟨.inl, fun h => h.elim id fun ⟨j, hj, _⟩ => absurd hj (Nat.not_lt_zero _)⟩
  | t + 1, ht => by
    have hm : l.getD t 0 ∈ l := by
      have e1 : l.getD t 0 = l[t] := by simp [show t < l.length by omega]
      rw [e1]; exact List.getElem_mem (by omega)
    have hk := hl _ hm
    rw [fanL]
    refine (relax_least (fan_least h hl hx t (by omega)) (K := (l.getD t 0).toNat) (by omega) hx).iff fun k v _ => ⟨fun hh => ?_, fun hh => ?_⟩
    · rcases hh with (hh | ⟨j, hj, h1, h2⟩) | ⟨h1, h2⟩
      · exact .inl hh
      · exact .inr ⟨j, by omega, h1, h2⟩
      · subst h1
        exact .inr ⟨t, by omega, by omega, h2⟩
    · rcases hh with hh | ⟨j, hj, h1, h2⟩
      · exact .inl (.inl hh)
      · by_cases e : j = t
        · subst e
          exact .inr ⟨by omega, by rw [h1]; simpa using h2⟩
        · exact .inl (.inr ⟨j, by omega, h1, h2⟩)
theorem sweep_least {N : Nat} {P : Nat → Int → Prop} {ar : Nat → List Int} {p out : List Int} (h : LeastT N P out) (hN : ∀ i x, i < N → x ∈ ar i → 0 ≤ x ∧ x < N) :
    ∀ i, i ≤ N → LeastT N (fun k v => P k v ∨ ∃ j, j < i ∧ 0 ≤ out.getD j 0 ∧ (k : Int) ∈ ar j ∧ v = out.getD j 0 + climbC p j k) (sweepL ar p out i)
  | 0, _ => h.iff fun k v _ => ⟨.inl, fun h => h.elim id fun ⟨j, hj, _⟩ => absurd hj (Nat.not_lt_zero _)⟩
  | i + 1, hi => by
    have ih := sweep_least (p := p) h hN i (by omega)
    rw [sweepL]
    by_cases h0 : 0 ≤ out.getD i 0
    · rw [if_pos h0]
      refine (fan_least ih (fun y hy => hN i y (by omega) hy) h0 (ar i).length (Nat.le_refl _)).iff fun k v _ => ⟨fun hh => ?_, fun hh => ?_⟩
      · rcases hh with (hh | ⟨j, hj, h1⟩) | ⟨j, hj, h1, h2⟩
        · exact .inl hh
        · exact .inr ⟨j, by omega, h1⟩
        · refine .inr ⟨i, by omega, h0, ?_, h2⟩
          rw [← h1]
          have e1 : (ar i).getD j 0 = (ar i)[j] := by simp [hj]
          rw [e1]; exact List.getElem_mem hj
      · rcases hh with hh | ⟨j, hj, h1, h2, h3⟩
        · exact .inl (.inl hh)
        · by_cases e : j = i
          · subst e
            obtain ⟨t, ht, et⟩ := List.getElem_of_mem h2
            exact .inr ⟨t, ht, by simp [ht, et], h3⟩
          · exact .inl (.inr ⟨j, by omega, h1, h2, h3⟩)
    · rw [if_neg h0]
      refine ih.iff fun k v _ => ⟨fun hh => hh.imp id fun ⟨j, hj, h1⟩ => ⟨j, by omega, h1⟩, fun hh => hh.imp id fun ⟨j, hj, h1, h2⟩ => ?_⟩
      by_cases e : j = i
      · subst e; exact absurd h1 h0
      · exact ⟨j, by omega, h1, h2⟩
theorem Walk.lt {ar : Nat → List Int} {p : List Int} {f : Int → Int → Int} {N : Nat} (hN : ∀ i x, i < N → x ∈ ar i → 0 ≤ x ∧ x < N) {s i k : Nat} {v : Int} (h : Walk ar p f s i k v) (hi : i < N) : k < N := by
  induction h with
  | nil s i => exact hi
  | cons h1 _ ih => exact ih (by have := hN _ _ hi h1; omega)
theorem climbL_least {N : Nat} {ar : Nat → List Int} {p : List Int} {i : Nat} (hN : ∀ i x, i < N → x ∈ ar i → 0 ≤ x ∧ x < N) (hi : i < N) : ∀ s, LeastT N (fun k v => Walk ar p upF s i k v) (climbL ar p i N s)
  | 0 => by
    refine ⟨by simp [climbL], fun k hk => ?_⟩
    rw [climbL, setD _ (by simp [hi])]
    by_cases e : k = i
    · subst e; rw [if_pos rfl]
      exact .inr ⟨Int.le_refl _, .nil _ _, fun v hv => by rw [(Walk.zero hv).2]; exact Int.le_refl _⟩
    · rw [if_neg e]
      have : (List.replicate N (-1 : Int)).getD k 0 = -1 := by simp [hk]
      rw [this]
      exact .inl ⟨rfl, fun v hv => e (Walk.zero hv).1.symm⟩
  | s + 1 => by
    have ih := climbL_least (p := p) hN hi s
    have h := sweep_least (p := p) ih hN N (Nat.le_refl _)
    rw [climbL]
    refine ⟨h.1, fun k hk => (h.2 k hk).cofinal ?_ ?_⟩
    · rintro v (hv | ⟨j, hj, h1, h2, rfl⟩)
      · exact hv.more
      · rcases ih.2 j hj with ⟨e, _⟩ | ⟨_, hw, _⟩
        · omega
        · exact hw.snoc h2
    · intro v hv
      rcases hv.last with hv | ⟨j, u, hw, hm, rfl⟩
      · exact ⟨v, Int.le_refl _, .inl hv⟩
      · have hj := hw.lt hN hi
        rcases ih.2 j hj with ⟨_, g⟩ | ⟨g1, _, g3⟩
        · exact absurd hw (g _)
        · exact ⟨_, by have := g3 _ hw; unfold climbC; omega, .inr ⟨j, hj, g1, hm, rfl⟩⟩
/-- Both tables tell the same. -/
theorem climb_cost {N : Nat} {ar : Nat → List Int} {p : List Int} {i k s : Nat} (hN : ∀ i x, i < N → x ∈ ar i → 0 ≤ x ∧ x < N) (h0 : ∀ i x, x ∈ ar i → 0 ≤ x) (hi : i < N) (hk : k < N) : (climbL ar p i N s).getD k 0 = costT ar p upF k s i :=
  ((climbL_least hN hi s).2 k hk).uniq (costT_least upF_rule h0 k s i)
theorem climbL_len {N : Nat} {ar : Nat → List Int} {p : List Int} {i s : Nat} (hN : ∀ i x, i < N → x ∈ ar i → 0 ≤ x ∧ x < N) (hi : i < N) : (climbL ar p i N s).length = N := (climbL_least hN hi s).1
theorem relaxL_len {p nx : List Int} {x : Int} {i k : Nat} : (relaxL p x i k nx).length = nx.length := by
  unfold relaxL; split <;> simp
theorem fanL_len {p nx l : List Int} {x : Int} {i : Nat} : ∀ t, (fanL p x i l nx t).length = nx.length
  | 0 => rfl
  | t + 1 => by rw [fanL, relaxL_len, fanL_len t]
theorem sweepL_len {ar : Nat → List Int} {p out : List Int} : ∀ i, (sweepL ar p out i).length = out.length
  | 0 => rfl
  | i + 1 => by
    rw [sweepL]
    split
    · rw [fanL_len, sweepL_len i]
    · exact sweepL_len i

set_option maxRecDepth 100000 in
set_option maxHeartbeats 1000000 in
theorem climb_any (v : Value) (h : List (List Int)) (n m N I K : Nat) (w : World) (hv : RowsV w v h) (hg : vGrid h = true) (en : h.length = n) (em : (h.getD 0 []).length = m) (eN : n * m = N) (hI : I < N) (hK : K < N) :
    Calls Tryd.prog 68 #[v, .int .i64 I, .int .i64 K] w fun e w' => e = .returned (.int .i64 (climbC h.flatten I K)) ∧ ∃ q, w' = w.drewN q := by
  have G := Grid.of hg
  have hpI := grid_num G I (by rw [en, em, eN]; exact hI)
  have hpK := grid_num G K (by rw [en, em, eN]; exact hK)
  have HAI := Lib.hid fun W (hW : Grew w W) => at_any v h I W (hv.grew hW) hg (by rw [en, em, eN]; exact hI)
  have HAK := Lib.hid fun W (hW : Grew w W) => at_any v h K W (hv.grew hW) hg (by rw [en, em, eN]; exact hK)
  have HC : Hid (climbC h.flatten I K = max (h.flatten.getD K 0 - h.flatten.getD I 0) 0) := Lib.hid rfl
  obtain ⟨x, ex⟩ : ∃ x, h.flatten.getD I 0 = x := ⟨_, rfl⟩
  obtain ⟨y, ey⟩ : ∃ y, h.flatten.getD K 0 = y := ⟨_, rfl⟩
  rw [ex] at hpI HAI HC
  rw [ey] at hpK HAK HC
  obtain ⟨hx0, hx1⟩ := hpI
  obtain ⟨hy0, hy1⟩ := hpK
  obtain ⟨a, b, o, c, rfl, _, _, _⟩ := hv.shape
  clear hv hg G en em eN ex ey
  by_cases hd : y - x < 0
  all_goals
    go_enter Tryd.func68, Tryd.ntmps68
    go_wp2_with (fail)
    refine (HAK.out _ (Grew.refl _)).mono ?_
    rintro e w1 ⟨rfl, q1, rfl⟩
    go_wp2_with (fail)
    refine (HAI.out _ ((Grew.refl w).drewN _)).mono ?_
    rintro e w2 ⟨rfl, q2, rfl⟩
    go_wp2
    go_ret
    refine ⟨ret_int ?_, _, rfl⟩
    rw [HC.out]
    try omega

theorem rep_snoc (k : Nat) (x : Int) : List.replicate k x ++ [x] = List.replicate (k + 1) x := by
  rw [List.replicate_succ']
set_option maxRecDepth 100000 in
set_option maxHeartbeats 8000000 in
theorem climbs_any (v : Value) (h : List (List Int)) (n m N F s : Nat) (w : World) (hv : RowsV w v h) (hg : vGrid h = true) (en : h.length = n) (em : (h.getD 0 []).length = m) (eN : n * m = N) (hF : F < N) (hs : s ≤ 30) :
    Calls Tryd.prog 55 #[v, .int .i64 F, .int .i64 s] w (FlatPost w (climbL (aroundL n m) h.flatten F N s)) := by
  have G := Grid.of hg
  have hNb := around_range G en em eN
  have hn5 := G.n5
  have hn1 := G.n1
  have hm5 := G.m5
  have hm1 := G.m1
  have hpb : ∀ k, k < N → 0 ≤ h.flatten.getD k 0 ∧ h.flatten.getD k 0 ≤ 12 := fun i hi => grid_num G i (by rw [en, em, eN]; exact hi)
  have HLEN : Hid (∀ t, (climbL (aroundL n m) h.flatten F N t).length = N) := fun t => climbL_len hNb hF
  have HUP : Hid (∀ t k, k < N → -1 ≤ (climbL (aroundL n m) h.flatten F N t).getD k 0 ∧ (climbL (aroundL n m) h.flatten F N t).getD k 0 ≤ 12 * t) := fun t k hk => by
    rw [climb_cost hNb (fun i x hx => around_nonneg hx) hF hk]
    exact costT_up upF_rule hNb hpb t F hF
  have HCC : Hid (∀ i k, i < N → k < N → 0 ≤ climbC h.flatten i k ∧ climbC h.flatten i k ≤ 12) := fun i k hi hk => by
    have := hpb i hi
    have := hpb k hk
    unfold climbC
    omega
  have HCE := Lib.hid fun (W : World) (hW : Grew w W) => cells_any v h W (hv.grew hW) hn1 (Nat.le_trans hn5 (by decide)) (Nat.le_trans hm5 (by decide))
  rw [en, em, eN] at HCE
  have HAR : Hid (∀ (I : Nat) (W : World), Grew w W → I < N → Calls Tryd.prog 67 #[v, .int .i64 I] W (OwnI W (aroundL n m I))) := fun I W hW hI => by
    have := around_any v h I W (hv.grew hW) hg (by rw [en, em, eN]; exact hI)
    rwa [en, em] at this
  have HCL := Lib.hid fun (I K : Nat) (W : World) (hW : Grew w W) (hI : I < N) (hK : K < N) => climb_any v h n m N I K W (hv.grew hW) hg en em eN hI hK
  rw [en] at hn5 hn1
  rw [em] at hm5 hm1
  have hN25 : N ≤ 25 := by rw [← eN]; exact Nat.mul_le_mul hn5 hm5
  have hN1 : 1 ≤ N := by rw [← eN]; exact Nat.mul_pos hn1 hm1
  have HFA : Hid (∀ I, I < N → (aroundL n m I).length ≤ 4 ∧ ∀ j, j < (aroundL n m I).length → ∃ k : Nat, (aroundL n m I).getD j 0 = (k : Int) ∧ k < N) := fun I hI => by
    have hf := around_facts hn5 hm5 (I := I) (by rw [eN]; exact hI)
    refine ⟨hf.2.2, fun j hj => ?_⟩
    have hmem : (aroundL n m I).getD j 0 ∈ aroundL n m I := by
      have e : (aroundL n m I).getD j 0 = (aroundL n m I)[j] := by simp [hj]
      rw [e]
      exact List.getElem_mem hj
    have := hNb I _ hI hmem
    exact ⟨((aroundL n m I).getD j 0).toNat, by omega, by omega⟩
  obtain ⟨p, ep⟩ : ∃ p, h.flatten = p := ⟨_, rfl⟩
  rw [ep] at HLEN HUP HCC HCL ⊢
  obtain ⟨a, b, o, c, rfl, ⟨hlc, hcb⟩, _, _⟩ := hv.shape
  have hF' : (F : Int) < (N : Int) := by omega
  have HC0 : Hid (climbL (aroundL n m) p F N 0 = (List.replicate N (-1)).set F 0) := Lib.hid rfl
  have HCS : Hid (∀ t, climbL (aroundL n m) p F N (t + 1) = sweepL (aroundL n m) p (climbL (aroundL n m) p F N t) N) := fun _ => rfl
  clear hv hg G hNb hpb en em eN ep
  go_enter Tryd.func55, Tryd.ntmps55
  go_wp2_with (fail)
  refine (HCE.out _ (Grew.refl _)).mono ?_
  rintro e w0 ⟨rfl, rfl⟩
  go_wp2_with (fail)
  have H0 : Hid (IntsO 3 w.heap.size (w.alloc (.cells #[] 3)).heap.size (w.alloc (.cells #[] 3)) (.slice (some ⟨w.heap.size, 0, none⟩) 0 0) (List.replicate 0 (-1)) ∧ Grew w (w.alloc (.cells #[] 3))) :=
    ⟨by simpa using IntsO.lit 3 w.heap.size w [] #[] rfl (Nat.le_refl _) (by decide), (Grew.refl w).alloc _⟩
  go_loopg [8, 9] N (fun gk v i wr => ∃ k g c', v = .slice (some ⟨g, 0, none⟩) k c' ∧ i = .int .i64 ((k : Nat) : Int) ∧ k ≤ N ∧ N ≤ gk + k ∧ Hid (IntsO 3 w.heap.size wr.heap.size wr v (List.replicate k (-1)) ∧ Grew w wr))
  case atStart => exact ⟨0, _, _, rfl, rfl, Nat.zero_le _, Nat.le_refl _, H0⟩
  case round =>
    obtain ⟨k, g, c', rfl, rfl, hk1, hk2, HI⟩ := hrel
    clear H0
    by_cases hlt : k < N
    · have hsw := HI.out.2.size
      go_wp2_with (at_builtin; refine wpList_append_int rfl (.tmp 23) (.tmp 24) 27 rfl Tryd.underlying27 Tryd.infoI rfl rfl (by simp) HI.out.1 (by rw [List.length_replicate]; omega) hsw ?_; rw [List.length_replicate]; intro g5 c5 w5 hO5 hW5 hS5)
      have HF : Hid (IntsO 3 w.heap.size w5.heap.size w5 (.slice (some ⟨g5, 0, none⟩) (k + 1) c5) (List.replicate (k + 1) (-1)) ∧ Grew w w5) :=
        Lib.hid ⟨by rw [← rep_snoc]; exact hO5, hW5.grew HI.out.2 (Nat.le_refl _)⟩
      clear hO5 hW5
      go_wp2
      go_roundg (gk - 1)
      case measure => omega
      case rel => exact ⟨k + 1, g5, c5, rfl, by go_num, by omega, by omega, HF.out⟩
    · obtain rfl : k = N := by omega
      clear hk2
      have hat := HI.out.1.at rfl (i := F) (by simpa using hF)
      have HS : Hid (∀ W, Grew wr W → IntsO 3 w.heap.size W.heap.size (W.setCell ⟨g, F, none⟩ (.int .i64 0)) (.slice (some ⟨g, 0, none⟩) k c') (climbL (aroundL n m) p F k 0) ∧ Grew w (W.setCell ⟨g, F, none⟩ (.int .i64 0))) := fun W hW => by
        have hO := (HI.out.1.grew hW).set rfl F 0
        rw [← HC0.out] at hO
        have hb := HI.out.1.blk
        exact ⟨hO.wide (Nat.le_refl _) hW.size, Within.grew (HI.out.2.trans hW) ((Within.refl w.heap.size (g + 1) W).setCell (p := ⟨g, F, none⟩) hb.1 (Nat.lt_succ_self _) _) (Nat.le_refl _)⟩
      obtain ⟨hcF, hfF⟩ := hat
      rw [show (List.replicate k (-1 : Int)).getD F 0 = -1 by simp [hF]] at hcF
      have HI2 := Lib.hid HI.out.2
      clear HI HC0
      go_wp2
      go_loopw [2, 8] (fun st ov wo => ∃ (t g c' : Nat), t ≤ s ∧ st = .int .i64 ((s - t : Nat) : Int) ∧ ov = .slice (some ⟨g, 0, none⟩) k c' ∧ Hid (IntsO 3 w.heap.size wo.heap.size wo (.slice (some ⟨g, 0, none⟩) k c') (climbL (aroundL n m) p F k t) ∧ Grew w wo)) (fun st _ _ => (intOf st).toNat)
      case atStart =>
        refine ⟨0, g, c', Nat.zero_le _, rfl, rfl, Lib.hid ?_⟩
        have := HS.out wr (Grew.refl _)
        exact ⟨this.1.wide (Nat.le_refl _) (by simp [World.setCell]), this.2⟩
      case round =>
        obtain ⟨t, g, c', ht, rfl, rfl, HX⟩ := hrel
        clear HS hcF hfF
        by_cases hts : t < s
        · have hst : (0 : Int) < ((s - t : Nat) : Int) := by omega
          have HLT := Lib.hid (HLEN.out t)
          obtain ⟨X, eX⟩ : ∃ X, climbL (aroundL n m) p F k t = X := ⟨_, rfl⟩
          have HXS : Hid (climbL (aroundL n m) p F k (t + 1) = sweepL (aroundL n m) p X k) := Lib.hid (by rw [← eX]; exact HCS.out t)
          have HXU : Hid (∀ i, i < k → -1 ≤ X.getD i 0 ∧ X.getD i 0 ≤ 12 * t) := Lib.hid (by rw [← eX]; exact HUP.out t)
          rw [eX] at HLT HX
          have hB := HX.out.1.blkLt
          obtain ⟨B, eB⟩ : ∃ B, wr.heap.size = B := ⟨_, rfl⟩
          have HWB : Hid (w.heap.size ≤ B) := Lib.hid (by rw [← eB]; exact HX.out.2.size)
          have HL0 : Hid (IntsO 3 B (wr.alloc (.cells #[] 3)).heap.size (wr.alloc (.cells #[] 3)) (.slice (some ⟨B, 0, none⟩) 0 0) []) := Lib.hid (by
            rw [← eB]; simpa using IntsO.lit 3 wr.heap.size wr [] #[] rfl (Nat.le_refl _) (by decide))
          have HCX : Hid (∀ i, i < X.length → (wr.alloc (.cells #[] 3)).cell? ⟨g, 0 + i, none⟩ = some (.int .i64 (X.getD i 0))) := fun i hi => by
            rw [Nat.zero_add]; exact ((Grew.refl wr).alloc _).cell (HX.out.1.at rfl (i := i) hi).1
          have hXl : X.length ≤ 25 := by rw [HLT.out]; omega
          clear eX
          go_wp2_with (at_builtin; refine wpList_append_rowOf rfl (.tmp 33) (.tmp 34) 27 rfl Tryd.underlying27 Tryd.infoI rfl rfl HLT.out.symm HCX.out HL0.out (by simp; omega) (by simp [eB]) ?_; intro a1 c1 w1 hO1 hW1; simp only [List.length_nil, Nat.zero_add, List.nil_append, HLT.out] at hO1 ⊢)
          obtain ⟨g10, c10, e10, hb10, _, _, _⟩ := hO1.pos (by rw [HLT.out]; omega)
          simp only [Value.slice.injEq] at e10
          obtain ⟨rfl, hkx, rfl⟩ := e10
          clear hkx
          have hgw : Grew wr w1 := Within.grew ((Grew.refl wr).alloc _) hW1 (by rw [eB]; exact Nat.le_refl _)
          have H1 : Hid (IntsO 3 w.heap.size B w1 (.slice (some ⟨g, 0, none⟩) k c') X ∧ IntsO 3 g10 (g10 + 1) w1 (.slice (some ⟨g10, 0, none⟩) k c1) X ∧ Grew w w1 ∧ B ≤ g10 ∧ g10 < w1.heap.size) :=
            Lib.hid ⟨(HX.out.1.wide (Nat.le_refl _) (by omega)).grew hgw, hO1.at1, HX.out.2.trans hgw, hb10, hO1.blkLt⟩
          clear hO1 hW1 hgw HL0 HCX eB hB HX hb10
          go_wp2
          go_loopw [11] (fun iv wi => ∃ I : Nat, I ≤ k ∧ iv = .int .i64 (I : Int) ∧ Hid (IntsO 3 w.heap.size B wi (.slice (some ⟨g, 0, none⟩) k c') X ∧ IntsO 3 g10 (g10 + 1) wi (.slice (some ⟨g10, 0, none⟩) k c1) (sweepL (aroundL n m) p X I) ∧ Grew w wi ∧ g10 < wi.heap.size)) (fun iv _ => k - (intOf iv).toNat)
          case atStart => exact ⟨0, Nat.zero_le _, rfl, H1.out.1, H1.out.2.1, H1.out.2.2.1, H1.out.2.2.2.2⟩
          case round =>
            obtain ⟨I, hI1, rfl, HX⟩ := hrel
            by_cases hI : I < k
            · have HCI := Lib.hid (HAR.out I wr HX.out.2.2.1 hI)
              go_wp2_with (fail)
              refine HCI.out.mono ?_
              obtain ⟨L, eL⟩ : ∃ L, aroundL n m I = L := ⟨_, rfl⟩
              obtain ⟨SW, eS⟩ : ∃ SW, sweepL (aroundL n m) p X I = SW := ⟨_, rfl⟩
              obtain ⟨x, ex⟩ : ∃ x, X.getD I 0 = x := ⟨_, rfl⟩
              have hfa := HFA.out I hI
              have hxu := HXU.out I hI
              have HNX : Hid (sweepL (aroundL n m) p X (I + 1) = if 0 ≤ x then fanL p x I L SW L.length else SW) := Lib.hid (by rw [sweepL, ex, eL, eS])
              rw [eL] at hfa ⊢
              rw [ex] at hxu
              rw [eS] at HX
              obtain ⟨hl4, hel⟩ := hfa
              have HEL := Lib.hid hel
              have HEX := Lib.hid ex
              have HSL : Hid (SW.length = k) := Lib.hid (by rw [← eS, sweepL_len]; exact HLT.out)
              clear hel eL HCI eS ex
              rintro e w4 ⟨a4, c4, rfl, hO4, hg4⟩
              have hsw := HX.out.2.2.2
              have H4 : Hid (IntsO 3 w.heap.size B w4 (.slice (some ⟨g, 0, none⟩) k c') X ∧ IntsO 3 (g10 + 1) w4.heap.size w4 (.slice a4 L.length c4) L ∧ IntsO 3 g10 (g10 + 1) w4 (.slice (some ⟨g10, 0, none⟩) k c1) SW ∧ Grew w w4 ∧ g10 < w4.heap.size) :=
                Lib.hid ⟨HX.out.1.grew hg4, hO4.wide (by omega) (Nat.le_refl _), HX.out.2.1.grew hg4, HX.out.2.2.1.trans hg4, Nat.lt_of_lt_of_le hsw hg4.size⟩
              clear hO4 hg4 HX hsw
              by_cases hx : 0 ≤ x
              · have HNY : Hid (sweepL (aroundL n m) p X (I + 1) = fanL p x I L SW L.length) := Lib.hid (by rw [HNX.out, if_pos hx])
                clear HNX
                go_wp2
                go_loopw [13] (fun jv wj => ∃ j : Nat, j ≤ L.length ∧ jv = .int .i64 (j : Int) ∧ Hid (IntsO 3 g10 (g10 + 1) wj (.slice (some ⟨g10, 0, none⟩) k c1) (fanL p x I L SW j) ∧ Within g10 (g10 + 1) w4 wj)) (fun jv _ => L.length - (intOf jv).toNat)
                case atStart => exact ⟨0, Nat.zero_le _, rfl, H4.out.2.2.1, Within.refl _ _ _⟩
                case round =>
                  obtain ⟨j, hj, rfl, HI⟩ := hrel
                  have HGW : Hid (Grew w wr) := Lib.hid (Within.grew H4.out.2.2.2.1 HI.out.2 (by have := H1.out.2.2.2.1; have := HWB.out; omega))
                  have hcx := ((H4.out.1.within HI.out.2 (.inl H1.out.2.2.2.1)).at rfl (i := I) (by rw [HLT.out]; exact hI)).1
                  rw [HEX.out] at hcx
                  by_cases hlt : j < L.length
                  · have hO4 := H4.out.2.1.within HI.out.2 (.inr (Nat.le_refl _))
                    obtain ⟨g4, c4', e4, _, _, _, _⟩ := hO4.pos (by omega)
                    simp only [Value.slice.injEq] at e4
                    obtain ⟨rfl, hll, rfl⟩ := e4
                    have hcl := (hO4.at rfl (i := j) hlt).1
                    obtain ⟨K, eK, hKN⟩ := HEL.out j hlt
                    rw [eK] at hcl
                    obtain ⟨FN, eF⟩ : ∃ FN, fanL p x I L SW j = FN := ⟨_, rfl⟩
                    have HFL : Hid (FN.length = k) := Lib.hid (by rw [← eF, fanL_len]; exact HSL.out)
                    have HFN : Hid (fanL p x I L SW (j + 1) = relaxL p x I K FN) := Lib.hid (by rw [fanL, eF, eK, Int.toNat_natCast])
                    rw [eF] at HI
                    obtain ⟨hcy, hfy⟩ := HI.out.1.at rfl (i := K) (by rw [HFL.out]; exact hKN)
                    obtain ⟨y, ey⟩ : ∃ y, FN.getD K 0 = y := ⟨_, rfl⟩
                    rw [ey] at hcy
                    have hcz := HCC.out I K hI hKN
                    have HCK := Lib.hid (fun q => HCL.out I K (wr.drewN q) (HGW.out.drewN q) hI hKN)
                    obtain ⟨z, ez⟩ : ∃ z, climbC p I K = z := ⟨_, rfl⟩
                    have HRX : Hid (relaxL p x I K FN = if y < 0 ∨ x + z < y then FN.set K (x + z) else FN) := Lib.hid (by rw [relaxL, ey, ez])
                    rw [ez] at hcz HCK
                    obtain ⟨hz0, hz1⟩ := hcz
                    have hKk : (K : Int) < (k : Int) := by omega
                    have hIk : (I : Int) < (k : Int) := by omega
                    have hjl : (j : Int) < (L.length : Int) := by omega
                    have hxz : x + z ≤ 400 := by omega
                    have hwx : IntKind.i64.wrap (x + z) = x + z := IntWalk.i64_in _ (by omega)
                    have HF : Hid (∀ W, Grew wr W → IntsO 3 g10 (g10 + 1) (W.setCell ⟨g10, K, none⟩ (.int .i64 (x + z))) (.slice (some ⟨g10, 0, none⟩) k c1) (FN.set K (x + z)) ∧ Within g10 (g10 + 1) w4 (W.setCell ⟨g10, K, none⟩ (.int .i64 (x + z)))) := fun W hW =>
                      ⟨(HI.out.1.grew hW).set rfl K (x + z), (HI.out.2.trans (hW.within _ _)).setCell (p := ⟨g10, K, none⟩) (Nat.le_refl _) (Nat.lt_succ_self _) _⟩
                    have HG : Hid (∀ W, Grew wr W → IntsO 3 g10 (g10 + 1) W (.slice (some ⟨g10, 0, none⟩) k c1) FN ∧ Within g10 (g10 + 1) w4 W) := fun W hW => ⟨HI.out.1.grew hW, HI.out.2.trans (hW.within _ _)⟩
                    clear hO4 eK eF ey ez hll HI
                    by_cases hy : y < 0
                    · have HYY : Hid (fanL p x I L SW (j + 1) = FN.set K (x + z)) := Lib.hid (by rw [HFN.out, HRX.out, if_pos (.inl hy)])
                      clear HFN HRX HG
                      go_wp2
                      go_quiet ((go_at_call 68; exact Calls.quiet_of (HCK.out _)))
                      go_wp2
                      go_roundw
                      case rel => exact ⟨j + 1, by omega, by go_num, by rw [HYY.out]; exact HF.out _ (quiet_grew ⟨_, rfl⟩)⟩
                      case measure => simp [intOf]; omega
                    · by_cases hxy : x + z < y
                      · have HYY : Hid (fanL p x I L SW (j + 1) = FN.set K (x + z)) := Lib.hid (by rw [HFN.out, HRX.out, if_pos (.inr hxy)])
                        clear HFN HRX HG
                        go_wp2
                        go_quiet ((go_at_call 68; exact Calls.quiet_of (HCK.out _)))
                        go_wp2
                        go_roundw
                        case rel => exact ⟨j + 1, by omega, by go_num, by rw [HYY.out]; exact HF.out _ (quiet_grew ⟨_, rfl⟩)⟩
                        case measure => simp [intOf]; omega
                      · have HYY : Hid (fanL p x I L SW (j + 1) = FN) := Lib.hid (by rw [HFN.out, HRX.out, if_neg (by omega)])
                        clear HFN HRX HF
                        go_wp2
                        go_quiet ((go_at_call 68; exact Calls.quiet_of (HCK.out _)))
                        go_wp2
                        go_roundw
                        case rel => exact ⟨j + 1, by omega, by go_num, by rw [HYY.out]; exact HG.out _ (quiet_grew ⟨_, rfl⟩)⟩
                        case measure => simp [intOf]; omega
                  · obtain rfl : j = L.length := by omega
                    have HE : Hid (IntsO 3 w.heap.size B wr (.slice (some ⟨g, 0, none⟩) k c') X ∧ IntsO 3 g10 (g10 + 1) wr (.slice (some ⟨g10, 0, none⟩) k c1) (sweepL (aroundL n m) p X (I + 1)) ∧ Grew w wr ∧ g10 < wr.heap.size) :=
                      Lib.hid ⟨H4.out.1.within HI.out.2 (.inl H1.out.2.2.2.1), by rw [HNY.out]; exact HI.out.1, HGW.out, Nat.lt_of_lt_of_le H4.out.2.2.2.2 HI.out.2.size⟩
                    clear HI HGW
                    go_wp2
                    go_roundw
                    case rel => exact ⟨I + 1, by omega, by go_num, HE.out⟩
                    case measure => simp [intOf]; omega
              · have HNY : Hid (sweepL (aroundL n m) p X (I + 1) = SW) := Lib.hid (by rw [HNX.out, if_neg hx])
                clear HNX
                go_wp2
                go_loopw [13] (fun jv wj => jv = .int .i64 0 ∧ wj = w4) (fun _ _ => 0)
                case atStart => exact ⟨rfl, rfl⟩
                case round =>
                  obtain ⟨rfl, rfl⟩ := hrel
                  have hcx := (H4.out.1.at rfl (i := I) (by rw [HLT.out]; exact hI)).1
                  rw [HEX.out] at hcx
                  have hIk : (I : Int) < (k : Int) := by omega
                  have HE : Hid (IntsO 3 w.heap.size B wr (.slice (some ⟨g, 0, none⟩) k c') X ∧ IntsO 3 g10 (g10 + 1) wr (.slice (some ⟨g10, 0, none⟩) k c1) (sweepL (aroundL n m) p X (I + 1)) ∧ Grew w wr ∧ g10 < wr.heap.size) :=
                    Lib.hid ⟨H4.out.1, by rw [HNY.out]; exact H4.out.2.2.1, H4.out.2.2.2.1, H4.out.2.2.2.2⟩
                  clear H4 HNY
                  by_cases hL0 : 0 < L.length
                  all_goals
                    go_wp2
                    go_roundw
                    case rel => exact ⟨I + 1, by omega, by go_num, HE.out⟩
                    case measure => simp [intOf]; omega
            · obtain rfl : I = k := by omega
              have HE : Hid (IntsO 3 w.heap.size wr.heap.size wr (.slice (some ⟨g10, 0, none⟩) I c1) (climbL (aroundL n m) p F I (t + 1)) ∧ Grew w wr) := by
                refine Lib.hid ⟨?_, HX.out.2.2.1⟩
                rw [HXS.out]
                exact HX.out.2.1.wide (by have := HWB.out; have := H1.out.2.2.2.1; omega) HX.out.2.2.2
              have hsub : ((s - t : Nat) : Int) - 1 = ((s - (t + 1) : Nat) : Int) := by omega
              clear HX H1
              go_wp2
              go_roundw
              case rel => exact ⟨t + 1, g10, c1, by omega, by first | (rw [hsub]) | go_num, rfl, HE⟩
              case measure => simp [intOf]; omega
        · obtain rfl : t = s := by omega
          have hst : ¬ (0 : Int) < ((t - t : Nat) : Int) := by omega
          have HLT := Lib.hid (HLEN.out t)
          go_wp2
          go_ret
          exact ⟨g, c', ret_slice HLT.out.symm, by rw [HLT.out]; exact HX.out.1, HX.out.2⟩
end Go.Proofs.YtdhokofcgfolnaaDoor
