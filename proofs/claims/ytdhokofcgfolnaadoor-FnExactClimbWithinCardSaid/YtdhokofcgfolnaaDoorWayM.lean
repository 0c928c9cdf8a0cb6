/- Ways as lists: what the cheapest ways of at most so many steps cost. -/
import Derived.WalkKit
namespace Go.Proofs.YtdhokofcgfolnaaDoor

theorem nodup_le : ∀ (N : Nat) (l : List Nat), l.Nodup → (∀ x, x ∈ l → x < N) → l.length ≤ N
  | 0, l, _, h => by
    cases l with
    | nil => exact Nat.le_refl _
    | cons a l => exact absurd (h a (List.mem_cons_self ..)) (Nat.not_lt_zero _)
  | N + 1, l, hd, h => by
    by_cases hN : N ∈ l
    · have h1 := nodup_le N (l.erase N) (hd.erase N) fun x hx => by
        have h2 := (List.Nodup.mem_erase_iff hd).1 hx
        have := h x h2.2
        omega
      rw [List.length_erase_of_mem hN] at h1
      omega
    · have := nodup_le N l hd fun x hx => by
        have := h x hx
        have : x ≠ N := fun e => hN (by rw [← e]; exact hx)
        omega
      omega

/-- x is the least number of which P holds, -1 if there is none. -/
def Least (P : Int → Prop) (x : Int) : Prop := (x = -1 ∧ ∀ v, ¬ P v) ∨ (0 ≤ x ∧ P x ∧ ∀ v, P v → x ≤ v)
theorem Least.uniq {P : Int → Prop} {x y : Int} (h : Least P x) (g : Least P y) : x = y := by
  rcases h with ⟨rfl, h⟩ | ⟨h0, h1, h2⟩ <;> rcases g with ⟨rfl, g⟩ | ⟨g0, g1, g2⟩
  · rfl
  · exact absurd g1 (h _)
  · exact absurd h1 (g _)
  · have := h2 _ g1
    have := g2 _ h1
    omega
theorem Least.cofinal {P R : Int → Prop} {x : Int} (h : Least P x) (h1 : ∀ v, P v → R v) (h2 : ∀ v, R v → ∃ u, u ≤ v ∧ P u) : Least R x := by
  rcases h with ⟨rfl, h⟩ | ⟨g0, g1, g2⟩
  · exact .inl ⟨rfl, fun v hv => by obtain ⟨u, _, hu⟩ := h2 v hv; exact h u hu⟩
  · exact .inr ⟨g0, h1 _ g1, fun v hv => by obtain ⟨u, hu, hp⟩ := h2 v hv; exact Int.le_trans (g2 u hp) hu⟩
theorem Least.iff {P R : Int → Prop} {x : Int} (h : Least P x) (h1 : ∀ v, P v ↔ R v) : Least R x := h.cofinal (fun v => (h1 v).1) fun v hv => ⟨v, Int.le_refl _, (h1 v).2 hv⟩
/-- One more is taken in. -/
theorem Least.more {P : Int → Prop} {x c : Int} (h : Least P x) (hc : 0 ≤ c) : Least (fun v => P v ∨ v = c) (if x = -1 ∨ c < x then c else x) := by
  rcases h with ⟨rfl, h⟩ | ⟨g0, g1, g2⟩
  · rw [if_pos (.inl rfl)]
    exact .inr ⟨hc, .inr rfl, fun v hv => by rcases hv with hv | rfl; exact absurd hv (h v); exact Int.le_refl _⟩
  · by_cases hx : c < x
    · rw [if_pos (.inr hx)]
      exact .inr ⟨hc, .inr rfl, fun v hv => by rcases hv with hv | rfl; have := g2 v hv; omega; exact Int.le_refl _⟩
    · rw [if_neg (by omega)]
      exact .inr ⟨g0, .inl g1, fun v hv => by rcases hv with hv | rfl; exact g2 v hv; omega⟩
theorem exists_least {P : Nat → Prop} (h : ∃ n, P n) : ∃ n, P n ∧ ∀ k, k < n → ¬ P k := by
  obtain ⟨n, hn⟩ := h
  induction n using Nat.strongRecOn with
  | ind n ih =>
    by_cases hk : ∃ k, k < n ∧ P k
    · obtain ⟨k, h1, h2⟩ := hk
      exact ih k h1 h2
    · exact ⟨n, hn, fun k h1 h2 => hk ⟨k, h1, h2⟩⟩
theorem least_exists {P : Int → Prop} (h0 : ∀ v, P v → 0 ≤ v) : ∃ x, Least P x := by
  by_cases h : ∃ v, P v
  · obtain ⟨n, hn, hm⟩ := exists_least (P := fun n : Nat => P n) (by
      obtain ⟨v, hv⟩ := h
      exact ⟨v.toNat, by have := h0 v hv; rwa [Int.toNat_of_nonneg this]⟩)
    refine ⟨n, .inr ⟨by omega, hn, fun v hv => ?_⟩⟩
    have := h0 v hv
    have h2 := hm v.toNat
    by_cases hlt : v.toNat < n
    · exact absurd (by rwa [Int.toNat_of_nonneg this]) (h2 hlt)
    · omega
  · exact ⟨-1, .inl ⟨rfl, fun v hv => h ⟨v, hv⟩⟩⟩

/-- What a rule must keep. -/
structure Rule (f : Int → Int → Int) : Prop where
  ge : ∀ d r, r ≤ f d r
  mono : ∀ d r s, r ≤ s → f d r ≤ f d s
  up : ∀ d r, -12 ≤ d → d ≤ 12 → 0 ≤ r → f d r ≤ r + 12
def upF (d r : Int) : Int := max d 0 + r
def steepF (d r : Int) : Int := max (max d (-d)) r
theorem upF_rule : Rule upF := ⟨fun d r => by unfold upF; omega, fun d r s h => by unfold upF; omega, fun d r _ _ _ => by unfold upF; omega⟩
theorem steepF_rule : Rule steepF := ⟨fun d r => by unfold steepF; omega, fun d r s h => by unfold steepF; omega, fun d r _ _ _ => by unfold steepF; omega⟩

/-- A way of at most s steps from i to k costs v. -/
inductive Walk (ar : Nat → List Int) (p : List Int) (f : Int → Int → Int) : Nat → Nat → Nat → Int → Prop
  | nil (s i : Nat) : Walk ar p f s i i 0
  | cons {s i j k : Nat} {v : Int} : (j : Int) ∈ ar i → Walk ar p f s j k v → Walk ar p f (s + 1) i k (f (p.getD j 0 - p.getD i 0) v)
section
variable {ar : Nat → List Int} {p : List Int} {f : Int → Int → Int}
theorem Walk.more {s i k : Nat} {v : Int} (h : Walk ar p f s i k v) : Walk ar p f (s + 1) i k v := by
  induction h with
  | nil s i => exact .nil _ _
  | cons h1 _ ih => exact .cons h1 ih
theorem Walk.le {s t i k : Nat} {v : Int} (h : Walk ar p f s i k v) (hs : s ≤ t) : Walk ar p f t i k v := by
  obtain ⟨d, rfl⟩ := Nat.exists_eq_add_of_le hs
  clear hs
  induction d with
  | zero => exact h
  | succ d ih => exact ih.more
theorem Walk.pos {s i k : Nat} {v : Int} (R : Rule f) (h : Walk ar p f s i k v) : 0 ≤ v := by
  induction h with
  | nil s i => exact Int.le_refl _
  | cons h1 _ ih => exact Int.le_trans ih (R.ge _ _)
theorem Walk.inv {s i k : Nat} {v : Int} (h : Walk ar p f (s + 1) i k v) : Walk ar p f s i k v ∨ ∃ (j : Nat) (u : Int), (j : Int) ∈ ar i ∧ Walk ar p f s j k u ∧ v = f (p.getD j 0 - p.getD i 0) u := by
  cases h with
  | nil => exact .inl (.nil _ _)
  | cons h1 h2 => exact .inr ⟨_, _, h1, h2, rfl⟩
theorem Walk.zero {i k : Nat} {v : Int} (h : Walk ar p f 0 i k v) : i = k ∧ v = 0 := by
  cases h
  exact ⟨rfl, rfl⟩

/-- What the cheapest ways of at most s steps cost, by the cells where they begin. -/
def cStep (p : List Int) (f : Int → Int → Int) (c : Nat → Int) (i : Nat) (v : Int) (k : Nat) : Int :=
  if c k = -1 then v else if v = -1 ∨ f (p.getD k 0 - p.getD i 0) (c k) < v then f (p.getD k 0 - p.getD i 0) (c k) else v
def cFold (p : List Int) (f : Int → Int → Int) (c : Nat → Int) (i : Nat) (l : List Int) : Nat → Int
  | 0 => c i
  | t + 1 => cStep p f c i (cFold p f c i l t) (l.getD t 0).toNat
def costT (ar : Nat → List Int) (p : List Int) (f : Int → Int → Int) (e : Nat) : Nat → Nat → Int
  | 0, i => if i = e then 0 else -1
  | s + 1, i => cFold p f (costT ar p f e s) i (ar i) (ar i).length

theorem cFold_least (R : Rule f) {c : Nat → Int} {A : Nat → Int → Prop} {i : Nat} (hA : ∀ k, Least (A k) (c k)) (l : List Int) :
    ∀ t, Least (fun v => A i v ∨ ∃ j, j < t ∧ c (l.getD j 0).toNat ≠ -1 ∧ v = f (p.getD (l.getD j 0).toNat 0 - p.getD i 0) (c (l.getD j 0).toNat)) (cFold p f c i l t)
  | 0 => (hA i).iff fun v => ⟨.inl, fun h => by rcases h with h | ⟨j, hj, _⟩; exact h; omega⟩
  | t + 1 => by
    have ih := cFold_least (i := i) R hA l t
    rw [cFold]
    obtain ⟨k, ek⟩ : ∃ k, (l.getD t 0).toNat = k := ⟨_, rfl⟩
    rw [ek, cStep]
    by_cases hc : c k = -1
    · rw [if_pos hc]
      refine ih.iff fun v => ⟨fun h => ?_, fun h => ?_⟩
      · rcases h with h | ⟨j, hj, h1⟩
        · exact .inl h
        · exact .inr ⟨j, by omega, h1⟩
      · rcases h with h | ⟨j, hj, h1, h2⟩
        · exact .inl h
        · by_cases e : j = t
          · subst e; rw [ek] at h1; exact absurd hc h1
          · exact .inr ⟨j, by omega, h1, h2⟩
    · rw [if_neg hc]
      have h0 : 0 ≤ c k := by
        rcases hA k with ⟨h, _⟩ | ⟨h, _⟩
        · exact absurd h hc
        · exact h
      refine (ih.more (c := f (p.getD k 0 - p.getD i 0) (c k)) (Int.le_trans h0 (R.ge _ _))).iff fun v => ⟨fun h => ?_, fun h => ?_⟩
      · rcases h with (h | ⟨j, hj, h1⟩) | h
        · exact .inl h
        · exact .inr ⟨j, by omega, h1⟩
        · exact .inr ⟨t, by omega, by rw [ek]; exact hc, by rw [ek]; exact h⟩
      · rcases h with h | ⟨j, hj, h1, h2⟩
        · exact .inl (.inl h)
        · by_cases e : j = t
          · subst e; rw [ek] at h2; exact .inr h2
          · exact .inl (.inr ⟨j, by omega, h1, h2⟩)
theorem costT_least (R : Rule f) (h0 : ∀ i x, x ∈ ar i → 0 ≤ x) (e : Nat) : ∀ s i, Least (fun v => Walk ar p f s i e v) (costT ar p f e s i)
  | 0, i => by
    rw [costT]
    by_cases h : i = e
    · subst h
      rw [if_pos rfl]
      exact .inr ⟨Int.le_refl _, .nil _ _, fun v hv => by rw [(Walk.zero hv).2]; exact Int.le_refl _⟩
    · rw [if_neg h]
      exact .inl ⟨rfl, fun v hv => h (Walk.zero hv).1⟩
  | s + 1, i => by
    rw [costT]
    refine (cFold_least R (costT_least R h0 e s) (ar i) (ar i).length).cofinal ?_ ?_
    · rintro v (h | ⟨j, hj, hc, rfl⟩)
      · exact h.more
      · have hm : (ar i).getD j 0 ∈ ar i := by
          have e1 : (ar i).getD j 0 = (ar i)[j] := by simp [hj]
          rw [e1]; exact List.getElem_mem hj
        rcases costT_least R h0 e s ((ar i).getD j 0).toNat with ⟨h, _⟩ | ⟨_, h, _⟩
        · exact absurd h hc
        · exact .cons (by rw [Int.toNat_of_nonneg (h0 _ _ hm)]; exact hm) h
    · intro v hv
      rcases hv.inv with h | ⟨j, u, hj, hw, rfl⟩
      · exact ⟨v, Int.le_refl _, .inl h⟩
      · obtain ⟨t, ht, et⟩ := List.getElem_of_mem hj
        have e1 : ((ar i).getD t 0).toNat = j := by simp [ht, et]
        rcases costT_least R h0 e s j with ⟨_, h⟩ | ⟨h1, h2, h3⟩
        · exact absurd hw (h _)
        · exact ⟨_, R.mono _ _ _ (h3 _ hw), .inr ⟨t, ht, by rw [e1]; omega, by rw [e1]⟩⟩

/-- What ways of any number of steps cost at least. -/
theorem final (R : Rule f) (h0 : ∀ i x, x ∈ ar i → 0 ≤ x) (e N : Nat) : ∃ T, ∀ s, T ≤ s → ∀ i, i < N → Least (fun v => ∃ s, Walk ar p f s i e v) (costT ar p f e s i) := by
  have one : ∀ i, ∃ T, ∀ s, T ≤ s → Least (fun v => ∃ s, Walk ar p f s i e v) (costT ar p f e s i) := by
    intro i
    obtain ⟨x, hx⟩ := least_exists (P := fun v => ∃ s, Walk ar p f s i e v) (fun v ⟨s, hv⟩ => hv.pos R)
    rcases hx with ⟨rfl, h⟩ | ⟨h1, ⟨T, h2⟩, h3⟩
    · refine ⟨0, fun s _ => ?_⟩
      rcases costT_least (p := p) R h0 e s i with ⟨g, _⟩ | ⟨_, g, _⟩
      · rw [g]; exact .inl ⟨rfl, h⟩
      · exact absurd ⟨s, g⟩ (h _)
    · refine ⟨T, fun s hs => ?_⟩
      have hw := h2.le hs
      rcases costT_least (p := p) R h0 e s i with ⟨_, g⟩ | ⟨g1, g2, g3⟩
      · exact absurd hw (g _)
      · have := g3 _ hw
        have := h3 _ ⟨s, g2⟩
        have ex : costT ar p f e s i = x := by omega
        rw [ex]
        exact .inr ⟨h1, ⟨s, hw⟩, h3⟩
  induction N with
  | zero => exact ⟨0, fun _ _ i hi => absurd hi (Nat.not_lt_zero _)⟩
  | succ N ih =>
    obtain ⟨T, hT⟩ := ih
    obtain ⟨U, hU⟩ := one N
    refine ⟨max T U, fun s hs i hi => ?_⟩
    by_cases h : i = N
    · subst h; exact hU s (by omega)
    · exact hT s (by omega) i (by omega)

/-- From one number of steps on nothing becomes cheaper. -/
def StillC (ar : Nat → List Int) (p : List Int) (f : Int → Int → Int) (e N s : Nat) : Prop := ∀ i, i < N → costT ar p f e (s + 1) i = costT ar p f e s i
theorem cStep_congr {c d : Nat → Int} {i : Nat} {v : Int} {k : Nat} (h : c k = d k) : cStep p f c i v k = cStep p f d i v k := by unfold cStep; rw [h]
theorem cFold_congr {c d : Nat → Int} {i : Nat} {l : List Int} (hi : c i = d i) (h : ∀ j, j < l.length → c (l.getD j 0).toNat = d (l.getD j 0).toNat) : ∀ t, t ≤ l.length → cFold p f c i l t = cFold p f d i l t
  | 0, _ => hi
  | t + 1, ht => by rw [cFold, cFold, cFold_congr hi h t (by omega), cStep_congr (h t (by omega))]
theorem StillC.next {e N s : Nat} (hN : ∀ i x, i < N → x ∈ ar i → 0 ≤ x ∧ x < N) (h : StillC ar p f e N s) : StillC ar p f e N (s + 1) := fun i hi => by
  rw [costT, costT]
  refine cFold_congr (h i hi) (fun j hj => h _ ?_) _ (Nat.le_refl _)
  have hm : (ar i).getD j 0 ∈ ar i := by
    have e1 : (ar i).getD j 0 = (ar i)[j] := by simp [hj]
    rw [e1]; exact List.getElem_mem hj
  have := hN i _ hi hm
  omega
theorem StillC.all {e N s : Nat} (hN : ∀ i x, i < N → x ∈ ar i → 0 ≤ x ∧ x < N) (h : StillC ar p f e N s) : ∀ t, s ≤ t → ∀ i, i < N → costT ar p f e t i = costT ar p f e s i := by
  have g : ∀ d, StillC ar p f e N (s + d) ∧ ∀ i, i < N → costT ar p f e (s + d) i = costT ar p f e s i := by
    intro d
    induction d with
    | zero => exact ⟨h, fun _ _ => rfl⟩
    | succ d ih => exact ⟨ih.1.next hN, fun i hi => (ih.1 i hi).trans (ih.2 i hi)⟩
  intro t ht i hi
  obtain ⟨d, rfl⟩ := Nat.exists_eq_add_of_le ht
  exact (g d).2 i hi
theorem still_exists (R : Rule f) (h0 : ∀ i x, x ∈ ar i → 0 ≤ x) (e N : Nat) : ∃ T, StillC ar p f e N T ∧ ∀ s, s < T → ¬ StillC ar p f e N s := by
  refine exists_least ?_
  obtain ⟨T, hT⟩ := final (p := p) R h0 e N
  exact ⟨T, fun i hi => (hT (T + 1) (by omega) i hi).uniq (hT T (Nat.le_refl _) i hi)⟩
/-- Where nothing becomes cheaper it is as cheap as it gets. -/
theorem StillC.least {e N s : Nat} (R : Rule f) (hN : ∀ i x, i < N → x ∈ ar i → 0 ≤ x ∧ x < N) (h0 : ∀ i x, x ∈ ar i → 0 ≤ x) (h : StillC ar p f e N s) (i : Nat) (hi : i < N) : Least (fun v => ∃ s, Walk ar p f s i e v) (costT ar p f e s i) := by
  obtain ⟨T, hT⟩ := final (p := p) R h0 e N
  rw [← h.all hN (max s T) (by omega) i hi]
  exact hT _ (by omega) i hi

/-- As few steps as there are cells are enough, for costs that are good. -/
theorem first_chain {e N : Nat} (hN : ∀ i x, i < N → x ∈ ar i → 0 ≤ x ∧ x < N) (G : Nat → Int → Prop)
    (h1 : ∀ (i j s : Nat) (u : Int), i < N → (j : Int) ∈ ar i → Walk ar p f s j e u → G i (f (p.getD j 0 - p.getD i 0) u) → G j u)
    (h2 : ∀ (i j : Nat) (u v : Int), i < N → (j : Int) ∈ ar i → G i (f (p.getD j 0 - p.getD i 0) u) → G j u → G j v → G i (f (p.getD j 0 - p.getD i 0) v)) :
    ∀ s i w, i < N → Walk ar p f s i e w → G i w → (∀ r, r < s → ¬ ∃ u, Walk ar p f r i e u ∧ G i u) →
      ∃ vs : List Nat, vs.length = s + 1 ∧ vs.Nodup ∧ ∀ v, v ∈ vs → v < N ∧ ∃ r, r ≤ s ∧ ∃ u, Walk ar p f r v e u ∧ G v u
  | 0, i, w, hi, h, hw, _ => ⟨[i], rfl, by simp, fun v hv => by rw [List.mem_singleton.1 hv]; exact ⟨hi, 0, Nat.le_refl _, w, h, hw⟩⟩
  | s + 1, i, w, hi, h, hw, hm => by
    rcases h.inv with h3 | ⟨j, u, hj, hu, he⟩
    · exact absurd ⟨w, h3, hw⟩ (hm s (by omega))
    · have hjN := hN i _ hi hj
      have hj' : j < N := by omega
      subst he
      have hg := h1 i j s u hi hj hu hw
      obtain ⟨vs, hl, hn, hv⟩ := first_chain hN G h1 h2 s j u hj' hu hg (fun r hr => by
        rintro ⟨v, k1, k2⟩
        exact hm (r + 1) (by omega) ⟨_, .cons hj k1, h2 i j u v hi hj hw hg k2⟩)
      refine ⟨i :: vs, by simp [hl], List.nodup_cons.2 ⟨fun hmem => ?_, hn⟩, fun v hvm => ?_⟩
      · obtain ⟨_, r, hr, x, hx⟩ := hv i hmem
        exact hm r (by omega) ⟨x, hx⟩
      · rcases List.mem_cons.1 hvm with rfl | hvm
        · exact ⟨hi, s + 1, Nat.le_refl _, _, h, hw⟩
        · obtain ⟨k1, r, k2, k3⟩ := hv v hvm
          exact ⟨k1, r, by omega, k3⟩
theorem few_good {e N : Nat} (hN : ∀ i x, i < N → x ∈ ar i → 0 ≤ x ∧ x < N) (G : Nat → Int → Prop)
    (h1 : ∀ (i j s : Nat) (u : Int), i < N → (j : Int) ∈ ar i → Walk ar p f s j e u → G i (f (p.getD j 0 - p.getD i 0) u) → G j u)
    (h2 : ∀ (i j : Nat) (u v : Int), i < N → (j : Int) ∈ ar i → G i (f (p.getD j 0 - p.getD i 0) u) → G j u → G j v → G i (f (p.getD j 0 - p.getD i 0) v))
    {s i : Nat} {w : Int} (hi : i < N) (h : Walk ar p f s i e w) (hw : G i w) : ∃ r, r < N ∧ ∃ u, Walk ar p f r i e u ∧ G i u := by
  obtain ⟨r, ⟨u, k1, k2⟩, k3⟩ := exists_least (P := fun s => ∃ u, Walk ar p f s i e u ∧ G i u) ⟨s, w, h, hw⟩
  obtain ⟨vs, hl, hn, hv⟩ := first_chain hN G h1 h2 r i u hi k1 k2 k3
  have := nodup_le N vs hn fun v hv' => (hv v hv').1
  exact ⟨r, by omega, u, k1, k2⟩
/-- What a rule keeps by which as few steps as there are cells are enough. -/
def Short (f : Int → Int → Int) : Prop := ∀ (ar : Nat → List Int) (p : List Int) (e N : Nat), (∀ i x, i < N → x ∈ ar i → 0 ≤ x ∧ x < N) → (∀ i x, x ∈ ar i → 0 ≤ x) →
  ∀ s i w, i < N → Walk ar p f s i e w → ∃ r, r < N ∧ ∃ u, u ≤ w ∧ Walk ar p f r i e u
theorem steep_short : Short steepF := fun ar p e N hN _ s i w hi h => by
  obtain ⟨r, h1, u, h2, h3⟩ := few_good (p := p) (f := steepF) (e := e) hN (fun _ u => u ≤ w) (fun i j s u _ _ _ hg => by unfold steepF at hg; omega) (fun i j u v _ _ hg _ hv => by unfold steepF at hg ⊢; omega) hi h (Int.le_refl _)
  exact ⟨r, h1, u, h3, h2⟩
theorem up_short : Short upF := fun ar p e N hN h0 s i w hi h => by
  obtain ⟨T, hT⟩ := final (ar := ar) (p := p) upF_rule h0 e N
  have hC := hT T (Nat.le_refl _)
  obtain ⟨C, eC⟩ : ∃ C, costT ar p upF e T = C := ⟨_, rfl⟩
  rw [eC] at hC
  have key : ∀ (i j s : Nat) (u : Int), i < N → (j : Int) ∈ ar i → Walk ar p upF s j e u → upF (p.getD j 0 - p.getD i 0) u = C i → u = C j := fun i j s u hi hj hw he => by
    have hjN := hN i _ hi hj
    rcases hC j (by omega) with ⟨_, g⟩ | ⟨_, ⟨t, g2⟩, g3⟩
    · exact absurd ⟨s, hw⟩ (g u)
    · have k1 := g3 u ⟨s, hw⟩
      rcases hC i hi with ⟨_, k⟩ | ⟨_, _, k3⟩
      · exact absurd ⟨_, .cons hj hw⟩ (k _)
      · have := k3 _ ⟨_, Walk.cons hj g2⟩
        unfold upF at he this
        omega
  rcases hC i hi with ⟨_, g⟩ | ⟨_, ⟨t, g2⟩, g3⟩
  · exact absurd ⟨s, h⟩ (g w)
  · obtain ⟨r, h1, u, h2, h3⟩ := few_good (p := p) (f := upF) (e := e) hN (fun i u => u = C i) (fun i j s u hi hj hw he => key i j s u hi hj hw he) (fun i j u v _ _ he hu hv => by rw [hv, ← hu]; exact he) hi g2 rfl
    exact ⟨r, h1, u, by rw [h3]; exact g3 w ⟨s, h⟩, h2⟩
/-- With as many steps as cells less one the costs are the least. -/
theorem short_still {e N : Nat} (R : Rule f) (S : Short f) (hN : ∀ i x, i < N → x ∈ ar i → 0 ≤ x ∧ x < N) (h0 : ∀ i x, x ∈ ar i → 0 ≤ x) : StillC ar p f e N (N - 1) := fun i hi => by
  refine Least.uniq (P := fun v => Walk ar p f (N - 1 + 1) i e v) (costT_least R h0 e _ i) ((costT_least R h0 e (N - 1) i).cofinal (fun v => Walk.more) fun v hv => ?_)
  obtain ⟨r, h1, u, h2, h3⟩ := S ar p e N hN h0 _ i v hi hv
  exact ⟨u, h2, h3.le (by omega)⟩
/-- The first number of steps from which on nothing becomes cheaper. -/
theorem still_first (R : Rule f) (S : Short f) {e N : Nat} (hN : ∀ i x, i < N → x ∈ ar i → 0 ≤ x ∧ x < N) (h0 : ∀ i x, x ∈ ar i → 0 ≤ x) : ∃ T, T ≤ N - 1 ∧ StillC ar p f e N T ∧ ∀ s, s < T → ¬ StillC ar p f e N s := by
  obtain ⟨T, h1, h2⟩ := still_exists (ar := ar) (p := p) R h0 e N
  refine ⟨T, ?_, h1, h2⟩
  by_cases h : N - 1 < T
  · exact absurd (short_still R S hN h0) (h2 _ h)
  · omega
/-- Costs are small. -/
theorem cFold_up (R : Rule f) {c : Nat → Int} {B : Int} {i : Nat} {l : List Int} {N : Nat} (hp : ∀ k, k < N → 0 ≤ p.getD k 0 ∧ p.getD k 0 ≤ 12) (hi : i < N) (hl : ∀ x, x ∈ l → 0 ≤ x ∧ x < N) (hc : ∀ k, k < N → -1 ≤ c k ∧ c k ≤ B) (hB : 0 ≤ B) :
    ∀ t, t ≤ l.length → -1 ≤ cFold p f c i l t ∧ cFold p f c i l t ≤ B + 12
  | 0, _ => by have := hc i hi; rw [cFold]; omega
  | t + 1, ht => by
    have ih := cFold_up R hp hi hl hc hB t (by omega)
    have hm : l.getD t 0 ∈ l := by
      have e1 : l.getD t 0 = l[t] := by simp [show t < l.length by omega]
      rw [e1]; exact List.getElem_mem (by omega)
    have hk := hl _ hm
    obtain ⟨k, ek⟩ : ∃ k, (l.getD t 0).toNat = k := ⟨_, rfl⟩
    have hkN : k < N := by omega
    rw [cFold, ek, cStep]
    have := hc k hkN
    have h1 := hp k hkN
    have h2 := hp i hi
    split
    · exact ih
    · have h3 := R.ge (p.getD k 0 - p.getD i 0) (c k)
      have h4 := R.up (p.getD k 0 - p.getD i 0) (c k) (by omega) (by omega) (by omega)
      split <;> omega
theorem costT_up (R : Rule f) {e N : Nat} (hN : ∀ i x, i < N → x ∈ ar i → 0 ≤ x ∧ x < N) (hp : ∀ k, k < N → 0 ≤ p.getD k 0 ∧ p.getD k 0 ≤ 12) : ∀ s i, i < N → -1 ≤ costT ar p f e s i ∧ costT ar p f e s i ≤ 12 * s
  | 0, i, _ => by rw [costT]; split <;> omega
  | s + 1, i, hi => by
    have := cFold_up (c := costT ar p f e s) R (B := 12 * s) hp hi (hN i · hi) (fun k hk => costT_up R hN hp s k hk) (by omega) (ar i).length (Nat.le_refl _)
    rw [costT]
    omega

/-- Ways go on at their end, too. -/
theorem Walk.snoc {s i j k : Nat} {v : Int} (h : Walk ar p upF s i j v) (hk : (k : Int) ∈ ar j) : Walk ar p upF (s + 1) i k (v + max (p.getD k 0 - p.getD j 0) 0) := by
  induction h with
  | nil s i => 
    have := Walk.cons (f := upF) (p := p) hk (Walk.nil s k)
    unfold upF at this
    rwa [Int.add_comm] at this
  | cons h1 _ ih =>
    have := Walk.cons (f := upF) h1 (ih hk)
    rw [show ∀ a b c : Int, upF a (b + c) = upF a b + c from fun a b c => by unfold upF; omega] at this
    exact this
theorem Walk.last {s i k : Nat} {v : Int} (h : Walk ar p upF (s + 1) i k v) : Walk ar p upF s i k v ∨ ∃ (j : Nat) (u : Int), Walk ar p upF s i j u ∧ (k : Int) ∈ ar j ∧ v = u + max (p.getD k 0 - p.getD j 0) 0 := by
  induction s generalizing i v with
  | zero =>
    rcases h.inv with h | ⟨j, u, hj, hw, rfl⟩
    · exact .inl h
    · obtain ⟨rfl, rfl⟩ := hw.zero
      exact .inr ⟨i, 0, .nil _ _, hj, by unfold upF; omega⟩
  | succ s ih =>
    rcases h.inv with h | ⟨j, u, hj, hw, rfl⟩
    · exact .inl h
    · rcases ih hw with h1 | ⟨x, y, h1, h2, rfl⟩
      · exact .inl (.cons hj h1)
      · exact .inr ⟨x, _, .cons hj h1, h2, by unfold upF; omega⟩
end
end Go.Proofs.YtdhokofcgfolnaaDoor
