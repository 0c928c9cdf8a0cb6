/- What spec.climbs does, as lists: the least climbs from a cell to all. -/
import Derived.Test.YtfndejjaedandaaDoorWayM
namespace Go.Proofs.YtfndejjaedandaaDoor

def climbC (p : List Int) (i k : Nat) : Int := max (p.getD k 0 - p.getD i 0) 0
def relaxL (p : List Int) (x : Int) (i k : Nat) (nx : List Int) : List Int := if nx.getD k 0 < 0 ∨ x + climbC p i k < nx.getD k 0 then nx.set k (x + climbC p i k) else nx
def fanL (p : List Int) (x : Int) (i : Nat) (l nx : List Int) : Nat → List Int
  | 0 => nx
  | t + 1 => relaxL p x i (l.getD t 0).toNat (fanL p x i l nx t)
def sweepL (ar : Nat → List Int) (p out : List Int) : Nat → List Int
  | 0 => out
  | i + 1 => if 0 ≤ out.getD i 0 then fanL p (out.getD i 0) i (ar i) (sweepL ar p out i) (ar i).length else sweepL ar p out i
def climbL (ar : Nat → List Int) (p : List Int) (i N : Nat) : Nat → List Int
  | 0 => (List.replicate N (-1)).set i 0
  | s + 1 => sweepL ar p (climbL ar p i N s) N

/-- A table of least numbers. -/
def LeastT (N : Nat) (P : Nat → Int → Prop) (l : List Int) : Prop := l.length = N ∧ ∀ k, k < N → Least (P k) (l.getD k 0)
theorem LeastT.iff {N : Nat} {P R : Nat → Int → Prop} {l : List Int} (h : LeastT N P l) (e : ∀ k v, k < N → (P k v ↔ R k v)) : LeastT N R l := ⟨h.1, fun k hk => (h.2 k hk).iff fun v => e k v hk⟩
theorem setD {l : List Int} {k : Nat} (x : Int) (hk : k < l.length) (j : Nat) : (l.set k x).getD j 0 = if j = k then x else l.getD j 0 := by
  by_cases h : j = k
  · subst h; rw [if_pos rfl]; simp [hk]
  · rw [if_neg h]
    simp only [List.getD_eq_getElem?_getD]
    rw [List.getElem?_set_ne (fun e => h e.symm)]
theorem relax_least {N : Nat} {P : Nat → Int → Prop} {p nx : List Int} {x : Int} {i K : Nat} (h : LeastT N P nx) (hK : K < N) (hx : 0 ≤ x) : LeastT N (fun k v => P k v ∨ (k = K ∧ v = x + climbC p i K)) (relaxL p x i K nx) := by
  have hc : 0 ≤ x + climbC p i K := by unfold climbC; omega
  have hm := (h.2 K hK).more hc
  have h1 : nx.getD K 0 < 0 ↔ nx.getD K 0 = -1 := by
    rcases h.2 K hK with ⟨e, _⟩ | ⟨e, _⟩ <;> omega
  unfold relaxL
  by_cases hb : nx.getD K 0 < 0 ∨ x + climbC p i K < nx.getD K 0
  · rw [if_pos hb]
    rw [if_pos (by rw [← h1]; exact hb)] at hm
    refine ⟨by simp [h.1], fun k hk => ?_⟩
    rw [setD _ (by rw [h.1]; exact hK)]
    by_cases e : k = K
    · subst e; rw [if_pos rfl]
      exact hm.iff fun v => ⟨fun h => h.imp id fun h => ⟨rfl, h⟩, fun h => h.imp id fun h => h.2⟩
    · rw [if_neg e]
      exact (h.2 k hk).iff fun v => ⟨.inl, fun h => h.elim id fun h => absurd h.1 e⟩
  · rw [if_neg hb]
    rw [if_neg (by rw [← h1]; exact hb)] at hm
    refine ⟨h.1, fun k hk => ?_⟩
    by_cases e : k = K
    · subst e
      exact hm.iff fun v => ⟨fun h => h.imp id fun h => ⟨rfl, h⟩, fun h => h.imp id fun h => h.2⟩
    · exact (h.2 k hk).iff fun v => ⟨.inl, fun h => h.elim id fun h => absurd h.1 e⟩
theorem fan_least {N : Nat} {P : Nat → Int → Prop} {p nx l : List Int} {x : Int} {i : Nat} (h : LeastT N P nx) (hl : ∀ y, y ∈ l → 0 ≤ y ∧ y < N) (hx : 0 ≤ x) :
    ∀ t, t ≤ l.length → LeastT N (fun k v => P k v ∨ ∃ j, j < t ∧ l.getD j 0 = (k : Int) ∧ v = x + climbC p i k) (fanL p x i l nx t)
  | 0, _ => h.iff fun k v _ => ⟨.inl, fun h => h.elim id fun ⟨j, hj, _⟩ => absurd hj (Nat.not_lt_zero _)⟩
  | t + 1, ht => by
    have hm : l.getD t 0 ∈ l := by
      have e1 : l.getD t 0 = l[t] := by simp [show t < l.length by omega]
      rw [e1]; exact List.getElem_mem (by omega)
    have hk := hl _ hm
    rw [fanL]
    refine (relax_least (fan_least h hl hx t (by omega)) (K := (l.getD t 0).toNat) (by omega) hx).iff fun k v _ => ⟨fun hh => ?_, fun hh => ?_⟩
    · rcases hh with (hh | ⟨j, hj, h1, h2⟩) | ⟨h1, h2⟩
      · exact .inl hh
      · exact .inr ⟨j, by omega, h1, h2⟩
      · subst h1
        exact .inr ⟨t, by omega, by omega, h2⟩
    · rcases hh with hh | ⟨j, hj, h1, h2⟩
      · exact .inl (.inl hh)
      · by_cases e : j = t
        · subst e
          exact .inr ⟨by omega, by rw [h1]; simpa using h2⟩
        · exact .inl (.inr ⟨j, by omega, h1, h2⟩)
theorem sweep_least {N : Nat} {P : Nat → Int → Prop} {ar : Nat → List Int} {p out : List Int} (h : LeastT N P out) (hN : ∀ i x, i < N → x ∈ ar i → 0 ≤ x ∧ x < N) :
    ∀ i, i ≤ N → LeastT N (fun k v => P k v ∨ ∃ j, j < i ∧ 0 ≤ out.getD j 0 ∧ (k : Int) ∈ ar j ∧ v = out.getD j 0 + climbC p j k) (sweepL ar p out i)
  | 0, _ => h.iff fun k v _ => ⟨.inl, fun h => h.elim id fun ⟨j, hj, _⟩ => absurd hj (Nat.not_lt_zero _)⟩
  | i + 1, hi => by
    have ih := sweep_least (p := p) h hN i (by omega)
    rw [sweepL]
    by_cases h0 : 0 ≤ out.getD i 0
    · rw [if_pos h0]
      refine (fan_least ih (fun y hy => hN i y (by omega) hy) h0 (ar i).length (Nat.le_refl _)).iff fun k v _ => ⟨fun hh => ?_, fun hh => ?_⟩
      · rcases hh with (hh | ⟨j, hj, h1⟩) | ⟨j, hj, h1, h2⟩
        · exact .inl hh
        · exact .inr ⟨j, by omega, h1⟩
        · refine .inr ⟨i, by omega, h0, ?_, h2⟩
          rw [← h1]
          have e1 : (ar i).getD j 0 = (ar i)[j] := by simp [hj]
          rw [e1]; exact List.getElem_mem hj
      · rcases hh with hh | ⟨j, hj, h1, h2, h3⟩
        · exact .inl (.inl hh)
        · by_cases e : j = i
          · subst e
            obtain ⟨t, ht, et⟩ := List.getElem_of_mem h2
            exact .inr ⟨t, ht, by simp [ht, et], h3⟩
          · exact .inl (.inr ⟨j, by omega, h1, h2, h3⟩)
    · rw [if_neg h0]
      refine ih.iff fun k v _ => ⟨fun hh => hh.imp id fun ⟨j, hj, h1⟩ => ⟨j, by omega, h1⟩, fun hh => hh.imp id fun ⟨j, hj, h1, h2⟩ => ?_⟩
      by_cases e : j = i
      · subst e; exact absurd h1 h0
      · exact ⟨j, by omega, h1, h2⟩
theorem Walk.lt {ar : Nat → List Int} {p : List Int} {f : Int → Int → Int} {N : Nat} (hN : ∀ i x, i < N → x ∈ ar i → 0 ≤ x ∧ x < N) {s i k : Nat} {v : Int} (h : Walk ar p f s i k v) (hi : i < N) : k < N := by
  induction h with
  | nil s i => exact hi
  | cons h1 _ ih => exact ih (by have := hN _ _ hi h1; omega)
theorem climbL_least {N : Nat} {ar : Nat → List Int} {p : List Int} {i : Nat} (hN : ∀ i x, i < N → x ∈ ar i → 0 ≤ x ∧ x < N) (hi : i < N) : ∀ s, LeastT N (fun k v => Walk ar p upF s i k v) (climbL ar p i N s)
  | 0 => by
    refine ⟨by simp [climbL], fun k hk => ?_⟩
    rw [climbL, setD _ (by simp [hi])]
    by_cases e : k = i
    · subst e; rw [if_pos rfl]
      exact .inr ⟨Int.le_refl _, .nil _ _, fun v hv => by rw [(Walk.zero hv).2]; exact Int.le_refl _⟩
    · rw [if_neg e]
      have : (List.replicate N (-1 : Int)).getD k 0 = -1 := by simp [hk]
      rw [this]
      exact .inl ⟨rfl, fun v hv => e (Walk.zero hv).1.symm⟩
  | s + 1 => by
    have ih := climbL_least (p := p) hN hi s
    have h := sweep_least (p := p) ih hN N (Nat.le_refl _)
    rw [climbL]
    refine ⟨h.1, fun k hk => (h.2 k hk).cofinal ?_ ?_⟩
    · rintro v (hv | ⟨j, hj, h1, h2, rfl⟩)
      · exact hv.more
      · rcases ih.2 j hj with ⟨e, _⟩ | ⟨_, hw, _⟩
        · omega
        · exact hw.snoc h2
    · intro v hv
      rcases hv.last with hv | ⟨j, u, hw, hm, rfl⟩
      · exact ⟨v, Int.le_refl _, .inl hv⟩
      · have hj := hw.lt hN hi
        rcases ih.2 j hj with ⟨_, g⟩ | ⟨g1, _, g3⟩
        · exact absurd hw (g _)
        · exact ⟨_, by have := g3 _ hw; unfold climbC; omega, .inr ⟨j, hj, g1, hm, rfl⟩⟩
/-- Both tables tell the same. -/
theorem climb_cost {N : Nat} {ar : Nat → List Int} {p : List Int} {i k s : Nat} (hN : ∀ i x, i < N → x ∈ ar i → 0 ≤ x ∧ x < N) (h0 : ∀ i x, x ∈ ar i → 0 ≤ x) (hi : i < N) (hk : k < N) : (climbL ar p i N s).getD k 0 = costT ar p upF k s i :=
  ((climbL_least hN hi s).2 k hk).uniq (costT_least upF_rule h0 k s i)
theorem climbL_len {N : Nat} {ar : Nat → List Int} {p : List Int} {i s : Nat} (hN : ∀ i x, i < N → x ∈ ar i → 0 ≤ x ∧ x < N) (hi : i < N) : (climbL ar p i N s).length = N := (climbL_least hN hi s).1
theorem relaxL_len {p nx : List Int} {x : Int} {i k : Nat} : (relaxL p x i k nx).length = nx.length := by
  unfold relaxL; split <;> simp
theorem fanL_len {p nx l : List Int} {x : Int} {i : Nat} : ∀ t, (fanL p x i l nx t).length = nx.length
  | 0 => rfl
  | t + 1 => by rw [fanL, relaxL_len, fanL_len t]
theorem sweepL_len {ar : Nat → List Int} {p out : List Int} : ∀ i, (sweepL ar p out i).length = out.length
  | 0 => rfl
  | i + 1 => by
    rw [sweepL]
    split
    · rw [fanL_len, sweepL_len i]
    · exact sweepL_len i
end Go.Proofs.YtfndejjaedandaaDoor
