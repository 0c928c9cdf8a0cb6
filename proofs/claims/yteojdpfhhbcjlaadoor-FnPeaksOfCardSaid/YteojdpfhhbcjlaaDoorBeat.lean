/- Flats that are beaten by a cell beside one of theirs, as lists. -/
import Derived.Test.YteojdpfhhbcjlaaDoorFirsts
import Derived.Test.YteojdpfhhbcjlaaDoorWater
namespace Go.Proofs.YteojdpfhhbcjlaaDoor
open Go.RowKit

/-- bs tells which first cells (fs) have, among the cells before i and the first t beside i, one that beats (ov). -/
structure Beat (n m : Nat) (p fs : List Int) (ov : Int → Int → Bool) (i t : Nat) (bs : List Bool) : Prop where
  len : bs.length = n * m
  iff : ∀ c, c < n * m → (bs.getD c false = true ↔ ∃ x s k : Nat, (x < i ∨ x = i ∧ s < t) ∧ x < n * m ∧ s < (aroundL n m x).length ∧ (aroundL n m x).getD s 0 = k ∧ ov (p.getD k 0) (p.getD x 0) = true ∧ fs.getD x 0 = c)
theorem beat_start (n m : Nat) (p fs : List Int) (ov : Int → Int → Bool) : Beat n m p fs ov 0 0 (List.replicate (n * m) false) := by
  refine ⟨by simp, fun c hc => ?_⟩
  constructor
  · intro h; simp [hc] at h
  · rintro ⟨x, s, k, h, _⟩; omega
theorem Beat.next {n m i t : Nat} {p fs : List Int} {ov : Int → Int → Bool} {bs : List Bool} (B : Beat n m p fs ov i t bs) (ht : t = (aroundL n m i).length) : Beat n m p fs ov (i + 1) 0 bs := by
  refine ⟨B.len, fun c hc => (B.iff c hc).trans ?_⟩
  constructor
  · rintro ⟨x, s, k, h, r⟩; exact ⟨x, s, k, .inl (by omega), r⟩
  · rintro ⟨x, s, k, h, r1, r2, r⟩
    refine ⟨x, s, k, ?_, r1, r2, r⟩
    by_cases e : x = i
    · subst e; exact .inr ⟨rfl, by omega⟩
    · exact .inl (by omega)
theorem Beat.skip {n m i t K : Nat} {p fs : List Int} {ov : Int → Int → Bool} {bs : List Bool} (B : Beat n m p fs ov i t bs) (hK : (aroundL n m i).getD t 0 = K) (h : ov (p.getD K 0) (p.getD i 0) = false) : Beat n m p fs ov i (t + 1) bs := by
  refine ⟨B.len, fun c hc => (B.iff c hc).trans ?_⟩
  constructor
  · rintro ⟨x, s, k, h, r⟩; exact ⟨x, s, k, by omega, r⟩
  · rintro ⟨x, s, k, h2, r1, r2, r3, r4, r5⟩
    refine ⟨x, s, k, ?_, r1, r2, r3, r4, r5⟩
    rcases h2 with h2 | ⟨rfl, h2⟩
    · exact .inl h2
    · by_cases e : s = t
      · subst e
        have : k = K := by omega
        subst this
        rw [h] at r4; cases r4
      · exact .inr ⟨rfl, by omega⟩
theorem Beat.hit {n m i t K C : Nat} {p fs : List Int} {ov : Int → Int → Bool} {bs : List Bool} (B : Beat n m p fs ov i t bs) (hi : i < n * m) (ht : t < (aroundL n m i).length) (hK : (aroundL n m i).getD t 0 = K) (h : ov (p.getD K 0) (p.getD i 0) = true) (hC : fs.getD i 0 = C) (hCN : C < n * m) :
    Beat n m p fs ov i (t + 1) (bs.set C true) := by
  have hl := B.len
  refine ⟨by simp [hl], fun c hc => ?_⟩
  rw [getD_setB _ _ _ _ (by omega)]
  by_cases e : c = C
  · rw [if_pos e]
    subst e
    exact ⟨fun _ => ⟨i, t, K, .inr ⟨rfl, by omega⟩, hi, ht, hK, h, hC⟩, fun _ => rfl⟩
  · rw [if_neg e]
    refine (B.iff c hc).trans ?_
    constructor
    · rintro ⟨x, s, k, h, r⟩; exact ⟨x, s, k, by omega, r⟩
    · rintro ⟨x, s, k, h2, r1, r2, r3, r4, r5⟩
      refine ⟨x, s, k, ?_, r1, r2, r3, r4, r5⟩
      rcases h2 with h2 | ⟨rfl, h2⟩
      · exact .inl h2
      · by_cases e2 : s = t
        · subst e2; omega
        · exact .inr ⟨rfl, by omega⟩
theorem Beat.uniq {n m i t : Nat} {p fs : List Int} {ov : Int → Int → Bool} {bs cs : List Bool} (B : Beat n m p fs ov i t bs) (C : Beat n m p fs ov i t cs) : bs = cs := by
  apply List.ext_getElem
  · rw [B.len, C.len]
  · intro c h1 h2
    have hc : c < n * m := by rw [← B.len]; exact h1
    have h3 := B.iff c hc
    have h4 := C.iff c hc
    have e1 : bs.getD c false = bs[c] := by simp [h1]
    have e2 : cs.getD c false = cs[c] := by simp [h2]
    rw [← e1, ← e2, Bool.eq_iff_iff, h3, h4]

/-- The first cells that are not beaten. -/
def keptL (fs : List Int) (bs : List Bool) (k : Nat) : List Int := ((List.range k).filter fun i => decide (fs.getD i 0 = (i : Int)) && !bs.getD i false).map fun (i : Nat) => (i : Int)
theorem keptL_yes {fs : List Int} {bs : List Bool} {k : Nat} (h1 : fs.getD k 0 = k) (h2 : bs.getD k false = false) : keptL fs bs (k + 1) = keptL fs bs k ++ [(k : Int)] := by
  unfold keptL
  rw [List.range_succ, List.filter_append, List.map_append]
  simp only [List.filter_cons, List.filter_nil, h1, h2]
  simp
theorem keptL_no {fs : List Int} {bs : List Bool} {k : Nat} (h : fs.getD k 0 ≠ k ∨ bs.getD k false = true) : keptL fs bs (k + 1) = keptL fs bs k := by
  unfold keptL
  rw [List.range_succ, List.filter_append, List.map_append]
  rcases h with h | h
  · simp only [List.filter_cons, List.filter_nil, decide_eq_false h]; simp
  · simp only [List.filter_cons, List.filter_nil, h]; simp
theorem keptL_le (fs : List Int) (bs : List Bool) (k : Nat) : (keptL fs bs k).length ≤ k := by
  unfold keptL
  rw [List.length_map]
  exact Nat.le_trans (List.length_filter_le _ _) (by simp)
theorem mem_keptL {fs : List Int} {bs : List Bool} {k : Nat} {y : Int} : y ∈ keptL fs bs k ↔ ∃ i : Nat, y = i ∧ i < k ∧ fs.getD i 0 = i ∧ bs.getD i false = false := by
  unfold keptL
  simp only [List.mem_map, List.mem_filter, List.mem_range, Bool.and_eq_true, decide_eq_true_eq, Bool.not_eq_true']
  constructor
  · rintro ⟨i, ⟨h1, h2, h3⟩, rfl⟩; exact ⟨i, rfl, h1, h2, h3⟩
  · rintro ⟨i, rfl, h1, h2, h3⟩; exact ⟨i, ⟨h1, h2, h3⟩, rfl⟩

/-- The first cells of the flats that nothing beside beats. -/
noncomputable def endsL (ov : Int → Int → Bool) (h : List (List Int)) : List Int :=
  if vGrid h then keptL (flatsL h.length (h.getD 0 []).length (sameH h.flatten)) (pickL (Beat h.length (h.getD 0 []).length h.flatten (flatsL h.length (h.getD 0 []).length (sameH h.flatten)) ov (h.length * (h.getD 0 []).length) 0)) (h.length * (h.getD 0 []).length) else []
theorem endsL_no {ov : Int → Int → Bool} {h : List (List Int)} (hg : vGrid h = false) : endsL ov h = [] := by unfold endsL; rw [hg]; rfl
theorem endsL_yes {ov : Int → Int → Bool} {h : List (List Int)} {n m N : Nat} {p fs : List Int} {bs : List Bool} (hg : vGrid h = true) (en : h.length = n) (em : (h.getD 0 []).length = m) (ep : h.flatten = p) (eN : n * m = N)
    (F : Flats n m (sameH p) fs) (B : Beat n m p fs ov N 0 bs) : endsL ov h = keptL fs bs N := by
  have G := Grid.of hg
  subst eN
  unfold endsL
  rw [if_pos hg, en, em, ep, F.eq (by rw [← en]; exact G.n5) (by rw [← em]; exact G.m5), pickL_eq B fun _ C => C.uniq B]
theorem endsL_le (ov : Int → Int → Bool) (h : List (List Int)) : (endsL ov h).length ≤ 1000000 := by
  unfold endsL
  by_cases hg : vGrid h = true
  · rw [if_pos hg]
    have G := Grid.of hg
    exact Nat.le_trans (keptL_le _ _ _) (Nat.le_trans (Nat.mul_le_mul G.n5 G.m5) (by decide))
  · rw [if_neg hg]; simp
end Go.Proofs.YteojdpfhhbcjlaaDoor
