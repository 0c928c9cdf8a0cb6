/- Moves of earth from one row to another one, as lists. -/
import Derived.Test.YtlifjhhjkcmneaaRiseM
namespace Go.Proofs.Ytlifjhhjkcmneaa

/-- The steps that a surplus s of n places costs. -/
def earthT (s : Nat → Int) (n : Nat) : Int := sumTo (fun k => iab (sumTo s k)) n
theorem iab_neg (x : Int) : iab (-x) = iab x := by unfold iab; omega
theorem iab_add (x y : Int) : iab (x + y) ≤ iab x + iab y := by unfold iab; omega
theorem sumTo_neg (s : Nat → Int) : ∀ k, sumTo (fun i => - s i) k = - sumTo s k
  | 0 => rfl
  | k + 1 => by rw [sumTo, sumTo, sumTo_neg s k]; omega
theorem earthT_ends (s : Nat → Int) (n : Nat) (h : sumTo s n = 0) : sumTo (fun k => iab (sumTo s (k + 1))) n = earthT s n := by
  have h1 := sumTo_first (fun k => iab (sumTo s k)) n
  have h2 : sumTo (fun k => iab (sumTo s k)) (n + 1) = sumTo (fun k => iab (sumTo s k)) n + iab (sumTo s n) := rfl
  have h3 : iab (sumTo s 0) = 0 := rfl
  have h4 : iab (sumTo s n) = 0 := by rw [h]; rfl
  unfold earthT
  rw [h2, h4, h3] at h1
  omega
theorem earthT_neg (s : Nat → Int) (n : Nat) : earthT (fun i => - s i) n = earthT s n :=
  sumTo_congr fun i _ => by rw [sumTo_neg, iab_neg]
theorem earthT_congr {s r : Nat → Int} {n : Nat} (h : ∀ i, i < n → s i = r i) : earthT s n = earthT r n :=
  sumTo_congr fun i hi => by rw [sumTo_congr fun k hk => h k (by omega)]
theorem earthT_add (s r : Nat → Int) (n : Nat) : earthT (fun i => s i + r i) n ≤ earthT s n + earthT r n := by
  unfold earthT
  rw [← sumTo_add]
  exact sumTo_le fun i _ => by rw [sumTo_add]; exact iab_add _ _
theorem earthT_nonneg (s : Nat → Int) (n : Nat) : 0 ≤ earthT s n := sumTo_nonneg fun _ _ => iab_nonneg _
theorem earthT_zero {s : Nat → Int} {n : Nat} (h0 : sumTo s n = 0) : earthT s n = 0 ↔ ∀ i, i < n → s i = 0 := by
  constructor
  · intro h i hi
    have hz := sumTo_eq_zero (fun i _ => iab_nonneg _) h
    have h1 := iab_zero (hz i hi)
    have h2 : sumTo s (i + 1) = 0 := by
      by_cases e : i + 1 = n
      · rw [e]; exact h0
      · exact iab_zero (hz (i + 1) (by omega))
    rw [sumTo] at h2
    omega
  · intro h
    rw [earthT_congr (r := fun _ => 0) h]
    unfold earthT
    rw [sumTo_congr (g := fun _ => 0) fun i _ => by rw [sumTo_zero]; rfl]
    exact sumTo_zero n

/-- The first place of which P holds, n if there is none. -/
def firstOf (P : Nat → Bool) : Nat → Nat → Nat
  | _, 0 => 0
  | a, d + 1 => if P a = true then 0 else firstOf P (a + 1) d + 1
def posAt (s : List Int) : Nat := s.findIdx fun x => decide (0 < x)
def negAt (s : List Int) : Nat := s.findIdx fun x => decide (x < 0)
theorem posAt_is {s : List Int} (h : posAt s < s.length) : 0 < s.getD (posAt s) 0 ∧ ∀ i, i < posAt s → s.getD i 0 ≤ 0 := by
  unfold posAt at h ⊢
  constructor
  · have := List.findIdx_getElem (w := h)
    simp only [decide_eq_true_eq] at this
    simpa [h] using this
  · intro i hi
    have := List.not_of_lt_findIdx hi
    simp only [Bool.eq_false_iff, ne_eq, decide_eq_true_eq] at this
    have hl : i < s.length := by omega
    simp [hl]
    omega
theorem negAt_is {s : List Int} (h : negAt s < s.length) : s.getD (negAt s) 0 < 0 ∧ ∀ i, i < negAt s → 0 ≤ s.getD i 0 := by
  unfold negAt at h ⊢
  constructor
  · have := List.findIdx_getElem (w := h)
    simp only [decide_eq_true_eq] at this
    simpa [h] using this
  · intro i hi
    have := List.not_of_lt_findIdx hi
    simp only [Bool.eq_false_iff, ne_eq, decide_eq_true_eq] at this
    have hl : i < s.length := by omega
    simp [hl]
    omega
theorem posAt_le (s : List Int) : posAt s ≤ s.length := List.findIdx_le_length
theorem negAt_le (s : List Int) : negAt s ≤ s.length := List.findIdx_le_length
theorem posAt_none {s : List Int} (h : posAt s = s.length) (i : Nat) (hi : i < s.length) : s.getD i 0 ≤ 0 := by
  unfold posAt at h
  have := List.not_of_lt_findIdx (p := fun x => decide (0 < x)) (xs := s) (i := i) (by omega)
  simp only [Bool.eq_false_iff, ne_eq, decide_eq_true_eq] at this
  simp [hi]; omega
theorem negAt_none {s : List Int} (h : negAt s = s.length) (i : Nat) (hi : i < s.length) : 0 ≤ s.getD i 0 := by
  unfold negAt at h
  have := List.not_of_lt_findIdx (p := fun x => decide (x < 0)) (xs := s) (i := i) (by omega)
  simp only [Bool.eq_false_iff, ne_eq, decide_eq_true_eq] at this
  simp [hi]; omega
/-- How much the next move moves. -/
def moveN (s : List Int) : Int := min (s.getD (posAt s) 0) (- s.getD (negAt s) 0)
/-- What is left behind it. -/
def moved (s : List Int) : List Int := (s.set (posAt s) (s.getD (posAt s) 0 - moveN s)).set (negAt s) (s.getD (negAt s) 0 + moveN s)
def movesL : Nat → List Int → List (List Int)
  | 0, _ => []
  | f + 1, s => if posAt s < s.length then [(posAt s : Int), (negAt s : Int), moveN s] :: movesL f (moved s) else []
def nz (s : List Int) : Nat := s.countP fun x => decide (x ≠ 0)
def at0 (s : List Int) (i : Nat) : Int := s.getD i 0
/-- A surplus: all together nothing. -/
structure Sur (s : List Int) : Prop where
  zero : sumTo (at0 s) s.length = 0
  bd : ∀ i, i < s.length → -12 ≤ at0 s i ∧ at0 s i ≤ 12

theorem getD_setS (s : List Int) (j : Nat) (x : Int) (hj : j < s.length) (i : Nat) : (s.set j x).getD i 0 = if i = j then x else s.getD i 0 := by
  by_cases h : i = j
  · subst h; simp [hj]
  · rw [if_neg h]
    simp [Ne.symm h]
theorem nonpos_zero {f : Nat → Int} {n : Nat} (h : ∀ i, i < n → f i ≤ 0) (e : sumTo f n = 0) : ∀ i, i < n → f i = 0 := by
  intro i hi
  have := sumTo_eq_zero (f := fun i => - f i) (k := n) (fun i hi => by have := h i hi; omega) (by rw [sumTo_neg]; omega) i hi
  omega
/-- Where something is too much something is too little. -/
theorem Sur.neg {s : List Int} (h : Sur s) (hp : posAt s < s.length) : negAt s < s.length := by
  by_cases hn : negAt s = s.length
  · have h1 := sumTo_eq_zero (fun i hi => negAt_none hn i hi) h.zero _ hp
    have := (posAt_is hp).1
    rw [h1] at this
    exact absurd this (by decide)
  · have := negAt_le s; omega
theorem Sur.done {s : List Int} (h : Sur s) (hp : ¬ posAt s < s.length) : ∀ i, i < s.length → at0 s i = 0 :=
  nonpos_zero (fun i hi => posAt_none (by have := posAt_le s; omega) i hi) h.zero
theorem moveN_bd {s : List Int} (h : Sur s) (hp : posAt s < s.length) : 1 ≤ moveN s ∧ moveN s ≤ 12 ∧ moveN s ≤ at0 s (posAt s) ∧ moveN s ≤ - at0 s (negAt s) := by
  have h1 := (posAt_is hp).1
  have h2 := (negAt_is (h.neg hp)).1
  have h3 := h.bd _ hp
  simp only [moveN, at0] at h3 ⊢
  omega
theorem moved_len (s : List Int) : (moved s).length = s.length := by simp [moved]
theorem moved_at {s : List Int} (h : Sur s) (hp : posAt s < s.length) (i : Nat) : at0 (moved s) i = at0 s i + ((if i = negAt s then moveN s else 0) - (if i = posAt s then moveN s else 0)) := by
  have hn := h.neg hp
  have h1 := (posAt_is hp).1
  have h2 := (negAt_is hn).1
  have hne : posAt s ≠ negAt s := fun e => by rw [e] at h1; omega
  simp only [at0, moved]
  rw [getD_setS _ _ _ (by simpa using hn), getD_setS _ _ _ hp]
  by_cases e1 : i = negAt s
  · have e2 : i ≠ posAt s := fun e => hne (by omega)
    rw [if_pos e1, if_pos e1, if_neg e2, e1]; omega
  · rw [if_neg e1, if_neg e1]
    by_cases e2 : i = posAt s
    · rw [if_pos e2, if_pos e2, e2]; omega
    · rw [if_neg e2, if_neg e2]; omega
theorem sumTo_one (c : Int) (j : Nat) : ∀ k, sumTo (fun i => if i = j then c else 0) k = if j < k then c else 0
  | 0 => rfl
  | k + 1 => by
    rw [sumTo, sumTo_one c j k]
    by_cases e : k = j
    · subst e; rw [if_neg (Nat.lt_irrefl k), if_pos rfl, if_pos (Nat.lt_succ_self k)]; omega
    · rw [if_neg e]
      by_cases h : j < k
      · rw [if_pos h, if_pos (by omega)]; omega
      · rw [if_neg h, if_neg (by omega)]; rfl
theorem moved_pre {s : List Int} (h : Sur s) (hp : posAt s < s.length) (k : Nat) : sumTo (at0 (moved s)) k = sumTo (at0 s) k + ((if negAt s < k then moveN s else 0) - (if posAt s < k then moveN s else 0)) := by
  rw [sumTo_congr (g := fun i => at0 s i + ((if i = negAt s then moveN s else 0) - (if i = posAt s then moveN s else 0))) fun i _ => moved_at h hp i, sumTo_add, sumTo_sub, sumTo_one, sumTo_one]
theorem Sur.moved {s : List Int} (h : Sur s) (hp : posAt s < s.length) : Sur (moved s) := by
  have hn := h.neg hp
  refine ⟨?_, fun i hi => ?_⟩
  · rw [moved_len, moved_pre h hp, h.zero, if_pos hn, if_pos hp]; omega
  · rw [moved_len] at hi
    have h1 := (posAt_is hp).1
    have h2 := (negAt_is hn).1
    obtain ⟨b1, b2, b3, b4⟩ := moveN_bd h hp
    have h3 := h.bd i hi
    rw [moved_at h hp]
    by_cases e1 : i = negAt s
    · have e2 : i ≠ posAt s := fun e => by rw [← e1] at h2; rw [← e] at h1; omega
      rw [if_pos e1, if_neg e2]
      rw [← e1] at b4; omega
    · rw [if_neg e1]
      by_cases e2 : i = posAt s
      · rw [if_pos e2]; rw [← e2] at b3; omega
      · rw [if_neg e2]; omega
theorem nz_set (s : List Int) (j : Nat) (x : Int) (hj : j < s.length) (h0 : s.getD j 0 ≠ 0) : nz (s.set j x) + (if x = 0 then 1 else 0) = nz s := by
  unfold nz
  rw [List.countP_set hj]
  have h0' : s[j] ≠ 0 := by
    simp only [List.getD_eq_getElem?_getD, List.getElem?_eq_getElem hj, Option.getD_some] at h0
    exact h0
  have hc : 0 < s.countP fun x => decide (x ≠ 0) := List.countP_pos_iff.2 ⟨s[j], List.getElem_mem hj, by simpa using h0'⟩
  have e0 : decide (s[j] ≠ 0) = true := by simpa using h0'
  rw [if_pos e0]
  by_cases e : x = 0
  · rw [if_pos e, if_neg (by simpa using e)]; omega
  · rw [if_neg e, if_pos (by simpa using e)]; omega
theorem nz_moved {s : List Int} (h : Sur s) (hp : posAt s < s.length) : nz (moved s) + 1 ≤ nz s := by
  have hn := h.neg hp
  have h1 := (posAt_is hp).1
  have h2 := (negAt_is hn).1
  have hne : negAt s ≠ posAt s := fun e => by rw [e] at h2; omega
  have e1 := nz_set s (posAt s) (s.getD (posAt s) 0 - moveN s) hp (by omega)
  have e2 := nz_set (s.set (posAt s) (s.getD (posAt s) 0 - moveN s)) (negAt s) (s.getD (negAt s) 0 + moveN s) (by simpa using hn) (by rw [getD_setS _ _ _ hp, if_neg hne]; omega)
  have : s.getD (posAt s) 0 - moveN s = 0 ∨ s.getD (negAt s) 0 + moveN s = 0 := by simp only [moveN]; omega
  show nz ((s.set (posAt s) (s.getD (posAt s) 0 - moveN s)).set (negAt s) (s.getD (negAt s) 0 + moveN s)) + 1 ≤ nz s
  rcases this with h | h
  · rw [if_pos h] at e1; split at e2 <;> omega
  · rw [if_pos h] at e2; split at e1 <;> omega
theorem nz_pos {s : List Int} (hp : posAt s < s.length) : 1 ≤ nz s :=
  List.countP_pos_iff.2 ⟨s[posAt s], List.getElem_mem hp, by
    have := (posAt_is hp).1
    simp only [decide_eq_true_eq]
    simp only [List.getD_eq_getElem?_getD, List.getElem?_eq_getElem hp, Option.getD_some] at this
    omega⟩
theorem nz_le (s : List Int) : nz s ≤ s.length := List.countP_le_length
theorem movesL_none (f : Nat) {s : List Int} (hp : ¬ posAt s < s.length) : movesL f s = [] := by
  cases f with
  | zero => rfl
  | succ f => rw [movesL, if_neg hp]
theorem movesL_one {f : Nat} {s : List Int} (hf : 1 ≤ f) (hp : posAt s < s.length) : movesL f s = [(posAt s : Int), (negAt s : Int), moveN s] :: movesL (f - 1) (moved s) := by
  obtain ⟨f, rfl⟩ : ∃ g, f = g + 1 := ⟨f - 1, by omega⟩
  rw [movesL, if_pos hp]; rfl
/-- What is so far moved: ms, and left: s, of what there was first: s0. -/
structure MovesTo (s0 s : List Int) (ms : List (List Int)) : Prop where
  sur : Sur s
  len : s.length = s0.length
  n9 : s0.length ≤ 9
  nz : nz s + ms.length ≤ s0.length
  eq : movesL 9 s0 = ms ++ movesL (9 - ms.length) s
theorem MovesTo.start {s0 : List Int} (h : Sur s0) (h9 : s0.length ≤ 9) : MovesTo s0 s0 [] := ⟨h, rfl, h9, by have := nz_le s0; simpa using this, rfl⟩
theorem MovesTo.step {s0 s : List Int} {ms : List (List Int)} (h : MovesTo s0 s ms) (hp : posAt s < s.length) : MovesTo s0 (moved s) (ms ++ [[(posAt s : Int), (negAt s : Int), moveN s]]) := by
  have h1 := nz_moved h.sur hp
  have h2 := h.nz
  have h3 := h.n9
  refine ⟨h.sur.moved hp, by rw [moved_len, h.len], h.n9, by simp; omega, ?_⟩
  rw [h.eq, movesL_one (by omega) hp, List.append_assoc, List.length_append, ← Nat.sub_sub]
  rfl
theorem MovesTo.ends {s0 s : List Int} {ms : List (List Int)} (h : MovesTo s0 s ms) (hp : ¬ posAt s < s.length) : ms = movesL 9 s0 := by
  rw [h.eq, movesL_none _ hp, List.append_nil]

/-- What one row of moves costs. -/
def moveCost (r : List Int) : Int := r.getD 2 0 * iab (r.getD 1 0 - r.getD 0 0)
theorem pre_between {s : List Int} (h : Sur s) (hp : posAt s < s.length) (k : Nat) : (posAt s < k → k ≤ negAt s → moveN s ≤ sumTo (at0 s) k) ∧ (negAt s < k → k ≤ posAt s → sumTo (at0 s) k ≤ - moveN s) := by
  obtain ⟨_, _, b3, b4⟩ := moveN_bd h hp
  have hneg := (negAt_is (h.neg hp)).2
  have hpos := (posAt_is hp).2
  constructor
  · intro h1 h2
    have : sumTo (fun i => if i = posAt s then moveN s else 0) k ≤ sumTo (at0 s) k := sumTo_le fun i hi => by
      have := hneg i (by omega)
      by_cases e : i = posAt s
      · rw [if_pos e, e]; exact b3
      · rw [if_neg e]; exact this
    rw [sumTo_one, if_pos h1] at this
    exact this
  · intro h1 h2
    have : sumTo (at0 s) k ≤ sumTo (fun i => if i = negAt s then - moveN s else 0) k := sumTo_le fun i hi => by
      have := hpos i (by omega)
      by_cases e : i = negAt s
      · rw [if_pos e, e]; omega
      · rw [if_neg e]; exact this
    rw [sumTo_one, if_pos h1] at this
    exact this
theorem sumTo_upto (c : Int) (b : Nat) : ∀ n, sumTo (fun k => if k ≤ b then c else 0) n = if n ≤ b then c * n else c * ((b : Int) + 1)
  | 0 => by simp [sumTo]
  | n + 1 => by
    rw [sumTo, sumTo_upto c b n]
    have e1 : c * ((n + 1 : Nat) : Int) = c * n + c := by rw [Int.natCast_succ, Int.mul_add, Int.mul_one]
    by_cases h : n ≤ b
    · rw [if_pos h, if_pos h]
      by_cases h2 : n + 1 ≤ b
      · rw [if_pos h2, e1]
      · rw [if_neg h2, show b = n by omega, Int.mul_add, Int.mul_one]
    · rw [if_neg h, if_neg h, if_neg (by omega)]; omega
theorem sumTo_between (c : Int) (a b n : Nat) (hab : a ≤ b) (hb : b < n) : sumTo (fun k => if a < k ∧ k ≤ b then c else 0) n = c * ((b : Int) - a) := by
  rw [sumTo_congr (g := fun k => (if k ≤ b then c else 0) - (if k ≤ a then c else 0)) fun k _ => ?_, sumTo_sub, sumTo_upto, sumTo_upto, if_neg (by omega), if_neg (by omega), ← Int.mul_sub]
  · congr 1; omega
  · by_cases h1 : k ≤ b
    · rw [if_pos h1]
      by_cases h2 : k ≤ a
      · rw [if_pos h2, if_neg (by omega)]; omega
      · rw [if_neg h2, if_pos ⟨by omega, h1⟩]; omega
    · rw [if_neg h1, if_neg (by omega), if_neg (by omega)]; omega
/-- A move makes what is left so much cheaper. -/
theorem earthT_moved {s : List Int} (h : Sur s) (hp : posAt s < s.length) : moveCost [(posAt s : Int), (negAt s : Int), moveN s] + earthT (at0 (moved s)) s.length = earthT (at0 s) s.length := by
  have hn := h.neg hp
  have h1 := (posAt_is hp).1
  have h2 := (negAt_is hn).1
  have hne : posAt s ≠ negAt s := fun e => by rw [e] at h1; omega
  obtain ⟨b1, _, _, _⟩ := moveN_bd h hp
  show moveN s * iab ((negAt s : Int) - posAt s) + _ = _
  unfold earthT
  by_cases hlt : posAt s < negAt s
  · rw [show iab ((negAt s : Int) - posAt s) = (negAt s : Int) - posAt s by unfold iab; omega, ← sumTo_between (moveN s) (posAt s) (negAt s) s.length (by omega) hn, ← sumTo_add]
    refine sumTo_congr fun k _ => ?_
    rw [moved_pre h hp]
    have := (pre_between h hp k).1
    by_cases c1 : posAt s < k
    · by_cases c2 : k ≤ negAt s
      · have := this c1 c2
        rw [if_pos ⟨c1, c2⟩, if_neg (by omega), if_pos c1]; unfold iab; omega
      · rw [if_neg (by omega), if_pos (by omega), if_pos c1]; unfold iab; omega
    · rw [if_neg (by omega), if_neg (by omega), if_neg c1]; unfold iab; omega
  · rw [show iab ((negAt s : Int) - posAt s) = (posAt s : Int) - negAt s by unfold iab; omega, ← sumTo_between (moveN s) (negAt s) (posAt s) s.length (by omega) hp, ← sumTo_add]
    refine sumTo_congr fun k _ => ?_
    rw [moved_pre h hp]
    have := (pre_between h hp k).2
    by_cases c1 : negAt s < k
    · by_cases c2 : k ≤ posAt s
      · have := this c1 c2
        rw [if_pos ⟨c1, c2⟩, if_pos (by omega), if_neg (by omega)]; unfold iab; omega
      · rw [if_neg (by omega), if_pos (by omega), if_pos (by omega)]; unfold iab; omega
    · rw [if_neg (by omega), if_neg c1, if_neg (by omega)]; unfold iab; omega
theorem moves_cost : ∀ (f : Nat) {s : List Int}, Sur s → nz s ≤ f → ((movesL f s).map moveCost).sum = earthT (at0 s) s.length
  | 0, s, h, hf => by
    have hp : ¬ posAt s < s.length := fun hp => by have := nz_pos hp; omega
    rw [((earthT_zero h.zero).2 (h.done hp))]
    rfl
  | f + 1, s, h, hf => by
    by_cases hp : posAt s < s.length
    · have h1 := nz_moved h hp
      rw [movesL, if_pos hp, List.map_cons, List.sum_cons, moves_cost f (h.moved hp) (by omega), moved_len]
      exact earthT_moved h hp
    · rw [movesL, if_neg hp, (earthT_zero h.zero).2 (h.done hp)]
      rfl
/-- A row of moves is right for n places. -/
def MoveOk (n : Nat) (r : List Int) : Prop := ∃ (a b : Nat) (e : Int), r = [(a : Int), (b : Int), e] ∧ a < n ∧ b < n ∧ a ≠ b ∧ 1 ≤ e ∧ e ≤ 12
theorem moves_ok : ∀ (f : Nat) {s : List Int}, Sur s → ∀ r, r ∈ movesL f s → MoveOk s.length r
  | 0, _, _, _, hr => by simp [movesL] at hr
  | f + 1, s, h, r, hr => by
    by_cases hp : posAt s < s.length
    · rw [movesL, if_pos hp] at hr
      have hn := h.neg hp
      have h1 := (posAt_is hp).1
      have h2 := (negAt_is hn).1
      obtain ⟨b1, b2, _, _⟩ := moveN_bd h hp
      rcases List.mem_cons.1 hr with rfl | hr
      · exact ⟨_, _, _, rfl, hp, hn, fun e => by rw [e] at h1; omega, b1, b2⟩
      · have := moves_ok f (h.moved hp) r hr
        rwa [moved_len] at this
    · rw [movesL, if_neg hp] at hr
      simp at hr
/-- A move done. -/
def doMove (now : List Int) (r : List Int) : List Int :=
  let x := now.set (r.getD 0 0).toNat (now.getD (r.getD 0 0).toNat 0 - r.getD 2 0)
  x.set (r.getD 1 0).toNat (x.getD (r.getD 1 0).toNat 0 + r.getD 2 0)
theorem doMove_len (now r : List Int) : (doMove now r).length = now.length := by simp [doMove]
theorem doMove_at {s now : List Int} (h : Sur s) (hp : posAt s < s.length) (hl : now.length = s.length) (i : Nat) :
    at0 (doMove now [(posAt s : Int), (negAt s : Int), moveN s]) i = at0 now i + ((if i = negAt s then moveN s else 0) - (if i = posAt s then moveN s else 0)) := by
  have hn := h.neg hp
  have h1 := (posAt_is hp).1
  have h2 := (negAt_is hn).1
  have hne : posAt s ≠ negAt s := fun e => by rw [e] at h1; omega
  show ((now.set (posAt s) (now.getD (posAt s) 0 - moveN s)).set (negAt s) ((now.set (posAt s) (now.getD (posAt s) 0 - moveN s)).getD (negAt s) 0 + moveN s)).getD i 0 = _
  simp only [at0]
  rw [getD_setS _ _ _ (by simpa [hl] using hn), getD_setS _ _ _ (by omega), getD_setS _ _ _ (by omega)]
  by_cases e1 : i = negAt s
  · have e2 : i ≠ posAt s := fun e => hne (by omega)
    rw [if_pos e1, if_pos e1, if_neg e2, if_neg (Ne.symm hne), e1]; omega
  · rw [if_neg e1, if_neg e1]
    by_cases e2 : i = posAt s
    · rw [if_pos e2, if_pos e2, e2]; omega
    · rw [if_neg e2, if_neg e2]; omega
theorem moves_make : ∀ (f : Nat) {s now q : List Int}, Sur s → nz s ≤ f → now.length = s.length → q.length = s.length → (∀ i, i < s.length → at0 s i = at0 now i - at0 q i) → (movesL f s).foldl doMove now = q
  | 0, s, now, q, h, hf, hl, hq, hd => by
    have hp : ¬ posAt s < s.length := fun hp => by have := nz_pos hp; omega
    have hz := h.done hp
    refine List.ext_getElem (by show now.length = _; omega) fun i h1 h2 => ?_
    show now[i] = _
    have e1 := hz i (by omega)
    have e2 := hd i (by omega)
    simp only [at0, List.getD_eq_getElem?_getD, List.getElem?_eq_getElem h2, List.getElem?_eq_getElem (show i < now.length from h1), Option.getD_some] at e1 e2
    omega
  | f + 1, s, now, q, h, hf, hl, hq, hd => by
    by_cases hp : posAt s < s.length
    · have h1 := nz_moved h hp
      rw [movesL, if_pos hp, List.foldl_cons]
      refine moves_make f (h.moved hp) (by omega) (by rw [doMove_len, moved_len, hl]) (by rw [moved_len, hq]) fun i hi => ?_
      rw [moved_len] at hi
      rw [moved_at h hp, doMove_at h hp hl, hd i hi]
      omega
    · rw [movesL, if_neg hp]
      have hz := h.done hp
      refine List.ext_getElem (by show now.length = _; omega) fun i h1 h2 => ?_
      show now[i] = _
      have e1 := hz i (by omega)
      have e2 := hd i (by omega)
      simp only [at0, List.getD_eq_getElem?_getD, List.getElem?_eq_getElem h2, List.getElem?_eq_getElem (show i < now.length from h1), Option.getD_some] at e1 e2
      omega
theorem nz_two {s : List Int} (h : Sur s) (hp : posAt s < s.length) : 2 ≤ nz s := by
  have hn := h.neg hp
  have h1 := (posAt_is hp).1
  have h2 := (negAt_is hn).1
  have hne : negAt s ≠ posAt s := fun e => by rw [e] at h2; omega
  have e1 := nz_set s (posAt s) 0 hp (by omega)
  have e2 := nz_set (s.set (posAt s) 0) (negAt s) 0 (by simpa using hn) (by rw [getD_setS _ _ _ hp, if_neg hne]; omega)
  simp at e1 e2
  omega
theorem moves_few : ∀ (f : Nat) {s : List Int}, Sur s → movesL f s = [] ∨ (movesL f s).length + 1 ≤ nz s
  | 0, _, _ => .inl rfl
  | f + 1, s, h => by
    by_cases hp : posAt s < s.length
    · right
      have h1 := nz_moved h hp
      have h2 := nz_two h hp
      rw [movesL, if_pos hp, List.length_cons]
      rcases moves_few f (h.moved hp) with e | e
      · rw [e]; simp; omega
      · omega
    · left; rw [movesL, if_neg hp]
end Go.Proofs.Ytlifjhhjkcmneaa
