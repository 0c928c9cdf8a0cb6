/- Sand as lists: what topples, in any order; what burns; and what changes nothing. -/
import Derived.Test.YthgafljbbkgldaaDoorBesideL
namespace Go.Proofs.YthgafljbbkgldaaDoor
open Go.RowKit

/-- A sum over the numbers below n. -/
def sumN (n : Nat) (f : Nat → Int) : Int := match n with | 0 => 0 | k + 1 => sumN k f + f k
theorem sumN_congr {n : Nat} {f g : Nat → Int} (h : ∀ i, i < n → f i = g i) : sumN n f = sumN n g := by
  induction n with
  | zero => rfl
  | succ n ih => simp only [sumN]; rw [ih fun i hi => h i (by omega), h n (by omega)]
theorem sumN_add (n : Nat) (f g : Nat → Int) : sumN n (fun i => f i + g i) = sumN n f + sumN n g := by
  induction n with
  | zero => rfl
  | succ n ih => simp only [sumN, ih]; omega
theorem sumN_le {n : Nat} {f g : Nat → Int} (h : ∀ i, i < n → f i ≤ g i) : sumN n f ≤ sumN n g := by
  induction n with
  | zero => exact Int.le_refl _
  | succ n ih => simp only [sumN]; have := ih fun i hi => h i (by omega); have := h n (by omega); omega
theorem sumN_zero {n : Nat} {f : Nat → Int} (h : ∀ i, i < n → f i = 0) : sumN n f = 0 := by
  rw [sumN_congr h]
  induction n with
  | zero => rfl
  | succ n ih => simp only [sumN]; rw [ih fun i hi => h i (by omega)]; rfl
theorem sumN_nonneg {n : Nat} {f : Nat → Int} (h : ∀ i, i < n → 0 ≤ f i) : 0 ≤ sumN n f := by
  have := sumN_le (n := n) (f := fun _ => 0) h
  rw [sumN_zero (fun _ _ => rfl)] at this
  exact this
theorem sumN_one {n : Nat} {f : Nat → Int} (k : Nat) (hk : k < n) : sumN n (fun i => if i = k then f i else 0) = f k := by
  induction n with
  | zero => omega
  | succ n ih =>
    simp only [sumN]
    by_cases h : k < n
    · rw [ih h, if_neg (by omega)]; omega
    · obtain rfl : k = n := by omega
      rw [sumN_zero fun i hi => if_neg (by omega), if_pos rfl]; omega
theorem sumN_ge {n : Nat} {f : Nat → Int} (h : ∀ i, i < n → 0 ≤ f i) (k : Nat) (hk : k < n) : f k ≤ sumN n f := by
  rw [← sumN_one (f := f) k hk]
  refine sumN_le fun i hi => ?_
  split
  · exact Int.le_refl _
  · exact h i hi

/-- What cell i does to cell j when it topples, in a box of n rows of m. -/
def dS (n m i j : Nat) : Int := (if j = i then -4 else 0) + ((aroundL n m i).count (j : Int) : Int)
/-- A sand topples from x to y; t tells how often each cell did. N cells, D what toppling does. -/
inductive TRuns (N : Nat) (D : Nat → Nat → Int) (x : Nat → Int) : (Nat → Int) → (Nat → Int) → Prop
  | nil {t y : Nat → Int} : (∀ j, j < N → t j = 0) → (∀ j, j < N → y j = x j) → TRuns N D x t y
  | snoc {t y t' y' : Nat → Int} (i : Nat) : TRuns N D x t y → i < N → 4 ≤ y i → (∀ j, j < N → t' j = t j + if j = i then 1 else 0) → (∀ j, j < N → y' j = y j + D i j) → TRuns N D x t' y'

theorem TRuns.lin {N : Nat} {D : Nat → Nat → Int} {x t y : Nat → Int} (h : TRuns N D x t y) : ∀ j, j < N → y j = x j + sumN N fun i => t i * D i j := by
  induction h with
  | nil ht hy =>
    intro j hj
    rw [hy j hj, sumN_zero fun i hi => by rw [ht i hi]; simp]
    omega
  | @snoc t y t' y' i _ hi _ ht hy ih =>
    intro j hj
    rw [hy j hj, ih j hj]
    have e : sumN N (fun k => t' k * D k j) = sumN N (fun k => t k * D k j) + sumN N (fun k => if k = i then D k j else 0) := by
      rw [← sumN_add]
      refine sumN_congr fun k hk => ?_
      rw [ht k hk]
      split
      · rw [Int.add_mul]; omega
      · simp
    rw [e, sumN_one (f := fun k => D k j) i hi]
    omega
theorem TRuns.nonneg {N : Nat} {D : Nat → Nat → Int} {x t y : Nat → Int} (h : TRuns N D x t y) : ∀ j, j < N → 0 ≤ t j := by
  induction h with
  | nil ht _ => intro j hj; rw [ht j hj]; exact Int.le_refl _
  | snoc i _ hi _ ht _ ih => intro j hj; rw [ht j hj]; have := ih j hj; split <;> omega
/-- Toppling only takes from the cell that topples. -/
def Off (N : Nat) (D : Nat → Nat → Int) : Prop := ∀ i, i < N → ∀ j, j < N → i ≠ j → 0 ≤ D i j
theorem TRuns.least {N : Nat} {D : Nat → Nat → Int} (hD : Off N D) {x u y t : Nat → Int} (h : TRuns N D x u y) (hc : ∀ i, i < N → x i + sumN N (fun k => t k * D k i) < 4) (ht : ∀ i, i < N → 0 ≤ t i) : ∀ i, i < N → u i ≤ t i := by
  induction h with
  | nil hu _ => intro i hi; rw [hu i hi]; exact ht i hi
  | @snoc u y u' y' i hr hi h4 hu _ ih =>
    have key : u i < t i := by
      refine Int.not_le.1 fun hge => ?_
      have he : u i = t i := Int.le_antisymm (ih i hi) hge
      have h1 := hc i hi
      rw [hr.lin i hi] at h4
      have : sumN N (fun k => u k * D k i) ≤ sumN N (fun k => t k * D k i) := by
        refine sumN_le fun k hk => ?_
        by_cases hki : k = i
        · subst hki; rw [he]; exact Int.le_refl _
        · exact Int.mul_le_mul_of_nonneg_right (ih k hk) (hD k hk i hi hki)
      omega
    intro j hj
    rw [hu j hj]
    split
    · next e => subst e; omega
    · have := ih j hj; omega
/-- y is x when it is calm. -/
structure Stab (N : Nat) (D : Nat → Nat → Int) (x t y : Nat → Int) : Prop where
  runs : TRuns N D x t y
  calm : ∀ i, i < N → y i < 4
theorem Stab.uniq {N : Nat} {D : Nat → Nat → Int} (hD : Off N D) {x t y u z : Nat → Int} (h : Stab N D x t y) (k : Stab N D x u z) : ∀ i, i < N → t i = u i ∧ y i = z i := by
  have e : ∀ i, i < N → t i = u i := fun i hi =>
    Int.le_antisymm (h.runs.least hD (fun j hj => by rw [← k.runs.lin j hj]; exact k.calm j hj) k.runs.nonneg i hi) (k.runs.least hD (fun j hj => by rw [← h.runs.lin j hj]; exact h.calm j hj) h.runs.nonneg i hi)
  intro i hi
  refine ⟨e i hi, ?_⟩
  rw [h.runs.lin i hi, k.runs.lin i hi, sumN_congr fun j hj => by rw [e j hj]]
/-- More sand topples as well; and on. -/
theorem TRuns.more {N : Nat} {D : Nat → Nat → Int} {x t y a x' : Nat → Int} (h : TRuns N D x t y) (ha : ∀ j, j < N → 0 ≤ a j) (hx : ∀ j, j < N → x' j = x j + a j) : TRuns N D x' t fun j => y j + a j := by
  induction h with
  | nil ht hy => exact .nil ht fun j hj => by rw [hy j hj, hx j hj]
  | snoc i _ hi h4 ht hy ih => exact .snoc i ih hi (by have := ha i hi; omega) ht fun j hj => by rw [hy j hj]; omega
theorem TRuns.congr {N : Nat} {D : Nat → Nat → Int} {x t y x' t' y' : Nat → Int} (h : TRuns N D x t y) (hx : ∀ j, j < N → x' j = x j) (ht : ∀ j, j < N → t' j = t j) (hy : ∀ j, j < N → y' j = y j) : TRuns N D x' t' y' := by
  induction h generalizing t' y' with
  | nil h1 h2 => exact .nil (fun j hj => by rw [ht j hj, h1 j hj]) fun j hj => by rw [hy j hj, h2 j hj, hx j hj]
  | snoc i _ hi h4 h1 h2 ih => exact .snoc i (ih (fun _ _ => rfl) fun _ _ => rfl) hi h4 (fun j hj => by rw [ht j hj, h1 j hj]) fun j hj => by rw [hy j hj, h2 j hj]
theorem TRuns.trans {N : Nat} {D : Nat → Nat → Int} {x t y u z : Nat → Int} (h : TRuns N D x t y) (k : TRuns N D y u z) : TRuns N D x (fun j => t j + u j) z := by
  induction k with
  | nil h1 h2 => exact h.congr (fun _ _ => rfl) (fun j hj => by rw [h1 j hj]; omega) h2
  | snoc i _ hi h4 h1 h2 ih => exact .snoc i ih hi h4 (fun j hj => by rw [h1 j hj]; omega) h2
/-- Calm sand of a sum is calm sand of one part made calm and the other. -/
theorem Stab.plus {N : Nat} {D : Nat → Nat → Int} (hD : Off N D) {x t y a u z v z' : Nat → Int} (ha : ∀ j, j < N → 0 ≤ a j) (h : Stab N D x t y) (k : Stab N D (fun j => y j + a j) u z) (l : Stab N D (fun j => x j + a j) v z') : ∀ i, i < N → z i = z' i :=
  fun i hi => (Stab.uniq hD ⟨(h.runs.more ha fun _ _ => rfl).trans k.runs, k.calm⟩ l i hi).2
theorem Stab.congr {N : Nat} {D : Nat → Nat → Int} {x t y x' t' y' : Nat → Int} (h : Stab N D x t y) (hx : ∀ j, j < N → x' j = x j) (ht : ∀ j, j < N → t' j = t j) (hy : ∀ j, j < N → y' j = y j) : Stab N D x' t' y' :=
  ⟨h.runs.congr hx ht hy, fun i hi => by rw [hy i hi]; exact h.calm i hi⟩
theorem Stab.self {N : Nat} {D : Nat → Nat → Int} {x : Nat → Int} (h : ∀ i, i < N → x i < 4) : Stab N D x (fun _ => 0) x := ⟨.nil (fun _ _ => rfl) fun _ _ => rfl, h⟩
/-- One more grain anywhere: no cell topples less. -/
theorem Stab.mono {N : Nat} {D : Nat → Nat → Int} (hD : Off N D) {x t y x' u z : Nat → Int} (h : Stab N D x t y) (k : Stab N D x' u z) (hx : ∀ j, j < N → x j ≤ x' j) : ∀ i, i < N → t i ≤ u i :=
  h.runs.least hD (fun j hj => by have := k.runs.lin j hj; have := k.calm j hj; have := hx j hj; omega) k.runs.nonneg
/-- Turned about. -/
theorem TRuns.turn {N : Nat} {D D' : Nat → Nat → Int} (s : Nat → Nat) (hs : ∀ j, j < N → s j < N) (hinj : ∀ j, j < N → ∀ i, i < N → s j = s i → j = i) (r : Nat → Nat) (hr : ∀ j, j < N → r j < N ∧ s (r j) = j) (hDD : ∀ i, i < N → ∀ j, j < N → D' i j = D (s i) (s j)) {x t y : Nat → Int} (h : TRuns N D x t y) :
    TRuns N D' (fun j => x (s j)) (fun j => t (s j)) (fun j => y (s j)) := by
  induction h with
  | nil h1 h2 => exact .nil (fun j hj => h1 _ (hs j hj)) fun j hj => h2 _ (hs j hj)
  | @snoc t y t' y' i _ hi h4 h1 h2 ih =>
    obtain ⟨hri, esr⟩ := hr i hi
    refine .snoc (r i) ih hri (by simpa [esr] using h4) (fun j hj => ?_) fun j hj => ?_
    · rw [h1 _ (hs j hj)]
      by_cases e : j = r i
      · rw [if_pos e, if_pos (by rw [e, esr])]
      · rw [if_neg e, if_neg fun e' => e (hinj j hj _ hri (by rw [e', esr]))]
    · rw [h2 _ (hs j hj), hDD _ hri j hj, esr]

/-- The same, bounded: a weight falls with each toppling. -/
theorem TRuns.weigh {N : Nat} {D : Nat → Nat → Int} {W : Nat → Int} (hW : ∀ i, i < N → sumN N (fun j => W j * D i j) ≤ -1) {x t y : Nat → Int} (h : TRuns N D x t y) : sumN N (fun j => W j * y j) + sumN N t ≤ sumN N fun j => W j * x j := by
  induction h with
  | nil h1 h2 => rw [sumN_zero h1, sumN_congr fun j hj => by rw [h2 j hj]]; omega
  | @snoc t y t' y' i _ hi h4 h1 h2 ih =>
    rw [sumN_congr h1, sumN_add, sumN_one (f := fun _ => 1) i hi]
    have e : sumN N (fun j => W j * y' j) = sumN N (fun j => W j * y j) + sumN N (fun j => W j * D i j) := by
      rw [← sumN_add]
      exact sumN_congr fun j hj => by rw [h2 j hj, Int.mul_add]
    have := hW i hi
    omega
theorem TRuns.pos {N : Nat} {D : Nat → Nat → Int} (hD : Off N D) (h4' : ∀ i, i < N → -4 ≤ D i i) {x t y : Nat → Int} (hx : ∀ j, j < N → 0 ≤ x j) (h : TRuns N D x t y) : ∀ j, j < N → 0 ≤ y j := by
  induction h with
  | nil _ h2 => intro j hj; rw [h2 j hj]; exact hx j hj
  | snoc i _ hi h4 _ h2 ih =>
    intro j hj
    rw [h2 j hj]
    have := ih j hj
    by_cases e : i = j
    · subst e; have := h4' i hi; omega
    · have := hD i hi j hj e; omega
/-- The boxes of sand. -/
def Box (n m : Nat) : Prop := (1 ≤ n ∧ n ≤ 4) ∧ 1 ≤ m ∧ m ≤ 4
/-- What is told of all boxes by looking at each one. -/
theorem box_all {P : Nat → Nat → Prop} (h : ∀ n, n < 4 → ∀ m, m < 4 → P (n + 1) (m + 1)) {n m : Nat} (hb : Box n m) : P n m := by
  obtain ⟨⟨h1, h2⟩, h3, h4⟩ := hb
  have := h (n - 1) (by omega) (m - 1) (by omega)
  rwa [Nat.sub_add_cancel h1, Nat.sub_add_cancel h3] at this
/-- How much a grain weighs. -/
def wS (n m j : Nat) : Int := if j / m = 0 ∨ j / m + 1 = n then 2 else 3
theorem box_around {n m : Nat} (hb : Box n m) : ∀ i, i < n * m → ∀ k ∈ aroundL n m i, 0 ≤ k ∧ k < ((n * m : Nat) : Int) := box_all (P := fun n m => ∀ i, i < n * m → ∀ k ∈ aroundL n m i, 0 ≤ k ∧ k < ((n * m : Nat) : Int)) (by decide +kernel) hb
theorem dS_sym {n m : Nat} (hb : Box n m) : ∀ i, i < n * m → ∀ j, j < n * m → dS n m i j = dS n m j i := box_all (P := fun n m => ∀ i, i < n * m → ∀ j, j < n * m → dS n m i j = dS n m j i) (by decide +kernel) hb
theorem dS_own {n m : Nat} (hb : Box n m) : ∀ i, i < n * m → dS n m i i = -4 := box_all (P := fun n m => ∀ i, i < n * m → dS n m i i = -4) (by decide +kernel) hb
theorem dS_w {n m : Nat} (hb : Box n m) : ∀ i, i < n * m → sumN (n * m) (fun j => wS n m j * dS n m i j) ≤ -1 := box_all (P := fun n m => ∀ i, i < n * m → sumN (n * m) (fun j => wS n m j * dS n m i j) ≤ -1) (by decide +kernel) hb
theorem dS_turn {n m : Nat} (hb : Box n m) : ∀ i, i < m * n → ∀ j, j < m * n → dS m n i j = dS n m (i % n * m + i / n) (j % n * m + j / n) := box_all (P := fun n m => ∀ i, i < m * n → ∀ j, j < m * n → dS m n i j = dS n m (i % n * m + i / n) (j % n * m + j / n)) (by decide +kernel) hb
theorem turn_in {n m : Nat} (hb : Box n m) : (∀ j, j < m * n → j % n * m + j / n < m * n) ∧ (∀ j, j < m * n → ∀ i, i < m * n → j % n * m + j / n = i % n * m + i / n → j = i) ∧ ∀ j, j < m * n → j % m * n + j / m < m * n ∧ (j % m * n + j / m) % n * m + (j % m * n + j / m) / n = j :=
  box_all (P := fun n m => (∀ j, j < m * n → j % n * m + j / n < m * n) ∧ (∀ j, j < m * n → ∀ i, i < m * n → j % n * m + j / n = i % n * m + i / n → j = i) ∧ ∀ j, j < m * n → j % m * n + j / m < m * n ∧ (j % m * n + j / m) % n * m + (j % m * n + j / m) / n = j) (by decide +kernel) hb
theorem dS_off (n m : Nat) : Off (n * m) (dS n m) := by
  intro i _ j _ h
  unfold dS
  rw [if_neg fun e => h e.symm]
  omega
theorem wS_pos (n m j : Nat) : 1 ≤ wS n m j ∧ wS n m j ≤ 3 := by unfold wS; split <;> omega

/-- One more in each of some cells. -/
def incL (ks : List Int) (x : List Int) : List Int := ks.foldl (fun l k => l.set k.toNat (l.getD k.toNat 0 + 1)) x
/-- Behind one cell that topples. -/
def topL (n m : Nat) (x : List Int) (i : Nat) : List Int := incL (aroundL n m i) (x.set i (x.getD i 0 - 4))
theorem getD_setI (l : List Int) (i j : Nat) (v : Int) (hj : j < l.length) : (l.set i v).getD j 0 = if j = i then v else l.getD j 0 := by
  simp only [List.getD_eq_getElem?_getD, List.getElem?_set]
  by_cases h : i = j
  · subst h; simp [hj]
  · simp [h, Ne.symm h]
theorem incL_len (ks : List Int) (x : List Int) : (incL ks x).length = x.length := by
  unfold incL
  induction ks generalizing x with
  | nil => rfl
  | cons k ks ih => rw [List.foldl_cons, ih, List.length_set]
theorem incL_get (ks : List Int) (x : List Int) (j : Nat) (hj : j < x.length) (hk : ∀ k ∈ ks, 0 ≤ k) : (incL ks x).getD j 0 = x.getD j 0 + (ks.count (j : Int) : Int) := by
  induction ks generalizing x with
  | nil => simp [incL]
  | cons k ks ih =>
    have h0 := hk k (by simp)
    unfold incL at ih ⊢
    rw [List.foldl_cons, ih _ (by rw [List.length_set]; exact hj) (fun q hq => hk q (by simp [hq])), getD_setI _ _ _ _ hj, List.count_cons]
    by_cases e : j = k.toNat
    · subst e
      have : (k == ((k.toNat : Nat) : Int)) = true := by rw [beq_iff_eq]; omega
      rw [if_pos rfl, if_pos this]
      omega
    · have : (k == ((j : Nat) : Int)) = false := by rw [beq_eq_false_iff_ne]; omega
      rw [if_neg e, this]
      simp
theorem topL_len (n m : Nat) (x : List Int) (i : Nat) : (topL n m x i).length = x.length := by rw [topL, incL_len, List.length_set]
theorem topL_get {n m : Nat} (hb : Box n m) {x : List Int} (hl : x.length = n * m) {i : Nat} (hi : i < n * m) (j : Nat) (hj : j < n * m) : (topL n m x i).getD j 0 = x.getD j 0 + dS n m i j := by
  rw [topL, incL_get _ _ _ (by rw [List.length_set, hl]; exact hj) (fun k hk => (box_around hb i hi k hk).1), getD_setI _ _ _ _ (by omega)]
  unfold dS
  split
  · next e => subst e; omega
  · omega

/-- The sand x has come to y, with counts t; all within bounds. -/
structure Sett (n m : Nat) (x t y : List Int) : Prop where
  ylen : y.length = n * m
  tlen : t.length = n * m
  runs : TRuns (n * m) (dS n m) (x.getD · 0) (t.getD · 0) (y.getD · 0)
  pos : ∀ j, j < n * m → 0 ≤ y.getD j 0
/-- What sand weighs. -/
def phiS (n m : Nat) (y : List Int) : Int := sumN (n * m) fun j => wS n m j * y.getD j 0
theorem Sett.nil {n m : Nat} {x : List Int} (hl : x.length = n * m) (hp : ∀ j, j < n * m → 0 ≤ x.getD j 0) : Sett n m x (List.replicate (n * m) 0) x :=
  ⟨hl, by simp, .nil (fun j hj => by simp [List.getD_eq_getElem?_getD, hj]) (fun _ _ => rfl), hp⟩
theorem Sett.snoc {n m : Nat} (hb : Box n m) {x t y : List Int} (h : Sett n m x t y) {i : Nat} (hi : i < n * m) (h4 : 4 ≤ y.getD i 0) : Sett n m x (t.set i (t.getD i 0 + 1)) (topL n m y i) := by
  refine ⟨by rw [topL_len, h.ylen], by rw [List.length_set, h.tlen], .snoc i h.runs hi h4 (fun j hj => ?_) fun j hj => topL_get hb h.ylen hi j hj, fun j hj => ?_⟩
  · simp only [getD_setI _ _ _ _ (show j < t.length by rw [h.tlen]; exact hj)]
    split
    · next e => rw [e]
    · omega
  · rw [topL_get hb h.ylen hi j hj]
    have := h.pos j hj
    by_cases e : i = j
    · subst e; rw [dS_own hb i hi]; omega
    · have := dS_off n m i hi j hj e; omega
theorem phiS_snoc {n m : Nat} (hb : Box n m) {y : List Int} (hl : y.length = n * m) {i : Nat} (hi : i < n * m) : phiS n m (topL n m y i) < phiS n m y := by
  have e : phiS n m (topL n m y i) = phiS n m y + sumN (n * m) (fun j => wS n m j * dS n m i j) := by
    unfold phiS
    rw [← sumN_add]
    exact sumN_congr fun j hj => by rw [topL_get hb hl hi j hj, Int.mul_add]
  have := dS_w hb i hi
  omega
theorem phiS_nonneg {n m : Nat} {y : List Int} (h : ∀ j, j < n * m → 0 ≤ y.getD j 0) : 0 ≤ phiS n m y := sumN_nonneg fun j hj => Int.mul_nonneg (by have := wS_pos n m j; omega) (h j hj)
theorem phiS_ge {n m : Nat} {y : List Int} (h : ∀ j, j < n * m → 0 ≤ y.getD j 0) (k : Nat) (hk : k < n * m) : y.getD k 0 ≤ phiS n m y := by
  refine Int.le_trans ?_ (sumN_ge (f := fun j => wS n m j * y.getD j 0) (fun j hj => Int.mul_nonneg (by have := wS_pos n m j; omega) (h j hj)) k hk)
  have h1 := h k hk
  have h2 := (wS_pos n m k).1
  have := Int.mul_le_mul_of_nonneg_right h2 h1
  omega
theorem Sett.bound {n m : Nat} (hb : Box n m) {x t y : List Int} (h : Sett n m x t y) : phiS n m y + sumN (n * m) (t.getD · 0) ≤ phiS n m x := h.runs.weigh (dS_w hb)
theorem Sett.le {n m : Nat} (hb : Box n m) {x t y : List Int} (h : Sett n m x t y) (k : Nat) (hk : k < n * m) : (0 ≤ y.getD k 0 ∧ y.getD k 0 ≤ phiS n m x) ∧ 0 ≤ t.getD k 0 ∧ t.getD k 0 ≤ phiS n m x := by
  have h1 := h.bound hb
  have h2 := phiS_ge h.pos k hk
  have h3 := sumN_ge (f := fun j => t.getD j 0) h.runs.nonneg k hk
  have h4 := phiS_nonneg h.pos
  have h5 := sumN_nonneg h.runs.nonneg
  have h6 := h.runs.nonneg k hk
  have h7 := h.pos k hk
  refine ⟨⟨h7, ?_⟩, h6, ?_⟩ <;> omega
theorem phiS_small {n m : Nat} (hb : Box n m) {x : List Int} {B : Int} (hB : 0 ≤ B) (h : ∀ j, j < n * m → x.getD j 0 ≤ B) : phiS n m x ≤ 48 * B := by
  have h1 : phiS n m x ≤ sumN (n * m) fun j => wS n m j * B := sumN_le fun j hj => Int.mul_le_mul_of_nonneg_left (h j hj) (by have := wS_pos n m j; omega)
  have h2 : ∀ k, k ≤ n * m → sumN k (fun j => wS n m j * B) ≤ 3 * (k * B) := by
    intro k hk
    induction k with
    | zero => simp [sumN]
    | succ k ih =>
      simp only [sumN]
      have := ih (by omega)
      have := Int.mul_le_mul_of_nonneg_right (wS_pos n m k).2 hB
      have e : ((k + 1 : Nat) : Int) * B = k * B + B := by rw [Int.natCast_add, Int.add_mul]; simp
      omega
  have h3 := h2 _ (Nat.le_refl _)
  have h4 : n * m ≤ 16 := Nat.mul_le_mul hb.1.2 hb.2.2
  have h5 : ((n * m : Nat) : Int) * B ≤ 16 * B := Int.mul_le_mul_of_nonneg_right (by omega) hB
  omega

/-- The first cell that can topple. -/
def hotF (x : List Int) : Nat → Option Nat
  | 0 => none
  | k + 1 => match hotF x k with | some i => some i | none => if 4 ≤ x.getD k 0 then some k else none
theorem hotF_some {x : List Int} {N i : Nat} (h : hotF x N = some i) : i < N ∧ 4 ≤ x.getD i 0 := by
  induction N with
  | zero => simp [hotF] at h
  | succ k ih =>
    unfold hotF at h
    cases e : hotF x k with
    | some j => rw [e] at h; simp at h; subst h; have := ih e; exact ⟨by omega, this.2⟩
    | none =>
      rw [e] at h
      simp only at h
      split at h
      · next h4 => simp at h; subst h; exact ⟨by omega, h4⟩
      · simp at h
theorem hotF_none {x : List Int} {N : Nat} (h : hotF x N = none) : ∀ i, i < N → x.getD i 0 < 4 := by
  induction N with
  | zero => intro i hi; omega
  | succ k ih =>
    unfold hotF at h
    cases e : hotF x k with
    | some j => rw [e] at h; simp at h
    | none =>
      rw [e] at h
      simp only at h
      split at h
      · simp at h
      · next h4 =>
        intro i hi
        by_cases hik : i < k
        · exact ih e i hik
        · obtain rfl : i = k := by omega
          omega
/-- Sand that is made calm, and how often each cell topples. -/
def setL (n m : Nat) : Nat → List Int → List Int → List Int × List Int
  | 0, y, t => (y, t)
  | f + 1, y, t => match hotF y (n * m) with | none => (y, t) | some i => setL n m f (topL n m y i) (t.set i (t.getD i 0 + 1))
theorem setL_ok {n m : Nat} (hb : Box n m) (x : List Int) : ∀ (f : Nat) (y t : List Int), Sett n m x t y → phiS n m y ≤ f → Sett n m x (setL n m f y t).2 (setL n m f y t).1 ∧ ∀ i, i < n * m → (setL n m f y t).1.getD i 0 < 4 := by
  intro f
  induction f with
  | zero =>
    intro y t h hf
    refine ⟨h, fun i hi => ?_⟩
    have := phiS_ge h.pos i hi
    simp only [setL]
    omega
  | succ f ih =>
    intro y t h hf
    unfold setL
    cases e : hotF y (n * m) with
    | none => exact ⟨h, hotF_none e⟩
    | some i =>
      obtain ⟨hi, h4⟩ := hotF_some e
      have := phiS_snoc hb h.ylen hi
      exact ih _ _ (h.snoc hb hi h4) (by omega)
def calmT (n m : Nat) (x : List Int) : List Int × List Int := setL n m 1000 x (List.replicate (n * m) 0)
def calmL (n m : Nat) (x : List Int) : List Int := (calmT n m x).1
def timesL (n m : Nat) (x : List Int) : List Int := (calmT n m x).2
/-- Sand with numbers of 0 up to 20. -/
structure Sandy (n m : Nat) (x : List Int) : Prop where
  box : Box n m
  len : x.length = n * m
  num : ∀ j, j < n * m → 0 ≤ x.getD j 0 ∧ x.getD j 0 ≤ 20
theorem Sandy.phi {n m : Nat} {x : List Int} (h : Sandy n m x) : phiS n m x ≤ 960 := phiS_small h.box (B := 20) (by decide) fun j hj => (h.num j hj).2
theorem Sandy.calm {n m : Nat} {x : List Int} (h : Sandy n m x) : Sett n m x (timesL n m x) (calmL n m x) ∧ ∀ i, i < n * m → (calmL n m x).getD i 0 < 4 :=
  setL_ok h.box x 1000 x _ (.nil h.len fun j hj => (h.num j hj).1) (by have := h.phi; omega)
theorem Sandy.stab {n m : Nat} {x : List Int} (h : Sandy n m x) : Stab (n * m) (dS n m) (x.getD · 0) ((timesL n m x).getD · 0) ((calmL n m x).getD · 0) := ⟨h.calm.1.runs, h.calm.2⟩
theorem ext_sand {l k : List Int} {N : Nat} (hl : l.length = N) (hk : k.length = N) (h : ∀ i, i < N → l.getD i 0 = k.getD i 0) : l = k := by
  apply List.ext_getElem (by omega)
  intro i h1 h2
  have := h i (by omega)
  simpa [List.getD_eq_getElem?_getD, h1, h2] using this
/-- Whatever order: the same. -/
theorem Sandy.only {n m : Nat} {x t y : List Int} (h : Sandy n m x) (k : Sett n m x t y) (hc : ∀ i, i < n * m → y.getD i 0 < 4) : y = calmL n m x ∧ t = timesL n m x := by
  have := Stab.uniq (dS_off n m) ⟨k.runs, hc⟩ h.stab
  exact ⟨ext_sand k.ylen h.calm.1.ylen fun i hi => (this i hi).2, ext_sand k.tlen h.calm.1.tlen fun i hi => (this i hi).1⟩
theorem Sandy.calm_num {n m : Nat} {x : List Int} (h : Sandy n m x) : ∀ j, j < n * m → 0 ≤ (calmL n m x).getD j 0 ∧ (calmL n m x).getD j 0 ≤ 3 := fun j hj => ⟨h.calm.1.pos j hj, by have := h.calm.2 j hj; omega⟩
theorem Sandy.calm_len {n m : Nat} {x : List Int} (h : Sandy n m x) : (calmL n m x).length = n * m := h.calm.1.ylen
theorem Sandy.calm_sandy {n m : Nat} {x : List Int} (h : Sandy n m x) : Sandy n m (calmL n m x) := ⟨h.box, h.calm_len, fun j hj => by have := h.calm_num j hj; omega⟩
theorem Sandy.calm_self {n m : Nat} {x : List Int} (h : Sandy n m x) (hc : ∀ i, i < n * m → x.getD i 0 < 4) : calmL n m x = x := ((h.only (.nil h.len fun j hj => (h.num j hj).1) hc).1).symm
/-- Two sands, number by number. -/
def plusL (x y : List Int) : List Int := List.zipWith (· + ·) x y
theorem plusL_len {N : Nat} {x y : List Int} (hx : x.length = N) (hy : y.length = N) : (plusL x y).length = N := by simp [plusL, hx, hy]
theorem plusL_get {N : Nat} {x y : List Int} (hx : x.length = N) (hy : y.length = N) (j : Nat) (hj : j < N) : (plusL x y).getD j 0 = x.getD j 0 + y.getD j 0 := by
  have h1 : j < x.length := by omega
  have h2 : j < y.length := by omega
  simp [plusL, List.getD_eq_getElem?_getD, List.getElem?_zipWith, h1, h2]
theorem plusL_comm (x y : List Int) : plusL x y = plusL y x := by
  unfold plusL
  rw [List.zipWith_comm]
  congr 1
  funext a b
  exact Int.add_comm _ _
theorem plusL_assoc (x y z : List Int) : plusL (plusL x y) z = plusL x (plusL y z) := by
  unfold plusL
  induction x generalizing y z with
  | nil => simp
  | cons a x ih => cases y <;> cases z <;> simp [ih]; omega
/-- Calm on the way or not: the same. -/
theorem calm_plus {n m : Nat} {x a : List Int} (h : Sandy n m x) (hxa : Sandy n m (plusL x a)) (hya : Sandy n m (plusL (calmL n m x) a)) (ha : a.length = n * m) (hp : ∀ j, j < n * m → 0 ≤ a.getD j 0) : calmL n m (plusL (calmL n m x) a) = calmL n m (plusL x a) := by
  refine ext_sand hya.calm_len hxa.calm_len ?_
  refine Stab.plus (dS_off n m) (a := (a.getD · 0)) hp h.stab (hya.stab.congr (fun j hj => ?_) (fun _ _ => rfl) fun _ _ => rfl) (hxa.stab.congr (fun j hj => ?_) (fun _ _ => rfl) fun _ _ => rfl)
  · exact (plusL_get h.calm_len ha j hj).symm
  · exact (plusL_get h.len ha j hj).symm
end Go.Proofs.YthgafljbbkgldaaDoor
