/- The ways of water as lists: runs, trees, springs, orders. -/
import Derived.Test.YtekhjjcgkmnmlaaDoorFlowM
import Derived.Test.YtekhjjcgkmnmlaaDoorFlowFacts
/- Ways along targets that make no rounds, and what is told of each cell by those that run to it. -/
namespace Go.Proofs.YtekhjjcgkmnmlaaDoor
open Go.RowKit

/-- A list of targets with no rounds. -/
structure Runs (N : Nat) (ts : List Int) : Prop where
  len : ts.length = N
  to : ∀ i, i < N → ts.getD i 0 = -1 ∨ ∃ k : Nat, ts.getD i 0 = k ∧ k < N
  rank : ∃ rk : Nat → Nat, (∀ i, i < N → rk i < N) ∧ ∀ (i k : Nat), i < N → ts.getD i 0 = (k : Int) → rk k < rk i

/-- The cells that run to a cell, in their order. -/
def srcL (ts : List Int) (i : Nat) : List Nat := (List.range ts.length).filter fun k => ts.getD k 0 == (i : Int)
theorem mem_srcL {ts : List Int} {i k : Nat} : k ∈ srcL ts i ↔ k < ts.length ∧ ts.getD k 0 = (i : Int) := by
  rw [srcL, List.mem_filter, List.mem_range, beq_iff_eq]
/-- A number for each cell, told out of those of the cells that run to it. -/
def treeU (g : List Int → Int) (ts : List Int) : Nat → Nat → Int
  | 0, _ => g []
  | d + 1, i => g ((srcL ts i).map (treeU g ts d))
def treeL (g : List Int → Int) (ts : List Int) (i : Nat) : Int := treeU g ts ts.length i
theorem treeU_enough {N : Nat} {ts : List Int} (g : List Int → Int) (hl : ts.length = N) {rk : Nat → Nat} (h1 : ∀ i, i < N → rk i < N) (h2 : ∀ (i k : Nat), i < N → ts.getD i 0 = (k : Int) → rk k < rk i) :
    ∀ d i, i < N → N ≤ d + rk i → treeU g ts d i = treeU g ts (d + 1) i
  | 0, i, hi, hd => by have := h1 i hi; omega
  | d + 1, i, hi, hd => by
    rw [treeU, treeU]
    refine congrArg g (List.map_congr_left fun k hk => ?_)
    obtain ⟨q1, q2⟩ := mem_srcL.1 hk
    have := h2 k i (by omega) q2
    exact treeU_enough g hl h1 h2 d k (by omega) (by omega)
theorem treeL_eq {N : Nat} {ts : List Int} (R : Runs N ts) (g : List Int → Int) {i : Nat} (hi : i < N) : treeL g ts i = g ((srcL ts i).map (treeL g ts)) := by
  obtain ⟨rk, h1, h2⟩ := R.rank
  have e : treeL g ts = treeU g ts N := by funext x; rw [treeL, R.len]
  rw [e, treeU_enough g R.len h1 h2 N i hi (by omega), treeU]
/-- How many cells a way goes over, and where it ends. -/
def lenU (ts : List Int) : Nat → Nat → Int
  | 0, _ => 1
  | d + 1, i => if ts.getD i 0 < 0 then 1 else 1 + lenU ts d (ts.getD i 0).toNat
def lastU (ts : List Int) : Nat → Nat → Nat
  | 0, i => i
  | d + 1, i => if ts.getD i 0 < 0 then i else lastU ts d (ts.getD i 0).toNat
def onU (ts : List Int) : Nat → Nat → Nat → Bool
  | 0, k, x => k == x
  | d + 1, k, x => k == x || (decide (0 ≤ ts.getD k 0) && onU ts d (ts.getD k 0).toNat x)
def lenL (ts : List Int) (i : Nat) : Int := lenU ts ts.length i
def lastL (ts : List Int) (i : Nat) : Nat := lastU ts ts.length i
def onL (ts : List Int) (k x : Nat) : Bool := onU ts ts.length k x
theorem lenU_s (ts : List Int) (d i : Nat) : lenU ts (d + 1) i = if ts.getD i 0 < 0 then 1 else 1 + lenU ts d (ts.getD i 0).toNat := rfl
theorem lastU_s (ts : List Int) (d i : Nat) : lastU ts (d + 1) i = if ts.getD i 0 < 0 then i else lastU ts d (ts.getD i 0).toNat := rfl
theorem onU_s (ts : List Int) (d k x : Nat) : onU ts (d + 1) k x = (k == x || (decide (0 ≤ ts.getD k 0) && onU ts d (ts.getD k 0).toNat x)) := rfl
theorem way_off (ts : List Int) (d i : Nat) (h : ts.getD i 0 = -1) : lenU ts d i = 1 ∧ lastU ts d i = i ∧ ∀ x, onU ts d i x = (i == x) := by
  cases d with
  | zero => exact ⟨rfl, rfl, fun _ => rfl⟩
  | succ d =>
    refine ⟨by rw [lenU_s, h]; rfl, by rw [lastU_s, h]; rfl, fun x => ?_⟩
    rw [onU_s, h, decide_eq_false (by omega : ¬ (0 : Int) ≤ -1), Bool.false_and, Bool.or_false]
theorem way_enough {N : Nat} {ts : List Int} (ht : ∀ i, i < N → ts.getD i 0 = -1 ∨ ∃ k : Nat, ts.getD i 0 = k ∧ k < N) {rk : Nat → Nat} (h2 : ∀ (i k : Nat), i < N → ts.getD i 0 = (k : Int) → rk k < rk i) :
    ∀ d i, i < N → rk i ≤ d → lenU ts d i = lenU ts (d + 1) i ∧ lastU ts d i = lastU ts (d + 1) i ∧ ∀ x, onU ts d i x = onU ts (d + 1) i x
  | 0, i, hi, hd => by
    rcases ht i hi with h | ⟨k, h, hk⟩
    · obtain ⟨q1, q2, q3⟩ := way_off ts (0 + 1) i h
      exact ⟨q1.symm, q2.symm, fun x => (q3 x).symm⟩
    · have := h2 i k hi h
      omega
  | d + 1, i, hi, hd => by
    rcases ht i hi with h | ⟨k, h, hk⟩
    · obtain ⟨q1, q2, q3⟩ := way_off ts (d + 1 + 1) i h
      obtain ⟨p1, p2, p3⟩ := way_off ts (d + 1) i h
      exact ⟨p1.trans q1.symm, p2.trans q2.symm, fun x => (p3 x).trans (q3 x).symm⟩
    · have h3 := h2 i k hi h
      have h4 : ¬ (k : Int) < 0 := by omega
      obtain ⟨e1, e2, e3⟩ := way_enough ht h2 d k hk (by omega)
      refine ⟨?_, ?_, fun x => ?_⟩
      · rw [lenU_s, lenU_s ts (d + 1), h, if_neg h4, if_neg h4, Int.toNat_natCast, e1]
      · rw [lastU_s, lastU_s ts (d + 1), h, if_neg h4, if_neg h4, Int.toNat_natCast, e2]
      · rw [onU_s, onU_s ts (d + 1), h, Int.toNat_natCast, e3 x]
theorem way_end {ts : List Int} {i : Nat} (h : ts.getD i 0 = -1) : lenL ts i = 1 ∧ lastL ts i = i ∧ ∀ x, onL ts i x = (i == x) := way_off ts ts.length i h
theorem way_on {N : Nat} {ts : List Int} (R : Runs N ts) {i k : Nat} (hi : i < N) (h : ts.getD i 0 = (k : Int)) : lenL ts i = 1 + lenL ts k ∧ lastL ts i = lastL ts k ∧ ∀ x, onL ts i x = (i == x || onL ts k x) := by
  obtain ⟨rk, h1, h2⟩ := R.rank
  have hk : k < N := by
    rcases R.to i hi with e | ⟨j, e, hj⟩
    · omega
    · omega
  have h4 : ¬ (k : Int) < 0 := by omega
  have hr := h1 i hi
  obtain ⟨e1, e2, e3⟩ := way_enough R.to h2 N i hi (by omega)
  refine ⟨?_, ?_, fun x => ?_⟩
  · rw [lenL, lenL, R.len, e1, lenU_s, h, if_neg h4, Int.toNat_natCast]
  · rw [lastL, lastL, R.len, e2, lastU_s, h, if_neg h4, Int.toNat_natCast]
  · rw [onL, onL, R.len, e3 x, onU_s, h, Int.toNat_natCast, decide_eq_true (by omega : (0 : Int) ≤ (k : Int)), Bool.true_and]
/-- A cell on a way is the first, or of lower rank. -/
theorem on_rank {N : Nat} {ts : List Int} (R : Runs N ts) {rk : Nat → Nat} (h2 : ∀ (i k : Nat), i < N → ts.getD i 0 = (k : Int) → rk k < rk i) :
    ∀ (d k x : Nat), k < N → rk k ≤ d → onL ts k x = true → k = x ∨ rk x < rk k
  | d, k, x, hk, hd, h => by
    rcases R.to k hk with e | ⟨j, e, hj⟩
    · rw [(way_end e).2.2, beq_iff_eq] at h
      exact .inl h
    · rw [(way_on R hk e).2.2, Bool.or_eq_true, beq_iff_eq] at h
      have h3 := h2 k j hk e
      rcases h with h | h
      · exact .inl h
      · cases d with
        | zero => omega
        | succ d =>
          rcases on_rank R h2 d j x hj (by omega) h with h4 | h4
          · subst h4; exact .inr h3
          · exact .inr (by omega)
def bitN (b : Bool) : Nat := if b then 1 else 0
theorem sum_zero {α : Type} (f : α → Nat) : ∀ l : List α, (∀ x, x ∈ l → f x = 0) → (l.map f).sum = 0
  | [], _ => rfl
  | a :: l, h => by rw [List.map_cons, List.sum_cons, h a (List.mem_cons_self ..), sum_zero f l fun x hx => h x (List.mem_cons_of_mem _ hx)]
theorem sum_add {α : Type} (f g : α → Nat) : ∀ l : List α, (l.map fun x => f x + g x).sum = (l.map f).sum + (l.map g).sum
  | [] => rfl
  | a :: l => by simp only [List.map_cons, List.sum_cons, sum_add f g l]; omega
theorem sum_swap {α β : Type} (f : α → β → Nat) : ∀ (l : List α) (m : List β), (l.map fun a => (m.map fun b => f a b).sum).sum = (m.map fun b => (l.map fun a => f a b).sum).sum
  | [], m => by rw [List.map_nil, List.sum_nil, sum_zero]; intro _ _; rfl
  | a :: l, m => by
    rw [List.map_cons, List.sum_cons, sum_swap f l m, ← sum_add]
    rfl
theorem sum_bit (k : Nat) : ∀ l : List Nat, l.Nodup → (l.map fun j => bitN (k == j)).sum = bitN (decide (k ∈ l))
  | [], _ => by simp [bitN]
  | a :: l, h => by
    obtain ⟨h1, h2⟩ := List.nodup_cons.1 h
    rw [List.map_cons, List.sum_cons, sum_bit k l h2]
    by_cases e : k = a
    · subst e
      simp [bitN, h1]
    · simp [bitN, e]
theorem srcL_nodup (ts : List Int) (i : Nat) : (srcL ts i).Nodup := List.nodup_range.filter _
/-- A way comes to a cell by one of those that run to it, or begins there. -/
theorem on_split {N : Nat} {ts : List Int} (R : Runs N ts) {rk : Nat → Nat} (h1 : ∀ i, i < N → rk i < N) (h2 : ∀ (i k : Nat), i < N → ts.getD i 0 = (k : Int) → rk k < rk i) (x : Nat) (hx : x < N) :
    ∀ (d k : Nat), k < N → rk k ≤ d → bitN (onL ts k x) = bitN (k == x) + ((srcL ts x).map fun j => bitN (onL ts k j)).sum
  | d, k, hk, hd => by
    have hsrc : ∀ j, j ∈ srcL ts x → j < N ∧ rk x < rk j := fun j hj => by
      obtain ⟨q1, q2⟩ := mem_srcL.1 hj
      rw [R.len] at q1
      exact ⟨q1, h2 j x q1 q2⟩
    rcases R.to k hk with e | ⟨k', e, hk'⟩
    · have H := (way_end e).2.2
      rw [H, sum_zero]
      · rfl
      · intro j hj
        rw [H]
        have : k ≠ j := fun h => by
          subst h
          have := (mem_srcL.1 hj).2
          omega
        simp [bitN, this]
    · have H := (way_on R hk e).2.2
      have h3 := h2 k k' hk e
      have hno : onL ts k' k = false := by
        cases hb : onL ts k' k with
        | false => rfl
        | true =>
          rcases on_rank R h2 _ k' k hk' (Nat.le_refl _) hb with h4 | h4
          · subst h4; omega
          · omega
      have hsum : ((srcL ts x).map fun j => bitN (onL ts k j)).sum = bitN (decide (k ∈ srcL ts x)) + ((srcL ts x).map fun j => bitN (onL ts k' j)).sum := by
        rw [← sum_bit k _ (srcL_nodup ts x), ← sum_add]
        refine congrArg List.sum (List.map_congr_left fun j _ => ?_)
        rw [H]
        by_cases ej : k = j
        · subst ej
          rw [hno]
          simp [bitN]
        · simp [bitN, ej]
      have hmem : decide (k ∈ srcL ts x) = (k' == x) := by
        rw [Bool.eq_iff_iff, decide_eq_true_eq, mem_srcL, beq_iff_eq, e, R.len]
        omega
      cases d with
      | zero => omega
      | succ d =>
        have IH := on_split R h1 h2 x hx d k' hk' (by omega)
        rw [hsum, hmem, ← IH, H]
        by_cases ek : k = x
        · subst ek
          rw [hno]
          simp [bitN]
        · simp [bitN, ek]
/-- From how many cells water runs through each one. -/
def runL (N : Nat) (ts : List Int) (x : Nat) : Nat := ((List.range N).map fun k => bitN (onL ts k x)).sum
theorem runL_eq {N : Nat} {ts : List Int} (R : Runs N ts) {x : Nat} (hx : x < N) : runL N ts x = 1 + ((srcL ts x).map (runL N ts)).sum := by
  obtain ⟨rk, h1, h2⟩ := R.rank
  have e1 : runL N ts x = ((List.range N).map fun k => bitN (k == x) + ((srcL ts x).map fun j => bitN (onL ts k j)).sum).sum := by
    rw [runL]
    refine congrArg List.sum (List.map_congr_left fun k hk => ?_)
    exact on_split R h1 h2 x hx _ k (List.mem_range.1 hk) (Nat.le_refl _)
  have e2 : ((List.range N).map fun k => bitN (k == x)).sum = 1 := by
    have := sum_bit x (List.range N) List.nodup_range
    rw [decide_eq_true (List.mem_range.2 hx)] at this
    rw [show (fun k => bitN (k == x)) = fun k => bitN (x == k) from funext fun k => by rw [show (k == x) = (x == k) from Bool.beq_comm]]
    exact this
  rw [e1, sum_add, e2, sum_swap]
  rfl
end Go.Proofs.YtekhjjcgkmnmlaaDoor

/- What the laws of streams read of ways along targets: rank, sums, ends, lengths. -/
namespace Go.Proofs.YtekhjjcgkmnmlaaDoor
open Go.RowKit

theorem sum_le {α : Type} (f g : α → Nat) : ∀ l : List α, (∀ x, x ∈ l → f x ≤ g x) → (l.map f).sum ≤ (l.map g).sum
  | [], _ => Nat.le_refl _
  | a :: l, h => by
    have h1 := h a (List.mem_cons_self ..)
    have h2 := sum_le f g l fun x hx => h x (List.mem_cons_of_mem _ hx)
    simp only [List.map_cons, List.sum_cons]
    omega
theorem mem_le_sum {α : Type} (f : α → Nat) : ∀ (l : List α) (a : α), a ∈ l → f a ≤ (l.map f).sum
  | b :: l, a, h => by
    rw [List.map_cons, List.sum_cons]
    rcases List.mem_cons.1 h with rfl | h
    · omega
    · have := mem_le_sum f l a h
      omega
theorem sum_ones {α : Type} : ∀ l : List α, (l.map fun _ => 1).sum = l.length
  | [] => rfl
  | a :: l => by rw [List.map_cons, List.sum_cons, sum_ones l, List.length_cons]; omega
/-- A rank out of any order in which each target comes ahead of its cell. -/
theorem runs_of {N : Nat} {ts : List Int} (hl : ts.length = N) (B : Nat → Nat → Prop) (htr : ∀ a b c, B a b → B b c → B a c) (hir : ∀ a, ¬ B a a)
    (hto : ∀ i, i < N → ts.getD i 0 = -1 ∨ ∃ k : Nat, ts.getD i 0 = k ∧ k < N ∧ B k i) : Runs N ts := by
  have : ∀ a b, Decidable (B a b) := fun a b => Classical.propDecidable _
  refine ⟨hl, fun i hi => (hto i hi).imp id fun ⟨k, h1, h2, _⟩ => ⟨k, h1, h2⟩, fun i => ((List.range N).map fun j => bitN (decide (B j i))).sum, fun i hi => ?_, fun i k hi h => ?_⟩
  · have h1 : ((List.range N).map fun j => bitN (decide (B j i)) + bitN (i == j)).sum ≤ ((List.range N).map fun _ => 1).sum := sum_le _ _ _ fun j _ => by
      by_cases e : i = j
      · subst e
        simp [bitN, hir]
      · by_cases hb : B j i <;> simp [bitN, e, hb]
    rw [sum_add, sum_bit i _ List.nodup_range, decide_eq_true (List.mem_range.2 hi)] at h1
    rw [sum_ones, List.length_range] at h1
    have h3 : bitN true = 1 := rfl
    show ((List.range N).map fun j => bitN (decide (B j i))).sum < N
    omega
  · rcases hto i hi with e | ⟨k', e, hk', hb⟩
    · omega
    · obtain rfl : k' = k := by omega
      have h1 : ((List.range N).map fun j => bitN (decide (B j k')) + bitN (k' == j)).sum ≤ ((List.range N).map fun j => bitN (decide (B j i))).sum := sum_le _ _ _ fun j _ => by
        by_cases e2 : k' = j
        · subst e2
          simp [bitN, hir, hb]
        · by_cases hb2 : B j k'
          · have := htr _ _ _ hb2 hb
            simp [bitN, e2, hb2, this]
          · simp [bitN, e2, hb2]
      rw [sum_add, sum_bit k' _ List.nodup_range, decide_eq_true (List.mem_range.2 hk')] at h1
      have h3 : bitN true = 1 := rfl
      show ((List.range N).map fun j => bitN (decide (B j k'))).sum < ((List.range N).map fun j => bitN (decide (B j i))).sum
      omega
/-- Something that holds at a cell if it holds at its target, and where water runs off, holds at all. -/
theorem Runs.all {N : Nat} {ts : List Int} (R : Runs N ts) {P : Nat → Prop} (h0 : ∀ i, i < N → ts.getD i 0 = -1 → P i) (h1 : ∀ i k : Nat, i < N → k < N → ts.getD i 0 = (k : Int) → P k → P i) : ∀ i, i < N → P i := by
  obtain ⟨rk, _, h2⟩ := R.rank
  have key : ∀ d i, i < N → rk i ≤ d → P i := by
    intro d
    induction d with
    | zero =>
      intro i hi hd
      rcases R.to i hi with e | ⟨k, e, hk⟩
      · exact h0 i hi e
      · have := h2 i k hi e
        omega
    | succ d ih =>
      intro i hi hd
      rcases R.to i hi with e | ⟨k, e, hk⟩
      · exact h0 i hi e
      · have := h2 i k hi e
        exact h1 i k hi hk e (ih k hk (by omega))
  exact fun i hi => key _ i hi (Nat.le_refl _)
/-- Where a way ends no water runs on. -/
theorem last_end {N : Nat} {ts : List Int} (R : Runs N ts) : ∀ i, i < N → lastL ts i < N ∧ ts.getD (lastL ts i) 0 = -1 :=
  R.all (fun i hi h => by rw [(way_end h).2.1]; exact ⟨hi, h⟩) (fun i k hi _ h ih => by rw [(way_on R hi h).2.1]; exact ih)
/-- A way comes to a cell where water runs off only if it ends there. -/
theorem on_end {N : Nat} {ts : List Int} (R : Runs N ts) (e : Nat) (he : ts.getD e 0 = -1) : ∀ i, i < N → onL ts i e = (lastL ts i == e) :=
  R.all (fun i _ h => by rw [(way_end h).2.1, (way_end h).2.2]) (fun i k hi _ h ih => by
    rw [(way_on R hi h).2.1, (way_on R hi h).2.2, ih]
    have : i ≠ e := fun h2 => by subst h2; omega
    simp [this])
/-- The cells whose ways end at a cell. -/
theorem ends_area {N : Nat} {ts : List Int} (R : Runs N ts) {e : Nat} (he : ts.getD e 0 = -1) : ((List.range N).map fun k => bitN (lastL ts k == e)).sum = runL N ts e := by
  rw [runL]
  exact congrArg List.sum (List.map_congr_left fun k hk => by rw [on_end R e he k (List.mem_range.1 hk)])
theorem ends_none {N : Nat} {ts : List Int} (R : Runs N ts) {e : Nat} (he : ts.getD e 0 ≠ -1) : ((List.range N).map fun k => bitN (lastL ts k == e)).sum = 0 :=
  sum_zero _ _ fun k hk => by
    have := (last_end R k (List.mem_range.1 hk)).2
    have : lastL ts k ≠ e := fun h => he (by rw [← h]; exact this)
    simp [bitN, this]
/-- All cells run off somewhere: the areas of the ends are all cells. -/
theorem ends_sum {N : Nat} {ts : List Int} (R : Runs N ts) : ((List.range N).map fun e => if ts.getD e 0 < 0 then runL N ts e else 0).sum = N := by
  have h1 : ((List.range N).map fun e => if ts.getD e 0 < 0 then runL N ts e else 0) = (List.range N).map fun e => ((List.range N).map fun k => bitN (lastL ts k == e)).sum :=
    List.map_congr_left fun e he => by
      rcases R.to e (List.mem_range.1 he) with h | ⟨k, h, _⟩
      · rw [if_pos (by omega), ends_area R h]
      · rw [if_neg (by omega), ends_none R (by omega)]
  rw [h1, sum_swap]
  have h2 : ((List.range N).map fun k => ((List.range N).map fun e => bitN (lastL ts k == e)).sum) = (List.range N).map fun _ => 1 :=
    List.map_congr_left fun k hk => by
      rw [sum_bit _ _ List.nodup_range, decide_eq_true (List.mem_range.2 (last_end R k (List.mem_range.1 hk)).1)]
      rfl
  rw [h2, sum_ones, List.length_range]
theorem area_on {N : Nat} {ts : List Int} (R : Runs N ts) {i k : Nat} (hi : i < N) (hk : k < N) (h : ts.getD i 0 = (k : Int)) : runL N ts i + 1 ≤ runL N ts k := by
  rw [runL_eq R hk]
  have := mem_le_sum (runL N ts) (srcL ts k) i (mem_srcL.2 ⟨by rw [R.len]; exact hi, h⟩)
  omega
theorem area_pos {N : Nat} {ts : List Int} (R : Runs N ts) {i : Nat} (hi : i < N) : 1 ≤ runL N ts i := by
  rw [runL_eq R hi]; omega
/-- A way is no longer than the area at its end. -/
theorem len_area {N : Nat} {ts : List Int} (R : Runs N ts) : ∀ i, i < N → 1 ≤ lenL ts i ∧ lenL ts i + runL N ts i ≤ runL N ts (lastL ts i) + 1 :=
  R.all (fun i _ h => by rw [(way_end h).2.1, (way_end h).1]; omega) (fun i k hi hk h ih => by
    rw [(way_on R hi h).2.1, (way_on R hi h).1]
    have := area_on R hi hk h
    omega)
/-- What is told of a cell by those that run to it holds at all if it holds at a cell when it does at those. -/
theorem Runs.up {N : Nat} {ts : List Int} (R : Runs N ts) {P : Nat → Prop} (h : ∀ i, i < N → (∀ k, k ∈ srcL ts i → P k) → P i) : ∀ i, i < N → P i := by
  obtain ⟨rk, h1, h2⟩ := R.rank
  have key : ∀ d i, i < N → N ≤ d + rk i → P i := by
    intro d
    induction d with
    | zero =>
      intro i hi hd
      have := h1 i hi
      omega
    | succ d ih =>
      intro i hi hd
      refine h i hi fun k hk => ?_
      obtain ⟨q1, q2⟩ := mem_srcL.1 hk
      rw [R.len] at q1
      have := h2 k i q1 q2
      exact ih k q1 (by omega)
  exact fun i hi => key N i hi (by omega)
end Go.Proofs.YtekhjjcgkmnmlaaDoor

/- Springs and orders, told of each cell by those that run to it. -/
namespace Go.Proofs.YtekhjjcgkmnmlaaDoor
open Go.RowKit

/-- What the cells weigh from which water runs through a cell. -/
def heavyL (N : Nat) (ts : List Int) (wt : Nat → Nat) (x : Nat) : Nat := ((List.range N).map fun k => wt k * bitN (onL ts k x)).sum
theorem sum_mul {α : Type} (c : Nat) (f : α → Nat) : ∀ l : List α, (l.map fun x => c * f x).sum = c * (l.map f).sum
  | [] => rfl
  | a :: l => by rw [List.map_cons, List.sum_cons, sum_mul c f l, List.map_cons, List.sum_cons, Nat.mul_add]
theorem sum_bitw (wt : Nat → Nat) (x : Nat) : ∀ l : List Nat, l.Nodup → (l.map fun k => wt k * bitN (k == x)).sum = wt x * bitN (decide (x ∈ l))
  | [], _ => by simp [bitN]
  | a :: l, h => by
    obtain ⟨h1, h2⟩ := List.nodup_cons.1 h
    rw [List.map_cons, List.sum_cons, sum_bitw wt x l h2]
    by_cases e : a = x
    · subst e
      simp [bitN, h1]
    · have e2 : x ≠ a := fun h => e h.symm
      simp [bitN, e, e2]
theorem heavyL_eq {N : Nat} {ts : List Int} (R : Runs N ts) (wt : Nat → Nat) {x : Nat} (hx : x < N) : heavyL N ts wt x = wt x + ((srcL ts x).map (heavyL N ts wt)).sum := by
  obtain ⟨rk, h1, h2⟩ := R.rank
  have e1 : heavyL N ts wt x = ((List.range N).map fun k => wt k * bitN (k == x) + ((srcL ts x).map fun j => wt k * bitN (onL ts k j)).sum).sum := by
    rw [heavyL]
    refine congrArg List.sum (List.map_congr_left fun k hk => ?_)
    rw [on_split R h1 h2 x hx _ k (List.mem_range.1 hk) (Nat.le_refl _), Nat.mul_add, sum_mul]
  have e2 : ((List.range N).map fun k => wt k * bitN (k == x)).sum = wt x := by
    rw [sum_bitw wt x _ List.nodup_range, decide_eq_true (List.mem_range.2 hx)]
    exact Nat.mul_one _
  rw [e1, sum_add, e2, sum_swap]
  rfl
theorem heavy_ends {N : Nat} {ts : List Int} (R : Runs N ts) (wt : Nat → Nat) : ((List.range N).map fun e => if ts.getD e 0 < 0 then heavyL N ts wt e else 0).sum = ((List.range N).map wt).sum := by
  have h1 : ((List.range N).map fun e => if ts.getD e 0 < 0 then heavyL N ts wt e else 0) = (List.range N).map fun e => ((List.range N).map fun k => wt k * bitN (lastL ts k == e)).sum :=
    List.map_congr_left fun e he => by
      rcases R.to e (List.mem_range.1 he) with h | ⟨k, h, _⟩
      · rw [if_pos (by omega), heavyL]
        exact congrArg List.sum (List.map_congr_left fun k hk => by rw [on_end R e h k (List.mem_range.1 hk)])
      · rw [if_neg (by omega), sum_zero]
        intro k hk
        have h3 := (last_end R k (List.mem_range.1 hk)).2
        have : lastL ts k ≠ e := fun h4 => by rw [h4] at h3; omega
        simp [bitN, this]
  rw [h1, sum_swap]
  refine congrArg List.sum (List.map_congr_left fun k hk => ?_)
  rw [sum_mul, sum_bit _ _ List.nodup_range, decide_eq_true (List.mem_range.2 (last_end R k (List.mem_range.1 hk)).1)]
  exact Nat.mul_one _
/-- A cell to which none runs. -/
def leafL (ts : List Int) (k : Nat) : Nat := bitN (srcL ts k).isEmpty
def springL (N : Nat) (ts : List Int) (x : Nat) : Nat := heavyL N ts (leafL ts) x
/-- Springs as a program sums them. -/
def gSpring (xs : List Int) : Int := if xs.isEmpty then 1 else xs.sum
def gArea (xs : List Int) : Int := 1 + xs.sum
theorem cast_sum (f : Nat → Nat) : ∀ l : List Nat, (((l.map f).sum : Nat) : Int) = (l.map fun k => ((f k : Nat) : Int)).sum
  | [] => rfl
  | a :: l => by rw [List.map_cons, List.sum_cons, List.map_cons, List.sum_cons, ← cast_sum f l]; omega
theorem area_tree {N : Nat} {ts : List Int} (R : Runs N ts) : ∀ i, i < N → treeL gArea ts i = (runL N ts i : Int) :=
  R.up fun i hi h => by
    rw [treeL_eq R _ hi, runL_eq R hi, gArea, List.map_congr_left h, ← cast_sum]
    omega
theorem spring_tree {N : Nat} {ts : List Int} (R : Runs N ts) : ∀ i, i < N → treeL gSpring ts i = (springL N ts i : Int) :=
  R.up fun i hi h => by
    rw [treeL_eq R _ hi, springL, heavyL_eq R _ hi, gSpring, leafL]
    cases e : (srcL ts i) with
    | nil => simp [bitN]
    | cons a l =>
      rw [← e, List.map_congr_left h, ← cast_sum]
      have h2 : (srcL ts i).isEmpty = false := by rw [e]; rfl
      have h3 : (List.map (fun k => ((springL N ts k : Nat) : Int)) (srcL ts i)).isEmpty = false := by rw [e]; rfl
      have h4 : (List.map (treeL gSpring ts) (srcL ts i)).isEmpty = false := by rw [e]; rfl
      first
        | (rw [h2, List.isEmpty_map, h2]; simp [bitN]; rfl)
        | (simp [h2, h3, h4, bitN]; rfl)
theorem spring_le {N : Nat} {ts : List Int} (_R : Runs N ts) (i : Nat) : springL N ts i ≤ runL N ts i := by
  rw [springL, heavyL, runL]
  refine sum_le _ _ _ fun k _ => ?_
  rw [leafL]
  cases (srcL ts k).isEmpty <;> simp [bitN]
/-- The greatest of some orders, and how many have it. -/
def ordStep (p : Int × Int) (o : Int) : Int × Int := if p.1 < o then (o, 1) else if o = p.1 then (p.1, p.2 + 1) else p
def gOrder (xs : List Int) : Int := if xs.isEmpty then 1 else if 1 < (xs.foldl ordStep (0, 0)).2 then (xs.foldl ordStep (0, 0)).1 + 1 else (xs.foldl ordStep (0, 0)).1
def two (o : Int) : Int := 2 ^ (o - 1).toNat
theorem two_pos (o : Int) : 1 ≤ two o := by
  have : (0 : Int) < 2 ^ (o - 1).toNat := Int.pow_pos (by decide)
  rw [two]; omega
theorem two_succ {o : Int} (h : 1 ≤ o) : two (o + 1) = 2 * two o := by
  have : (o + 1 - 1).toNat = (o - 1).toNat + 1 := by omega
  rw [two, two, this, Int.pow_succ]
  omega
/-- What holds of the greatest order so far: it is no less than any, and so many of it come from no fewer springs. -/
theorem ord_fold (f s : Nat → Int) : ∀ (l : List Nat) (p : Int × Int) (S : Int), (∀ k, k ∈ l → 1 ≤ f k ∧ two (f k) ≤ s k) → 0 ≤ p.1 → 0 ≤ p.2 → (p.1 = 0 → p.2 = 0) → (1 ≤ p.1 → 1 ≤ p.2) → p.2 * two p.1 ≤ S →
    let q := (l.map f).foldl ordStep p
    p.1 ≤ q.1 ∧ (∀ k, k ∈ l → f k ≤ q.1) ∧ 0 ≤ q.2 ∧ (1 ≤ q.1 → 1 ≤ q.2) ∧ q.2 * two q.1 ≤ S + (l.map s).sum
  | [], p, S, _, _, h1, _, h3, h4 => ⟨Int.le_refl _, by simp, h1, h3, by simpa using h4⟩
  | a :: l, p, S, hf, h0, h1, h2, h3, h4 => by
    obtain ⟨f1, f2⟩ := hf a (List.mem_cons_self ..)
    have hl : ∀ k, k ∈ l → 1 ≤ f k ∧ two (f k) ≤ s k := fun k hk => hf k (List.mem_cons_of_mem _ hk)
    have hS : 0 ≤ S := by
      have : 0 ≤ p.2 * two p.1 := Int.mul_nonneg h1 (by have := two_pos p.1; omega)
      omega
    have key : p.1 ≤ (ordStep p (f a)).1 ∧ f a ≤ (ordStep p (f a)).1 ∧ 1 ≤ (ordStep p (f a)).1 ∧ 1 ≤ (ordStep p (f a)).2 ∧ (ordStep p (f a)).2 * two (ordStep p (f a)).1 ≤ S + s a := by
      unfold ordStep
      by_cases c1 : p.1 < f a
      · rw [if_pos c1]
        exact ⟨by dsimp only; omega, by dsimp only; omega, by dsimp only; omega, by dsimp only; omega, by dsimp only; omega⟩
      · rw [if_neg c1]
        by_cases c2 : f a = p.1
        · rw [if_pos c2]
          refine ⟨by dsimp only; omega, by dsimp only; omega, by dsimp only; omega, by dsimp only; omega, ?_⟩
          dsimp only
          rw [Int.add_mul, Int.one_mul, ← c2]
          rw [← c2] at h4
          omega
        · rw [if_neg c2]
          have := two_pos (f a)
          exact ⟨by omega, by omega, by omega, h3 (by omega), by omega⟩
    obtain ⟨k1, k2, k3, k4, k5⟩ := key
    have ih := ord_fold f s l (ordStep p (f a)) (S + s a) hl (by omega) (by omega) (by omega) (by omega) k5
    rw [List.map_cons, List.foldl_cons, List.map_cons, List.sum_cons]
    obtain ⟨i1, i2, i3, i4, i5⟩ := ih
    refine ⟨by omega, fun k hk => ?_, i3, i4, by omega⟩
    rcases List.mem_cons.1 hk with rfl | hk
    · omega
    · exact i2 k hk
/-- An order is at least one, none that runs to it has a greater one, and it takes so many springs. -/
theorem order_facts {N : Nat} {ts : List Int} (R : Runs N ts) : ∀ i, i < N → 1 ≤ treeL gOrder ts i ∧ two (treeL gOrder ts i) ≤ treeL gSpring ts i ∧ ∀ k, k ∈ srcL ts i → treeL gOrder ts k ≤ treeL gOrder ts i :=
  R.up fun i hi h => by
    rw [treeL_eq R gOrder hi, treeL_eq R gSpring hi, gOrder, gSpring]
    obtain ⟨_, i2, _, i4, i5⟩ := ord_fold (treeL gOrder ts) (treeL gSpring ts) (srcL ts i) (0, 0) 0 (fun k hk => ⟨(h k hk).1, (h k hk).2.1⟩) (Int.le_refl _) (Int.le_refl _) (fun _ => rfl) (fun h => by omega) (by simp)
    rw [List.isEmpty_map, List.isEmpty_map]
    cases e : (srcL ts i) with
    | nil => exact ⟨by simp, by simp [two], by simp⟩
    | cons a l =>
      rw [← e, show (srcL ts i).isEmpty = false from by rw [e]; rfl]
      have ha := i2 a (by rw [e]; exact List.mem_cons_self ..)
      have ha1 := (h a (by rw [e]; exact List.mem_cons_self ..)).1
      have h6 := i4 (by omega)
      have hp := two_pos ((List.map (treeL gOrder ts) (srcL ts i)).foldl ordStep (0, 0)).1
      generalize (List.map (treeL gOrder ts) (srcL ts i)).foldl ordStep (0, 0) = q at *
      simp only [Bool.false_eq_true, if_false]
      by_cases c : 1 < q.2
      · rw [if_pos c, two_succ (by omega)]
        have : 2 * two q.1 ≤ q.2 * two q.1 := Int.mul_le_mul_of_nonneg_right (by omega) (by omega)
        exact ⟨by omega, by omega, fun k hk => by have := i2 k hk; omega⟩
      · rw [if_neg c]
        have e1 : q.2 = 1 := by omega
        rw [e1, Int.one_mul] at i5
        exact ⟨by omega, by omega, i2⟩
end Go.Proofs.YtekhjjcgkmnmlaaDoor

/- A flow's targets make no rounds. -/
namespace Go.Proofs.YtekhjjcgkmnmlaaDoor
open Go.RowKit

theorem FlowF.runs {n m N : Nat} {ws ds ts : List Int} (F : FlowF n m N ws ds ts) : Runs N ts :=
  runs_of F.tl (Below' ws ds) (fun a b c h1 h2 => by unfold Below' at *; omega) (fun a h => by unfold Below' at h; omega) fun i hi => by
    rcases F.run i hi with ⟨k, h1, _, h3, h4⟩ | ⟨h, _⟩
    · exact .inr ⟨k, h1, h3, h4⟩
    · exact .inl h
theorem area_le {N : Nat} {ts : List Int} (x : Nat) : runL N ts x ≤ N := by
  have h := sum_le (fun k => bitN (onL ts k x)) (fun _ => 1) (List.range N) fun k _ => by cases onL ts k x <;> simp [bitN]
  rw [sum_ones, List.length_range] at h
  exact h
theorem len_le {N : Nat} {ts : List Int} (R : Runs N ts) {i : Nat} (hi : i < N) : lenL ts i ≤ N := by
  have h1 := (len_area R i hi).2
  have h2 := area_pos R hi
  have h3 := area_le (N := N) (ts := ts) (lastL ts i)
  omega
/-- The targets of a valid grid. -/
theorem tgts_run {h : List (List Int)} (hg : vGrid h = true) : Runs (h.length * (h.getD 0 []).length) (tgtsL h) := by
  obtain ⟨ds, F⟩ := flow_facts hg rfl rfl rfl
  have e : (flowL h).flatten = tgtsL h := by
    rw [flowL, if_pos hg, shapeL_flat _ _ _ (by rw [tgtsL, tgtsU_len])]
  rw [e] at F
  exact F.runs
end Go.Proofs.YtekhjjcgkmnmlaaDoor
