/- Sand that burns, and sand that changes nothing. -/
import Derived.Test.YthgafljbbkgldaaDoorSandM
namespace Go.Proofs.YthgafljbbkgldaaDoor
open Go.RowKit

/-- How many cells beside i are of P. -/
def degS (n m : Nat) (P : Nat → Bool) (i : Nat) : Nat := ((aroundL n m i).filter fun k => P k.toNat).length
theorem filter_le {α : Type} {p q : α → Bool} (l : List α) (h : ∀ a, a ∈ l → p a = true → q a = true) : (l.filter p).length ≤ (l.filter q).length := by
  induction l with
  | nil => exact Nat.le_refl _
  | cons a l ih =>
    have ih := ih fun b hb => h b (by simp [hb])
    rw [List.filter_cons, List.filter_cons]
    cases hp : p a with
    | true => rw [h a (by simp) hp]; simpa using ih
    | false => cases q a <;> simp <;> omega
theorem degS_le {n m : Nat} {P Q : Nat → Bool} (h : ∀ k, P k = true → Q k = true) (i : Nat) : degS n m P i ≤ degS n m Q i := filter_le _ fun _ _ => h _
theorem degS_in {n m : Nat} (hb : Box n m) {P Q : Nat → Bool} (h : ∀ k, k < n * m → P k = true → Q k = true) {i : Nat} (hi : i < n * m) : degS n m P i ≤ degS n m Q i :=
  filter_le _ fun a ha => h _ (by have := box_around hb i hi a ha; omega)
theorem degS_four {n m : Nat} (hb : Box n m) (P : Nat → Bool) (i : Nat) (hi : i < n * m) : degS n m P i ≤ 4 :=
  Nat.le_trans (List.length_filter_le _ _) (box_all (P := fun n m => ∀ i, i < n * m → (aroundL n m i).length ≤ 4) (by decide +kernel) hb i hi)
/-- No part of it is too poor to burn. -/
def NoForb (n m : Nat) (x : Nat → Int) : Prop := ∀ F : Nat → Bool, (∃ i, i < n * m ∧ F i = true) → ∃ i, i < n * m ∧ F i = true ∧ (degS n m F i : Int) ≤ x i
theorem NoForb.more {n m : Nat} {x y : Nat → Int} (h : NoForb n m x) (hxy : ∀ j, j < n * m → x j ≤ y j) : NoForb n m y := fun F hF => by
  obtain ⟨i, hi, hFi, hd⟩ := h F hF
  exact ⟨i, hi, hFi, by have := hxy i hi; omega⟩
theorem filter_or {α : Type} [BEq α] [LawfulBEq α] {p q : α → Bool} (l : List α) (b : α) (h : ∀ a, p a = true → a ≠ b → q a = true) : (l.filter p).length ≤ (l.filter q).length + l.count b := by
  induction l with
  | nil => simp
  | cons a l ih =>
    rw [List.filter_cons, List.filter_cons, List.count_cons]
    by_cases e : a = b
    · subst e
      rw [if_pos (show (a == a) = true by simp)]
      cases p a <;> cases q a <;> simp <;> omega
    · cases hp : p a with
      | true => rw [h a hp e]; simp; omega
      | false => cases q a <;> simp <;> omega
theorem NoForb.topple {n m : Nat} (hb : Box n m) {y y' : Nat → Int} (h : NoForb n m y) {i : Nat} (hi : i < n * m) (h4 : 4 ≤ y i) (hy : ∀ j, j < n * m → y' j = y j + dS n m i j) : NoForb n m y' := by
  intro F hF
  by_cases hFi : F i = true
  · by_cases hF' : ∃ k, k < n * m ∧ (F k && decide (k ≠ i)) = true
    · obtain ⟨k, hk, hFk, hd⟩ := h (fun k => F k && decide (k ≠ i)) hF'
      rw [Bool.and_eq_true, decide_eq_true_eq] at hFk
      refine ⟨k, hk, hFk.1, ?_⟩
      rw [hy k hk, dS_sym hb i hi k hk]
      unfold dS
      rw [if_neg fun e => hFk.2 e.symm]
      have : degS n m F k ≤ degS n m (fun k => F k && decide (k ≠ i)) k + (aroundL n m k).count (i : Int) := by
        unfold degS
        refine Nat.le_trans (filter_le (q := fun a : Int => F a.toNat && decide (0 ≤ a)) _ fun a ha hp => ?_) (filter_or _ _ fun a hp hne => ?_)
        · have := box_around hb k hk a ha
          simp [hp, this.1]
        · simp only [Bool.and_eq_true, decide_eq_true_eq] at hp ⊢
          exact ⟨hp.1, by omega⟩
      omega
    · refine ⟨i, hi, hFi, ?_⟩
      have h0 : degS n m F i = 0 := by
        unfold degS
        rw [List.length_eq_zero_iff, List.filter_eq_nil_iff]
        intro a ha hFa
        have hin := box_around hb i hi a ha
        have hne : a.toNat = i := by
          refine Classical.byContradiction fun hne => hF' ⟨a.toNat, by omega, ?_⟩
          rw [hFa]; simpa using hne
        have hc : 0 < (aroundL n m i).count (i : Int) := List.count_pos_iff.2 (by rw [show ((i : Nat) : Int) = a by omega]; exact ha)
        have := dS_own hb i hi
        unfold dS at this
        rw [if_pos rfl] at this
        omega
      rw [h0, hy i hi, dS_own hb i hi]
      omega
  · obtain ⟨k, hk, hFk, hd⟩ := h F hF
    refine ⟨k, hk, hFk, ?_⟩
    rw [hy k hk]
    have hne : i ≠ k := fun e => hFi (by rw [e]; exact hFk)
    have := dS_off n m i hi k hk hne
    omega
theorem NoForb.runs {n m : Nat} (hb : Box n m) {x t y : Nat → Int} (h : NoForb n m x) (k : TRuns (n * m) (dS n m) x t y) : NoForb n m y := by
  induction k with
  | nil _ h2 => exact h.more fun j hj => by rw [h2 j hj]; exact Int.le_refl _
  | snoc i _ hi h4 _ h2 ih => exact ih.topple hb hi h4 h2

/-- What has burnt keeps out of every part that is too poor. -/
def KeepsOut (n m : Nat) (x : List Int) (b : List Bool) : Prop := b.length = n * m ∧ ∀ F : Nat → Bool, (∀ i, i < n * m → F i = true → x.getD i 0 < degS n m F i) → ∀ i, i < n * m → F i = true → b.getD i false = false
theorem set_burnt (l : List Bool) (i j : Nat) (v : Bool) (hj : j < l.length) : (l.set i v).getD j false = if j = i then v else l.getD j false := by
  simp only [List.getD_eq_getElem?_getD, List.getElem?_set]
  by_cases h : i = j
  · subst h; simp [hj]
  · simp [h, Ne.symm h]
theorem KeepsOut.nil (n m : Nat) (x : List Int) : KeepsOut n m x (List.replicate (n * m) false) := ⟨by simp, fun _ _ i hi _ => by simp [List.getD_eq_getElem?_getD, hi]⟩
/-- Cell i may burn beside what has. -/
def MayBurn (n m : Nat) (x : List Int) (b : List Bool) (i : Nat) : Prop := (degS n m (fun k => !b.getD k false) i : Int) ≤ x.getD i 0
theorem KeepsOut.burn {n m : Nat} (hb : Box n m) {x : List Int} {b b0 : List Bool} (h : KeepsOut n m x b) (h0 : KeepsOut n m x b0) {i : Nat} (hi : i < n * m) (hm : MayBurn n m x b0 i) : KeepsOut n m x (b.set i true) := by
  refine ⟨by rw [List.length_set]; exact h.1, fun F hF j hj hFj => ?_⟩
  rw [set_burnt _ _ _ _ (by rw [h.1]; exact hj)]
  split
  · next e =>
    subst e
    have h1 := hF j hj hFj
    unfold MayBurn at hm
    have h2 : degS n m F j ≤ degS n m (fun k => !b0.getD k false) j := degS_in hb (fun k hk hFk => by rw [h0.2 F hF k hk hFk]; rfl) hi
    omega
  · exact h.2 F hF j hj hFj
theorem KeepsOut.all {n m : Nat} {x : List Int} {b : List Bool} (h : KeepsOut n m x b) (ha : ∀ i, i < n * m → b.getD i false = true) : NoForb n m (x.getD · 0) := by
  intro F hF
  refine Classical.byContradiction fun hn => ?_
  obtain ⟨i, hi, hFi⟩ := hF
  have := h.2 F (fun j hj hFj => Int.not_le.1 fun hle => hn ⟨j, hj, hFj, hle⟩) i hi hFi
  rw [ha i hi] at this
  exact absurd this (by simp)
theorem burn_end {n m : Nat} {x : List Int} {b : List Bool} (h : NoForb n m (x.getD · 0)) (hn : ∀ i, i < n * m → b.getD i false = false → ¬ MayBurn n m x b i) : ∀ i, i < n * m → b.getD i false = true := by
  refine fun i hi => Classical.byContradiction fun hne => ?_
  obtain ⟨k, hk, hFk, hd⟩ := h (fun k => !b.getD k false) ⟨i, hi, by simpa using hne⟩
  exact hn k hk (by simpa using hFk) hd
/-- Burns: calm, and all of it. -/
def burnsP (n m : Nat) (x : List Int) : Prop := (∀ i, i < n * m → x.getD i 0 < 4) ∧ NoForb n m (x.getD · 0)
/-- Burnt in rounds. -/
def burnR (n m : Nat) (x : List Int) : Nat → List Bool → List Bool
  | 0, b => b
  | k + 1, b => let b' := burnR n m x k b; if (degS n m (fun k => !b'.getD k false) (k % (n * m)) : Int) ≤ x.getD (k % (n * m)) 0 then b'.set (k % (n * m)) true else b'
theorem burnR_keeps {n m : Nat} (hb : Box n m) (x : List Int) (k : Nat) : KeepsOut n m x (burnR n m x k (List.replicate (n * m) false)) := by
  have hN : 0 < n * m := Nat.mul_pos hb.1.1 hb.2.1
  induction k with
  | zero => exact .nil n m x
  | succ k ih =>
    simp only [burnR]
    split
    · next h => exact ih.burn hb ih (Nat.mod_lt _ hN) h
    · exact ih
theorem burnR_all {n m : Nat} (hb : Box n m) (x : List Int) (k : Nat) (h : ∀ i, i < n * m → (burnR n m x k (List.replicate (n * m) false)).getD i false = true) : NoForb n m (x.getD · 0) := (burnR_keeps hb x k).all h

/-- What CalmFirst makes of 6 less what it makes of 6. -/
def restL (n m : Nat) : List Int := List.zipWith (· - ·) (List.replicate (n * m) 6) (calmL n m (List.replicate (n * m) 6))
def zeroL (n m : Nat) : List Int := calmL n m (restL n m)
theorem zero_facts {n m : Nat} (hb : Box n m) : (restL n m).length = n * m ∧ (∀ i, i < n * m → 3 ≤ (restL n m).getD i 0 ∧ (restL n m).getD i 0 ≤ 6) ∧ calmL n m (plusL (zeroL n m) (zeroL n m)) = zeroL n m ∧ calmL n m (plusL (List.replicate (n * m) 3) (zeroL n m)) = List.replicate (n * m) 3 ∧
    (∀ i, i < n * m → (burnR n m (zeroL n m) 256 (List.replicate (n * m) false)).getD i false = true) ∧ (∀ i, i < n * m → (burnR n m (List.replicate (n * m) 3) 256 (List.replicate (n * m) false)).getD i false = true) :=
  box_all (P := fun n m => (restL n m).length = n * m ∧ (∀ i, i < n * m → 3 ≤ (restL n m).getD i 0 ∧ (restL n m).getD i 0 ≤ 6) ∧ calmL n m (plusL (zeroL n m) (zeroL n m)) = zeroL n m ∧ calmL n m (plusL (List.replicate (n * m) 3) (zeroL n m)) = List.replicate (n * m) 3 ∧
    (∀ i, i < n * m → (burnR n m (zeroL n m) 256 (List.replicate (n * m) false)).getD i false = true) ∧ (∀ i, i < n * m → (burnR n m (List.replicate (n * m) 3) 256 (List.replicate (n * m) false)).getD i false = true)) (by decide +kernel) hb
end Go.Proofs.YthgafljbbkgldaaDoor
