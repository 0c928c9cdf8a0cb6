/- First cells of pieces. -/
import Derived.Test.YtdhokofcgfolnaaDoorCells
import Derived.Test.YtdhokofcgfolnaaDoorBase
import Derived.Test.YtdhokofcgfolnaaDoorRepeat
import Derived.Test.YtdhokofcgfolnaaDoorAroundOf
import Derived.Shelf.Abstract
/- The contract of impl.firstsOfPieces, for whatever function value tells what is joined. -/
namespace Go.Proofs.YtdhokofcgfolnaaDoor
open Go.RowKit

def FlatsPost (n m : Nat) (J : Nat → Nat → Bool) (w : World) (e : Ending) (w' : World) : Prop :=
  ∃ g c fs, e = .returned (.slice (some ⟨g, 0, none⟩) (n * m) c) ∧ IntsO 3 w.heap.size w'.heap.size w' (.slice (some ⟨g, 0, none⟩) (n * m) c) fs ∧ Flats n m J fs ∧ Grew w w'
/-- A function value (function fk, what it captured: lb) that tells of two cells whether they are joined. -/
def Joins (fk : Nat) (lb : Array Value) (N : Nat) (J : Nat → Nat → Bool) (w : World) : Prop :=
  ∀ (I K : Nat) (W : World), Grew w W → I < N → K < N → Calls Tryd.prog fk (#[.int .i64 I, .int .i64 K] ++ lb) W fun e w' => e = .returned (.bool (J I K)) ∧ ∃ q, w' = W.drewN q

end Go.Proofs.YtdhokofcgfolnaaDoor

/- The contract of impl.firstsOf: cells joined as they are of one height. -/
namespace Go.Proofs.YtdhokofcgfolnaaDoor
open Go.RowKit

/-- The one thing of which P holds. -/
noncomputable def pickL {α : Type} [Inhabited α] (P : α → Prop) : α := @dite α (∃ x, P x) (Classical.propDecidable _) (fun h => Classical.choose h) (fun _ => default)
theorem pickL_eq {α : Type} [Inhabited α] {P : α → Prop} {x : α} (h : P x) (hu : ∀ y, P y → y = x) : pickL P = x := by
  have he : ∃ x, P x := ⟨x, h⟩
  unfold pickL
  rw [dif_pos he]
  exact hu _ (Classical.choose_spec he)
theorem pickL_ok {α : Type} [Inhabited α] {P : α → Prop} (h : ∃ x, P x) : P (pickL P) := by
  unfold pickL
  rw [dif_pos h]
  exact Classical.choose_spec h
noncomputable def flatsL (n m : Nat) (J : Nat → Nat → Bool) : List Int := pickL (Flats n m J)
theorem Flats.eq {n m : Nat} {J : Nat → Nat → Bool} {fs : List Int} (hn : n ≤ 5) (hm : m ≤ 5) (F : Flats n m J fs) : flatsL n m J = fs := pickL_eq F fun _ G => G.uniq hn hm F

theorem least_of (P : Nat → Prop) (k : Nat) (hk : P k) : ∃ j, P j ∧ ∀ i, P i → j ≤ i := by
  induction k using Nat.strongRecOn with
  | ind k ih =>
    by_cases h : ∃ i, i < k ∧ P i
    · obtain ⟨i, hi, hp⟩ := h
      exact ih i hi hp
    · exact ⟨k, hk, fun i hi => Nat.le_of_not_lt fun hlt => h ⟨i, hlt, hi⟩⟩
theorem flats_exists {n m : Nat} {J : Nat → Nat → Bool} (hJ : Symm J) (hn : n ≤ 5) (hm : m ≤ 5) : ∃ f, Flats n m J f := by
  have hl : ∀ i, ∃ j, Reach n m J i j ∧ ∀ k, Reach n m J i k → j ≤ k := fun i => least_of _ i .refl
  obtain ⟨F, eF⟩ : ∃ F : Nat → Nat, ∀ i, Reach n m J i (F i) ∧ ∀ k, Reach n m J i k → F i ≤ k := ⟨fun i => Classical.choose (hl i), fun i => Classical.choose_spec (hl i)⟩
  have e : ∀ i, i < n * m → ((List.range (n * m)).map fun i => (F i : Int)).getD i 0 = F i := fun i hi => by simp [hi]
  refine ⟨(List.range (n * m)).map fun i => (F i : Int), by simp, fun i hi => ⟨F i, e i hi, (eF i).2 i .refl, (eF i).1⟩, fun i hi k hk hj => ?_⟩
  have hkN := around_lt hn hm hi hk
  rw [e i hi, e k hkN]
  have h1 : Reach n m J i k := .step .refl hk hj
  have h2 : Reach n m J k i := .step .refl (around_back hn hm hi hk) (hJ _ _ hj)
  have h3 := (eF i).2 _ (h1.trans (eF k).1)
  have h4 := (eF k).2 _ (h2.trans (eF i).1)
  omega
theorem flatsL_ok {n m : Nat} {J : Nat → Nat → Bool} (hJ : Symm J) (hn : n ≤ 5) (hm : m ≤ 5) : Flats n m J (flatsL n m J) := pickL_ok (flats_exists hJ hn hm)

theorem FlatsPost.from {n m : Nat} {J : Nat → Nat → Bool} {w w1 : World} {e : Ending} {w' : World} (h : FlatsPost n m J w1 e w') (hg : Grew w w1) : FlatsPost n m J w e w' := by
  obtain ⟨g, c, fs, he, hO, hF, hG⟩ := h
  exact ⟨g, c, fs, he, hO.wide hg.size (Nat.le_refl _), hF, hg.trans hG⟩

end Go.Proofs.YtdhokofcgfolnaaDoor
