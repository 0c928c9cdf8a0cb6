/- What all meetings are like. -/
import Derived.Test.YtaeenedjmakelaaDoorMeetM
import Derived.Test.YtaeenedjmakelaaDoorBesideL
import Derived.Test.YtaeenedjmakelaaDoorGrid
namespace Go.Proofs.YtaeenedjmakelaaDoor
open Go.RowKit

/-- A meeting of cells with water, at the height of a cell with water. -/
def MeetOk (p : List Int) (pr : Nat → Bool) (e : Nat × Nat × Int) : Prop := pr e.1 = true ∧ pr e.2.1 = true ∧ ∃ i, pr i = true ∧ e.2.2 = p.getD i 0
theorem meetB_ok {p : List Int} {pr : Nat → Bool} {i b : Nat} {st : MeetS} (R : RI st.1 pr) (hi : pr i = true) (h : ∀ e ∈ st.2, MeetOk p pr e) : ∀ e ∈ (meetB p pr i st b).2, MeetOk p pr e := by
  intro e he
  unfold meetB at he
  split at he
  · rename_i hc
    have h1 := R.pres b hc.1
    have h2 := R.pres i hi
    split at he
    · rcases List.mem_append.1 he with he | he
      · exact h e he
      · rw [List.mem_singleton.1 he]; exact ⟨h1, h2, i, hi, rfl⟩
    · rcases List.mem_append.1 he with he | he
      · exact h e he
      · rw [List.mem_singleton.1 he]; exact ⟨h2, h1, i, hi, rfl⟩
  · exact h e he
theorem meetN_ok {p : List Int} {pr : Nat → Bool} {i : Nat} {ar : List Int} {st : MeetS} (R : RI st.1 pr) (hi : pr i = true) (h : ∀ e ∈ st.2, MeetOk p pr e) : ∀ j, ∀ e ∈ (meetN p pr i ar st j).2, MeetOk p pr e
  | 0 => h
  | j + 1 => meetB_ok (meetN_RI R hi j) hi (meetN_ok R hi h j)
theorem meetTo_ok (p : List Int) (n m : Nat) (ord : List Nat) : ∀ k, k ≤ ord.length → ∀ e ∈ (meetTo p n m ord k).2, MeetOk p (presB ord k) e
  | 0, _ => fun e h => by cases h
  | k + 1, h => meetN_ok ((meetTo_RI p n m ord k (by omega)).more (by omega)) (presB_self (by omega)) (fun e he => by
      obtain ⟨h1, h2, i, h3, h4⟩ := meetTo_ok p n m ord k (by omega) e he
      have hs := fun c (hc : presB ord k c = true) => show presB ord (k + 1) c = true by rw [presB_succ (by omega), hc, Bool.true_or]
      exact ⟨hs _ h1, hs _ h2, i, hs _ h3, h4⟩) _
theorem meetTo_len (p : List Int) (n m : Nat) (ord : List Nat) (ha : ∀ i, i ∈ ord → (aroundL n m i).length ≤ 4) : ∀ k, k ≤ ord.length → (meetTo p n m ord k).2.length ≤ 4 * k
  | 0, _ => Nat.le_refl _
  | k + 1, h => by
    have h1 := meetTo_len p n m ord ha k (by omega)
    have h2 := meetN_len p (presB ord (k + 1)) (ord.getD k 0) (aroundL n m (ord.getD k 0)) (meetTo p n m ord k) (aroundL n m (ord.getD k 0)).length
    have h3 := ha (ord.getD k 0) (by rw [List.getD_eq_getElem?_getD, List.getElem?_eq_getElem (by omega)]; exact List.getElem_mem _)
    rw [meetTo]; omega
/-- The meetings of a grid. -/
def meetsX (h : List (List Int)) : List (Nat × Nat × Int) := (meetTo h.flatten h.length (h.getD 0 []).length (ordTo h.flatten h.flatten.length) h.flatten.length).2
theorem meetsX_ok {h : List (List Int)} (hg : vGrid h = true) : (meetsX h).length ≤ 100 ∧ ∀ e ∈ meetsX h, e.1 < h.flatten.length ∧ e.2.1 < h.flatten.length ∧ 0 ≤ e.2.2 ∧ e.2.2 ≤ 12 := by
  have G := Grid.of hg
  have hpl := flat_grid_len G
  have hN25 : h.flatten.length ≤ 25 := by rw [hpl]; exact Nat.le_trans (Nat.mul_le_mul G.n5 G.m5) (by decide)
  have hl := ordTo_len h.flatten h.flatten.length
  constructor
  · have := meetTo_len h.flatten h.length (h.getD 0 []).length (ordTo h.flatten h.flatten.length) (fun i hi => (around_facts G.n5 G.m5 (I := i) (by rw [← hpl]; exact mem_ordTo.1 hi)).2.2) h.flatten.length (by omega)
    unfold meetsX; omega
  · intro e he
    obtain ⟨h1, h2, i, h3, h4⟩ := meetTo_ok _ _ _ _ _ (by omega) e he
    have := grid_num G i (by rw [← hpl]; exact mem_ordTo.1 (presB_mem h3))
    exact ⟨mem_ordTo.1 (presB_mem h1), mem_ordTo.1 (presB_mem h2), by rw [h4]; omega, by rw [h4]; omega⟩
theorem ordTo_at_lt {p : List Int} {N k : Nat} (h : k < N) : (ordTo p N).getD k 0 < N := by
  have hl := ordTo_len p N
  have : (ordTo p N).getD k 0 ∈ ordTo p N := by rw [List.getD_eq_getElem?_getD, List.getElem?_eq_getElem (by omega)]; exact List.getElem_mem _
  exact mem_ordTo.1 this
/-- A cell of the order is not among those before it. -/
theorem presB_new {p : List Int} {N k : Nat} (h : k < N) : presB (ordTo p N) k ((ordTo p N).getD k 0) = false := by
  have hl := ordTo_len p N
  cases e : presB (ordTo p N) k ((ordTo p N).getD k 0) with
  | false => rfl
  | true =>
    have hm := List.contains_iff_mem.1 e
    obtain ⟨j, hj, ej⟩ := List.getElem_of_mem hm
    rw [List.length_take] at hj
    rw [List.getElem_take] at ej
    have := List.pairwise_iff_getElem.1 (ordTo_sorted p N) j k (by omega) (by omega) (by omega)
    have e2 : (ordTo p N).getD k 0 = (ordTo p N)[k] := by simp [show k < (ordTo p N).length by omega]
    rw [ej, e2] at this
    rw [ahead_irrefl] at this
    cases this
/-- The sum of the heights of the meetings. -/
def spanS (q : List (Nat × Nat × Int)) : Int := (q.map fun e => e.2.2).sum
def spanX (h : List (List Int)) : Int := if vGrid h then spanS (meetsX h) else -1
def rowM (e : Nat × Nat × Int) : List Int := [(e.1 : Int), (e.2.1 : Int), e.2.2]
/-- The merges: the meetings of waters of which the later began lower. -/
def mergS (p : List Int) (q : List (Nat × Nat × Int)) : List (List Int) := (q.filter fun e => decide (p.getD e.1 0 < e.2.2)).map rowM
def mergX (h : List (List Int)) : List (List Int) := if vGrid h then mergS h.flatten (meetsX h) else []
end Go.Proofs.YtaeenedjmakelaaDoor
