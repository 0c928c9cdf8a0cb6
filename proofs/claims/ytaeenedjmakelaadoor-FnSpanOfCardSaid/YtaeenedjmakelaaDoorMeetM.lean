/- How waters are joined when they rise, as lists: which water a cell is of, and the meetings. -/
import Derived.Test.YtaeenedjmakelaaDoorOrdM
namespace Go.Proofs.YtaeenedjmakelaaDoor
open Go.RowKit

abbrev MeetS := (Nat → Nat) × List (Nat × Nat × Int)
/-- The water of y becomes one with that of e. -/
def joinR (rt : Nat → Nat) (y e : Nat) : Nat → Nat := fun c => if rt c = y then e else rt c
def meetB (p : List Int) (pr : Nat → Bool) (i : Nat) (st : MeetS) (b : Nat) : MeetS :=
  if pr b = true ∧ st.1 b ≠ st.1 i then
    (if ahead p (st.1 i) (st.1 b) = true then (joinR st.1 (st.1 b) (st.1 i), st.2 ++ [(st.1 b, st.1 i, p.getD i 0)])
     else (joinR st.1 (st.1 i) (st.1 b), st.2 ++ [(st.1 i, st.1 b, p.getD i 0)]))
  else st
def meetN (p : List Int) (pr : Nat → Bool) (i : Nat) (ar : List Int) (st : MeetS) : Nat → MeetS
  | 0 => st
  | j + 1 => meetB p pr i (meetN p pr i ar st j) (ar.getD j 0).toNat
def presB (ord : List Nat) (k : Nat) (c : Nat) : Bool := (ord.take k).contains c
def meetTo (p : List Int) (n m : Nat) (ord : List Nat) : Nat → MeetS
  | 0 => (id, [])
  | k + 1 => meetN p (presB ord (k + 1)) (ord.getD k 0) (aroundL n m (ord.getD k 0)) (meetTo p n m ord k) (aroundL n m (ord.getD k 0)).length
/-- Roots are their own; a cell without water is its own, and a cell with water is of one with water. -/
structure RI (rt : Nat → Nat) (pr : Nat → Bool) : Prop where
  out : ∀ c, pr c = false → rt c = c
  pres : ∀ c, pr c = true → pr (rt c) = true
  idem : ∀ c, rt (rt c) = rt c
theorem RI.join {rt : Nat → Nat} {pr : Nat → Bool} (h : RI rt pr) {y e : Nat} (hy : pr y = true) (he : pr e = true) (ry : rt y = y) (re : rt e = e) (hne : y ≠ e) : RI (joinR rt y e) pr := by
  refine ⟨fun c hc => ?_, fun c hc => ?_, fun c => ?_⟩
  · unfold joinR
    rw [h.out c hc, if_neg (fun e2 => by subst e2; rw [hy] at hc; cases hc)]
  · unfold joinR
    split
    · exact he
    · exact h.pres c hc
  · unfold joinR
    by_cases e1 : rt c = y
    · rw [if_pos e1, re, if_neg (fun e2 => hne e2.symm)]
    · rw [if_neg e1, h.idem c, if_neg e1]
theorem presB_succ {ord : List Nat} {k : Nat} (hk : k < ord.length) (c : Nat) : presB ord (k + 1) c = (presB ord k c || decide (c = ord.getD k 0)) := by
  unfold presB
  rw [List.take_succ_eq_append_getElem hk, Bool.eq_iff_iff, List.contains_iff_mem, Bool.or_eq_true, List.contains_iff_mem, decide_eq_true_eq, List.mem_append, List.mem_singleton]
  have : ord.getD k 0 = ord[k] := by simp [hk]
  rw [this]
theorem presB_zero (ord : List Nat) (c : Nat) : presB ord 0 c = false := by simp [presB]
theorem RI.more {rt : Nat → Nat} {ord : List Nat} {k : Nat} (hk : k < ord.length) (h : RI rt (presB ord k)) : RI rt (presB ord (k + 1)) := by
  refine ⟨fun c hc => ?_, fun c hc => ?_, h.idem⟩
  · rw [presB_succ hk, Bool.or_eq_false_iff] at hc
    exact h.out c hc.1
  · rw [presB_succ hk] at hc ⊢
    rw [Bool.or_eq_true] at hc ⊢
    cases e : presB ord k c with
    | true => exact .inl (h.pres c e)
    | false =>
      rcases hc with hc | hc
      · rw [e] at hc; cases hc
      · rw [h.out c e]; exact .inr hc
theorem meetB_RI {p : List Int} {pr : Nat → Bool} {i b : Nat} {st : MeetS} (h : RI st.1 pr) (hi : pr i = true) : RI (meetB p pr i st b).1 pr := by
  unfold meetB
  split
  · rename_i hc
    have h1 := h.pres b hc.1
    have h2 := h.pres i hi
    split
    · exact h.join h1 h2 (h.idem b) (h.idem i) hc.2
    · exact h.join h2 h1 (h.idem i) (h.idem b) (fun e => hc.2 e.symm)
  · exact h
theorem meetN_RI {p : List Int} {pr : Nat → Bool} {i : Nat} {ar : List Int} {st : MeetS} (h : RI st.1 pr) (hi : pr i = true) : ∀ j, RI (meetN p pr i ar st j).1 pr
  | 0 => h
  | j + 1 => meetB_RI (meetN_RI h hi j) hi
theorem presB_self {ord : List Nat} {k : Nat} (hk : k < ord.length) : presB ord (k + 1) (ord.getD k 0) = true := by
  rw [presB_succ hk, decide_eq_true rfl, Bool.or_true]
theorem meetTo_RI (p : List Int) (n m : Nat) (ord : List Nat) : ∀ k, k ≤ ord.length → RI (meetTo p n m ord k).1 (presB ord k)
  | 0, _ => ⟨fun _ _ => rfl, fun c h => (by rw [presB_zero] at h; cases h), fun _ => rfl⟩
  | k + 1, h => meetN_RI ((meetTo_RI p n m ord k (by omega)).more (by omega)) (presB_self (by omega)) _
theorem presB_mem {ord : List Nat} {k c : Nat} (h : presB ord k c = true) : c ∈ ord := List.mem_of_mem_take (List.contains_iff_mem.1 h)
/-- There are few meetings. -/
theorem meetB_len (p : List Int) (pr : Nat → Bool) (i b : Nat) (st : MeetS) : (meetB p pr i st b).2.length ≤ st.2.length + 1 := by
  unfold meetB
  split
  · split <;> simp
  · omega
theorem meetN_len (p : List Int) (pr : Nat → Bool) (i : Nat) (ar : List Int) (st : MeetS) : ∀ j, (meetN p pr i ar st j).2.length ≤ st.2.length + j
  | 0 => Nat.le_refl _
  | j + 1 => by
    have h1 := meetN_len p pr i ar st j
    have h2 := meetB_len p pr i (ar.getD j 0).toNat (meetN p pr i ar st j)
    rw [meetN]; omega
end Go.Proofs.YtaeenedjmakelaaDoor
