/- The heights to which water stands, as lists: the least height of a way to the edge; there is one such list. -/
import Derived.Test.YteojdpfhhbcjlaaDoorBfs
namespace Go.Proofs.YteojdpfhhbcjlaaDoor
open Go.RowKit

theorem getD_setB (l : List Bool) (k i : Nat) (v : Bool) (hk : k < l.length) : (l.set k v).getD i false = if i = k then v else l.getD i false := by
  by_cases e : i = k
  · subst e; simp [hk]
  · rw [if_neg e, List.getD_eq_getElem?_getD, List.getElem?_set_ne (fun e2 => e e2.symm), ← List.getD_eq_getElem?_getD]

/-- At the edge: fewer than four cells beside. -/
def edgeL (n m I : Nat) : Bool := decide ((aroundL n m I).length < 4)
/-- A way to the edge over cells no higher than L. -/
inductive Esc (n m : Nat) (p : List Int) (L : Int) : Nat → Prop
  | edge {i : Nat} : i < n * m → edgeL n m i = true → p.getD i 0 ≤ L → Esc n m p L i
  | step {i k : Nat} : i < n * m → (k : Int) ∈ aroundL n m i → p.getD i 0 ≤ L → Esc n m p L k → Esc n m p L i
theorem Esc.base {n m i : Nat} {p : List Int} {L : Int} (h : Esc n m p L i) : p.getD i 0 ≤ L := by
  cases h with
  | edge _ _ h => exact h
  | step _ _ h _ => exact h
theorem Esc.lt {n m i : Nat} {p : List Int} {L : Int} (h : Esc n m p L i) : i < n * m := by
  cases h with
  | edge h _ _ => exact h
  | step h _ _ _ => exact h
theorem Esc.mono {n m i : Nat} {p q : List Int} {L M : Int} (h : Esc n m p L i) (hq : ∀ j, j < n * m → p.getD j 0 ≤ L → q.getD j 0 ≤ M) : Esc n m q M i := by
  induction h with
  | edge h1 h2 h3 => exact .edge h1 h2 (hq _ h1 h3)
  | step h1 h2 h3 _ ih => exact .step h1 h2 (hq _ h1 h3) ih
theorem Esc.up {n m i : Nat} {p : List Int} {L M : Int} (h : Esc n m p L i) (hl : L ≤ M) : Esc n m p M i := h.mono fun _ _ h => Int.le_trans h hl

/-- The heights to which water stands. -/
structure Level (n m : Nat) (p w : List Int) : Prop where
  len : w.length = n * m
  edge : ∀ i, i < n * m → edgeL n m i = true → w.getD i 0 ≤ p.getD i 0
  calm : ∀ i, i < n * m → ∀ k : Nat, (k : Int) ∈ aroundL n m i → w.getD i 0 ≤ max (w.getD k 0) (p.getD i 0)
  esc : ∀ i, i < n * m → Esc n m p (w.getD i 0) i
theorem Level.le {n m i : Nat} {p w : List Int} {L : Int} (W : Level n m p w) (h : Esc n m p L i) : w.getD i 0 ≤ L := by
  induction h with
  | edge h1 h2 h3 => exact Int.le_trans (W.edge _ h1 h2) h3
  | step h1 h2 h3 _ ih => have := W.calm _ h1 _ h2; omega
theorem ext_getD {n : Nat} {f g : List Int} (hf : f.length = n) (hg : g.length = n) (h : ∀ i, i < n → f.getD i 0 = g.getD i 0) : f = g := by
  apply List.ext_getElem
  · rw [hf, hg]
  · intro i h1 h2
    have := h i (by omega)
    simpa [h1, h2] using this
theorem Level.uniq {n m : Nat} {p v w : List Int} (V : Level n m p v) (W : Level n m p w) : v = w :=
  ext_getD V.len W.len fun i hi => by
    have := V.le (W.esc i hi)
    have := W.le (V.esc i hi)
    omega
theorem Level.base {n m i : Nat} {p w : List Int} (W : Level n m p w) (hi : i < n * m) : p.getD i 0 ≤ w.getD i 0 := (W.esc i hi).base
theorem Level.dry {n m i : Nat} {p w : List Int} (W : Level n m p w) (hi : i < n * m) (h : edgeL n m i = true) : w.getD i 0 = p.getD i 0 := by
  have := W.base hi
  have := W.edge i hi h
  omega
/-- Water on water stands as it stands. -/
theorem Level.again {n m : Nat} {p w : List Int} (W : Level n m p w) : Level n m w w := by
  refine ⟨W.len, fun i _ _ => Int.le_refl _, fun i _ k _ => by omega, fun i hi => ?_⟩
  have key : ∀ {L : Int} {i : Nat}, Esc n m p L i → Esc n m w L i := fun {L i} h => by
    induction h with
    | edge h1 h2 h3 => exact .edge h1 h2 (Int.le_trans (W.edge _ h1 h2) h3)
    | step h1 h2 h3 hk ih => exact .step h1 h2 (W.le (.step h1 h2 h3 hk)) ih
  exact key (W.esc i hi)
/-- Higher ground holds higher water. -/
theorem Level.mono {n m i : Nat} {p q v w : List Int} (V : Level n m p v) (W : Level n m q w) (h : ∀ j, j < n * m → p.getD j 0 ≤ q.getD j 0) (hi : i < n * m) : v.getD i 0 ≤ w.getD i 0 :=
  V.le ((W.esc i hi).mono fun j hj hq => Int.le_trans (h j hj) hq)
theorem Level.mono1 {n m i : Nat} {p q v w : List Int} (V : Level n m p v) (W : Level n m q w) (h : ∀ j, j < n * m → q.getD j 0 ≤ p.getD j 0 + 1) (hi : i < n * m) : w.getD i 0 ≤ v.getD i 0 + 1 :=
  W.le ((V.esc i hi).mono fun j hj hq => by have := h j hj; omega)
/-- From any cell the edge is reached. -/
theorem left_edge (n m : Nat) (i : Nat) (h : i % m = 0) : edgeL n m i = true := by
  unfold edgeL aroundL
  rw [h]
  simp only [Nat.lt_irrefl, if_false, List.append_nil, List.length_append, decide_eq_true_eq]
  have e : ∀ (c : Prop) [Decidable c] (x : Int), (if c then [x] else []).length ≤ 1 := fun c _ x => by split <;> simp
  have := e (m ≤ i) ((i : Int) - m)
  have := e (0 < m - 1) ((i : Int) + 1)
  have := e (i + m < n * m) ((i : Int) + m)
  omega
theorem esc_top {n m : Nat} {p : List Int} {L : Int} (h : ∀ i, i < n * m → p.getD i 0 ≤ L) (i : Nat) (hi : i < n * m) : Esc n m p L i := by
  obtain ⟨c, hc⟩ : ∃ c, i % m = c := ⟨_, rfl⟩
  induction c generalizing i with
  | zero => exact .edge hi (left_edge n m i hc) (h i hi)
  | succ c ih =>
    have hm : 0 < m := by
      rcases Nat.eq_zero_or_pos m with e | e
      · subst e; simp at hi
      · exact e
    have h1 : 1 ≤ i := by
      rcases Nat.eq_zero_or_pos i with e | e
      · subst e; simp at hc
      · exact e
    have hlt := Nat.mod_lt i hm
    have e1 : (i - 1) % m = c := by
      have e2 := Nat.div_add_mod i m
      have e3 : i - 1 = m * (i / m) + c := by omega
      rw [e3, Nat.mul_add_mod, Nat.mod_eq_of_lt (by omega)]
    refine .step hi (k := i - 1) ?_ (h i hi) (ih (i - 1) (by omega) e1)
    unfold aroundL
    have e4 : ((i - 1 : Nat) : Int) = (i : Int) - 1 := by omega
    rw [e4, if_pos (show 0 < i % m by omega)]
    simp

/-! By sinking. -/
/-- What is told is reached, and at the edge it is the ground. -/
structure Sink (n m : Nat) (p w : List Int) : Prop where
  len : w.length = n * m
  edge : ∀ i, i < n * m → edgeL n m i = true → w.getD i 0 ≤ p.getD i 0
  esc : ∀ i, i < n * m → Esc n m p (w.getD i 0) i
theorem Sink.sink {n m i k : Nat} {p w : List Int} (S : Sink n m p w) (hn : n ≤ 5) (hm : m ≤ 5) (hi : i < n * m) (hk : (k : Int) ∈ aroundL n m i) (hlt : max (w.getD k 0) (p.getD i 0) < w.getD i 0) :
    Sink n m p (w.set i (max (w.getD k 0) (p.getD i 0))) := by
  have hl := S.len
  refine ⟨by simp [hl], fun x hx he => ?_, fun x hx => ?_⟩
  · rw [getD_set _ _ _ _ (by omega)]
    by_cases ex : x = i
    · rw [if_pos ex]; subst ex; have := S.edge x hx he; omega
    · rw [if_neg ex]; exact S.edge x hx he
  · rw [getD_set _ _ _ _ (by omega)]
    by_cases ex : x = i
    · rw [if_pos ex]; subst ex
      exact .step hi hk (by omega) ((S.esc k (around_lt hn hm hi hk)).up (by omega))
    · rw [if_neg ex]; exact S.esc x hx
/-- Nothing sinks at the cells before i, nor at the first t of those beside i. -/
def Still (n m : Nat) (p w : List Int) (i t : Nat) : Prop :=
  ∀ x s k : Nat, (x < i ∨ (x = i ∧ s < t)) → s < (aroundL n m x).length → (aroundL n m x).getD s 0 = k → ¬ max (w.getD k 0) (p.getD x 0) < w.getD x 0
theorem still_start (n m : Nat) (p w : List Int) : Still n m p w 0 0 := fun x s k h => by omega
theorem Still.next {n m i t : Nat} {p w : List Int} (C : Still n m p w i t) (ht : t = (aroundL n m i).length) : Still n m p w (i + 1) 0 := fun x s k h hs he => by
  refine C x s k ?_ hs he
  by_cases e : x = i
  · subst e; exact .inr ⟨rfl, by omega⟩
  · exact .inl (by omega)
theorem Still.skip {n m i t K : Nat} {p w : List Int} (C : Still n m p w i t) (hK : (aroundL n m i).getD t 0 = K) (h : ¬ max (w.getD K 0) (p.getD i 0) < w.getD i 0) : Still n m p w i (t + 1) := fun x s k hx hs he => by
  by_cases e : x = i ∧ s = t
  · obtain ⟨rfl, rfl⟩ := e
    have : k = K := by omega
    subst this
    exact h
  · exact C x s k (by omega) hs he
theorem Sink.level {n m : Nat} {p w : List Int} (S : Sink n m p w) (C : Still n m p w (n * m) 0) : Level n m p w :=
  ⟨S.len, S.edge, fun i hi k hk => by
    obtain ⟨s, hs1, hs2⟩ := List.getElem_of_mem hk
    have := C i s k (.inl hi) hs1 (by simp [hs1, hs2])
    omega, S.esc⟩
theorem sink_start {n m : Nat} {p w : List Int} (hl : w.length = n * m) (hp : ∀ i, i < n * m → p.getD i 0 ≤ 12) (h : ∀ i, i < n * m → w.getD i 0 = if edgeL n m i then p.getD i 0 else 12) : Sink n m p w := by
  refine ⟨hl, fun i hi he => by rw [h i hi, if_pos he]; exact Int.le_refl _, fun i hi => ?_⟩
  rw [h i hi]
  by_cases he : edgeL n m i = true
  · rw [if_pos he]; exact .edge hi he (Int.le_refl _)
  · rw [if_neg he]; exact esc_top hp i hi
end Go.Proofs.YteojdpfhhbcjlaaDoor
