/- Water from the edge inwards, the least cell that can be told picked each time, as lists. -/
import Derived.Test.YteojdpfhhbcjlaaDoorWater
namespace Go.Proofs.YteojdpfhhbcjlaaDoor
open Go.RowKit

theorem count_setB (l : List Bool) (k : Nat) (hk : k < l.length) (h1 : l.getD k false = false) : (l.set k true).count false + 1 = l.count false := by
  induction l generalizing k with
  | nil => exact absurd hk (Nat.not_lt_zero _)
  | cons a l ih =>
    rcases k with _ | k
    · simp at h1
      subst h1
      simp
    · simp at hk h1
      have := ih k hk (by simpa using h1)
      simp only [List.set_cons_succ, List.count_cons]
      omega
theorem undone_of_count (l : List Bool) (h : 0 < l.count false) : ∃ i, i < l.length ∧ l.getD i false = false := by
  obtain ⟨i, hi, e⟩ := List.getElem_of_mem (List.count_pos_iff.1 h)
  exact ⟨i, hi, by simp [hi, e]⟩

/-- The height to which an untold cell can be told, as the first t of those beside it tell; -1: none does. -/
def Cand (n m : Nat) (p lv : List Int) (dn : List Bool) (i t : Nat) (x : Int) : Prop :=
  (edgeL n m i = true → 0 ≤ x ∧ x ≤ p.getD i 0) ∧
  (∀ s k : Nat, s < t → s < (aroundL n m i).length → (aroundL n m i).getD s 0 = k → dn.getD k false = true → 0 ≤ x ∧ x ≤ max (lv.getD k 0) (p.getD i 0)) ∧
  (x = -1 ∨ 0 ≤ x ∧ ((edgeL n m i = true ∧ x = p.getD i 0) ∨ ∃ k : Nat, (k : Int) ∈ aroundL n m i ∧ dn.getD k false = true ∧ x = max (lv.getD k 0) (p.getD i 0)))
theorem cand_edge {n m i : Nat} {p lv : List Int} {dn : List Bool} (he : edgeL n m i = true) (hp : 0 ≤ p.getD i 0) : Cand n m p lv dn i 0 (p.getD i 0) :=
  ⟨fun _ => ⟨hp, Int.le_refl _⟩, fun _ _ h => absurd h (Nat.not_lt_zero _), .inr ⟨hp, .inl ⟨he, rfl⟩⟩⟩
theorem cand_none {n m i : Nat} {p lv : List Int} {dn : List Bool} (he : edgeL n m i = false) : Cand n m p lv dn i 0 (-1) :=
  ⟨fun h => (by rw [he] at h; cases h), fun _ _ h => absurd h (Nat.not_lt_zero _), .inl rfl⟩
theorem Cand.skip {n m i t k : Nat} {p lv : List Int} {dn : List Bool} {x : Int} (C : Cand n m p lv dn i t x) (hk : (aroundL n m i).getD t 0 = k) (hd : dn.getD k false = false) : Cand n m p lv dn i (t + 1) x :=
  ⟨C.1, fun s j hs hs2 hj hdj => by
    by_cases e : s = t
    · subst e
      have : j = k := by omega
      subst this
      rw [hd] at hdj; cases hdj
    · exact C.2.1 s j (by omega) hs2 hj hdj, C.2.2⟩
theorem Cand.keep {n m i t k : Nat} {p lv : List Int} {dn : List Bool} {x : Int} (C : Cand n m p lv dn i t x) (hk : (aroundL n m i).getD t 0 = k) (h0 : ¬ x < 0) (h1 : ¬ max (lv.getD k 0) (p.getD i 0) < x) : Cand n m p lv dn i (t + 1) x :=
  ⟨C.1, fun s j hs hs2 hj hdj => by
    by_cases e : s = t
    · subst e
      have : j = k := by omega
      subst this
      omega
    · exact C.2.1 s j (by omega) hs2 hj hdj, C.2.2⟩
theorem Cand.take {n m i t k : Nat} {p lv : List Int} {dn : List Bool} {x : Int} (C : Cand n m p lv dn i t x) (hp : 0 ≤ p.getD i 0) (ht : t < (aroundL n m i).length) (hk : (aroundL n m i).getD t 0 = k) (hd : dn.getD k false = true)
    (h : x < 0 ∨ max (lv.getD k 0) (p.getD i 0) < x) : Cand n m p lv dn i (t + 1) (max (lv.getD k 0) (p.getD i 0)) := by
  have hmem : (k : Int) ∈ aroundL n m i := by
    rw [← hk, List.getD_eq_getElem?_getD, List.getElem?_eq_getElem ht]
    exact List.getElem_mem ht
  refine ⟨fun he => ?_, fun s j hs hs2 hj hdj => ?_, .inr ⟨by omega, .inr ⟨k, hmem, hd, rfl⟩⟩⟩
  · have := C.1 he
    omega
  · by_cases e : s = t
    · subst e
      have : j = k := by omega
      subst this
      omega
    · have := C.2.1 s j (by omega) hs2 hj hdj
      omega

/-- Whatever an untold cell can be told is no less. -/
def Over (n m : Nat) (p lv : List Int) (dn : List Bool) (L : Int) (x : Nat) : Prop :=
  (edgeL n m x = true → L ≤ p.getD x 0) ∧ ∀ k : Nat, (k : Int) ∈ aroundL n m x → dn.getD k false = true → L ≤ max (lv.getD k 0) (p.getD x 0)
theorem Cand.over {n m i : Nat} {p lv : List Int} {dn : List Bool} {x : Int} (C : Cand n m p lv dn i (aroundL n m i).length x) (L : Int) (h : x < 0 ∨ L ≤ x) : Over n m p lv dn L i := by
  refine ⟨fun he => ?_, fun k hk hd => ?_⟩
  · have := C.1 he; omega
  · obtain ⟨s, hs1, hs2⟩ := List.getElem_of_mem hk
    have := C.2.1 s k hs1 hs1 (by simp [hs1, hs2]) hd
    omega
/-- The best of the untold cells before i. -/
def Best (n m : Nat) (p lv : List Int) (dn : List Bool) (i : Nat) (best low : Int) : Prop :=
  (best = -1 ∧ ∀ x, x < i → dn.getD x false = false → ∀ L, Over n m p lv dn L x) ∨
  ∃ b : Nat, best = b ∧ b < n * m ∧ dn.getD b false = false ∧ Cand n m p lv dn b (aroundL n m b).length low ∧ 0 ≤ low ∧ ∀ x, x < i → dn.getD x false = false → Over n m p lv dn low x
theorem best_start (n m : Nat) (p lv : List Int) (dn : List Bool) (low : Int) : Best n m p lv dn 0 (-1) low := .inl ⟨rfl, fun _ h => absurd h (Nat.not_lt_zero _)⟩
theorem Best.done {n m i : Nat} {p lv : List Int} {dn : List Bool} {best low : Int} (B : Best n m p lv dn i best low) (h : dn.getD i false = true) : Best n m p lv dn (i + 1) best low := by
  have key : ∀ x, x < i + 1 → dn.getD x false = false → x < i := fun x hx hd => by
    by_cases e : x = i
    · subst e; rw [h] at hd; cases hd
    · omega
  rcases B with ⟨h1, h2⟩ | ⟨b, h1, h2, h3, h4, h5, h6⟩
  · exact .inl ⟨h1, fun x hx hd => h2 x (key x hx hd) hd⟩
  · exact .inr ⟨b, h1, h2, h3, h4, h5, fun x hx hd => h6 x (key x hx hd) hd⟩
theorem Best.skip {n m i : Nat} {p lv : List Int} {dn : List Bool} {best low x : Int} (B : Best n m p lv dn i best low) (C : Cand n m p lv dn i (aroundL n m i).length x) (h : x < 0 ∨ ¬ best < 0 ∧ ¬ x < low) : Best n m p lv dn (i + 1) best low := by
  rcases B with ⟨h1, h2⟩ | ⟨b, h1, h2, h3, h4, h5, h6⟩
  · refine .inl ⟨h1, fun y hy hd L => ?_⟩
    by_cases e : y = i
    · subst e; exact C.over L (.inl (by omega))
    · exact h2 y (by omega) hd L
  · refine .inr ⟨b, h1, h2, h3, h4, h5, fun y hy hd => ?_⟩
    by_cases e : y = i
    · subst e; exact C.over low (by omega)
    · exact h6 y (by omega) hd
theorem Best.take {n m i : Nat} {p lv : List Int} {dn : List Bool} {best low x : Int} (B : Best n m p lv dn i best low) (hi : i < n * m) (hd : dn.getD i false = false) (C : Cand n m p lv dn i (aroundL n m i).length x) (h0 : 0 ≤ x) (h : best < 0 ∨ x < low) : Best n m p lv dn (i + 1) i x := by
  refine .inr ⟨i, rfl, hi, hd, C, h0, fun y hy hdy => ?_⟩
  by_cases e : y = i
  · subst e; exact C.over x (.inr (Int.le_refl _))
  · rcases B with ⟨_, h2⟩ | ⟨b, h1, h2, h3, h4, h5, h6⟩
    · exact h2 y (by omega) hdy x
    · have := h6 y (by omega) hdy
      exact ⟨fun he => by have := this.1 he; omega, fun k hk hdk => by have := this.2 k hk hdk; omega⟩

/-- Some cells are told, up to low. -/
structure Pick (n m : Nat) (p lv : List Int) (dn : List Bool) (low : Int) : Prop where
  len : lv.length = n * m
  lenB : dn.length = n * m
  esc : ∀ i, i < n * m → dn.getD i false = true → Esc n m p (lv.getD i 0) i
  edge : ∀ i, i < n * m → dn.getD i false = true → edgeL n m i = true → lv.getD i 0 ≤ p.getD i 0
  calm : ∀ i, i < n * m → dn.getD i false = true → ∀ k : Nat, (k : Int) ∈ aroundL n m i → dn.getD k false = true → lv.getD i 0 ≤ max (lv.getD k 0) (p.getD i 0)
  under : ∀ i, i < n * m → dn.getD i false = true → lv.getD i 0 ≤ low
  over : ∀ i, i < n * m → dn.getD i false = false → Over n m p lv dn low i
theorem pick_start {n m : Nat} {p : List Int} (hp : ∀ i, i < n * m → 0 ≤ p.getD i 0) : Pick n m p (List.replicate (n * m) 0) (List.replicate (n * m) false) 0 := by
  have e : ∀ i, (List.replicate (n * m) false).getD i false = false := fun i => by
    rcases Nat.lt_or_ge i (n * m) with h | h <;> simp [h]
  refine ⟨by simp, by simp, fun i _ h => ?_, fun i _ h => ?_, fun i _ h => ?_, fun i _ h => ?_, fun i hi _ => ⟨fun _ => hp i hi, fun k _ h => ?_⟩⟩
  all_goals (rw [e] at h; cases h)
/-- While a cell is untold, one can be told. -/
theorem Pick.some {n m : Nat} {p lv : List Int} {dn : List Bool} {low best l2 : Int} (P : Pick n m p lv dn low) (hp : ∀ i, i < n * m → p.getD i 0 ≤ 12) (B : Best n m p lv dn (n * m) best l2) (i : Nat) (hi : i < n * m) (hd : dn.getD i false = false) : 0 ≤ best := by
  rcases B with ⟨_, h2⟩ | ⟨b, h1, _⟩
  · exfalso
    have key : ∀ {i : Nat}, Esc n m p 12 i → dn.getD i false = false → False := fun {i} h => by
      induction h with
      | edge h1 h3 h4 => intro hd; have := (h2 _ h1 hd 13).1 h3; omega
      | @step i k h1 h3 h4 h5 ih =>
        intro hd
        cases hk : dn.getD k false with
        | false => exact ih hk
        | true =>
          have hu := P.under k h5.lt hk
          have := (h2 _ h1 hd (max low 12 + 1)).2 k h3 hk
          have := hp i h1
          omega
    exact key (esc_top hp i hi) hd
  · omega
theorem Pick.tell {n m b : Nat} {p lv : List Int} {dn : List Bool} {low l2 : Int} (P : Pick n m p lv dn low) (hn : n ≤ 5) (hm : m ≤ 5) (B : Best n m p lv dn (n * m) b l2) :
    b < n * m ∧ dn.getD b false = false ∧ Pick n m p (lv.set b l2) (dn.set b true) l2 := by
  rcases B with ⟨h1, _⟩ | ⟨b2, h1, hb, hd, C, h0, hov⟩
  · omega
  · have : b2 = b := by omega
    subst this
    have hl := P.len
    have hlB := P.lenB
    have g : ∀ i, (lv.set b2 l2).getD i 0 = if i = b2 then l2 else lv.getD i 0 := fun i => getD_set lv b2 i l2 (by omega)
    have gB : ∀ i, (dn.set b2 true).getD i false = if i = b2 then true else dn.getD i false := fun i => getD_setB dn b2 i true (by omega)
    have hlow : low ≤ l2 := by
      have O := P.over b2 hb hd
      rcases C.2.2 with h | ⟨_, ⟨he, e⟩ | ⟨k, hk, hdk, e⟩⟩
      · omega
      · have := O.1 he; omega
      · have := O.2 k hk hdk; omega
    refine ⟨hb, hd, by simp [hl], by simp [hlB], fun i hi h => ?_, fun i hi h he => ?_, fun i hi h k hk hdk => ?_, fun i hi h => ?_, fun i hi h => ?_⟩
    · rw [gB] at h
      rw [g]
      by_cases e : i = b2
      · subst e
        rw [if_pos rfl]
        rcases C.2.2 with h | ⟨_, ⟨he, e⟩ | ⟨k, hk, hdk, e⟩⟩
        · omega
        · exact .edge hi he (by omega)
        · exact .step hi hk (by omega) ((P.esc k (around_lt hn hm hi hk) hdk).up (by omega))
      · rw [if_neg e] at h ⊢
        exact P.esc i hi h
    · rw [gB] at h
      rw [g]
      by_cases e : i = b2
      · subst e
        rw [if_pos rfl]
        exact (C.1 he).2
      · rw [if_neg e] at h ⊢
        exact P.edge i hi h he
    · rw [gB] at h hdk
      rw [g, g]
      have hkN := around_lt hn hm hi hk
      by_cases e : i = b2
      · subst e
        rw [if_pos rfl]
        by_cases hki : k = i
        · rw [if_pos hki]; omega
        rw [if_neg hki] at hdk ⊢
        obtain ⟨s, hs1, hs2⟩ := List.getElem_of_mem hk
        exact (C.2.1 s k hs1 hs1 (by simp [hs1, hs2]) hdk).2
      · rw [if_neg e] at h ⊢
        by_cases e2 : k = b2
        · rw [if_pos e2]
          have := P.under i hi h
          omega
        · rw [if_neg e2] at hdk ⊢
          exact P.calm i hi h k hk hdk
    · rw [gB] at h
      rw [g]
      by_cases e : i = b2
      · rw [if_pos e]; exact Int.le_refl _
      · rw [if_neg e] at h ⊢
        have := P.under i hi h
        omega
    · rw [gB] at h
      have e : i ≠ b2 := fun e => by rw [if_pos e] at h; cases h
      rw [if_neg e] at h
      have O := hov i hi h
      refine ⟨O.1, fun k hk hdk => ?_⟩
      rw [gB] at hdk
      rw [g]
      by_cases e2 : k = b2
      · rw [if_pos e2]; omega
      · rw [if_neg e2] at hdk ⊢
        exact O.2 k hk hdk
theorem Pick.level {n m : Nat} {p lv : List Int} {dn : List Bool} {low : Int} (P : Pick n m p lv dn low) (hn : n ≤ 5) (hm : m ≤ 5) (h : dn.count false = 0) : Level n m p lv := by
  have all : ∀ i, i < n * m → dn.getD i false = true := fun i hi => by
    cases hd : dn.getD i false with
    | true => rfl
    | false =>
      have hi2 : i < dn.length := by rw [P.lenB]; exact hi
      have : false ∈ dn := by
        rw [← hd, List.getD_eq_getElem?_getD, List.getElem?_eq_getElem hi2]
        exact List.getElem_mem hi2
      have := List.count_pos_iff.2 this
      omega
  exact ⟨P.len, fun i hi => P.edge i hi (all i hi), fun i hi k hk => P.calm i hi (all i hi) k hk (all k (around_lt hn hm hi hk)), fun i hi => P.esc i hi (all i hi)⟩
end Go.Proofs.YteojdpfhhbcjlaaDoor
