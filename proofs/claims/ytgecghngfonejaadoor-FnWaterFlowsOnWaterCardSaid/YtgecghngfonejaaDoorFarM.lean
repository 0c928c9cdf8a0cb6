/- How far water is from running off, found by rounds, as lists. -/
import Derived.Test.YtgecghngfonejaaDoorFlowM
namespace Go.Proofs.YtgecghngfonejaaDoor
open Go.RowKit

/-- A lower one among the first t of the cells beside i. -/
def LowB (n m : Nat) (ws : List Int) (i t : Nat) : Prop := ∃ s k : Nat, s < t ∧ s < (aroundL n m i).length ∧ (aroundL n m i).getD s 0 = k ∧ ws.getD k 0 < ws.getD i 0
theorem lowB_zero (n m : Nat) (ws : List Int) (i : Nat) : ¬ LowB n m ws i 0 := fun ⟨_, _, h, _⟩ => absurd h (Nat.not_lt_zero _)
theorem LowB.hit {n m i t k : Nat} {ws : List Int} (ht : t < (aroundL n m i).length) (hk : (aroundL n m i).getD t 0 = k) (h : ws.getD k 0 < ws.getD i 0) : LowB n m ws i (t + 1) := ⟨t, k, by omega, ht, hk, h⟩
theorem LowB.more {n m i t : Nat} {ws : List Int} (h : LowB n m ws i t) : LowB n m ws i (t + 1) := by
  obtain ⟨s, k, h1, h2⟩ := h
  exact ⟨s, k, by omega, h2⟩
theorem lowB_skip {n m i t k : Nat} {ws : List Int} (h : ¬ LowB n m ws i t) (hk : (aroundL n m i).getD t 0 = k) (h2 : ¬ ws.getD k 0 < ws.getD i 0) : ¬ LowB n m ws i (t + 1) := by
  rintro ⟨s, j, h3, h4, h5, h6⟩
  by_cases e : s = t
  · subst e
    have : j = k := by omega
    subst this
    exact h2 h6
  · exact h ⟨s, j, by omega, h4, h5, h6⟩
theorem lowB_base {n m i : Nat} {ws : List Int} : edgeL n m i = true ∨ LowB n m ws i (aroundL n m i).length ↔ BaseF n m ws i := by
  constructor
  · rintro (h | ⟨s, k, _, h2, h3, h4⟩)
    · exact .inl h
    · refine .inr ⟨k, ?_, h4⟩
      rw [← h3, List.getD_eq_getElem?_getD, List.getElem?_eq_getElem h2]
      exact List.getElem_mem h2
  · rintro (h | ⟨k, hk, h⟩)
    · exact .inl h
    · obtain ⟨s, hs1, hs2⟩ := List.getElem_of_mem hk
      exact .inr ⟨s, k, hs1, hs1, by simp [hs1, hs2], h⟩
/-- The cells before I: 0 at those from which it runs off, -1 at the others. -/
def FStart (n m : Nat) (ws ds : List Int) (I : Nat) : Prop := ds.length = I ∧ ∀ i, i < I → (ds.getD i 0 = 0 ∧ BaseF n m ws i) ∨ (ds.getD i 0 = -1 ∧ ¬ BaseF n m ws i)
theorem fStart (n m : Nat) (ws : List Int) : FStart n m ws [] 0 := ⟨rfl, fun _ h => absurd h (Nat.not_lt_zero _)⟩
theorem FStart.snoc {n m I : Nat} {ws ds : List Int} {x : Int} (F : FStart n m ws ds I) (h : (x = 0 ∧ BaseF n m ws I) ∨ (x = -1 ∧ ¬ BaseF n m ws I)) : FStart n m ws (ds ++ [x]) (I + 1) := by
  refine ⟨by simp [F.1], fun i hi => ?_⟩
  by_cases e : i = I
  · subst e
    rw [← F.1, getD_append_r, F.1]
    exact h
  · rw [getD_append_l _ _ _ _ (by rw [F.1]; omega)]
    exact F.2 i (by omega)
/-- In round d: the cells before I are done. -/
structure FRound (n m : Nat) (ws ds : List Int) (d I : Nat) : Prop where
  len : ds.length = n * m
  vals : ∀ i, i < n * m → ds.getD i 0 = -1 ∨ 0 ≤ ds.getD i 0
  zero : ∀ i, i < n * m → (ds.getD i 0 = 0 ↔ BaseF n m ws i)
  top : ∀ i, i < n * m → ds.getD i 0 ≤ d + 1
  step : ∀ i, i < n * m → ds.getD i 0 ≠ -1 → ds.getD i 0 ≠ 0 → ∃ k : Nat, (k : Int) ∈ aroundL n m i ∧ ws.getD k 0 = ws.getD i 0 ∧ ds.getD k 0 ≠ -1 ∧ ds.getD k 0 + 1 = ds.getD i 0
  near : ∀ k, k < n * m → ds.getD k 0 ≠ -1 → ds.getD k 0 < d → ∀ i : Nat, (i : Int) ∈ aroundL n m k → ws.getD i 0 = ws.getD k 0 → ds.getD i 0 ≠ -1 ∧ ds.getD i 0 ≤ ds.getD k 0 + 1
  cur : ∀ i, i < n * m → i < I → ∀ k : Nat, (k : Int) ∈ aroundL n m i → ws.getD k 0 = ws.getD i 0 → ds.getD k 0 = d → ds.getD i 0 ≠ -1
/-- None of the first t cells beside I tells it. -/
def FNo (n m : Nat) (ws ds : List Int) (d I t : Nat) : Prop := ∀ s k : Nat, s < t → s < (aroundL n m I).length → (aroundL n m I).getD s 0 = k → ¬ (ds.getD k 0 = d ∧ ws.getD k 0 = ws.getD I 0)
section
variable {n m : Nat} {ws ds : List Int}
theorem fNo_zero (n m : Nat) (ws ds : List Int) (d I : Nat) : FNo n m ws ds d I 0 := fun _ _ h => absurd h (Nat.not_lt_zero _)
theorem FNo.skip {d I t k : Nat} (F : FNo n m ws ds d I t) (hk : (aroundL n m I).getD t 0 = k) (h : ¬ (ds.getD k 0 = d ∧ ws.getD k 0 = ws.getD I 0)) : FNo n m ws ds d I (t + 1) := fun s j h1 h2 h3 => by
  by_cases e : s = t
  · subst e
    have : j = k := by omega
    subst this
    exact h
  · exact F s j (by omega) h2 h3
theorem FStart.round (F : FStart n m ws ds (n * m)) : FRound n m ws ds 0 0 := by
  refine ⟨F.1, fun i hi => ?_, fun i hi => ?_, fun i hi => ?_, fun i hi h1 h2 => ?_, fun k hk h1 h2 => ?_, fun i _ h => absurd h (Nat.not_lt_zero _)⟩
  · rcases F.2 i hi with h | h
    · exact .inr (by omega)
    · exact .inl h.1
  · rcases F.2 i hi with h | h
    · exact ⟨fun _ => h.2, fun _ => h.1⟩
    · exact ⟨fun h2 => by omega, fun h2 => absurd h2 h.2⟩
  · rcases F.2 i hi with h | h <;> omega
  · rcases F.2 i hi with h | h
    · exact absurd h.1 h2
    · exact absurd h.1 h1
  · rcases F.2 k hk with h | h <;> omega
theorem FRound.tell {d I t k : Nat} (F : FRound n m ws ds d I) (hn : n ≤ 5) (hm : m ≤ 5) (hI : I < n * m) (hu : ds.getD I 0 = -1) (ht : t < (aroundL n m I).length) (hk : (aroundL n m I).getD t 0 = k) (h1 : ds.getD k 0 = d) (h2 : ws.getD k 0 = ws.getD I 0) :
    FRound n m ws (ds.set I ((d : Int) + 1)) d I := by
  have hl := F.len
  have hmem : (k : Int) ∈ aroundL n m I := by
    rw [← hk, List.getD_eq_getElem?_getD, List.getElem?_eq_getElem ht]
    exact List.getElem_mem ht
  have hkN := around_lt hn hm hI hmem
  have g : ∀ x, (ds.set I ((d : Int) + 1)).getD x 0 = if x = I then (d : Int) + 1 else ds.getD x 0 := fun x => getD_set ds I x _ (by omega)
  have up : ∀ x, ds.getD x 0 ≠ -1 → (ds.set I ((d : Int) + 1)).getD x 0 = ds.getD x 0 := fun x h => by
    rw [g, if_neg (fun e => h (by rw [e]; exact hu))]
  refine ⟨by simp [hl], fun i hi => ?_, fun i hi => ?_, fun i hi => ?_, fun i hi a1 a2 => ?_, fun j hj a1 a2 i hi2 hw => ?_, fun i hi hlt j hj hw hd => ?_⟩
  · rw [g]; split
    · right; omega
    · exact F.vals i hi
  · rw [g]
    by_cases e : i = I
    · subst e
      rw [if_pos rfl]
      refine ⟨fun h => by omega, fun h => ?_⟩
      have := (F.zero i hi).2 h
      omega
    · rw [if_neg e]; exact F.zero i hi
  · rw [g]
    have := F.top i hi
    split <;> omega
  · rw [g] at a1 a2 ⊢
    by_cases e : i = I
    · subst e
      rw [if_pos rfl]
      exact ⟨k, hmem, h2, by rw [up k (by omega)]; omega, by rw [up k (by omega)]; omega⟩
    · rw [if_neg e] at a1 a2 ⊢
      obtain ⟨j, b1, b2, b3, b4⟩ := F.step i hi a1 a2
      exact ⟨j, b1, b2, by rw [up j b3]; exact b3, by rw [up j b3]; exact b4⟩
  · rw [g] at a1 a2
    by_cases e : j = I
    · subst e
      rw [if_pos rfl] at a2
      omega
    · rw [if_neg e] at a1 a2
      obtain ⟨b1, b2⟩ := F.near j hj a1 a2 i hi2 hw
      rw [up i b1, up j a1]
      exact ⟨b1, b2⟩
  · rw [g] at hd ⊢
    by_cases e : j = I
    · rw [if_pos e] at hd; omega
    · rw [if_neg e] at hd
      have := F.cur i hi hlt j hj hw hd
      rw [if_neg (by omega)]
      exact this
theorem FRound.next {d I : Nat} (F : FRound n m ws ds d I) (h : ds.getD I 0 ≠ -1 ∨ FNo n m ws ds d I (aroundL n m I).length) : FRound n m ws ds d (I + 1) :=
  ⟨F.len, F.vals, F.zero, F.top, F.step, F.near, fun i hi hlt k hk hw hd => by
    by_cases e : i = I
    · subst e
      rcases h with h | h
      · exact h
      · obtain ⟨s, hs1, hs2⟩ := List.getElem_of_mem hk
        exact absurd ⟨hd, hw⟩ (h s k hs1 hs1 (by simp [hs1, hs2]))
    · exact F.cur i hi (by omega) k hk hw hd⟩
theorem FRound.again {d : Nat} (F : FRound n m ws ds d (n * m)) (hn : n ≤ 5) (hm : m ≤ 5) : FRound n m ws ds (d + 1) 0 := by
  refine ⟨F.len, F.vals, F.zero, fun i hi => ?_, F.step, fun k hk h1 h2 i hi hw => ?_, fun i _ h => absurd h (Nat.not_lt_zero _)⟩
  · have := F.top i hi; omega
  · have hiN := around_lt hn hm hk hi
    by_cases e : ds.getD k 0 = d
    · have h3 := F.cur i hiN hiN k (around_back hn hm hk hi) hw.symm e
      have h4 := F.top i hiN
      exact ⟨h3, by omega⟩
    · exact F.near k hk h1 (by omega) i hi hw
/-- A list that holds 0 to v has more than v numbers. -/
theorem holds_long : ∀ (v : Nat) (l : List Int), (∀ j : Nat, j < v → (j : Int) ∈ l) → v ≤ l.length
  | 0, _, _ => Nat.zero_le _
  | v + 1, l, h => by
    have hv := h v (by omega)
    have := holds_long v (l.erase (v : Int)) fun j hj => (List.mem_erase_of_ne (by omega)).2 (h j (by omega))
    rw [List.length_erase_of_mem hv] at this
    have := List.length_pos_of_mem hv
    omega
theorem Away.chain (F : Away n m ws ds) (hn : n ≤ 5) (hm : m ≤ 5) : ∀ v : Nat, ∀ i, i < n * m → ds.getD i 0 = v → ∀ j : Nat, j ≤ v → (j : Int) ∈ ds := fun v => by
  induction v with
  | zero =>
    intro i hi h j hj
    have hj0 : j = 0 := by omega
    subst hj0
    have := F.len
    rw [← h, List.getD_eq_getElem?_getD, List.getElem?_eq_getElem (by omega)]
    exact List.getElem_mem _
  | succ v ih =>
    intro i hi h j hj
    by_cases e : j = v + 1
    · subst e
      have := F.len
      rw [← h, List.getD_eq_getElem?_getD, List.getElem?_eq_getElem (by omega)]
      exact List.getElem_mem _
    · obtain ⟨k, b1, _, b3⟩ := F.step i hi (by omega)
      exact ih k (around_lt hn hm hi b1) (by omega) j (by omega)
theorem Away.cap (F : Away n m ws ds) (hn : n ≤ 5) (hm : m ≤ 5) (i : Nat) (hi : i < n * m) : ds.getD i 0 < ((n * m : Nat) : Int) := by
  obtain ⟨v, hv⟩ := Int.eq_ofNat_of_zero_le (F.pos i hi)
  have := holds_long (v + 1) ds fun j hj => F.chain hn hm v i hi hv j (by omega)
  rw [F.len] at this
  omega
theorem FRound.chain {d I : Nat} (F : FRound n m ws ds d I) (hn : n ≤ 5) (hm : m ≤ 5) : ∀ v : Nat, ∀ i, i < n * m → ds.getD i 0 = v → ∀ j : Nat, j ≤ v → (j : Int) ∈ ds := fun v => by
  induction v with
  | zero =>
    intro i hi h j hj
    have hj0 : j = 0 := by omega
    subst hj0
    have := F.len
    rw [← h, List.getD_eq_getElem?_getD, List.getElem?_eq_getElem (by omega)]
    exact List.getElem_mem _
  | succ v ih =>
    intro i hi h j hj
    by_cases e : j = v + 1
    · subst e
      have := F.len
      rw [← h, List.getD_eq_getElem?_getD, List.getElem?_eq_getElem (by omega)]
      exact List.getElem_mem _
    · obtain ⟨k, b1, _, b3, b4⟩ := F.step i hi (by omega) (by omega)
      exact ih k (around_lt hn hm hi b1) (by omega) j (by omega)
theorem FRound.away {p : List Int} (F : FRound n m ws ds (n * m) 0) (W : Level n m p ws) (hn : n ≤ 5) (hm : m ≤ 5) : Away n m ws ds := by
  have hlt : ∀ i, i < n * m → ds.getD i 0 < ((n * m : Nat) : Int) := fun i hi => by
    rcases F.vals i hi with h | h
    · omega
    · obtain ⟨v, hv⟩ := Int.eq_ofNat_of_zero_le h
      have := holds_long (v + 1) ds fun j hj => F.chain hn hm v i hi hv j (by omega)
      rw [F.len] at this
      omega
  have all := all_told (ds := ds) W (fun i hi hb => by have := (F.zero i hi).2 hb; omega) (fun i hi h k hk hw => (F.near i hi h (hlt i hi) k hk hw).1) hn hm
  refine ⟨F.len, F.zero, fun i hi => ?_, fun i hi k hk hw => ?_, fun i hi h => ?_⟩
  · rcases F.vals i hi with h | h
    · exact absurd h (all i hi)
    · exact h
  · have hkN := around_lt hn hm hi hk
    exact (F.near k hkN (all k hkN) (hlt k hkN) i (around_back hn hm hi hk) hw.symm).2
  · obtain ⟨k, h1, h2, _, h4⟩ := F.step i hi (all i hi) h
    exact ⟨k, h1, h2, h4⟩
end
end Go.Proofs.YtgecghngfonejaaDoor
