/- How far water is from running off, and where it runs, as lists. -/
import Derived.Test.YtgecghngfonejaaDoorShapes2
namespace Go.Proofs.YtgecghngfonejaaDoor
open Go.RowKit

/-- At the edge, or with a lower cell beside. -/
def BaseF (n m : Nat) (ws : List Int) (i : Nat) : Prop := edgeL n m i = true ∨ ∃ k : Nat, (k : Int) ∈ aroundL n m i ∧ ws.getD k 0 < ws.getD i 0
/-- How far each cell is from such a one, by cells of its height: there is one such list. -/
structure Away (n m : Nat) (ws ds : List Int) : Prop where
  len : ds.length = n * m
  zero : ∀ i, i < n * m → (ds.getD i 0 = 0 ↔ BaseF n m ws i)
  pos : ∀ i, i < n * m → 0 ≤ ds.getD i 0
  near : ∀ i, i < n * m → ∀ k : Nat, (k : Int) ∈ aroundL n m i → ws.getD k 0 = ws.getD i 0 → ds.getD i 0 ≤ ds.getD k 0 + 1
  step : ∀ i, i < n * m → ds.getD i 0 ≠ 0 → ∃ k : Nat, (k : Int) ∈ aroundL n m i ∧ ws.getD k 0 = ws.getD i 0 ∧ ds.getD k 0 + 1 = ds.getD i 0
theorem Away.le {n m : Nat} {ws ds es : List Int} (hn : n ≤ 5) (hm : m ≤ 5) (V : Away n m ws ds) (W : Away n m ws es) : ∀ d : Nat, ∀ i, i < n * m → es.getD i 0 = d → ds.getD i 0 ≤ d
  | 0, i, hi, h => by
    have := (V.zero i hi).2 ((W.zero i hi).1 h)
    omega
  | d + 1, i, hi, h => by
    obtain ⟨k, h1, h2, h3⟩ := W.step i hi (by omega)
    have h4 := Away.le hn hm V W d k (around_lt hn hm hi h1) (by omega)
    have h5 := V.near i hi k h1 h2
    omega
theorem Away.uniq {n m : Nat} {ws ds es : List Int} (hn : n ≤ 5) (hm : m ≤ 5) (V : Away n m ws ds) (W : Away n m ws es) : ds = es :=
  ext_getD V.len W.len fun i hi => by
    obtain ⟨d, hd⟩ := Int.eq_ofNat_of_zero_le (W.pos i hi)
    obtain ⟨e, he⟩ := Int.eq_ofNat_of_zero_le (V.pos i hi)
    have h1 := Away.le hn hm V W d i hi hd
    have h2 := Away.le hn hm W V e i hi he
    omega
/-- What is told goes on over cells of one height: then all are told. -/
theorem all_told {n m : Nat} {p ws ds : List Int} (W : Level n m p ws) (hb : ∀ i, i < n * m → BaseF n m ws i → ds.getD i 0 ≠ -1)
    (hc : ∀ i, i < n * m → ds.getD i 0 ≠ -1 → ∀ k : Nat, (k : Int) ∈ aroundL n m i → ws.getD k 0 = ws.getD i 0 → ds.getD k 0 ≠ -1) (hn : n ≤ 5) (hm : m ≤ 5) : ∀ i, i < n * m → ds.getD i 0 ≠ -1 := fun i hi => by
  have key : ∀ {L : Int} {j : Nat}, Esc n m p L j → ws.getD j 0 = L → ds.getD j 0 ≠ -1 := fun {L j} h => by
    induction h with
    | edge h1 h2 _ => exact fun _ => hb _ h1 (.inl h2)
    | @step j k h1 h2 h3 h4 ih =>
      intro e
      have hk := W.le h4
      by_cases hlt : ws.getD k 0 < ws.getD j 0
      · exact hb _ h1 (.inr ⟨k, h2, hlt⟩)
      · exact hc k h4.lt (ih (by omega)) j (around_back hn hm h1 h2) (by omega)
  exact key (W.esc i hi) rfl

/-! Where water runs. -/
/-- The lowest of i and the first t of L. -/
def lowU (ws : List Int) (L : List Int) (i : Nat) : Nat → Nat
  | 0 => i
  | t + 1 => if ws.getD (L.getD t 0).toNat 0 < ws.getD (lowU ws L i t) 0 then (L.getD t 0).toNat else lowU ws L i t
theorem lowU_le (ws L : List Int) (i : Nat) : ∀ t, ws.getD (lowU ws L i t) 0 ≤ ws.getD i 0 ∧ (lowU ws L i t = i ∨ ws.getD (lowU ws L i t) 0 < ws.getD i 0)
  | 0 => ⟨Int.le_refl _, .inl rfl⟩
  | t + 1 => by
    have := lowU_le ws L i t
    rw [lowU]
    split
    · rename_i h
      exact ⟨by omega, .inr (by omega)⟩
    · exact this
theorem lowU_mem (ws L : List Int) (i : Nat) : ∀ t, t ≤ L.length → lowU ws L i t = i ∨ ∃ s, s < t ∧ lowU ws L i t = (L.getD s 0).toNat
  | 0, _ => .inl rfl
  | t + 1, ht => by
    rw [lowU]
    split
    · exact .inr ⟨t, by omega, rfl⟩
    · rcases lowU_mem ws L i t (by omega) with h | ⟨s, h1, h2⟩
      · exact .inl h
      · exact .inr ⟨s, by omega, h2⟩
theorem lowU_least (ws L : List Int) (i : Nat) : ∀ t, ∀ s, s < t → ws.getD (lowU ws L i t) 0 ≤ ws.getD (L.getD s 0).toNat 0
  | 0, _, h => absurd h (Nat.not_lt_zero _)
  | t + 1, s, hs => by
    rw [lowU]
    by_cases e : s = t
    · subst e
      split <;> omega
    · have := lowU_least ws L i t s (by omega)
      split <;> omega
/-- A cell of the height of i that is nearer: the first one of L from t on; none: -1. -/
def nearB (ws ds : List Int) (i k : Nat) : Bool := decide (ws.getD k 0 = ws.getD i 0) && decide (ds.getD k 0 < ds.getD i 0)
def nearU (ws ds : List Int) (L : List Int) (i : Nat) : Int := ((L.find? fun x => nearB ws ds i x.toNat).getD (-1))
def tgtU (ws ds : List Int) (L : List Int) (i : Nat) : Int := if lowU ws L i L.length = i then nearU ws ds L i else (lowU ws L i L.length : Nat)
noncomputable def awayL (n m : Nat) (ws : List Int) : List Int := pickL (Away n m ws)
theorem Away.eq {n m : Nat} {ws ds : List Int} (hn : n ≤ 5) (hm : m ≤ 5) (W : Away n m ws ds) : awayL n m ws = ds := pickL_eq W fun _ V => V.uniq hn hm W
/-- The first k targets. -/
def tgtsU (n m : Nat) (ws ds : List Int) (k : Nat) : List Int := (List.range k).map fun i => tgtU ws ds (aroundL n m i) i
noncomputable def tgtsL (h : List (List Int)) : List Int := tgtsU h.length (h.getD 0 []).length (levelL h.length (h.getD 0 []).length h.flatten) (awayL h.length (h.getD 0 []).length (levelL h.length (h.getD 0 []).length h.flatten)) (h.length * (h.getD 0 []).length)
noncomputable def flowL (h : List (List Int)) : List (List Int) := if vGrid h then shapeL (tgtsL h) (h.getD 0 []).length h.length else []
theorem flowL_no {h : List (List Int)} (hg : vGrid h = false) : flowL h = [] := by unfold flowL; rw [hg]; rfl
theorem tgtsU_len (n m : Nat) (ws ds : List Int) (k : Nat) : (tgtsU n m ws ds k).length = k := by simp [tgtsU]
theorem tgtsU_succ (n m : Nat) (ws ds : List Int) (k : Nat) : tgtsU n m ws ds (k + 1) = tgtsU n m ws ds k ++ [tgtU ws ds (aroundL n m k) k] := by simp [tgtsU, List.range_succ]
theorem tgtsU_at (n m : Nat) (ws ds : List Int) (k i : Nat) (h : i < k) : (tgtsU n m ws ds k).getD i 0 = tgtU ws ds (aroundL n m i) i := by simp [tgtsU, h]

/-! The search from many cells at once. -/
/-- While the first cells are told: the cells before I. -/
structure AStart (n m : Nat) (ws ds ls : List Int) (I : Nat) : Prop where
  len : ds.length = n * m
  told : ∀ i, i < n * m → i < I → (ds.getD i 0 = 0 ↔ BaseF n m ws i) ∧ (ds.getD i 0 = 0 ∨ ds.getD i 0 = -1)
  un : ∀ i, i < n * m → I ≤ i → ds.getD i 0 = -1
  mem : ∀ s, s < ls.length → ∃ X : Nat, ls.getD s 0 = X ∧ X < n * m ∧ ds.getD X 0 = 0
  all : ∀ x, x < n * m → ds.getD x 0 ≠ -1 → ∃ s, s < ls.length ∧ ls.getD s 0 = (x : Int)
  room : ls.length + ds.count (-1) ≤ n * m
/-- While the cells that wait are gone over: the first q are done. -/
structure AGo (n m : Nat) (ws ds ls : List Int) (q : Nat) : Prop where
  len : ds.length = n * m
  vals : ∀ i, i < n * m → ds.getD i 0 = -1 ∨ 0 ≤ ds.getD i 0
  zero : ∀ i, i < n * m → (ds.getD i 0 = 0 ↔ BaseF n m ws i)
  step : ∀ i, i < n * m → ds.getD i 0 ≠ -1 → ds.getD i 0 ≠ 0 → ∃ k : Nat, (k : Int) ∈ aroundL n m i ∧ ws.getD k 0 = ws.getD i 0 ∧ ds.getD k 0 ≠ -1 ∧ ds.getD k 0 + 1 = ds.getD i 0
  mem : ∀ s, s < ls.length → ∃ X : Nat, ls.getD s 0 = X ∧ X < n * m ∧ ds.getD X 0 ≠ -1
  all : ∀ x, x < n * m → ds.getD x 0 ≠ -1 → ∃ s, s < ls.length ∧ ls.getD s 0 = (x : Int)
  sort : ∀ s t, s ≤ t → t < ls.length → ds.getD (ls.getD s 0).toNat 0 ≤ ds.getD (ls.getD t 0).toNat 0
  room : ls.length + ds.count (-1) ≤ n * m
  cap : ∀ i, i < n * m → ds.getD i 0 < (ls.length : Int)
  top : ∀ s, q < ls.length → s < ls.length → ds.getD (ls.getD s 0).toNat 0 ≤ ds.getD (ls.getD q 0).toNat 0 + 1
  done : ∀ s, s < q → s < ls.length → ∀ X : Nat, ls.getD s 0 = X → ∀ k : Nat, (k : Int) ∈ aroundL n m X → ws.getD k 0 = ws.getD X 0 → ds.getD k 0 ≠ -1 ∧ ds.getD k 0 ≤ ds.getD X 0 + 1
/-- The first t of the cells beside the one at place q are done. -/
def ASeen (n m : Nat) (ws ds : List Int) (X t : Nat) : Prop :=
  ∀ s k : Nat, s < t → s < (aroundL n m X).length → (aroundL n m X).getD s 0 = k → ws.getD k 0 = ws.getD X 0 → ds.getD k 0 ≠ -1 ∧ ds.getD k 0 ≤ ds.getD X 0 + 1
section
variable {n m : Nat} {ws ds ls : List Int}
theorem aStart (n m : Nat) (ws : List Int) : AStart n m ws (List.replicate (n * m) (-1)) [] 0 := by
  have e : ∀ i, i < n * m → (List.replicate (n * m) (-1 : Int)).getD i 0 = -1 := fun i hi => by simp [hi]
  refine ⟨by simp, fun i _ h => absurd h (Nat.not_lt_zero _), fun i hi _ => e i hi, fun s hs => absurd hs (Nat.not_lt_zero _), fun x hx h => absurd (e x hx) h, ?_⟩
  have := count_le (List.replicate (n * m) (-1 : Int))
  simp only [List.length_replicate] at this
  simp only [List.length_nil]
  omega
theorem AStart.skip {I : Nat} (A : AStart n m ws ds ls I) (hI : I < n * m) (hb : ¬ BaseF n m ws I) : AStart n m ws ds ls (I + 1) := by
  have hu := A.un I hI (Nat.le_refl _)
  refine ⟨A.len, fun i hi hi2 => ?_, fun i hi hi2 => A.un i hi (by omega), A.mem, A.all, A.room⟩
  by_cases e : i = I
  · subst e
    exact ⟨⟨fun h => by omega, fun h => absurd h hb⟩, .inr hu⟩
  · exact A.told i hi (by omega)
theorem AStart.tell {I : Nat} (A : AStart n m ws ds ls I) (hI : I < n * m) (hb : BaseF n m ws I) : AStart n m ws (ds.set I 0) (ls ++ [(I : Int)]) (I + 1) := by
  have hl := A.len
  have hu := A.un I hI (Nat.le_refl _)
  have g : ∀ x, (ds.set I 0).getD x 0 = if x = I then 0 else ds.getD x 0 := fun x => getD_set ds I x 0 (by omega)
  refine ⟨by simp [hl], fun i hi hi2 => ?_, fun i hi hi2 => ?_, fun s hs => ?_, fun x hx h => ?_, ?_⟩
  · rw [g]
    by_cases e : i = I
    · subst e
      rw [if_pos rfl]
      exact ⟨⟨fun _ => hb, fun _ => rfl⟩, .inl rfl⟩
    · rw [if_neg e]; exact A.told i hi (by omega)
  · rw [g, if_neg (by omega)]; exact A.un i hi (by omega)
  · by_cases e : s = ls.length
    · subst e
      exact ⟨I, getD_append_r _ _ _, hI, by rw [g, if_pos rfl]⟩
    · have hs' : s < ls.length := by simp at hs; omega
      obtain ⟨X, h1, h2, h3⟩ := A.mem s hs'
      refine ⟨X, by rw [getD_append_l _ _ _ _ hs', h1], h2, ?_⟩
      rw [g]; split
      · rfl
      · exact h3
  · rw [g] at h
    by_cases e : x = I
    · subst e; exact ⟨ls.length, by simp, getD_append_r _ _ _⟩
    · rw [if_neg e] at h
      obtain ⟨s, h1, h2⟩ := A.all x hx h
      exact ⟨s, by simp; omega, by rw [getD_append_l _ _ _ _ h1, h2]⟩
  · have := count_set ds I 0 (by omega) hu (by omega)
    have := A.room
    simp only [List.length_append, List.length_singleton]
    omega
theorem AStart.go (A : AStart n m ws ds ls (n * m)) : AGo n m ws ds ls 0 := by
  have hz : ∀ s, s < ls.length → ds.getD (ls.getD s 0).toNat 0 = 0 := fun s hs => by
    obtain ⟨X, h1, _, h3⟩ := A.mem s hs
    rw [h1, Int.toNat_natCast, h3]
  refine ⟨A.len, fun i hi => ?_, fun i hi => (A.told i hi hi).1, fun i hi h1 h2 => ?_, fun s hs => ?_, A.all, fun s t hst ht => ?_, A.room, fun i hi => ?_, fun s hq hs => ?_, fun s hs => absurd hs (Nat.not_lt_zero _)⟩
  · rcases (A.told i hi hi).2 with h | h <;> omega
  · rcases (A.told i hi hi).2 with h | h
    · exact absurd h h2
    · exact absurd h h1
  · obtain ⟨X, h1, h2, h3⟩ := A.mem s hs
    exact ⟨X, h1, h2, by omega⟩
  · rw [hz s (by omega), hz t ht]; exact Int.le_refl _
  · rcases (A.told i hi hi).2 with h | h
    · obtain ⟨s, hs, _⟩ := A.all i hi (by omega)
      omega
    · omega
  · rw [hz s hs, hz 0 hq]; omega
theorem aSeen_zero (n m : Nat) (ws ds : List Int) (X : Nat) : ASeen n m ws ds X 0 := fun _ _ h => absurd h (Nat.not_lt_zero _)
theorem AGo.cell {q : Nat} (A : AGo n m ws ds ls q) (hq : q < ls.length) : ∃ X : Nat, ls.getD q 0 = X ∧ X < n * m ∧ 0 ≤ ds.getD X 0 := by
  obtain ⟨X, h1, h2, h3⟩ := A.mem q hq
  refine ⟨X, h1, h2, ?_⟩
  rcases A.vals X h2 with h | h
  · exact absurd h h3
  · exact h
theorem AGo.bound {q X : Nat} (A : AGo n m ws ds ls q) (hq : q < ls.length) (hX : ls.getD q 0 = X) {k : Nat} (hk : k < n * m) (ht : ds.getD k 0 ≠ -1) : ds.getD k 0 ≤ ds.getD X 0 + 1 := by
  obtain ⟨s, h1, h2⟩ := A.all k hk ht
  have := A.top s hq h1
  rw [h2, hX, Int.toNat_natCast, Int.toNat_natCast] at this
  exact this
theorem AGo.skip {q X t k : Nat} (A : AGo n m ws ds ls q) (hn : n ≤ 5) (hm : m ≤ 5) (hq : q < ls.length) (hX : ls.getD q 0 = X) (D : ASeen n m ws ds X t) (ht : t < (aroundL n m X).length) (hk : (aroundL n m X).getD t 0 = k)
    (h : ds.getD k 0 ≠ -1 ∨ ws.getD k 0 ≠ ws.getD X 0) : ASeen n m ws ds X (t + 1) := fun s j h1 h2 h3 h4 => by
  by_cases e : s = t
  · subst e
    have : j = k := by omega
    subst this
    rcases h with h | h
    · obtain ⟨Y, hY, hYN, _⟩ := A.cell hq
      have : Y = X := by omega
      subst this
      refine ⟨h, A.bound hq hX (around_lt hn hm hYN ?_) h⟩
      rw [← hk, List.getD_eq_getElem?_getD, List.getElem?_eq_getElem ht]
      exact List.getElem_mem ht
    · exact absurd h4 h
  · exact D s j (by omega) h2 h3 h4
theorem AGo.tell {q X t k : Nat} (A : AGo n m ws ds ls q) (hn : n ≤ 5) (hm : m ≤ 5) (hq : q < ls.length) (hX : ls.getD q 0 = X) (D : ASeen n m ws ds X t) (ht : t < (aroundL n m X).length) (hk : (aroundL n m X).getD t 0 = k)
    (hu : ds.getD k 0 = -1) (hw : ws.getD k 0 = ws.getD X 0) :
    AGo n m ws (ds.set k (ds.getD X 0 + 1)) (ls ++ [(k : Int)]) q ∧ (ls ++ [(k : Int)]).getD q 0 = X ∧ ASeen n m ws (ds.set k (ds.getD X 0 + 1)) X (t + 1) ∧ (ds.set k (ds.getD X 0 + 1)).getD X 0 = ds.getD X 0 := by
  obtain ⟨Y, hY, hXN, hX0⟩ := A.cell hq
  have : Y = X := by omega
  subst this
  have hmem : (k : Int) ∈ aroundL n m Y := by
    rw [← hk, List.getD_eq_getElem?_getD, List.getElem?_eq_getElem ht]
    exact List.getElem_mem ht
  have hkN := around_lt hn hm hXN hmem
  have hl := A.len
  obtain ⟨z, ez⟩ : ∃ z, ds.getD Y 0 = z := ⟨_, rfl⟩
  rw [ez] at hX0 ⊢
  have g : ∀ x, (ds.set k (z + 1)).getD x 0 = if x = k then z + 1 else ds.getD x 0 := fun x => getD_set ds k x (z + 1) (by omega)
  have hYk : Y ≠ k := fun e => by rw [e] at ez; omega
  have up : ∀ x, x < n * m → ds.getD x 0 ≠ -1 → (ds.set k (z + 1)).getD x 0 = ds.getD x 0 := fun x hx h => by
    rw [g, if_neg (fun e => h (by rw [e]; exact hu))]
  have lsm : ∀ s, s < ls.length → (ds.set k (z + 1)).getD (ls.getD s 0).toNat 0 = ds.getD (ls.getD s 0).toNat 0 := fun s hs => by
    obtain ⟨Z, h1, h2, h3⟩ := A.mem s hs
    rw [h1, Int.toNat_natCast]
    exact up Z h2 h3
  have lk : (ds.set k (z + 1)).getD ((ls ++ [(k : Int)]).getD ls.length 0).toNat 0 = z + 1 := by
    rw [getD_append_r, Int.toNat_natCast, g, if_pos rfl]
  refine ⟨⟨by simp [hl], fun i hi => ?_, fun i hi => ?_, fun i hi h1 h2 => ?_, fun s hs => ?_, fun x hx h => ?_, fun s t' hst ht' => ?_, ?_, fun i hi => ?_, fun s hq' hs => ?_, fun s hs hs2 Z hZ j hj hwj => ?_⟩, by rw [getD_append_l _ _ _ _ hq]; exact hX, fun s j h1 h2 h3 h4 => ?_, by rw [up Y hXN (by omega), ez]⟩
  · rw [g]; split
    · right; omega
    · exact A.vals i hi
  · rw [g]
    by_cases e : i = k
    · subst e
      rw [if_pos rfl]
      refine ⟨fun h => by omega, fun h => ?_⟩
      have := (A.zero i hi).2 h
      omega
    · rw [if_neg e]; exact A.zero i hi
  · rw [g] at h1 h2 ⊢
    by_cases e : i = k
    · subst e
      rw [if_pos rfl]
      exact ⟨Y, around_back hn hm hXN hmem, hw.symm, by rw [up Y hXN (by omega)]; omega, by rw [up Y hXN (by omega), ez]⟩
    · rw [if_neg e] at h1 h2 ⊢
      obtain ⟨j, a1, a2, a3, a4⟩ := A.step i hi h1 h2
      have hj := around_lt hn hm hi a1
      exact ⟨j, a1, a2, by rw [up j hj a3]; exact a3, by rw [up j hj a3]; exact a4⟩
  · by_cases e : s = ls.length
    · subst e
      exact ⟨k, getD_append_r _ _ _, hkN, by rw [g, if_pos rfl]; omega⟩
    · have hs' : s < ls.length := by simp at hs; omega
      obtain ⟨Z, h1, h2, h3⟩ := A.mem s hs'
      exact ⟨Z, by rw [getD_append_l _ _ _ _ hs', h1], h2, by rw [up Z h2 h3]; exact h3⟩
  · rw [g] at h
    by_cases e : x = k
    · subst e; exact ⟨ls.length, by simp, getD_append_r _ _ _⟩
    · rw [if_neg e] at h
      obtain ⟨s, h1, h2⟩ := A.all x hx h
      exact ⟨s, by simp; omega, by rw [getD_append_l _ _ _ _ h1, h2]⟩
  · have ht2 : t' < ls.length + 1 := by simpa using ht'
    by_cases e2 : t' = ls.length
    · subst e2
      rw [lk]
      by_cases e1 : s = ls.length
      · subst e1; rw [lk]; exact Int.le_refl _
      · have hs' : s < ls.length := by omega
        rw [getD_append_l _ _ _ _ hs', lsm s hs']
        have := A.top s hq hs'
        rw [hX, Int.toNat_natCast, ez] at this
        exact this
    · have ht3 : t' < ls.length := by omega
      rw [getD_append_l _ _ _ _ ht3, getD_append_l _ _ _ _ (by omega), lsm t' ht3, lsm s (by omega)]
      exact A.sort s t' hst ht3
  · have := count_set ds k (z + 1) (by omega) hu (by omega)
    have := A.room
    simp only [List.length_append, List.length_singleton]
    omega
  · rw [g, List.length_append, List.length_singleton]
    have h1 := A.cap Y hXN
    have h2 := A.cap i hi
    split <;> omega
  · rw [getD_append_l _ _ _ _ hq, lsm q hq, hX, Int.toNat_natCast, ez]
    by_cases e : s = ls.length
    · subst e; rw [lk]; exact Int.le_refl _
    · have hs' : s < ls.length := by simp at hs; omega
      rw [getD_append_l _ _ _ _ hs', lsm s hs']
      have := A.top s hq hs'
      rw [hX, Int.toNat_natCast, ez] at this
      exact this
  · have hs' : s < ls.length := by omega
    rw [getD_append_l _ _ _ _ hs'] at hZ
    obtain ⟨W, b1, b2, b3⟩ := A.mem s hs'
    have : W = Z := by omega
    subst this
    obtain ⟨c1, c2⟩ := A.done s hs hs' W hZ j hj hwj
    have hjN := around_lt hn hm b2 hj
    rw [up j hjN c1, up W b2 b3]
    exact ⟨c1, c2⟩
  · have hjN : j < n * m := around_lt hn hm hXN (by
      rw [← h3, List.getD_eq_getElem?_getD, List.getElem?_eq_getElem h2]
      exact List.getElem_mem h2)
    rw [up Y hXN (by omega), ez]
    by_cases e : j = k
    · subst e
      rw [g, if_pos rfl]
      omega
    · by_cases e2 : s = t
      · subst e2; omega
      · have := D s j (by omega) h2 h3 h4
        rw [ez] at this
        rw [up j hjN this.1]
        exact this
theorem AGo.next {q X : Nat} (A : AGo n m ws ds ls q) (hX : ls.getD q 0 = X) (D : ASeen n m ws ds X (aroundL n m X).length) : AGo n m ws ds ls (q + 1) :=
  ⟨A.len, A.vals, A.zero, A.step, A.mem, A.all, A.sort, A.room, A.cap, fun s hq hs => by
    have h1 := A.top s (by omega) hs
    have h2 := A.sort q (q + 1) (by omega) hq
    omega, fun s hs hs2 Z hZ => by
    by_cases e : s = q
    · subst e
      have : Z = X := by omega
      subst this
      intro k hk hw
      obtain ⟨t, h1, h2⟩ := List.getElem_of_mem hk
      exact D t k h1 h1 (by simp [h1, h2]) hw
    · exact A.done s (by omega) hs2 Z hZ⟩
theorem AGo.away {p : List Int} (A : AGo n m ws ds ls ls.length) (W : Level n m p ws) (hn : n ≤ 5) (hm : m ≤ 5) : Away n m ws ds := by
  have hc : ∀ i, i < n * m → ds.getD i 0 ≠ -1 → ∀ k : Nat, (k : Int) ∈ aroundL n m i → ws.getD k 0 = ws.getD i 0 → ds.getD k 0 ≠ -1 ∧ ds.getD k 0 ≤ ds.getD i 0 + 1 := fun i hi h k hk hw => by
    obtain ⟨s, h1, h2⟩ := A.all i hi h
    exact A.done s h1 h1 i h2 k hk hw
  have all := all_told (ds := ds) W (fun i hi hb => by have := (A.zero i hi).2 hb; omega) (fun i hi h k hk hw => (hc i hi h k hk hw).1) hn hm
  refine ⟨A.len, A.zero, fun i hi => ?_, fun i hi k hk hw => ?_, fun i hi h => ?_⟩
  · rcases A.vals i hi with h | h
    · exact absurd h (all i hi)
    · exact h
  · have hkN := around_lt hn hm hi hk
    exact (hc k hkN (all k hkN) i (around_back hn hm hi hk) hw.symm).2
  · obtain ⟨k, h1, h2, _, h4⟩ := A.step i hi (all i hi) h
    exact ⟨k, h1, h2, h4⟩
end
end Go.Proofs.YtgecghngfonejaaDoor
