/- Water that runs off at outlets, as lists: the least height of a way to one of them; found by a queue. -/
import Derived.Test.YtaeenedjmakelaaDoorCells
namespace Go.Proofs.YtaeenedjmakelaaDoor
open Go.RowKit

/-- A way to the edge over cells no higher than L. -/
inductive EscO (n m : Nat) (O : Nat → Bool) (p : List Int) (L : Int) : Nat → Prop
  | edge {i : Nat} : i < n * m → O i = true → p.getD i 0 ≤ L → EscO n m O p L i
  | step {i k : Nat} : i < n * m → (k : Int) ∈ aroundL n m i → p.getD i 0 ≤ L → EscO n m O p L k → EscO n m O p L i
theorem EscO.base {O : Nat → Bool} {n m i : Nat} {p : List Int} {L : Int} (h : EscO n m O p L i) : p.getD i 0 ≤ L := by
  cases h with
  | edge _ _ h => exact h
  | step _ _ h _ => exact h
theorem EscO.lt {O : Nat → Bool} {n m i : Nat} {p : List Int} {L : Int} (h : EscO n m O p L i) : i < n * m := by
  cases h with
  | edge h _ _ => exact h
  | step h _ _ _ => exact h
theorem EscO.mono {O : Nat → Bool} {n m i : Nat} {p q : List Int} {L M : Int} (h : EscO n m O p L i) (hq : ∀ j, j < n * m → p.getD j 0 ≤ L → q.getD j 0 ≤ M) : EscO n m O q M i := by
  induction h with
  | edge h1 h2 h3 => exact .edge h1 h2 (hq _ h1 h3)
  | step h1 h2 h3 _ ih => exact .step h1 h2 (hq _ h1 h3) ih
theorem EscO.up {O : Nat → Bool} {n m i : Nat} {p : List Int} {L M : Int} (h : EscO n m O p L i) (hl : L ≤ M) : EscO n m O p M i := h.mono fun _ _ h => Int.le_trans h hl

/-- The heights to which water stands. -/
structure LevelO (n m : Nat) (O : Nat → Bool) (p w : List Int) : Prop where
  len : w.length = n * m
  edge : ∀ i, i < n * m → O i = true → w.getD i 0 ≤ p.getD i 0
  calm : ∀ i, i < n * m → ∀ k : Nat, (k : Int) ∈ aroundL n m i → w.getD i 0 ≤ max (w.getD k 0) (p.getD i 0)
  esc : ∀ i, i < n * m → EscO n m O p (w.getD i 0) i
theorem LevelO.le {O : Nat → Bool} {n m i : Nat} {p w : List Int} {L : Int} (W : LevelO n m O p w) (h : EscO n m O p L i) : w.getD i 0 ≤ L := by
  induction h with
  | edge h1 h2 h3 => exact Int.le_trans (W.edge _ h1 h2) h3
  | step h1 h2 h3 _ ih => have := W.calm _ h1 _ h2; omega
theorem LevelO.uniq {O : Nat → Bool} {n m : Nat} {p v w : List Int} (V : LevelO n m O p v) (W : LevelO n m O p w) : v = w :=
  ext_getD V.len W.len fun i hi => by
    have := V.le (W.esc i hi)
    have := W.le (V.esc i hi)
    omega
theorem LevelO.base {O : Nat → Bool} {n m i : Nat} {p w : List Int} (W : LevelO n m O p w) (hi : i < n * m) : p.getD i 0 ≤ w.getD i 0 := (W.esc i hi).base
theorem LevelO.dry {O : Nat → Bool} {n m i : Nat} {p w : List Int} (W : LevelO n m O p w) (hi : i < n * m) (h : O i = true) : w.getD i 0 = p.getD i 0 := by
  have := W.base hi
  have := W.edge i hi h
  omega
/-- What is told, and what waits; low: the water of the cell that was taken last. c: a cell that is being gone over (none: n * m). -/
structure FloodO (n m : Nat) (O : Nat → Bool) (p w : List Int) (q : List (Int × Int)) (low : Int) (c : Nat) : Prop where
  len : w.length = n * m
  esc : ∀ i, i < n * m → w.getD i 0 ≠ -1 → EscO n m O p (w.getD i 0) i
  edge : ∀ i, i < n * m → O i = true → w.getD i 0 ≠ -1 ∧ w.getD i 0 ≤ p.getD i 0
  near : ∀ i, i < n * m → w.getD i 0 ≠ -1 → w.getD i 0 ≤ max low (p.getD i 0)
  mem : ∀ e, e ∈ q → ∃ X : Nat, e.1 = X ∧ X < n * m ∧ w.getD X 0 = e.2 ∧ low ≤ e.2 ∧ 0 ≤ e.2
  sorted : q.Pairwise fun a b => a.2 ≤ b.2
  closed : ∀ i : Nat, i < n * m → i ≠ c → w.getD i 0 ≠ -1 → (∀ e, e ∈ q → e.1 ≠ (i : Int)) → ∀ k : Nat, (k : Int) ∈ aroundL n m i → w.getD k 0 ≠ -1 ∧ w.getD k 0 ≤ max (w.getD i 0) (p.getD k 0)
  room : q.length + w.count (-1) ≤ n * m

/-- While the outlets L are told: the first t of them. -/
structure RimO (n m : Nat) (L p w : List Int) (q : List (Int × Int)) (t : Nat) : Prop where
  len : w.length = n * m
  told : ∀ i : Nat, i < n * m → (i : Int) ∈ L.take t → w.getD i 0 = p.getD i 0
  un : ∀ i : Nat, i < n * m → (i : Int) ∉ L.take t → w.getD i 0 = -1
  mem : ∀ e, e ∈ q → ∃ X : Nat, e.1 = X ∧ X < n * m ∧ w.getD X 0 = e.2 ∧ 0 ≤ e.2
  all : ∀ i : Nat, i < n * m → w.getD i 0 ≠ -1 → ∃ e, e ∈ q ∧ e.1 = (i : Int)
  sorted : q.Pairwise fun a b => a.2 ≤ b.2
  room : q.length + w.count (-1) ≤ n * m
theorem rimO_start (n m : Nat) (L p : List Int) : RimO n m L p (List.replicate (n * m) (-1)) [] 0 := by
  have e : ∀ i, i < n * m → (List.replicate (n * m) (-1 : Int)).getD i 0 = -1 := fun i hi => by simp [hi]
  refine ⟨by simp, fun i _ h => (by simp at h), fun i hi _ => e i hi, fun x hx => (by cases hx), fun i hi h => absurd (e i hi) h, List.Pairwise.nil, ?_⟩
  have := count_le (List.replicate (n * m) (-1 : Int))
  simp only [List.length_replicate] at this
  simp only [List.length_nil]
  omega
theorem take_next {L : List Int} {t I : Nat} (ht : t < L.length) (e : L.getD t 0 = (I : Int)) : L.take (t + 1) = L.take t ++ [(I : Int)] := by
  rw [List.take_succ_eq_append_getElem ht]
  have : L[t] = (I : Int) := by simpa [ht] using e
  rw [this]
theorem not_taken {L : List Int} {t I : Nat} (hL : L.Nodup) (ht : t < L.length) (e : L.getD t 0 = (I : Int)) : (I : Int) ∉ L.take t := by
  have h : (L.take (t + 1)).Nodup := hL.sublist (List.take_sublist _ _)
  rw [take_next ht e, List.nodup_append] at h
  intro hm
  exact h.2.2 _ hm _ (List.mem_singleton.2 rfl) rfl
theorem RimO.tell {n m t I a : Nat} {L p w : List Int} {q : List (Int × Int)} (R : RimO n m L p w q t) (hL : L.Nodup) (ht : t < L.length) (e : L.getD t 0 = (I : Int)) (hI : I < n * m) (hp : 0 ≤ p.getD I 0)
    (h1 : ∀ x, x ∈ q.take a → x.2 ≤ p.getD I 0) (h2 : ∀ x, x ∈ q.drop a → p.getD I 0 ≤ x.2) : RimO n m L p (w.set I (p.getD I 0)) (q.take a ++ ((I : Int), p.getD I 0) :: q.drop a) (t + 1) := by
  have hl := R.len
  have hu := R.un I hI (not_taken hL ht e)
  have g : ∀ i, (w.set I (p.getD I 0)).getD i 0 = if i = I then p.getD I 0 else w.getD i 0 := fun i => getD_set w I i _ (by omega)
  have hm : ∀ i : Nat, (i : Int) ∈ L.take (t + 1) ↔ (i : Int) ∈ L.take t ∨ i = I := fun i => by
    rw [take_next ht e, List.mem_append, List.mem_singleton]
    constructor
    · rintro (h | h)
      · exact .inl h
      · exact .inr (by omega)
    · rintro (h | h)
      · exact .inl h
      · exact .inr (by omega)
  refine ⟨by simp [hl], fun i hi h => ?_, fun i hi h => ?_, fun e hx => ?_, fun i hi h => ?_, sorted_insert R.sorted h1 h2, ?_⟩
  · rw [g]
    by_cases e : i = I
    · rw [if_pos e, e]
    · rw [if_neg e]; exact R.told i hi (((hm i).1 h).resolve_right e)
  · rw [hm] at h
    rw [g, if_neg (fun e => h (.inr e))]
    exact R.un i hi fun h2 => h (.inl h2)
  · rcases mem_insert.1 hx with rfl | hx
    · exact ⟨I, rfl, hI, by rw [g, if_pos rfl], hp⟩
    · obtain ⟨X, hX, hX1, hX2, hX3⟩ := R.mem e hx
      refine ⟨X, hX, hX1, ?_, hX3⟩
      rw [g]
      by_cases e2 : X = I
      · subst e2; omega
      · rw [if_neg e2]; exact hX2
  · rw [g] at h
    by_cases e : i = I
    · subst e; exact ⟨_, mem_insert.2 (.inl rfl), rfl⟩
    · rw [if_neg e] at h
      obtain ⟨x, hx, hx2⟩ := R.all i hi h
      exact ⟨x, mem_insert.2 (.inr hx), hx2⟩
  · have := count_set w I (p.getD I 0) (by omega) hu (by omega)
    have hr := R.room
    have e : (q.take a ++ ((I : Int), p.getD I 0) :: q.drop a).length = q.length + 1 := by
      have : (q.take a ++ q.drop a).length = q.length := by rw [List.take_append_drop]
      simp only [List.length_append, List.length_cons] at this ⊢
      omega
    omega
theorem RimO.flood {n m : Nat} {L p w : List Int} {q : List (Int × Int)} {O : Nat → Bool} (R : RimO n m L p w q L.length) (hO : ∀ i : Nat, i < n * m → (O i = true ↔ (i : Int) ∈ L)) (hp : ∀ i, i < n * m → 0 ≤ p.getD i 0) : FloodO n m O p w q 0 (n * m) := by
  have ht : ∀ i, i < n * m → w.getD i 0 ≠ -1 → O i = true ∧ w.getD i 0 = p.getD i 0 := fun i hi h => by
    by_cases hm : (i : Int) ∈ L
    · exact ⟨(hO i hi).2 hm, R.told i hi (by rw [List.take_length]; exact hm)⟩
    · exact absurd (R.un i hi (by rw [List.take_length]; exact hm)) h
  refine ⟨R.len, fun i hi h => ?_, fun i hi he => ?_, fun i hi h => ?_, fun e he => ?_, R.sorted, fun i hi _ h hno => ?_, R.room⟩
  · rw [(ht i hi h).2]; exact .edge hi (ht i hi h).1 (Int.le_refl _)
  · have := R.told i hi (by rw [List.take_length]; exact (hO i hi).1 he)
    have := hp i hi
    omega
  · rw [(ht i hi h).2]; omega
  · obtain ⟨X, h1, h2, h3, h4⟩ := R.mem e he
    exact ⟨X, h1, h2, h3, h4, h4⟩
  · obtain ⟨e, he, he2⟩ := R.all i hi h
    exact absurd he2 (hno e he)

/-- All cells of a grid are joined. -/
theorem left_joined (n m i : Nat) (hi : i < n * m) (h : 0 < i % m) : ((i - 1 : Nat) : Int) ∈ aroundL n m i := by
  have e1 := Nat.div_add_mod i m
  have h1 : 1 ≤ i := by
    rcases Nat.eq_zero_or_pos i with e | e
    · subst e; simp at h
    · exact e
  unfold aroundL
  have e4 : ((i - 1 : Nat) : Int) = (i : Int) - 1 := by omega
  rw [e4, if_pos h]
  simp
theorem up_joined (n m i : Nat) (h : m ≤ i) : ((i - m : Nat) : Int) ∈ aroundL n m i := by
  unfold aroundL
  have e4 : ((i - m : Nat) : Int) = (i : Int) - m := by omega
  rw [e4, if_pos h]
  simp
theorem joined_zero {n m i : Nat} (hi : i < n * m) : Reach n m (fun _ _ => true) i 0 := by
  induction i using Nat.strongRecOn with
  | ind i ih =>
    by_cases h0 : i = 0
    · subst h0; exact .refl
    · by_cases h : 0 < i % m
      · exact (Reach.step .refl (left_joined n m i hi h) rfl).trans (ih (i - 1) (by omega) (by omega))
      · have hm : 0 < m := by
          rcases Nat.eq_zero_or_pos m with e | e
          · subst e; simp at hi
          · exact e
        have hmi : m ≤ i := by
          rcases Nat.lt_or_ge i m with h2 | h2
          · rw [Nat.mod_eq_of_lt h2] at h; omega
          · exact h2
        exact (Reach.step .refl (up_joined n m i hmi) rfl).trans (ih (i - m) (by omega) (by omega))
theorem joined_all {n m i k : Nat} (hn : n ≤ 5) (hm : m ≤ 5) (hi : i < n * m) (hk : k < n * m) : Reach n m (fun _ _ => true) i k :=
  (joined_zero hi).trans ((joined_zero hk).symm (fun _ _ _ => rfl) hn hm hk)
theorem escO_top {O : Nat → Bool} {n m I : Nat} {p : List Int} {L : Int} (hn : n ≤ 5) (hm : m ≤ 5) (h : ∀ i, i < n * m → p.getD i 0 ≤ L) (hI : I < n * m) (hO : O I = true) (i : Nat) (hi : i < n * m) : EscO n m O p L i := by
  have hr := joined_all hn hm hI hi
  clear hi
  induction hr with
  | refl => exact .edge hI hO (h I hI)
  | step h1 h2 h3 ih => exact .step (around_lt hn hm ih.lt h2) (around_back hn hm ih.lt h2) (h _ (around_lt hn hm ih.lt h2)) ih
/-- The first that waits is taken. -/
theorem FloodO.take {O : Nat → Bool} {n m : Nat} {p w : List Int} {q : List (Int × Int)} {e : Int × Int} {low : Int} (F : FloodO n m O p w (e :: q) low (n * m)) :
    ∃ X : Nat, e.1 = X ∧ X < n * m ∧ w.getD X 0 = e.2 ∧ 0 ≤ e.2 ∧ FloodO n m O p w q e.2 X := by
  obtain ⟨X, hX, hX1, hX2, hX3, hX4⟩ := F.mem e (List.mem_cons_self ..)
  have hs := List.pairwise_cons.1 F.sorted
  refine ⟨X, hX, hX1, hX2, hX4, F.len, F.esc, F.edge, fun i hi h => ?_, fun x hx => ?_, hs.2, fun i hi hc h hno k hk => ?_, ?_⟩
  · have := F.near i hi h; omega
  · obtain ⟨Y, hY, hY1, hY2, hY3, hY4⟩ := F.mem x (List.mem_cons_of_mem _ hx)
    exact ⟨Y, hY, hY1, hY2, hs.1 x hx, hY4⟩
  · refine F.closed i hi (by omega) h (fun x hx => ?_) k hk
    rcases List.mem_cons.1 hx with rfl | hx
    · rw [hX]; omega
    · exact hno x hx
  · have := F.room
    simp only [List.length_cons] at this
    omega
/-- A cell beside is told. -/
theorem FloodO.tell {O : Nat → Bool} {n m c k t a : Nat} {p w : List Int} {q : List (Int × Int)} {low : Int} (hn : n ≤ 5) (hm : m ≤ 5) (F : FloodO n m O p w q low c) (hc : c < n * m) (hlow : w.getD c 0 = low) (h0 : 0 ≤ low) (D : Told n m p w low c t)
    (ht : t < (aroundL n m c).length) (hk : (aroundL n m c).getD t 0 = k) (hu : w.getD k 0 = -1)
    (h1 : ∀ x, x ∈ q.take a → x.2 ≤ max low (p.getD k 0)) (h2 : ∀ x, x ∈ q.drop a → max low (p.getD k 0) ≤ x.2) :
    FloodO n m O p (w.set k (max low (p.getD k 0))) (q.take a ++ ((k : Int), max low (p.getD k 0)) :: q.drop a) low c ∧ (w.set k (max low (p.getD k 0))).getD c 0 = low ∧ Told n m p (w.set k (max low (p.getD k 0))) low c (t + 1) := by
  have hl := F.len
  have hmem : (k : Int) ∈ aroundL n m c := by
    rw [← hk, List.getD_eq_getElem?_getD, List.getElem?_eq_getElem ht]
    exact List.getElem_mem ht
  have hkN := around_lt hn hm hc hmem
  have hbk := around_back hn hm hc hmem
  have hkc : k ≠ c := fun e => by subst e; omega
  have g : ∀ i, (w.set k (max low (p.getD k 0))).getD i 0 = if i = k then max low (p.getD k 0) else w.getD i 0 := fun i => getD_set w k i _ (by omega)
  refine ⟨⟨by simp [hl], fun i hi h => ?_, fun i hi he => ?_, fun i hi h => ?_, fun e hx => ?_, sorted_insert F.sorted h1 h2, fun i hi hic h hno j hj => ?_, ?_⟩, ?_, fun s j hs hs2 hj => ?_⟩
  · rw [g] at h ⊢
    by_cases e : i = k
    · subst e
      rw [if_pos rfl]
      refine .step hi hbk (by omega) ((F.esc c hc (by omega)).up (by omega))
    · rw [if_neg e] at h ⊢; exact F.esc i hi h
  · rw [g]
    have := F.edge i hi he
    by_cases e : i = k
    · subst e; exact absurd hu this.1
    · rw [if_neg e]; exact this
  · rw [g] at h ⊢
    by_cases e : i = k
    · rw [if_pos e, e]; exact Int.le_refl _
    · rw [if_neg e] at h ⊢; exact F.near i hi h
  · rcases mem_insert.1 hx with rfl | hx
    · exact ⟨k, rfl, hkN, by rw [g, if_pos rfl], by simp only; omega, by simp only; omega⟩
    · obtain ⟨X, hX, hX1, hX2, hX3, hX4⟩ := F.mem e hx
      refine ⟨X, hX, hX1, ?_, hX3, hX4⟩
      rw [g]
      by_cases e2 : X = k
      · subst e2; omega
      · rw [if_neg e2]; exact hX2
  · have hik : i ≠ k := fun e => hno _ (mem_insert.2 (.inl rfl)) (by simp [e])
    rw [g i, if_neg hik] at h ⊢
    have := F.closed i hi hic h (fun x hx => hno x (mem_insert.2 (.inr hx))) j hj
    rw [g]
    by_cases e : j = k
    · rw [e] at this; exact absurd hu this.1
    · rw [if_neg e]; exact this
  · have := count_set w k (max low (p.getD k 0)) (by omega) hu (by omega)
    have hr := F.room
    have e : (q.take a ++ ((k : Int), max low (p.getD k 0)) :: q.drop a).length = q.length + 1 := by
      have : (q.take a ++ q.drop a).length = q.length := by rw [List.take_append_drop]
      simp only [List.length_append, List.length_cons] at this ⊢
      omega
    omega
  · rw [g, if_neg (fun e => hkc e.symm)]; exact hlow
  · rw [g]
    by_cases e : j = k
    · rw [if_pos e, e]; omega
    · rw [if_neg e]
      by_cases e2 : s = t
      · subst e2; omega
      · exact D s j (by omega) hs2 hj
/-- A cell beside was told. -/
theorem FloodO.skip {O : Nat → Bool} {n m c k t : Nat} {p w : List Int} {q : List (Int × Int)} {low : Int} (hn : n ≤ 5) (hm : m ≤ 5) (F : FloodO n m O p w q low c) (hc : c < n * m) (D : Told n m p w low c t)
    (ht : t < (aroundL n m c).length) (hk : (aroundL n m c).getD t 0 = k) (hu : w.getD k 0 ≠ -1) : Told n m p w low c (t + 1) := by
  have hmem : (k : Int) ∈ aroundL n m c := by
    rw [← hk, List.getD_eq_getElem?_getD, List.getElem?_eq_getElem ht]
    exact List.getElem_mem ht
  intro s j hs hs2 hj
  by_cases e2 : s = t
  · subst e2
    have : j = k := by omega
    subst this
    exact ⟨hu, F.near j (around_lt hn hm hc hmem) hu⟩
  · exact D s j (by omega) hs2 hj
/-- All cells beside c are told. -/
theorem FloodO.next {O : Nat → Bool} {n m c : Nat} {p w : List Int} {q : List (Int × Int)} {low : Int} (F : FloodO n m O p w q low c) (hlow : w.getD c 0 = low) (D : Told n m p w low c (aroundL n m c).length) : FloodO n m O p w q low (n * m) :=
  ⟨F.len, F.esc, F.edge, F.near, F.mem, F.sorted, fun i hi _ h hno k hk => by
    by_cases e : i = c
    · subst e
      obtain ⟨s, hs1, hs2⟩ := List.getElem_of_mem hk
      have := D s k hs1 hs1 (by simp [hs1, hs2])
      rwa [hlow]
    · exact F.closed i hi e h hno k hk, F.room⟩
/-- Nothing waits: all is told. -/
theorem FloodO.level {O : Nat → Bool} {n m : Nat} {p w : List Int} {low : Int} (hn : n ≤ 5) (hm : m ≤ 5) (F : FloodO n m O p w [] low (n * m)) {I : Nat} (hI : I < n * m) (hO : O I = true) (hp : ∀ i, i < n * m → p.getD i 0 ≤ 12) : LevelO n m O p w := by
  have all : ∀ {i : Nat}, EscO n m O p 12 i → w.getD i 0 ≠ -1 := fun {i} h => by
    induction h with
    | edge h1 h2 _ => exact (F.edge _ h1 h2).1
    | step h1 h2 _ h4 ih => exact (F.closed _ h4.lt (by have := h4.lt; omega) ih (fun e he => by cases he) _ (around_back hn hm h1 h2)).1
  have all2 : ∀ i, i < n * m → w.getD i 0 ≠ -1 := fun i hi => all (escO_top hn hm hp hI hO i hi)
  refine ⟨F.len, fun i hi he => (F.edge i hi he).2, fun i hi k hk => ?_, fun i hi => F.esc i hi (all2 i hi)⟩
  have hkN := around_lt hn hm hi hk
  exact (F.closed k hkN (by omega) (all2 k hkN) (fun e he => by cases he) i (around_back hn hm hi hk)).2
/-- At the edge. -/
theorem esc_escO {n m i : Nat} {p : List Int} {L : Int} {O : Nat → Bool} (hO : ∀ i, i < n * m → O i = edgeL n m i) (h : EscO n m O p L i) : Esc n m p L i := by
  induction h with
  | edge h1 h2 h3 => exact .edge h1 (by rw [← hO _ h1]; exact h2) h3
  | step h1 h2 h3 _ ih => exact .step h1 h2 h3 ih
theorem LevelO.level {n m : Nat} {p w : List Int} {O : Nat → Bool} (hO : ∀ i, i < n * m → O i = edgeL n m i) (W : LevelO n m O p w) : Level n m p w :=
  ⟨W.len, fun i hi he => W.edge i hi (by rw [hO i hi]; exact he), W.calm, fun i hi => esc_escO hO (W.esc i hi)⟩
end Go.Proofs.YtaeenedjmakelaaDoor
