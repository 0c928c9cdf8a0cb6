/- A search from a cell over steps that a relation lets through. -/
import Derived.Test.YtkhgcfchaogccaaDoorPondM
namespace Go.Proofs.YtkhgcfchaogccaaDoor

/-- A search from i over cells no higher than top, till its end: what is seen, what waits; the first q are done. -/
structure SearchJ (n m : Nat) (J : Nat → Nat → Bool) (i : Nat) (sb : List Bool) (ls : List Int) (q : Nat) : Prop where
  len : sb.length = n * m
  mem : ∀ s, s < ls.length → ∃ X : Nat, ls.getD s 0 = X ∧ X < n * m ∧ sb.getD X false = true ∧ Reach n m J i X
  all : ∀ x, x < n * m → sb.getD x false = true → ∃ s, s < ls.length ∧ ls.getD s 0 = (x : Int)
  start : sb.getD i false = true
  done : ∀ s, s < q → s < ls.length → ∀ X : Nat, ls.getD s 0 = X → ∀ k : Nat, (k : Int) ∈ aroundL n m X → J X k = true → sb.getD k false = true
  room : ls.length + sb.count false ≤ n * m
def SeenJ (n m : Nat) (J : Nat → Nat → Bool) (sb : List Bool) (X t : Nat) : Prop :=
  ∀ s k : Nat, s < t → s < (aroundL n m X).length → (aroundL n m X).getD s 0 = k → J X k = true → sb.getD k false = true
theorem seenJ_zero (n m : Nat) (J : Nat → Nat → Bool) (sb : List Bool) (X : Nat) : SeenJ n m J sb X 0 := fun _ _ h => absurd h (Nat.not_lt_zero _)
theorem SeenJ.skip {n m t k X : Nat} {J : Nat → Nat → Bool} {sb : List Bool} (D : SeenJ n m J sb X t) (hk : (aroundL n m X).getD t 0 = k) (h : sb.getD k false = true ∨ J X k = false) : SeenJ n m J sb X (t + 1) := fun s j h1 h2 h3 h4 => by
  by_cases e2 : s = t
  · subst e2
    have : j = k := by omega
    subst this
    rcases h with h | h
    · exact h
    · rw [h] at h4; cases h4
  · exact D s j (by omega) h2 h3 h4
theorem searchJ_start {n m i : Nat} {J : Nat → Nat → Bool} (hi : i < n * m) : SearchJ n m J i ((List.replicate (n * m) false).set i true) [(i : Int)] 0 := by
  have g : ∀ x, ((List.replicate (n * m) false).set i true).getD x false = if x = i then true else (List.replicate (n * m) false).getD x false := fun x => getD_setB _ i x true (by simpa using hi)
  have e : ∀ x, (List.replicate (n * m) false).getD x false = false := fun x => by
    rcases Nat.lt_or_ge x (n * m) with h | h <;> simp [h]
  refine ⟨by simp, fun s hs => ?_, fun x hx h => ?_, by rw [g, if_pos rfl], fun s hs => absurd hs (Nat.not_lt_zero _), ?_⟩
  · have : s = 0 := by simp at hs; omega
    subst this
    exact ⟨i, rfl, hi, by rw [g, if_pos rfl], .refl⟩
  · rw [g, e] at h
    by_cases ex : x = i
    · subst ex; exact ⟨0, by simp, rfl⟩
    · rw [if_neg ex] at h; cases h
  · have := count_setB (List.replicate (n * m) false) i (by simpa using hi) (e i)
    simp only [List.count_replicate_self, List.length_singleton] at this ⊢
    omega
theorem SearchJ.tell {n m i q t k X : Nat} {J : Nat → Nat → Bool} {sb : List Bool} {ls : List Int} (hn : n ≤ 5) (hm : m ≤ 5) (S : SearchJ n m J i sb ls q) (hq : q < ls.length) (hX : ls.getD q 0 = X) (D : SeenJ n m J sb X t)
    (ht : t < (aroundL n m X).length) (hk : (aroundL n m X).getD t 0 = k) (hs : sb.getD k false = false) (hp : J X k = true) :
    SearchJ n m J i (sb.set k true) (ls ++ [(k : Int)]) q ∧ (ls ++ [(k : Int)]).getD q 0 = X ∧ SeenJ n m J (sb.set k true) X (t + 1) := by
  obtain ⟨Y, hY, hXN, hX2, hX3⟩ := S.mem q hq
  have : Y = X := by omega
  subst this
  have hmem : (k : Int) ∈ aroundL n m Y := by
    rw [← hk, List.getD_eq_getElem?_getD, List.getElem?_eq_getElem ht]
    exact List.getElem_mem ht
  have hkN := around_lt hn hm hXN hmem
  have hl := S.len
  have g : ∀ x, (sb.set k true).getD x false = if x = k then true else sb.getD x false := fun x => getD_setB sb k x true (by omega)
  refine ⟨⟨by simp [hl], fun s hs2 => ?_, fun x hx h => ?_, ?_, fun s hs2 hs3 Z hZ => ?_, ?_⟩, by rw [getD_append_l _ _ _ _ hq]; exact hX, fun s j h1 h2 h3 h4 => ?_⟩
  · by_cases e : s = ls.length
    · subst e
      exact ⟨k, getD_append_r _ _ _, hkN, by rw [g, if_pos rfl], .step hX3 hmem hp⟩
    · have hs' : s < ls.length := by simp at hs2; omega
      obtain ⟨Z, h1, h2, h3, h4⟩ := S.mem s hs'
      refine ⟨Z, by rw [getD_append_l _ _ _ _ hs', h1], h2, ?_, h4⟩
      rw [g]; split
      · rfl
      · exact h3
  · rw [g] at h
    by_cases e : x = k
    · subst e; exact ⟨ls.length, by simp, getD_append_r _ _ _⟩
    · rw [if_neg e] at h
      obtain ⟨s, h1, h2⟩ := S.all x hx h
      exact ⟨s, by simp; omega, by rw [getD_append_l _ _ _ _ h1, h2]⟩
  · rw [g]; split
    · rfl
    · exact S.start
  · have hs' : s < ls.length := by
      rcases Nat.lt_or_ge s ls.length with h | h
      · exact h
      · omega
    rw [getD_append_l _ _ _ _ hs'] at hZ
    intro j hj hpj
    rw [g]; split
    · rfl
    · exact S.done s hs2 hs' Z hZ j hj hpj
  · have := count_setB sb k (by omega) hs
    have := S.room
    simp only [List.length_append, List.length_singleton]
    omega
  · rw [g]
    by_cases e : j = k
    · rw [if_pos e]
    · rw [if_neg e]
      by_cases e2 : s = t
      · subst e2; omega
      · exact D s j (by omega) h2 h3 h4
theorem SearchJ.next {n m i q X : Nat} {J : Nat → Nat → Bool} {sb : List Bool} {ls : List Int} (S : SearchJ n m J i sb ls q) (hX : ls.getD q 0 = X) (D : SeenJ n m J sb X (aroundL n m X).length) : SearchJ n m J i sb ls (q + 1) :=
  ⟨S.len, S.mem, S.all, S.start, fun s hs hs2 Z hZ => by
    by_cases e : s = q
    · subst e
      have : Z = X := by omega
      subst this
      intro k hk hp
      obtain ⟨t, h1, h2⟩ := List.getElem_of_mem hk
      exact D t k h1 h1 (by simp [h1, h2]) hp
    · exact S.done s (by omega) hs2 Z hZ, S.room⟩
theorem SearchJ.way {n m i k : Nat} {J : Nat → Nat → Bool} {sb : List Bool} {ls : List Int} (hn : n ≤ 5) (hm : m ≤ 5) (hi : i < n * m) (S : SearchJ n m J i sb ls ls.length) (hk : k < n * m) : sb.getD k false = true ↔ Reach n m J i k := by
  constructor
  · intro h
    obtain ⟨s, hs, e⟩ := S.all k hk h
    obtain ⟨X, h1, _, _, h4⟩ := S.mem s hs
    have : X = k := by omega
    subst this
    exact h4
  · intro h
    clear hk
    induction h with
    | refl => exact S.start
    | step h1 h2 h3 ih =>
      obtain ⟨s, hs, e⟩ := S.all _ (h1.lt hn hm hi) ih
      exact S.done s hs hs _ e _ h2 h3
/-- No place of the list is twice. -/
def Dist (ls : List Int) : Prop := ∀ a b, a < b → b < ls.length → ls.getD a 0 ≠ ls.getD b 0
def SearchD (n m : Nat) (J : Nat → Nat → Bool) (i : Nat) (sb : List Bool) (ls : List Int) (q : Nat) : Prop := SearchJ n m J i sb ls q ∧ Dist ls
theorem searchD_start {n m i : Nat} {J : Nat → Nat → Bool} (hi : i < n * m) : SearchD n m J i ((List.replicate (n * m) false).set i true) [(i : Int)] 0 :=
  ⟨searchJ_start hi, fun a b h1 h2 => by simp at h2; omega⟩
theorem SearchD.tell {n m i q t k X : Nat} {J : Nat → Nat → Bool} {sb : List Bool} {ls : List Int} (hn : n ≤ 5) (hm : m ≤ 5) (S : SearchD n m J i sb ls q) (hq : q < ls.length) (hX : ls.getD q 0 = X) (D : SeenJ n m J sb X t)
    (ht : t < (aroundL n m X).length) (hk : (aroundL n m X).getD t 0 = k) (hs : sb.getD k false = false) (hp : J X k = true) :
    SearchD n m J i (sb.set k true) (ls ++ [(k : Int)]) q ∧ (ls ++ [(k : Int)]).getD q 0 = X ∧ SeenJ n m J (sb.set k true) X (t + 1) := by
  obtain ⟨h1, h2, h3⟩ := S.1.tell hn hm hq hX D ht hk hs hp
  refine ⟨⟨h1, fun a b hab hb => ?_⟩, h2, h3⟩
  rw [List.length_append, List.length_singleton] at hb
  rw [getD_snocL _ a _ _ (by omega), getD_snocL _ b _ _ (by omega), if_neg (by omega)]
  by_cases e : b = ls.length
  · rw [if_pos e]
    intro h
    obtain ⟨Y, y1, _, y2, _⟩ := S.1.mem a (by omega)
    have : Y = k := by omega
    subst this
    rw [hs] at y2; cases y2
  · rw [if_neg e]; exact S.2 a b hab (by omega)
theorem SearchD.next {n m i q X : Nat} {J : Nat → Nat → Bool} {sb : List Bool} {ls : List Int} (S : SearchD n m J i sb ls q) (hX : ls.getD q 0 = X) (D : SeenJ n m J sb X (aroundL n m X).length) : SearchD n m J i sb ls (q + 1) := ⟨S.1.next hX D, S.2⟩

/-- The places of the list are those of which P holds, each once. -/
structure Lists (N : Nat) (P : Nat → Bool) (L : List Int) : Prop where
  dist : Dist L
  mem : ∀ s, s < L.length → ∃ X : Nat, L.getD s 0 = X ∧ X < N ∧ P X = true
  all : ∀ X, X < N → P X = true → ∃ s, s < L.length ∧ L.getD s 0 = X
theorem sumTo_one (c : Nat → Int) (X : Nat) : ∀ N, sumTo (fun x => if x = X then c x else 0) N = if X < N then c X else 0
  | 0 => by rw [if_neg (by omega)]; rfl
  | N + 1 => by
    rw [sumTo, sumTo_one c X N]
    by_cases e : N = X
    · rw [if_pos e, if_neg (by omega), if_pos (by omega), e]; omega
    · rw [if_neg e]
      by_cases h : X < N
      · rw [if_pos h, if_pos (by omega)]; omega
      · rw [if_neg h, if_neg (by omega)]; omega
def memB (L : List Int) (k x : Nat) : Bool := (List.range k).any fun s => L.getD s 0 == (x : Int)
theorem memB_iff (L : List Int) (k x : Nat) : memB L k x = true ↔ ∃ s, s < k ∧ L.getD s 0 = x := by
  unfold memB
  simp only [List.any_eq_true, List.mem_range, beq_iff_eq]
theorem lists_sumTo {N : Nat} {P : Nat → Bool} {L : List Int} (h : Lists N P L) (g : Int → Int) : ∀ k, k ≤ L.length → sumTo (fun j => g (L.getD j 0)) k = sumTo (fun x => if memB L k x = true then g x else 0) N
  | 0, _ => by
    rw [sumTo_congr (f := fun x => if memB L 0 x = true then g x else 0) (g := fun _ => 0), sumTo_zero]
    · rfl
    · intro x _; simp [memB]
  | k + 1, hk => by
    obtain ⟨X, e, hX, _⟩ := h.mem k (by omega)
    have h1 := sumTo_one (fun x => g x) X N
    rw [if_pos hX] at h1
    rw [sumTo, lists_sumTo h g k (by omega), e, ← h1, ← sumTo_add]
    refine sumTo_congr fun x _ => ?_
    by_cases ex : x = X
    · subst ex
      have n1 : ¬ memB L k x = true := fun hm => by
        obtain ⟨s, hs, es⟩ := (memB_iff _ _ _).1 hm
        exact h.dist s k hs (by omega) (by rw [es, e])
      have n2 : memB L (k + 1) x = true := (memB_iff _ _ _).2 ⟨k, by omega, e⟩
      rw [if_neg n1, if_pos rfl, if_pos n2]; omega
    · rw [if_neg ex]
      by_cases hm : memB L k x = true
      · obtain ⟨s, hs, es⟩ := (memB_iff _ _ _).1 hm
        rw [if_pos hm, if_pos ((memB_iff _ _ _).2 ⟨s, by omega, es⟩)]; omega
      · have : ¬ memB L (k + 1) x = true := fun hm2 => by
          obtain ⟨s, hs, es⟩ := (memB_iff _ _ _).1 hm2
          by_cases e2 : s = k
          · rw [e2, e] at es; omega
          · exact hm ((memB_iff _ _ _).2 ⟨s, by omega, es⟩)
        rw [if_neg hm, if_neg this]; omega
theorem Lists.sum {N : Nat} {P : Nat → Bool} {L : List Int} (h : Lists N P L) (g : Int → Int) : sumTo (fun j => g (L.getD j 0)) L.length = sumTo (fun x => if P x = true then g x else 0) N := by
  rw [lists_sumTo h g L.length (Nat.le_refl _)]
  refine sumTo_congr fun x hx => ?_
  have : memB L L.length x = P x := by
    rw [Bool.eq_iff_iff, memB_iff]
    constructor
    · rintro ⟨s, hs, e⟩
      obtain ⟨X, e2, _, hP⟩ := h.mem s hs
      have : X = x := by omega
      rw [← this]; exact hP
    · exact fun hP => h.all x hx hP
  rw [this]
theorem sumTo_ones : ∀ k, sumTo (fun _ => 1) k = k
  | 0 => rfl
  | k + 1 => by rw [sumTo, sumTo_ones k]; omega
theorem Lists.len {N : Nat} {P : Nat → Bool} {L : List Int} (h : Lists N P L) : (L.length : Int) = sumTo (fun x => if P x = true then 1 else 0) N := by
  have := h.sum (fun _ => 1)
  rw [← this, sumTo_ones]
theorem lists_nil {N : Nat} {P : Nat → Bool} (h : ∀ x, x < N → P x = false) : Lists N P [] :=
  ⟨fun a b _ hb => by simp at hb, fun s hs => by simp at hs, fun X hX hP => by rw [h X hX] at hP; cases hP⟩
theorem SearchD.lists {n m i : Nat} {p : List Int} {t : Int} {sb : List Bool} {ls : List Int} (hn : n ≤ 5) (hm : m ≤ 5) (hi : i < n * m) (hl : p.getD i 0 < t) (S : SearchD n m (bothB (lowB p t)) i sb ls ls.length) : Lists (n * m) (inP n m p t i) ls := by
  refine ⟨S.2, fun s hs => ?_, fun X hX hP => ?_⟩
  · obtain ⟨X, h1, h2, _, h4⟩ := S.1.mem s hs
    exact ⟨X, h1, h2, (inP_reach hn hm hi h2).2 ⟨hl, h4⟩⟩
  · exact S.1.all X hX ((S.1.way hn hm hi hX).2 ((inP_reach hn hm hi hX).1 hP).2)
theorem lists_high {n m i : Nat} {p : List Int} {t : Int} (hl : ¬ p.getD i 0 < t) : Lists (n * m) (inP n m p t i) [] :=
  lists_nil fun x _ => by
    cases h : inP n m p t i x with
    | false => rfl
    | true => exact absurd (inP_low h).1 hl
end Go.Proofs.YtkhgcfchaogccaaDoor
