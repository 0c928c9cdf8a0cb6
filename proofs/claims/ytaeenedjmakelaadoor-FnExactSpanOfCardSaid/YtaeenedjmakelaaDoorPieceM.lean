/- Pieces, as lists of cells. -/
import Derived.Test.YtaeenedjmakelaaDoorPieces2
import Derived.Test.YtaeenedjmakelaaDoorLevel
namespace Go.Proofs.YtaeenedjmakelaaDoor

/-- i goes to the first row whose head is F; if there is none, i is a row of its own. -/
def addAt (F i : Int) : List (List Int) → List (List Int)
  | [] => [[i]]
  | r :: rs => if r.getD 0 0 = F then (r ++ [i]) :: rs else r :: addAt F i rs
def piecesT (f C : List Int) : List (List Int) := C.foldl (fun ps i => addAt (f.getD i.toNat 0) i ps) []
theorem piecesT_snoc (f C : List Int) (i : Int) : piecesT f (C ++ [i]) = addAt (f.getD i.toNat 0) i (piecesT f C) := by simp [piecesT, List.foldl_append]
theorem addAt_found (F i : Int) : ∀ (ps : List (List Int)) (n : Nat), n < ps.length → (∀ j, j < n → (ps.getD j []).getD 0 0 ≠ F) → (ps.getD n []).getD 0 0 = F → addAt F i ps = ps.set n (ps.getD n [] ++ [i])
  | [], n, h, _, _ => by simp at h
  | r :: rs, 0, _, _, h => by
    have h' : r.getD 0 0 = F := h
    rw [addAt, if_pos h']; rfl
  | r :: rs, n + 1, hn, hj, h => by
    have h0 : r.getD 0 0 ≠ F := hj 0 (by omega)
    rw [addAt, if_neg h0, addAt_found F i rs n (by simpa using hn) (fun j hjn => hj (j + 1) (by omega)) h]
    rfl
theorem addAt_none (F i : Int) : ∀ (ps : List (List Int)), (∀ j, j < ps.length → (ps.getD j []).getD 0 0 ≠ F) → addAt F i ps = ps ++ [[i]]
  | [], _ => rfl
  | r :: rs, h => by
    have h0 : r.getD 0 0 ≠ F := h 0 (by simp)
    rw [addAt, if_neg h0, addAt_none F i rs (fun j hj => h (j + 1) (by simpa using hj))]
    rfl
theorem getD_setL {α : Type} (l : List α) (n j : Nat) (x d : α) (hn : n < l.length) : (l.set n x).getD j d = if j = n then x else l.getD j d := by
  by_cases e : j = n
  · subst e; rw [if_pos rfl]; simp [hn]
  · rw [if_neg e]; simp only [List.getD_eq_getElem?_getD, List.getElem?_set_ne (Ne.symm e)]
theorem getD_snocL {α : Type} (l : List α) (j : Nat) (x d : α) (hj : j ≤ l.length) : (l ++ [x]).getD j d = if j = l.length then x else l.getD j d := by
  by_cases e : j = l.length
  · subst e; simp
  · rw [if_neg e]; simp only [List.getD_eq_getElem?_getD]; rw [List.getElem?_append_left (by omega)]
theorem head_snoc (r : List Int) (i : Int) (h : 0 < r.length) : (r ++ [i]).getD 0 0 = r.getD 0 0 := by
  rw [getD_snocL _ _ _ _ (by omega), if_neg (by omega)]

/-- What the pieces of the cells C are: cells with one first cell, this one ahead. -/
structure PInv (f C : List Int) (ps : List (List Int)) : Prop where
  fits : ∀ j, j < ps.length → ∃ F : Int, ps.getD j [] = C.filter (fun x => f.getD x.toNat 0 == F) ∧ (ps.getD j []).getD 0 0 = F ∧ 0 < (ps.getD j []).length
  all : ∀ x, x ∈ C → ∃ j, j < ps.length ∧ x ∈ ps.getD j []
  apart : ∀ j k, j < k → k < ps.length → (ps.getD j []).getD 0 0 ≠ (ps.getD k []).getD 0 0
theorem PInv.nil (f : List Int) : PInv f [] [] := ⟨fun j h => by simp at h, fun x h => by simp at h, fun j k _ h => by simp at h⟩
theorem PInv.apart' {f C : List Int} {ps : List (List Int)} (P : PInv f C ps) {j k : Nat} (hj : j < ps.length) (hk : k < ps.length) (h : j ≠ k) : (ps.getD j []).getD 0 0 ≠ (ps.getD k []).getD 0 0 := by
  rcases Nat.lt_or_gt_of_ne h with h | h
  · exact P.apart j k h hk
  · exact fun e => P.apart k j h hj e.symm
/-- The piece that holds a cell. -/
theorem PInv.holds {f C : List Int} {ps : List (List Int)} (P : PInv f C ps) {j : Nat} (hj : j < ps.length) {x : Int} (hx : x ∈ ps.getD j []) : x ∈ C ∧ ps.getD j [] = C.filter (fun y => f.getD y.toNat 0 == f.getD x.toNat 0) := by
  obtain ⟨F, h1, h2, h3⟩ := P.fits j hj
  rw [h1, List.mem_filter] at hx
  have hF : f.getD x.toNat 0 = F := by simpa using hx.2
  exact ⟨hx.1, by rw [hF]; exact h1⟩
theorem PInv.add {f C : List Int} {ps : List (List Int)} (P : PInv f C ps) (i F : Int) (hF : f.getD i.toNat 0 = F) (hf : F ≠ i → F ∈ C ∧ f.getD F.toNat 0 = F) : PInv f (C ++ [i]) (addAt F i ps) := by
  have hfi : ∀ G, (C ++ [i]).filter (fun x => f.getD x.toNat 0 == G) = C.filter (fun x => f.getD x.toNat 0 == G) ++ if F = G then [i] else [] := fun G => by
    rw [List.filter_append]
    congr 1
    by_cases e : F = G
    · rw [if_pos e, List.filter_cons_of_pos (by rw [hF, e]; exact beq_self_eq_true _), List.filter_nil]
    · rw [if_neg e, List.filter_cons_of_neg (by rw [hF]; simpa using e), List.filter_nil]
  by_cases hex : ∃ n, n < ps.length ∧ (ps.getD n []).getD 0 0 = F
  · obtain ⟨n, ⟨hn, hh⟩, hl⟩ := least_of (fun n => n < ps.length ∧ (ps.getD n []).getD 0 0 = F) hex.choose hex.choose_spec
    rw [addAt_found F i ps n hn (fun j hj e => by have := hl j ⟨by omega, e⟩; omega) hh]
    obtain ⟨G, g1, g2, g3⟩ := P.fits n hn
    have hG : G = F := by rw [← g2, hh]
    subst hG
    have hd : ∀ j, ((ps.set n (ps.getD n [] ++ [i])).getD j []).getD 0 0 = (ps.getD j []).getD 0 0 := fun j => by
      rw [getD_setL _ _ _ _ _ hn]
      by_cases e : j = n
      · rw [if_pos e, head_snoc _ _ g3, e]
      · rw [if_neg e]
    refine ⟨fun j hj => ?_, fun x hx => ?_, fun j k hjk hk => ?_⟩
    · rw [List.length_set] at hj
      by_cases e : j = n
      · refine ⟨G, ?_, by rw [hd, e]; exact hh, ?_⟩
        · rw [getD_setL _ _ _ _ _ hn, if_pos e, hfi, if_pos rfl, g1]
        · rw [getD_setL _ _ _ _ _ hn, if_pos e]; simp
      · obtain ⟨K, k1, k2, k3⟩ := P.fits j hj
        have hK : ¬ G = K := fun e2 => P.apart' hj hn e (by rw [k2, hh, e2])
        exact ⟨K, by rw [getD_setL _ _ _ _ _ hn, if_neg e, hfi, if_neg hK, List.append_nil]; exact k1, by rw [hd]; exact k2, by rw [getD_setL _ _ _ _ _ hn, if_neg e]; exact k3⟩
    · rw [List.mem_append, List.mem_singleton] at hx
      rcases hx with hx | rfl
      · obtain ⟨j, hj, hm⟩ := P.all x hx
        refine ⟨j, by rw [List.length_set]; exact hj, ?_⟩
        rw [getD_setL _ _ _ _ _ hn]
        by_cases e : j = n
        · rw [if_pos e, ← e]; exact List.mem_append_left _ hm
        · rw [if_neg e]; exact hm
      · exact ⟨n, by rw [List.length_set]; exact hn, by rw [getD_setL _ _ _ _ _ hn, if_pos rfl]; simp⟩
    · rw [List.length_set] at hk
      rw [hd, hd]
      exact P.apart j k hjk hk
  · have hno : ∀ j, j < ps.length → (ps.getD j []).getD 0 0 ≠ F := fun j hj e => hex ⟨j, hj, e⟩
    rw [addAt_none F i ps hno]
    have hne : ∀ x, x ∈ C → f.getD x.toNat 0 ≠ F := fun x hx e => by
      obtain ⟨j, hj, hm⟩ := P.all x hx
      obtain ⟨G, g1, g2, _⟩ := P.fits j hj
      rw [g1, List.mem_filter] at hm
      have : f.getD x.toNat 0 = G := by simpa using hm.2
      exact hno j hj (by rw [g2, ← this, e])
    have hiF : F = i := by
      refine Classical.byContradiction fun h => ?_
      obtain ⟨h1, h2⟩ := hf h
      exact hne F h1 h2
    have hnil : C.filter (fun x => f.getD x.toNat 0 == F) = [] := by
      rw [List.filter_eq_nil_iff]
      intro x hx
      simpa using hne x hx
    refine ⟨fun j hj => ?_, fun x hx => ?_, fun j k hjk hk => ?_⟩
    · rw [List.length_append, List.length_singleton] at hj
      rw [getD_snocL _ _ _ _ (by omega)]
      by_cases e : j = ps.length
      · rw [if_pos e]
        exact ⟨F, by rw [hfi, if_pos rfl, hnil, List.nil_append], by simp [hiF], by simp⟩
      · rw [if_neg e]
        obtain ⟨K, k1, k2, k3⟩ := P.fits j (by omega)
        have hK : ¬ F = K := fun e2 => hno j (by omega) (by rw [k2, e2])
        exact ⟨K, by rw [hfi, if_neg hK, List.append_nil]; exact k1, k2, k3⟩
    · rw [List.mem_append, List.mem_singleton] at hx
      rcases hx with hx | rfl
      · obtain ⟨j, hj, hm⟩ := P.all x hx
        exact ⟨j, by rw [List.length_append]; omega, by rw [getD_snocL _ _ _ _ (by omega), if_neg (by omega)]; exact hm⟩
      · exact ⟨ps.length, by simp, by rw [getD_snocL _ _ _ _ (Nat.le_refl _), if_pos rfl]; simp⟩
    · rw [List.length_append, List.length_singleton] at hk
      rw [getD_snocL _ j _ _ (by omega), getD_snocL _ k _ _ (by omega), if_neg (by omega)]
      by_cases e : k = ps.length
      · rw [if_pos e]
        intro h
        exact hno j (by omega) (by rw [h, hiF]; simp)
      · rw [if_neg e]
        exact P.apart j k hjk (by omega)

theorem addAt_pos (F i : Int) : ∀ ps : List (List Int), (∀ j, j < ps.length → 0 < (ps.getD j []).length) → ∀ j, j < (addAt F i ps).length → 0 < ((addAt F i ps).getD j []).length
  | [], _, 0, _ => by simp [addAt]
  | [], _, j + 1, h => by simp [addAt] at h
  | r :: rs, hp, j, h => by
    unfold addAt at h ⊢
    by_cases e : r.getD 0 0 = F
    · rw [if_pos e] at h ⊢
      cases j with
      | zero => simp
      | succ j => exact hp (j + 1) (by simpa using h)
    · rw [if_neg e] at h ⊢
      cases j with
      | zero => exact hp 0 (by simp)
      | succ j => exact addAt_pos F i rs (fun k hk => hp (k + 1) (by simpa using hk)) j (by simpa using h)
theorem pieces_take (f C : List Int) (k : Nat) (hk : k < C.length) (X : Int) (hX : C.getD k 0 = X) : piecesT f (C.take (k + 1)) = addAt (f.getD X.toNat 0) X (piecesT f (C.take k)) := by
  rw [List.take_succ_eq_append_getElem hk, piecesT_snoc]
  have : C[k] = X := by rw [← hX]; simp [hk]
  rw [this]
theorem pieces_pos (f C : List Int) : ∀ k, k ≤ C.length → ∀ j, j < (piecesT f (C.take k)).length → 0 < ((piecesT f (C.take k)).getD j []).length
  | 0, _, j, h => by simp [piecesT] at h
  | k + 1, hk, j, h => by
    rw [pieces_take f C k (by omega) _ rfl] at h ⊢
    exact addAt_pos _ _ _ (pieces_pos f C k (by omega)) j h
theorem addAt_len (F i : Int) (ps : List (List Int)) : (addAt F i ps).length ≤ ps.length + 1 := by
  induction ps with
  | nil => simp [addAt]
  | cons r rs ih => unfold addAt; split <;> simp <;> omega
theorem addAt_row (F i : Int) (B : Nat) : ∀ ps : List (List Int), (∀ j, j < ps.length → (ps.getD j []).length ≤ B) → ∀ j, j < (addAt F i ps).length → ((addAt F i ps).getD j []).length ≤ B + 1
  | [], _, 0, _ => by simp [addAt]
  | [], _, j + 1, h => by simp [addAt] at h
  | r :: rs, hp, j, h => by
    unfold addAt at h ⊢
    have h0 : r.length ≤ B := hp 0 (by simp)
    by_cases e : r.getD 0 0 = F
    · rw [if_pos e] at h ⊢
      cases j with
      | zero => simp; omega
      | succ j => exact Nat.le_succ_of_le (hp (j + 1) (by simpa using h))
    · rw [if_neg e] at h ⊢
      cases j with
      | zero => exact Nat.le_succ_of_le h0
      | succ j => exact addAt_row F i B rs (fun k hk => hp (k + 1) (by simpa using hk)) j (by simpa using h)
theorem pieces_small (f C : List Int) : ∀ k, k ≤ C.length → (piecesT f (C.take k)).length ≤ k ∧ ∀ j, j < (piecesT f (C.take k)).length → ((piecesT f (C.take k)).getD j []).length ≤ k
  | 0, _ => by simp [piecesT]
  | k + 1, hk => by
    rw [pieces_take f C k (by omega) _ rfl]
    have ih := pieces_small f C k (by omega)
    have h1 := addAt_len (f.getD (C.getD k 0).toNat 0) (C.getD k 0) (piecesT f (C.take k))
    exact ⟨by omega, addAt_row _ _ k _ ih.2⟩
theorem whereL_mem (N : Nat) (P : Nat → Bool) (x : Int) : x ∈ whereL N P ↔ ∃ k : Nat, k < N ∧ P k = true ∧ x = k := by
  unfold whereL
  simp only [List.mem_map, List.mem_filter, List.mem_range]
  constructor
  · rintro ⟨a, ⟨h1, h2⟩, rfl⟩; exact ⟨a, h1, h2, rfl⟩
  · rintro ⟨a, h1, h2, rfl⟩; exact ⟨a, ⟨h1, h2⟩, rfl⟩
/-- Joined are cells that both belong. -/
def bothB (B : Nat → Bool) (i k : Nat) : Bool := B i && B k
theorem bothB_symm (B : Nat → Bool) : Symm (bothB B) := fun i k h => by unfold bothB at h ⊢; rw [Bool.and_comm]; exact h
theorem reach_both {n m i k : Nat} {B : Nat → Bool} (h : Reach n m (bothB B) i k) : k = i ∨ (B i = true ∧ B k = true) := by
  induction h with
  | refl => exact .inl rfl
  | step hj hk he ih =>
    unfold bothB at he
    rw [Bool.and_eq_true] at he
    rcases ih with rfl | ih
    · exact .inr ⟨he.1, he.2⟩
    · exact .inr ⟨ih.1, he.2⟩
theorem pieces_inv {n m : Nat} {B : Nat → Bool} {f : List Int} (hn : n ≤ 5) (hm : m ≤ 5) (F : Flats n m (bothB B) f) : ∀ k, k ≤ n * m → PInv f (whereL k B) (piecesT f (whereL k B))
  | 0, _ => PInv.nil f
  | k + 1, hk => by
    have ih := pieces_inv hn hm F k (by omega)
    rw [whereL_succ]
    cases hB : B k with
    | false => simpa using ih
    | true =>
      rw [if_pos rfl, piecesT_snoc]
      refine ih.add k _ rfl fun hne => ?_
      obtain ⟨j, e, hj, hr⟩ := F.ok k (by omega)
      rw [Int.toNat_natCast, e] at hne ⊢
      have hjk : j < k := by
        rcases Nat.lt_or_ge j k with h | h
        · exact h
        · exact absurd (by rw [show j = k by omega]) hne
      have hBj : B j = true := by
        rcases reach_both hr with h | h
        · omega
        · exact h.2
      refine ⟨(whereL_mem _ _ _).2 ⟨j, hjk, hBj, rfl⟩, ?_⟩
      rw [Int.toNat_natCast, F.reach hn hm (by omega) hr, e]
/-- The cells of the piece of i. -/
def inB (B : Nat → Bool) (f : List Int) (i k : Nat) : Bool := B k && (f.getD k 0 == f.getD i 0)
theorem filter_whereL (N : Nat) (B : Nat → Bool) (f : List Int) (i : Nat) : (whereL N B).filter (fun x => f.getD x.toNat 0 == f.getD i 0) = whereL N (inB B f i) := by
  unfold whereL inB
  rw [List.filter_map, List.filter_filter]
  congr 1
  apply List.filter_congr
  intro x _
  simp [Bool.and_comm]
theorem piece_at {n m : Nat} {B : Nat → Bool} {f : List Int} (hn : n ≤ 5) (hm : m ≤ 5) (F : Flats n m (bothB B) f) {j i : Nat} (hj : j < (piecesT f (whereL (n * m) B)).length) (hx : (i : Int) ∈ (piecesT f (whereL (n * m) B)).getD j []) :
    B i = true ∧ (piecesT f (whereL (n * m) B)).getD j [] = whereL (n * m) (inB B f i) := by
  obtain ⟨h1, h2⟩ := (pieces_inv hn hm F (n * m) (Nat.le_refl _)).holds hj hx
  obtain ⟨k, _, hk, e⟩ := (whereL_mem _ _ _).1 h1
  have : i = k := by omega
  subst this
  rw [Int.toNat_natCast, filter_whereL] at h2
  exact ⟨hk, h2⟩
theorem piece_some {n m : Nat} {B : Nat → Bool} {f : List Int} (hn : n ≤ 5) (hm : m ≤ 5) (F : Flats n m (bothB B) f) {i : Nat} (hi : i < n * m) (hB : B i = true) : ∃ j, j < (piecesT f (whereL (n * m) B)).length ∧ (i : Int) ∈ (piecesT f (whereL (n * m) B)).getD j [] :=
  (pieces_inv hn hm F (n * m) (Nat.le_refl _)).all _ ((whereL_mem _ _ _).2 ⟨i, hi, hB, rfl⟩)
theorem sumTo_whereL (P : Nat → Bool) (g : Int → Int) : ∀ N, sumTo (fun i => g ((whereL N P).getD i 0)) (whereL N P).length = sumTo (fun k => if P k = true then g k else 0) N
  | 0 => rfl
  | N + 1 => by
    have ih := sumTo_whereL P g N
    rw [whereL_succ, sumTo, ← ih]
    cases hP : P N with
    | false => simp
    | true =>
      rw [if_pos rfl, if_pos rfl, List.length_append, List.length_singleton, sumTo, getD_snocL _ _ _ _ (Nat.le_refl _), if_pos rfl]
      congr 1
      refine sumTo_congr fun i hi => ?_
      rw [getD_snocL _ _ _ _ (by omega), if_neg (by omega)]
theorem len_whereL (P : Nat → Bool) (N : Nat) : ((whereL N P).length : Int) = sumTo (fun k => if P k = true then 1 else 0) N := by
  unfold whereL
  rw [List.length_map, filter_len]
end Go.Proofs.YtaeenedjmakelaaDoor
