/- FnSpanOf: for every input the law returns true, and the input reads as it did, where the table of steps reads as the program's text lays it; tied to that text. Its conditions: that one listed variable, tied. -/
import Derived.Test.YtaeenedjmakelaaDoorPieces2
import Derived.Test.YtaeenedjmakelaaDoorLevel
import Derived.Laws.EntriesVeiled
import Derived.WalkMore
import Derived.Deep.LoopGhost
import Derived.BigQuiet
import Derived.Test.YtaeenedjmakelaaDoorSumTo
import Derived.Test.YtaeenedjmakelaaDoorExact
import Derived.Lib.MinMax
import Derived.Shelf.Abstract
import Derived.Test.YtaeenedjmakelaaDoorSGrid
import Derived.Test.YtaeenedjmakelaaDoorAppendInts
import Derived.Maps.RangeWalk
import Derived.Maps.OwnSet
import Derived.Maps.OwnOps
import Derived.Test.YtaeenedjmakelaaDoorCells
import Derived.Test.YtaeenedjmakelaaDoorEnds4
import Derived.Test.YtaeenedjmakelaaDoorMeetM
import Derived.Test.YtaeenedjmakelaaDoorMeetF
import Derived.Test.YtaeenedjmakelaaDoorSortW
import Derived.Test.YtaeenedjmakelaaDoorBeside
import Derived.Test.YtaeenedjmakelaaDoorConcat
import Derived.Test.YtaeenedjmakelaaDoorSpanM
import Derived.Test.YtaeenedjmakelaaDoorSMergeM
import Derived.Test.YtaeenedjmakelaaDoorGrid
import Derived.Test.YtaeenedjmakelaaDoorSSpan
import Derived.Test.YtaeenedjmakelaaDoorTurns
import Derived.Test.YtaeenedjmakelaaDoorDraws
import Derived.Test.YtaeenedjmakelaaDoorCameRows
import Derived.Test.YtaeenedjmakelaaDoorTied
import Derived.Test.YtaeenedjmakelaaDoorWords
import Derived.Test.YtaeenedjmakelaaDoorTie
import Derived.Test.YtaeenedjmakelaaDoorCards
import Derived.SevenTiedAt
/- Pieces, as lists of cells. -/
namespace Go.Proofs.YtaeenedjmakelaaDoor

/-- i goes to the first row whose head is F; if there is none, i is a row of its own. -/
def addAt (F i : Int) : List (List Int) → List (List Int)
  | [] => [[i]]
  | r :: rs => if r.getD 0 0 = F then (r ++ [i]) :: rs else r :: addAt F i rs
def piecesT (f C : List Int) : List (List Int) := C.foldl (fun ps i => addAt (f.getD i.toNat 0) i ps) []
theorem piecesT_snoc (f C : List Int) (i : Int) : piecesT f (C ++ [i]) = addAt (f.getD i.toNat 0) i (piecesT f C) := by simp [piecesT, List.foldl_append]
theorem addAt_found (F i : Int) : ∀ (ps : List (List Int)) (n : Nat), n < ps.length → (∀ j, j < n → (ps.getD j []).getD 0 0 ≠ F) → (ps.getD n []).getD 0 0 = F → addAt F i ps = ps.set n (ps.getD n [] ++ [i])
  | [], n, h, _, _ => by simp at h
  | r :: rs, 0, _, _, h => by
    have h' : r.getD 0 0 = F := h
    rw [addAt, if_pos h']; rfl
  | r :: rs, n + 1, hn, hj, h => by
    have h0 : r.getD 0 0 ≠ F := hj 0 (by omega)
    rw [addAt, if_neg h0, addAt_found F i rs n (by simpa using hn) (fun j hjn => hj (j + 1) (by omega)) h]
    rfl
theorem addAt_none (F i : Int) : ∀ (ps : List (List Int)), (∀ j, j < ps.length → (ps.getD j []).getD 0 0 ≠ F) → addAt F i ps = ps ++ [[i]]
  | [], _ => rfl
  | r :: rs, h => by
    have h0 : r.getD 0 0 ≠ F := h 0 (by simp)
    rw [addAt, if_neg h0, addAt_none F i rs (fun j hj => h (j + 1) (by simpa using hj))]
    rfl
theorem getD_setL {α : Type} (l : List α) (n j : Nat) (x d : α) (hn : n < l.length) : (l.set n x).getD j d = if j = n then x else l.getD j d := by
  by_cases e : j = n
  · subst e; rw [if_pos rfl]; simp [hn]
  · rw [if_neg e]; simp only [List.getD_eq_getElem?_getD, List.getElem?_set_ne (Ne.symm e)]
theorem getD_snocL {α : Type} (l : List α) (j : Nat) (x d : α) (hj : j ≤ l.length) : (l ++ [x]).getD j d = if j = l.length then x else l.getD j d := by
  by_cases e : j = l.length
  · subst e; simp
  · rw [if_neg e]; simp only [List.getD_eq_getElem?_getD]; rw [List.getElem?_append_left (by omega)]
theorem head_snoc (r : List Int) (i : Int) (h : 0 < r.length) : (r ++ [i]).getD 0 0 = r.getD 0 0 := by
  rw [getD_snocL _ _ _ _ (by omega), if_neg (by omega)]

/-- What the pieces of the cells C are: cells with one first cell, this one ahead. -/
structure PInv (f C : List Int) (ps : List (List Int)) : Prop where
  fits : ∀ j, j < ps.length → ∃ F : Int, ps.getD j [] = C.filter (fun x => f.getD x.toNat 0 == F) ∧ (ps.getD j []).getD 0 0 = F ∧ 0 < (ps.getD j []).length
  all : ∀ x, x ∈ C → ∃ j, j < ps.length ∧ x ∈ ps.getD j []
  apart : ∀ j k, j < k → k < ps.length → (ps.getD j []).getD 0 0 ≠ (ps.getD k []).getD 0 0
theorem PInv.nil (f : List Int) : PInv f [] [] := ⟨fun j h => by simp at h, fun x h => by simp at h, fun j k _ h => by simp at h⟩
theorem PInv.apart' {f C : List Int} {ps : List (List Int)} (P : PInv f C ps) {j k : Nat} (hj : j < ps.length) (hk : k < ps.length) (h : j ≠ k) : (ps.getD j []).getD 0 0 ≠ (ps.getD k []).getD 0 0 := by
  rcases Nat.lt_or_gt_of_ne h with h | h
  · exact P.apart j k h hk
  · exact fun e => P.apart k j h hj e.symm
/-- The piece that holds a cell. -/
theorem PInv.holds {f C : List Int} {ps : List (List Int)} (P : PInv f C ps) {j : Nat} (hj : j < ps.length) {x : Int} (hx : x ∈ ps.getD j []) : x ∈ C ∧ ps.getD j [] = C.filter (fun y => f.getD y.toNat 0 == f.getD x.toNat 0) := by
  obtain ⟨F, h1, h2, h3⟩ := P.fits j hj
  rw [h1, List.mem_filter] at hx
  have hF : f.getD x.toNat 0 = F := by simpa using hx.2
  exact ⟨hx.1, by rw [hF]; exact h1⟩
theorem PInv.add {f C : List Int} {ps : List (List Int)} (P : PInv f C ps) (i F : Int) (hF : f.getD i.toNat 0 = F) (hf : F ≠ i → F ∈ C ∧ f.getD F.toNat 0 = F) : PInv f (C ++ [i]) (addAt F i ps) := by
  have hfi : ∀ G, (C ++ [i]).filter (fun x => f.getD x.toNat 0 == G) = C.filter (fun x => f.getD x.toNat 0 == G) ++ if F = G then [i] else [] := fun G => by
    rw [List.filter_append]
    congr 1
    by_cases e : F = G
    · rw [if_pos e, List.filter_cons_of_pos (by rw [hF, e]; exact beq_self_eq_true _), List.filter_nil]
    · rw [if_neg e, List.filter_cons_of_neg (by rw [hF]; simpa using e), List.filter_nil]
  by_cases hex : ∃ n, n < ps.length ∧ (ps.getD n []).getD 0 0 = F
  · obtain ⟨n, ⟨hn, hh⟩, hl⟩ := least_of (fun n => n < ps.length ∧ (ps.getD n []).getD 0 0 = F) hex.choose hex.choose_spec
    rw [addAt_found F i ps n hn (fun j hj e => by have := hl j ⟨by omega, e⟩; omega) hh]
    obtain ⟨G, g1, g2, g3⟩ := P.fits n hn
    have hG : G = F := by rw [← g2, hh]
    subst hG
    have hd : ∀ j, ((ps.set n (ps.getD n [] ++ [i])).getD j []).getD 0 0 = (ps.getD j []).getD 0 0 := fun j => by
      rw [getD_setL _ _ _ _ _ hn]
      by_cases e : j = n
      · rw [if_pos e, head_snoc _ _ g3, e]
      · rw [if_neg e]
    refine ⟨fun j hj => ?_, fun x hx => ?_, fun j k hjk hk => ?_⟩
    · rw [List.length_set] at hj
      by_cases e : j = n
      · refine ⟨G, ?_, by rw [hd, e]; exact hh, ?_⟩
        · rw [getD_setL _ _ _ _ _ hn, if_pos e, hfi, if_pos rfl, g1]
        · rw [getD_setL _ _ _ _ _ hn, if_pos e]; simp
      · obtain ⟨K, k1, k2, k3⟩ := P.fits j hj
        have hK : ¬ G = K := fun e2 => P.apart' hj hn e (by rw [k2, hh, e2])
        exact ⟨K, by rw [getD_setL _ _ _ _ _ hn, if_neg e, hfi, if_neg hK, List.append_nil]; exact k1, by rw [hd]; exact k2, by rw [getD_setL _ _ _ _ _ hn, if_neg e]; exact k3⟩
    · rw [List.mem_append, List.mem_singleton] at hx
      rcases hx with hx | rfl
      · obtain ⟨j, hj, hm⟩ := P.all x hx
        refine ⟨j, by rw [List.length_set]; exact hj, ?_⟩
        rw [getD_setL _ _ _ _ _ hn]
        by_cases e : j = n
        · rw [if_pos e, ← e]; exact List.mem_append_left _ hm
        · rw [if_neg e]; exact hm
      · exact ⟨n, by rw [List.length_set]; exact hn, by rw [getD_setL _ _ _ _ _ hn, if_pos rfl]; simp⟩
    · rw [List.length_set] at hk
      rw [hd, hd]
      exact P.apart j k hjk hk
  · have hno : ∀ j, j < ps.length → (ps.getD j []).getD 0 0 ≠ F := fun j hj e => hex ⟨j, hj, e⟩
    rw [addAt_none F i ps hno]
    have hne : ∀ x, x ∈ C → f.getD x.toNat 0 ≠ F := fun x hx e => by
      obtain ⟨j, hj, hm⟩ := P.all x hx
      obtain ⟨G, g1, g2, _⟩ := P.fits j hj
      rw [g1, List.mem_filter] at hm
      have : f.getD x.toNat 0 = G := by simpa using hm.2
      exact hno j hj (by rw [g2, ← this, e])
    have hiF : F = i := by
      refine Classical.byContradiction fun h => ?_
      obtain ⟨h1, h2⟩ := hf h
      exact hne F h1 h2
    have hnil : C.filter (fun x => f.getD x.toNat 0 == F) = [] := by
      rw [List.filter_eq_nil_iff]
      intro x hx
      simpa using hne x hx
    refine ⟨fun j hj => ?_, fun x hx => ?_, fun j k hjk hk => ?_⟩
    · rw [List.length_append, List.length_singleton] at hj
      rw [getD_snocL _ _ _ _ (by omega)]
      by_cases e : j = ps.length
      · rw [if_pos e]
        exact ⟨F, by rw [hfi, if_pos rfl, hnil, List.nil_append], by simp [hiF], by simp⟩
      · rw [if_neg e]
        obtain ⟨K, k1, k2, k3⟩ := P.fits j (by omega)
        have hK : ¬ F = K := fun e2 => hno j (by omega) (by rw [k2, e2])
        exact ⟨K, by rw [hfi, if_neg hK, List.append_nil]; exact k1, k2, k3⟩
    · rw [List.mem_append, List.mem_singleton] at hx
      rcases hx with hx | rfl
      · obtain ⟨j, hj, hm⟩ := P.all x hx
        exact ⟨j, by rw [List.length_append]; omega, by rw [getD_snocL _ _ _ _ (by omega), if_neg (by omega)]; exact hm⟩
      · exact ⟨ps.length, by simp, by rw [getD_snocL _ _ _ _ (Nat.le_refl _), if_pos rfl]; simp⟩
    · rw [List.length_append, List.length_singleton] at hk
      rw [getD_snocL _ j _ _ (by omega), getD_snocL _ k _ _ (by omega), if_neg (by omega)]
      by_cases e : k = ps.length
      · rw [if_pos e]
        intro h
        exact hno j (by omega) (by rw [h, hiF]; simp)
      · rw [if_neg e]
        exact P.apart j k hjk (by omega)

theorem addAt_pos (F i : Int) : ∀ ps : List (List Int), (∀ j, j < ps.length → 0 < (ps.getD j []).length) → ∀ j, j < (addAt F i ps).length → 0 < ((addAt F i ps).getD j []).length
  | [], _, 0, _ => by simp [addAt]
  | [], _, j + 1, h => by simp [addAt] at h
  | r :: rs, hp, j, h => by
    unfold addAt at h ⊢
    by_cases e : r.getD 0 0 = F
    · rw [if_pos e] at h ⊢
      cases j with
      | zero => simp
      | succ j => exact hp (j + 1) (by simpa using h)
    · rw [if_neg e] at h ⊢
      cases j with
      | zero => exact hp 0 (by simp)
      | succ j => exact addAt_pos F i rs (fun k hk => hp (k + 1) (by simpa using hk)) j (by simpa using h)
theorem pieces_take (f C : List Int) (k : Nat) (hk : k < C.length) (X : Int) (hX : C.getD k 0 = X) : piecesT f (C.take (k + 1)) = addAt (f.getD X.toNat 0) X (piecesT f (C.take k)) := by
  rw [List.take_succ_eq_append_getElem hk, piecesT_snoc]
  have : C[k] = X := by rw [← hX]; simp [hk]
  rw [this]
theorem pieces_pos (f C : List Int) : ∀ k, k ≤ C.length → ∀ j, j < (piecesT f (C.take k)).length → 0 < ((piecesT f (C.take k)).getD j []).length
  | 0, _, j, h => by simp [piecesT] at h
  | k + 1, hk, j, h => by
    rw [pieces_take f C k (by omega) _ rfl] at h ⊢
    exact addAt_pos _ _ _ (pieces_pos f C k (by omega)) j h
theorem addAt_len (F i : Int) (ps : List (List Int)) : (addAt F i ps).length ≤ ps.length + 1 := by
  induction ps with
  | nil => simp [addAt]
  | cons r rs ih => unfold addAt; split <;> simp <;> omega
theorem addAt_row (F i : Int) (B : Nat) : ∀ ps : List (List Int), (∀ j, j < ps.length → (ps.getD j []).length ≤ B) → ∀ j, j < (addAt F i ps).length → ((addAt F i ps).getD j []).length ≤ B + 1
  | [], _, 0, _ => by simp [addAt]
  | [], _, j + 1, h => by simp [addAt] at h
  | r :: rs, hp, j, h => by
    unfold addAt at h ⊢
    have h0 : r.length ≤ B := hp 0 (by simp)
    by_cases e : r.getD 0 0 = F
    · rw [if_pos e] at h ⊢
      cases j with
      | zero => simp; omega
      | succ j => exact Nat.le_succ_of_le (hp (j + 1) (by simpa using h))
    · rw [if_neg e] at h ⊢
      cases j with
      | zero => exact Nat.le_succ_of_le h0
      | succ j => exact addAt_row F i B rs (fun k hk => hp (k + 1) (by simpa using hk)) j (by simpa using h)
theorem pieces_small (f C : List Int) : ∀ k, k ≤ C.length → (piecesT f (C.take k)).length ≤ k ∧ ∀ j, j < (piecesT f (C.take k)).length → ((piecesT f (C.take k)).getD j []).length ≤ k
  | 0, _ => by simp [piecesT]
  | k + 1, hk => by
    rw [pieces_take f C k (by omega) _ rfl]
    have ih := pieces_small f C k (by omega)
    have h1 := addAt_len (f.getD (C.getD k 0).toNat 0) (C.getD k 0) (piecesT f (C.take k))
    exact ⟨by omega, addAt_row _ _ k _ ih.2⟩
theorem whereL_mem (N : Nat) (P : Nat → Bool) (x : Int) : x ∈ whereL N P ↔ ∃ k : Nat, k < N ∧ P k = true ∧ x = k := by
  unfold whereL
  simp only [List.mem_map, List.mem_filter, List.mem_range]
  constructor
  · rintro ⟨a, ⟨h1, h2⟩, rfl⟩; exact ⟨a, h1, h2, rfl⟩
  · rintro ⟨a, h1, h2, rfl⟩; exact ⟨a, ⟨h1, h2⟩, rfl⟩
/-- Joined are cells that both belong. -/
def bothB (B : Nat → Bool) (i k : Nat) : Bool := B i && B k
theorem bothB_symm (B : Nat → Bool) : Symm (bothB B) := fun i k h => by unfold bothB at h ⊢; rw [Bool.and_comm]; exact h
theorem reach_both {n m i k : Nat} {B : Nat → Bool} (h : Reach n m (bothB B) i k) : k = i ∨ (B i = true ∧ B k = true) := by
  induction h with
  | refl => exact .inl rfl
  | step hj hk he ih =>
    unfold bothB at he
    rw [Bool.and_eq_true] at he
    rcases ih with rfl | ih
    · exact .inr ⟨he.1, he.2⟩
    · exact .inr ⟨ih.1, he.2⟩
theorem pieces_inv {n m : Nat} {B : Nat → Bool} {f : List Int} (hn : n ≤ 5) (hm : m ≤ 5) (F : Flats n m (bothB B) f) : ∀ k, k ≤ n * m → PInv f (whereL k B) (piecesT f (whereL k B))
  | 0, _ => PInv.nil f
  | k + 1, hk => by
    have ih := pieces_inv hn hm F k (by omega)
    rw [whereL_succ]
    cases hB : B k with
    | false => simpa using ih
    | true =>
      rw [if_pos rfl, piecesT_snoc]
      refine ih.add k _ rfl fun hne => ?_
      obtain ⟨j, e, hj, hr⟩ := F.ok k (by omega)
      rw [Int.toNat_natCast, e] at hne ⊢
      have hjk : j < k := by
        rcases Nat.lt_or_ge j k with h | h
        · exact h
        · exact absurd (by rw [show j = k by omega]) hne
      have hBj : B j = true := by
        rcases reach_both hr with h | h
        · omega
        · exact h.2
      refine ⟨(whereL_mem _ _ _).2 ⟨j, hjk, hBj, rfl⟩, ?_⟩
      rw [Int.toNat_natCast, F.reach hn hm (by omega) hr, e]
/-- The cells of the piece of i. -/
def inB (B : Nat → Bool) (f : List Int) (i k : Nat) : Bool := B k && (f.getD k 0 == f.getD i 0)
theorem filter_whereL (N : Nat) (B : Nat → Bool) (f : List Int) (i : Nat) : (whereL N B).filter (fun x => f.getD x.toNat 0 == f.getD i 0) = whereL N (inB B f i) := by
  unfold whereL inB
  rw [List.filter_map, List.filter_filter]
  congr 1
  apply List.filter_congr
  intro x _
  simp [Bool.and_comm]
theorem piece_at {n m : Nat} {B : Nat → Bool} {f : List Int} (hn : n ≤ 5) (hm : m ≤ 5) (F : Flats n m (bothB B) f) {j i : Nat} (hj : j < (piecesT f (whereL (n * m) B)).length) (hx : (i : Int) ∈ (piecesT f (whereL (n * m) B)).getD j []) :
    B i = true ∧ (piecesT f (whereL (n * m) B)).getD j [] = whereL (n * m) (inB B f i) := by
  obtain ⟨h1, h2⟩ := (pieces_inv hn hm F (n * m) (Nat.le_refl _)).holds hj hx
  obtain ⟨k, _, hk, e⟩ := (whereL_mem _ _ _).1 h1
  have : i = k := by omega
  subst this
  rw [Int.toNat_natCast, filter_whereL] at h2
  exact ⟨hk, h2⟩
theorem piece_some {n m : Nat} {B : Nat → Bool} {f : List Int} (hn : n ≤ 5) (hm : m ≤ 5) (F : Flats n m (bothB B) f) {i : Nat} (hi : i < n * m) (hB : B i = true) : ∃ j, j < (piecesT f (whereL (n * m) B)).length ∧ (i : Int) ∈ (piecesT f (whereL (n * m) B)).getD j [] :=
  (pieces_inv hn hm F (n * m) (Nat.le_refl _)).all _ ((whereL_mem _ _ _).2 ⟨i, hi, hB, rfl⟩)
theorem sumTo_whereL (P : Nat → Bool) (g : Int → Int) : ∀ N, sumTo (fun i => g ((whereL N P).getD i 0)) (whereL N P).length = sumTo (fun k => if P k = true then g k else 0) N
  | 0 => rfl
  | N + 1 => by
    have ih := sumTo_whereL P g N
    rw [whereL_succ, sumTo, ← ih]
    cases hP : P N with
    | false => simp
    | true =>
      rw [if_pos rfl, if_pos rfl, List.length_append, List.length_singleton, sumTo, getD_snocL _ _ _ _ (Nat.le_refl _), if_pos rfl]
      congr 1
      refine sumTo_congr fun i hi => ?_
      rw [getD_snocL _ _ _ _ (by omega), if_neg (by omega)]
theorem len_whereL (P : Nat → Bool) (N : Nat) : ((whereL N P).length : Int) = sumTo (fun k => if P k = true then 1 else 0) N := by
  unfold whereL
  rw [List.length_map, filter_len]
end Go.Proofs.YtaeenedjmakelaaDoor
/- The contract of impl.piecesOf over cells beside each other. -/
namespace Go.Proofs.YtaeenedjmakelaaDoor
open Go.RowKit

theorem quiet_two {w w1 w2 : World} (h1 : ∃ q, w1 = w.drewN q) (h2 : ∃ q, w2 = w1.drewN q) : ∃ q, w2 = w.drewN q := by
  obtain ⟨n, rfl⟩ := h1
  obtain ⟨m, rfl⟩ := h2
  exact ⟨n + m, World.drewN_drewN _ _ _⟩

set_option maxRecDepth 100000 in
set_option maxHeartbeats 1000000 in
theorem piecesClo_any (B fk : Nat) (lb : Array Value) (eg : ∀ (args : Array Value) (w : World), (callFunc fk args).run Tryd.prog w = .ok (.enter fk args) w) (N I K : Nat) (P : Nat → Bool) (W : World)
    (hB : W.cell? ⟨B, 0, none⟩ = some (.func (.func fk) #[] lb)) (hT : Tells fk lb N P W) (hI : I < N) (hK : K < N) :
    Calls Tryd.prog 107 #[.int .i64 I, .int .i64 K, .pointer (some ⟨B, 0, none⟩)] W fun e w' => e = .returned (.bool (bothB P I K)) ∧ ∃ q, w' = W.drewN q := by
  have HT := Lib.hid hT
  have HB := Lib.hid hB
  have H1 := Lib.hid (hT I W (Grew.refl _) hI)
  clear hT
  go_enter Tryd.func107, Tryd.ntmps107
  go_wp2_with (fail)
  refine H1.out.mono ?_
  cases hP : P I with
  | false =>
    rintro e w2 ⟨rfl, hq⟩
    have HQ := Lib.hid (And.intro hq hP)
    clear hq hP
    go_wp2
    go_ret
    exact ⟨ret_bool (by simp [bothB, HQ.out.2]), HQ.out.1⟩
  | true =>
    rintro e w2 ⟨rfl, hq⟩
    have HQ := Lib.hid (And.intro hq hP)
    have H2 := Lib.hid (HT.out K w2 (quiet_grew hq) hK)
    have hB2 := (quiet_grew hq).cell HB.out
    clear hq hP hB
    go_wp2_with (fail)
    refine H2.out.mono ?_
    rintro e w3 ⟨rfl, hq⟩
    have HQ3 := Lib.hid (quiet_two HQ.out.1 hq)
    clear hq hB2
    go_wp2
    go_ret
    exact ⟨ret_bool (by simp [bothB, HQ.out.2]), HQ3.out⟩

theorem RowsO.ne {T E lo hi : Nat} (hTE : T ≠ E) {w : World} {v : Value} {H : List (List Int)} (hv : RowsO T E lo hi w v H) {gv cv nv : Nat} (hs : v = .slice (some ⟨gv, 0, none⟩) nv cv) {i : Nat} (hi' : i < H.length)
    {g n c : Nat} (hc : w.cell? ⟨gv, i, none⟩ = some (.slice (some ⟨g, 0, none⟩) n c)) : g ≠ gv ∧ g < w.heap.size ∧ gv < w.heap.size ∧ lo ≤ g ∧ g < hi := by
  obtain ⟨V, k1, k2, k3, k4⟩ := hv
  have hgv : v.ownBlock = some gv := by rw [hs]; rfl
  have hVi : V i = .slice (some ⟨g, 0, none⟩) n c := by
    have k1' := k1
    rw [hs] at k1'
    have hn : nv = H.length := by
      rcases k1'.2 with ⟨e, _⟩ | ⟨_, _, _, e, _⟩
      · cases e
      · cases e; rfl
    subst hn
    have := World.ownsRow.cellAt k1' i (by omega)
    rw [this] at hc
    simpa [hi'] using hc
  have hgi : (V i).ownBlock = some g := by rw [hVi]; rfl
  have hglt := World.ownsRow.lt (k3 i hi').1 g hgi
  exact ⟨fun e => ownsRow_int_block hTE k1 (k3 i hi').1 g hgi (by rw [e]; exact hgv), hglt.2, (World.ownsRow.lt k1 gv hgv).2, hglt.1, (k3 i hi').2 g hgi⟩
/-- A row of one's own grew (in its block, or in a new one), and is put back. -/
theorem RowsO.regrow {T E lo hi : Nat} (hTE : T ≠ E) {w w' : World} {v : Value} {H : List (List Int)} {ys : List Int} (hv : RowsO T E lo hi w v H) {gv cv nv : Nat} (hs : v = .slice (some ⟨gv, 0, none⟩) nv cv) {i : Nat} (hi' : i < H.length)
    {g n c : Nat} (hc : w.cell? ⟨gv, i, none⟩ = some (.slice (some ⟨g, 0, none⟩) n c)) {g' n' c' : Nat} (hW : Within g (g + 1) w w') (hu : IntsO E g' (g' + 1) w' (.slice (some ⟨g', 0, none⟩) n' c') ys) (hg : g' = g ∨ w.heap.size ≤ g') :
    RowsO T E lo w'.heap.size (w'.setCell ⟨gv, i, none⟩ (.slice (some ⟨g', 0, none⟩) n' c')) v (H.set i ys) ∧ Within lo hi w (w'.setCell ⟨gv, i, none⟩ (.slice (some ⟨g', 0, none⟩) n' c')) := by
  obtain ⟨V, k1, k2, k3, k4⟩ := hv
  have hn : nv = H.length := by
    subst hs
    rcases k1.2 with ⟨e, _⟩ | ⟨_, _, _, e, _⟩
    · cases e
    · cases e; rfl
  subst hn
  have hgv : v.ownBlock = some gv := by rw [hs]; rfl
  have hVi : V i = .slice (some ⟨g, 0, none⟩) n c := by
    have k1' := k1
    rw [hs] at k1'
    have := World.ownsRow.cellAt k1' i (by omega)
    rw [this] at hc
    simpa [hi'] using hc
  have hgi : (V i).ownBlock = some g := by rw [hVi]; rfl
  have hgne : g ≠ gv := fun e => ownsRow_int_block hTE k1 (k3 i hi').1 g hgi (by rw [e]; exact hgv)
  have hglt := World.ownsRow.lt (k3 i hi').1 g hgi
  have hgvlt := World.ownsRow.lt k1 gv hgv
  have hgne' : g' ≠ gv := by
    rcases hg with rfl | h
    · exact hgne
    · have := hgvlt.2; omega
  have hsame : ∀ k, k ≠ gv → (w'.setCell ⟨gv, i, none⟩ (.slice (some ⟨g', 0, none⟩) n' c')).heap[k]? = w'.heap[k]? := fun k hk => Below.heap_setCell _ _ _ _ hk
  have hold : ∀ k, k < w.heap.size → k ≠ g → w'.heap[k]? = w.heap[k]? := fun k h1 h2 => hW.block k h1 (by omega)
  have hsz : (w'.setCell ⟨gv, i, none⟩ (.slice (some ⟨g', 0, none⟩) n' c')).heap.size = w'.heap.size := by simp
  refine ⟨⟨fun r => if r = i then .slice (some ⟨g', 0, none⟩) n' c' else V r, ?_, fun k e => Nat.lt_of_lt_of_le (World.ownsRow.lt k1 k e).2 hW.size, ?_, ?_⟩, ?_⟩
  · rw [List.length_set]
    have k1w : w'.ownsRow lo T 1 v H.length ((List.range H.length).map V) := ownsRow_block k1 fun k e => by
      rw [hgv] at e
      simp only [Option.some.injEq] at e
      subst e
      exact hold _ hgvlt.2 hgne.symm
    subst hs
    have := (World.ownsRow.stored k1w i (.slice (some ⟨g', 0, none⟩) n' c')).1
    have e : (List.range H.length).map (fun r => if r = i then .slice (some ⟨g', 0, none⟩) n' c' else V r) = ((List.range H.length).map V).set i (.slice (some ⟨g', 0, none⟩) n' c') := by
      apply List.ext_getElem
      · simp
      · intro k q1 q2
        simp only [List.getElem_map, List.getElem_range, List.getElem_set]
        by_cases e : k = i
        · subst e; simp
        · rw [if_neg e, if_neg (fun h => e h.symm)]
    rw [e]
    exact this
  · intro r hr
    rw [List.length_set] at hr
    by_cases e : r = i
    · subst e
      simp only [if_true]
      rw [List.getD_eq_getElem?_getD, List.getElem?_set_self hr, Option.getD_some]
      refine ⟨ownsRow_base (ownsRow_block hu.1 fun k ek => ?_) ?_, fun k ek => (World.ownsRow.lt hu.1 k ek).2⟩
      · simp only [Value.ownBlock, Option.some.injEq] at ek
        subst ek
        exact hsame _ hgne'
      · rcases hg with rfl | h
        · exact hglt.1
        · have := hglt.1; omega
    · simp only [e, if_false]
      rw [List.getD_eq_getElem?_getD, List.getElem?_set_ne (by omega), ← List.getD_eq_getElem?_getD]
      refine ⟨ownsRow_block (k3 r hr).1 fun k ek => ?_, fun k ek => Nat.lt_of_lt_of_le (World.ownsRow.lt (k3 r hr).1 k ek).2 hW.size⟩
      have hkg : k ≠ g := fun e2 => by
        subst e2
        rcases Nat.lt_or_gt_of_ne e with h | h
        · exact k4 r i h hi' k ek hgi
        · exact k4 i r h hr k hgi ek
      have hkv : k ≠ gv := fun e2 => by
        subst e2
        exact ownsRow_int_block hTE k1 (k3 r hr).1 _ ek hgv
      rw [hsame k hkv, hold k (World.ownsRow.lt (k3 r hr).1 k ek).2 hkg]
  · intro r s hrs hlen k e1 e2
    rw [List.length_set] at hlen
    have ho : ∀ r, r < H.length → r ≠ i → ∀ k, (V r).ownBlock = some k → k ≠ g' := fun r hr hri k ek e3 => by
      subst e3
      rcases hg with rfl | h
      · rcases Nat.lt_or_gt_of_ne hri with h | h
        · exact k4 r i h hi' _ ek hgi
        · exact k4 i r h hr _ hgi ek
      · have := (World.ownsRow.lt (k3 r hr).1 _ ek).2; omega
    by_cases er : r = i
    · have es : s ≠ i := by omega
      simp only [er, if_true, Value.ownBlock, Option.some.injEq] at e1
      simp only [es, if_false] at e2
      exact ho s hlen es k e2 e1.symm
    · simp only [er, if_false] at e1
      by_cases es : s = i
      · simp only [es, if_true, Value.ownBlock, Option.some.injEq] at e2
        exact ho r (by omega) er k e1 e2.symm
      · simp only [es, if_false] at e2
        exact k4 r s hrs hlen k e1 e2
  · have hgw : Within lo hi w w' := hW.wide hglt.1 (by have := (k3 i hi').2 g hgi; omega)
    exact hgw.setCell (p := ⟨gv, i, none⟩) hgvlt.1 (k2 gv hgv) _
end Go.Proofs.YtaeenedjmakelaaDoor
/- The contract of impl.piecesOf over cells beside each other: the walk. -/
namespace Go.Proofs.YtaeenedjmakelaaDoor
open Go.RowKit

theorem whereL_len' (N : Nat) (B : Nat → Bool) : (whereL N B).length ≤ N := whereL_len N B
set_option maxRecDepth 100000 in
set_option maxHeartbeats 8000000 in
theorem piecesOf_any (v : Value) (h : List (List Int)) (n m : Nat) (B : Nat → Bool) (fk : Nat) (lb : Array Value) (eg : ∀ (args : Array Value) (w : World), (callFunc fk args).run Tryd.prog w = .ok (.enter fk args) w)
    (w : World) (hv : RowsV w v h) (hg : vGrid h = true) (hS : Steps w) (en : h.length = n) (em : (h.getD 0 []).length = m) (hT : Tells fk lb (n * m) B w) :
    Calls Tryd.prog 71 #[v, .func (.func 72) #[] #[], .func (.func fk) #[] lb] w fun e w' => ∃ v' f, e = .returned v' ∧ RowsO 22 3 w.heap.size w'.heap.size w' v' (piecesT f (whereL (n * m) B)) ∧ Flats n m (bothB B) f ∧ Grew w w' := by
  have G := Grid.of hg
  have hn5 := G.n5
  have hm5 := G.m5
  rw [en] at hn5
  rw [em] at hm5
  have hN25 : n * m ≤ 25 := Nat.mul_le_mul hn5 hm5
  obtain ⟨N, eN⟩ : ∃ N, n * m = N := ⟨_, rfl⟩
  rw [eN] at hT hN25
  have HBP : Hid (∀ w1, Grew w w1 → w1.cell? ⟨w.heap.size, 0, none⟩ = some (.func (.func fk) #[] lb) →
      Calls Tryd.prog 106 #[v, .func (.func 72) #[] #[], .func (.func 107) #[] #[.pointer (some ⟨w.heap.size, 0, none⟩)]] w1
        fun e w' => ∃ g c fs, e = .returned (.slice (some ⟨g, 0, none⟩) N c) ∧ IntsO 3 w1.heap.size w'.heap.size w' (.slice (some ⟨g, 0, none⟩) N c) fs ∧ Flats n m (bothB B) fs ∧ Grew w1 w') := fun w1 hg1 hcB => by
    have := firstsOfPieces_any v h n m (bothB B) (bothB_symm B) 107 #[.pointer (some ⟨w.heap.size, 0, none⟩)] (enters_of Tryd.func107 (by kernel_rfl) rfl) w1 (hv.grew hg1) hg (hS.grew hg1) en em (fun I K W hW hI hK => by
      rw [eN] at hI hK
      exact piecesClo_any w.heap.size fk lb eg N I K B W (hW.cell hcB) (hT.grew (hg1.trans hW)) hI hK)
    unfold FlatsPost at this
    rw [eN] at this
    exact this
  have hCl := whereL_len N B
  obtain ⟨C, eC⟩ : ∃ C, whereL N B = C := ⟨_, rfl⟩
  have HCW : Hid (∀ w1, Grew w w1 → Calls Tryd.prog 69 #[v, .func (.func fk) #[] lb] w1 fun e w' => ∃ a c, e = .returned (.slice a C.length c) ∧ IntsO 3 w1.heap.size w'.heap.size w' (.slice a C.length c) C ∧ Grew w1 w') := fun w1 hg1 => by
    have := cellsWhere_any v h N B fk lb eg w1 (hv.grew hg1) hg (by rw [en, em, eN]) (hT.grew hg1)
    rw [eC] at this
    exact this
  have HMC : Hid (∀ k, k < C.length → ∃ X : Nat, X < N ∧ C.getD k 0 = X) := fun k hk => by
    have hm : C.getD k 0 ∈ C := by rw [List.getD_eq_getElem?_getD, List.getElem?_eq_getElem hk]; exact List.getElem_mem hk
    rw [← eC] at hm
    obtain ⟨X, h1, _, h2⟩ := (whereL_mem _ _ _).1 hm
    exact ⟨X, h1, by rw [← eC]; exact h2⟩
  rw [eC] at hCl
  have HC := Lib.hid eC
  have hFin : (fun (e : Ending) (w' : World) => ∃ v' f, e = .returned v' ∧ RowsO 22 3 w.heap.size w'.heap.size w' v' (piecesT f (whereL (n * m) B)) ∧ Flats n m (bothB B) f ∧ Grew w w') = fun e w' => ∃ v' f, e = .returned v' ∧ RowsO 22 3 w.heap.size w'.heap.size w' v' (piecesT f C) ∧ Flats n m (bothB B) f ∧ Grew w w' := by rw [eN, eC]
  rw [hFin]
  obtain ⟨a, b, o, c, rfl, _, _, _⟩ := hv.shape
  have HNM := Lib.hid (And.intro hn5 (And.intro hm5 eN))
  clear hFin hv hg hS G en em eN hT eC hn5 hm5
  have hmf : ∀ (fn : Fn) (first cap : Array Value) (w : World), (Instr.makeFunc fn first cap).run Tryd.prog w = .ok (.func fn first cap) w := fun _ _ _ _ => rfl
  go_enter Tryd.func71, Tryd.ntmps71
  go_wp2_with (fail)
  go_step3
  go_wp2_with (fail)
  refine (HBP.out (w.alloc (.cells #[.func (.func fk) #[] lb] 65)) ((Grew.refl _).alloc _) (by simp)).mono ?_
  rintro e w2 ⟨g2, c2, fs, rfl, hO2, hF2, hg2⟩
  have hcb : w2.cell? ⟨w.heap.size, 0, none⟩ = some (.func (.func fk) #[] lb) := hg2.cell (by simp)
  have H2 : Hid (IntsO 3 w.heap.size w2.heap.size w2 (.slice (some ⟨g2, 0, none⟩) N c2) fs ∧ Flats n m (bothB B) fs ∧ Grew w w2) := Lib.hid ⟨hO2.wide (by simp) (Nat.le_refl _), hF2, ((Grew.refl _).alloc _).trans hg2⟩
  clear hO2 hF2 hg2 HBP
  go_wp2_with (fail)
  go_step3
  go_wp2_with (fail)
  refine (HCW.out _ H2.out.2.2).mono ?_
  rintro e w3 ⟨a3, c3, rfl, hO3, hg3⟩
  have H3 : Hid (IntsO 3 w.heap.size w2.heap.size w3 (.slice (some ⟨g2, 0, none⟩) N c2) fs ∧ IntsO 3 w2.heap.size w3.heap.size w3 (.slice a3 C.length c3) C ∧ Grew w w3) := Lib.hid ⟨H2.out.1.grew hg3, hO3, H2.out.2.2.trans hg3⟩
  have HFL : Hid (fs.length = N) := Lib.hid (by rw [H2.out.2.1.len]; exact HNM.out.2.2)
  clear hO3 hg3 hcb HCW
  go_wp2
  go_loopw [8, 21] (fun pv iv wr => ∃ (k pn : Nat) (pa : Option Addr) (pc : Nat), pv = .slice pa pn pc ∧ iv = .int .i64 k ∧ k ≤ C.length ∧ Hid (RowsO 22 3 w3.heap.size wr.heap.size wr pv (piecesT fs (C.take k)) ∧ (piecesT fs (C.take k)).length = pn ∧ Grew w3 wr)) (fun _ iv _ => C.length - (intOf iv).toNat)
  case atStart => exact ⟨0, 0, none, 0, rfl, rfl, Nat.zero_le _, RowsO.nil _ _ _ _ _, rfl, Grew.refl _⟩
  case round =>
    obtain ⟨k, pn, pa, pc, rfl, rfl, hk, HI⟩ := hrel
    by_cases hlt : k < C.length
    · obtain ⟨g3, c3', e3, _⟩ := H3.out.2.1.pos (by omega)
      simp only [Value.slice.injEq] at e3
      obtain ⟨rfl, -, rfl⟩ := e3
      obtain ⟨X, hX, eX⟩ := HMC.out k hlt
      have hcC := HI.out.2.2.cell (H3.out.2.1.at rfl hlt).1
      have hcF := HI.out.2.2.cell (H3.out.1.at rfl (i := X) (by rw [HFL.out]; exact hX)).1
      rw [eX] at hcC
      obtain ⟨F, eF⟩ : ∃ F, fs.getD X 0 = F := ⟨_, rfl⟩
      rw [eF] at hcF
      have hnx := pieces_take fs C k hlt X eX
      rw [Int.toNat_natCast, eF] at hnx
      have hps := pieces_pos fs C k (by omega)
      have hsm := pieces_small fs C k (by omega)
      obtain ⟨ps, eps⟩ : ∃ ps, piecesT fs (C.take k) = ps := ⟨_, rfl⟩
      rw [eps] at hnx hps hsm
      have HP : Hid (RowsO 22 3 w3.heap.size wr.heap.size wr (.slice pa pn pc) ps ∧ ps.length = pn ∧ Grew w3 wr) := by rw [← eps]; exact HI.out
      have HNX := Lib.hid hnx
      have HPS := Lib.hid hps
      have HSM := Lib.hid hsm
      have hpn : pn ≤ 25 := by have := HP.out.2.1; omega
      have r1 : (k : Int) < C.length := by omega
      have r2 : (0 : Int) ≤ k := by omega
      have r3 : (X : Int) < N := by omega
      have r4 : (0 : Int) ≤ X := by omega
      have w1' : IntKind.i64.wrap ((k : Int) + 1) = (k : Int) + 1 := IntWalk.i64_in _ (by omega)
      obtain ⟨wo, rfl⟩ : ∃ wo : World, wo = wr := ⟨_, rfl⟩
      have HcF := Lib.hid hcF
      clear eX eF hnx hps hsm eps HI hcF
      go_wp2
      go_loopw [27] (fun jv wr => ∃ j : Nat, jv = .int .i64 j ∧ j ≤ pn ∧ Hid ((∀ i, i < j → (ps.getD i []).getD 0 0 ≠ F) ∧ Grew wo wr)) (fun jv _ => pn - (intOf jv).toNat)
      case atStart => exact ⟨0, rfl, Nat.zero_le _, fun i hi => absurd hi (Nat.not_lt_zero _), Grew.refl _⟩
      case round =>
        obtain ⟨j, rfl, hj, HJ⟩ := hrel
        by_cases hltj : j < pn
        · have hjp : j < ps.length := by have := HP.out.2.1; omega
          obtain ⟨gp, cp, ep, _⟩ := HP.out.1.pos (by omega)
          simp only [Value.slice.injEq] at ep
          obtain ⟨rfl, -, rfl⟩ := ep
          have HRJ := Lib.hid (HP.out.1.grew HJ.out.2)
          obtain ⟨u, hcu, hu⟩ := HRJ.out.at rfl hjp
          obtain ⟨gr, cr, rfl, _, _, hrc, _⟩ := hu.pos (HPS.out j hjp)
          have hch := (hu.at rfl (HPS.out j hjp)).1
          obtain ⟨row, erow⟩ : ∃ row, ps.getD j [] = row := ⟨_, rfl⟩
          rw [erow] at hcu hu hch hrc
          have hrl : 0 < row.length ∧ row.length ≤ 25 := by
            have h1 := HPS.out j hjp
            have h2 := HSM.out.2 j hjp
            rw [erow] at h1 h2
            omega
          obtain ⟨hd, ehd⟩ : ∃ hd, row.getD 0 0 = hd := ⟨_, rfl⟩
          rw [ehd] at hch
          have hcF := HJ.out.2.cell HcF.out
          have hfr := HRJ.out.frozenAt rfl j
          obtain ⟨hne, hl1, hl2, _⟩ := HRJ.out.ne (by decide) rfl hjp hcu
          have HU := Lib.hid hu.at1
          have HROW := Lib.hid (And.intro erow ehd)
          have HCU := Lib.hid hcu
          have s1 : (j : Int) < pn := by omega
          have s2 : (0 : Int) ≤ j := by omega
          have s3 : (0 : Int) < row.length := by omega
          have s4 : 0 < row.length := hrl.1
          have w2' : IntKind.i64.wrap ((j : Int) + 1) = (j : Int) + 1 := IntWalk.i64_in _ (by omega)
          clear erow ehd hu hrc
          by_cases hhd : hd = F
          · subst hhd
            have hnx := addAt_found hd X ps j hjp HJ.out.1 (by rw [HROW.out.1]; exact HROW.out.2)
            rw [HROW.out.1] at hnx
            have HN := Lib.hid (HNX.out.trans hnx)
            clear hnx
            go_wp2
            go_quiet (fail)
            generalize hW4 : World.drewN wr _ = w4
            have hG4 : Grew wr w4 := by rw [← hW4]; exact (Grew.refl _).drewN _
            have hsz4 : w4.heap.size = wr.heap.size := by rw [← hW4]; simp
            have HG4 := Lib.hid hG4
            have hcu4 := hG4.cell HCU.out
            have HU4 := Lib.hid (HU.out.grew hG4)
            have HR4 := Lib.hid (HRJ.out.grew hG4)
            have hfr4 := HR4.out.frozenAt rfl j
            have HSZ := Lib.hid hsz4
            clear hW4 hG4 hcu hfr hch hcF hsz4
            go_wp2_with (at_builtin; refine wpList_append_int_at rfl (.tmp 42) (.tmp 44) 22 rfl Tryd.underlying22 Tryd.infoI rfl rfl (by simp) HU4.out (by omega) rfl ?_; intro g8 c8 w8 hO8 hW8 hat8 hlt8; have hcu8 := hW8.cell hcu4 (show gp < gr ∨ gr + 1 ≤ gp by omega); have hfr8 := hW8.frozen hcu4 hfr4 (show gp < gr ∨ gr + 1 ≤ gp by omega))
            have hrg := HR4.out.regrow (by decide) rfl hjp hcu4 hW8 hO8 hat8
            have HF : Hid (RowsO 22 3 w3.heap.size (w8.setCell ⟨gp, j, none⟩ (.slice (some ⟨g8, 0, none⟩) (row.length + 1) c8)).heap.size (w8.setCell ⟨gp, j, none⟩ (.slice (some ⟨g8, 0, none⟩) (row.length + 1) c8)) (.slice (some ⟨gp, 0, none⟩) pn pc) (piecesT fs (C.take (k + 1))) ∧ (piecesT fs (C.take (k + 1))).length = pn ∧ Grew w3 (w8.setCell ⟨gp, j, none⟩ (.slice (some ⟨g8, 0, none⟩) (row.length + 1) c8))) := by
              rw [HN.out]
              refine ⟨by simpa using hrg.1, by rw [List.length_set]; exact HP.out.2.1, Within.grew ((HP.out.2.2.trans HJ.out.2).trans HG4.out) hrg.2 (Nat.le_refl _)⟩
            clear hrg hO8 hW8 hat8 hlt8 hcu8 hfr8 hcu4 hfr4
            go_wp2
            go_roundw
            case rel => exact ⟨k + 1, pn, _, pc, rfl, by go_num, by omega, HF.out⟩
            case measure => simp [intOf]; omega
          · have hhb : (hd == F) = false := beq_eq_false_iff_ne.2 hhd
            have HQ : Hid (∀ i, i < j + 1 → (ps.getD i []).getD 0 0 ≠ F) := fun i hi => by
              by_cases e : i = j
              · rw [e, HROW.out.1, HROW.out.2]; exact hhd
              · exact HJ.out.1 i (by omega)
            go_wp2
            go_quiet (fail)
            generalize hW4 : World.drewN wr _ = w4
            have hG4 : Grew wr w4 := by rw [← hW4]; exact (Grew.refl _).drewN _
            have HG4 := Lib.hid (HJ.out.2.trans hG4)
            clear hW4 hG4 hcu hfr hch hcF
            go_wp2
            go_roundw
            case rel => exact ⟨j + 1, by go_num, by omega, HQ.out, HG4.out⟩
            case measure => simp [intOf]; omega
        · obtain rfl : j = pn := by omega
          have hnx := addAt_none F X ps (fun i hi => HJ.out.1 i (by have := HP.out.2.1; omega))
          have HN := Lib.hid (HNX.out.trans hnx)
          have HRJ := Lib.hid ((HP.out.1.grew HJ.out.2).wide (Nat.le_refl _) HJ.out.2.size)
          have HLT : Hid (IntsO 3 wr.heap.size (wr.heap.size + 1) (wr.alloc (.cells #[.int .i64 X] 3)) (.slice (some ⟨wr.heap.size, 0, none⟩) 1 1) [(X : Int)]) := by
            have := IntsO.lit 3 wr.heap.size wr [(X : Int)] #[.int .i64 X] rfl (Nat.le_refl _) (by unfold maxLen; simp)
            exact Lib.hid (by simpa using this)
          have HRA := Lib.hid (HRJ.out.grew ((Grew.refl wr).alloc (.cells #[.int .i64 X] 3)))
          have hsz3 : w3.heap.size ≤ wr.heap.size := (HP.out.2.2.trans HJ.out.2).size
          have HG4 := Lib.hid ((HP.out.2.2.trans HJ.out.2).alloc (.cells #[.int .i64 X] 3))
          clear hnx
          go_wp2_with (at_builtin; refine wpList_append_row rfl (.tmp 48) (.tmp 51) 32 rfl (by decide) Tryd.underlying32 Tryd.infoIs rfl rfl (by simp) HRA.out HLT.out (by have := HP.out.2.1; omega) (by simp; omega) hsz3 ?_; intro g8 c8 w8 hO8 hW8 hS8)
          have HF : Hid (RowsO 22 3 w3.heap.size w8.heap.size w8 (.slice (some ⟨g8, 0, none⟩) (j + 1) c8) (piecesT fs (C.take (k + 1))) ∧ (piecesT fs (C.take (k + 1))).length = j + 1 ∧ Grew w3 w8) := by
            rw [HN.out]
            rw [HP.out.2.1] at hO8
            exact ⟨hO8, by rw [List.length_append, HP.out.2.1]; rfl, Within.grew HG4.out hW8 (Nat.le_refl _)⟩
          have HPL := Lib.hid HP.out.2.1
          rw [HPL.out]
          clear hO8 hW8 hS8
          go_wp2
          go_roundw
          case rel => exact ⟨k + 1, j + 1, _, c8, rfl, by go_num, by omega, HF.out⟩
          case measure => simp [intOf]; omega
    · obtain rfl : k = C.length := by omega
      have hCt : C.take C.length = C := List.take_of_length_le (Nat.le_refl _)
      have HF : Hid (RowsO 22 3 w.heap.size wr.heap.size wr (.slice pa pn pc) (piecesT fs C) ∧ Grew w wr) := by
        have := HI.out
        rw [hCt] at this
        exact ⟨this.1.wide H3.out.2.2.size (Nat.le_refl _), H3.out.2.2.trans this.2.2⟩
      clear hCt
      go_wp2
      rw [Exit.noGoto_ret]
      go_ret
      exact ⟨_, fs, rfl, HF.out.1, H2.out.2.1, HF.out.2⟩
end Go.Proofs.YtaeenedjmakelaaDoor
/- The least change to rows that do not fall, and to terraces, of numbers that are counted from 0. -/
namespace Go.Proofs.YtaeenedjmakelaaDoor

def iab (x : Int) : Int := max x (-x)
/-- The least of f 0, .., f t. -/
def mn (f : Nat → Int) : Nat → Int
  | 0 => f 0
  | t + 1 => min (mn f t) (f (t + 1))
theorem mn_le (f : Nat → Int) : ∀ (t y : Nat), y ≤ t → mn f t ≤ f y
  | 0, y, h => by obtain rfl : y = 0 := by omega
                  exact Int.le_refl _
  | t + 1, y, h => by
    rw [mn]
    by_cases e : y = t + 1
    · subst e; omega
    · have := mn_le f t y (by omega); omega
theorem mn_at (f : Nat → Int) : ∀ t : Nat, ∃ y, y ≤ t ∧ mn f t = f y
  | 0 => ⟨0, Nat.le_refl _, rfl⟩
  | t + 1 => by
    obtain ⟨y, hy, e⟩ := mn_at f t
    rw [mn]
    by_cases h : mn f t ≤ f (t + 1)
    · exact ⟨y, by omega, by omega⟩
    · exact ⟨t + 1, Nat.le_refl _, by omega⟩
theorem mn_congr {f g : Nat → Int} : ∀ {t : Nat}, (∀ y, y ≤ t → f y = g y) → mn f t = mn g t
  | 0, h => h 0 (Nat.le_refl _)
  | t + 1, h => by rw [mn, mn, mn_congr fun y hy => h y (by omega), h (t + 1) (Nat.le_refl _)]

theorem sumTo_nonneg {f : Nat → Int} : ∀ {k : Nat}, (∀ i, i < k → 0 ≤ f i) → 0 ≤ sumTo f k
  | 0, _ => Int.le_refl _
  | k + 1, h => by
    have := sumTo_nonneg (f := f) (k := k) fun i hi => h i (by omega)
    have := h k (by omega)
    rw [sumTo]; omega
theorem sumTo_eq_zero {f : Nat → Int} : ∀ {k : Nat}, (∀ i, i < k → 0 ≤ f i) → sumTo f k = 0 → ∀ i, i < k → f i = 0
  | 0, _, _, _, hi => absurd hi (Nat.not_lt_zero _)
  | k + 1, h, e, i, hi => by
    have h1 := sumTo_nonneg (f := f) (k := k) fun i hi => h i (by omega)
    have h2 := h k (by omega)
    rw [sumTo] at e
    by_cases e2 : i = k
    · rw [e2]; omega
    · exact sumTo_eq_zero (k := k) (fun i hi => h i (by omega)) (by omega) i (by omega)
theorem sumTo_first (f : Nat → Int) : ∀ k, sumTo f (k + 1) = f 0 + sumTo (fun i => f (i + 1)) k
  | 0 => by simp [sumTo]
  | k + 1 => by rw [sumTo, sumTo_first f k, sumTo]; omega
theorem sumTo_back (f : Nat → Int) : ∀ n, sumTo (fun i => f (n - 1 - i)) n = sumTo f n
  | 0 => rfl
  | n + 1 => by
    rw [sumTo_first, sumTo, ← sumTo_back f n, sumTo_congr (g := fun i => f (n - 1 - i)) fun i hi => by congr 1; omega]
    simp
    omega

/-- What the first k places of p cost, if none of them may be above t. -/
def riseT (p : Nat → Int) : Nat → Nat → Int
  | 0, _ => 0
  | k + 1, t => mn (fun x => riseT p k x + iab (p k - x)) t
def riseAt (p : Nat → Int) (k x : Nat) : Int := riseT p k x + iab (p k - x)
theorem riseT_zero (p : Nat → Int) (k : Nat) : riseT p (k + 1) 0 = riseT p k 0 + iab (p k - 0) := rfl
theorem riseT_succ (p : Nat → Int) (k t : Nat) : riseT p (k + 1) (t + 1) = min (riseT p (k + 1) t) (riseT p k (t + 1) + iab (p k - ((t + 1 : Nat) : Int))) := rfl
/-- x does not fall over the first n places. -/
def RiseN (x : Nat → Int) (n : Nat) : Prop := ∀ i, i + 1 < n → x i ≤ x (i + 1)
theorem riseT_le (p : Nat → Int) : ∀ (n t : Nat) (x : Nat → Int), RiseN x n → (∀ i, i < n → 0 ≤ x i ∧ x i ≤ t) → riseT p n t ≤ sumTo (fun i => iab (p i - x i)) n
  | 0, _, _, _, _ => Int.le_refl _
  | n + 1, t, x, hr, hb => by
    obtain ⟨h0, h1⟩ := hb n (by omega)
    obtain ⟨y, hy⟩ : ∃ y : Nat, x n = (y : Int) := ⟨(x n).toNat, by omega⟩
    have hm : ∀ d i, i + d = n → x i ≤ x n := by
      intro d
      induction d with
      | zero => intro i e; obtain rfl : i = n := by omega
                exact Int.le_refl _
      | succ d ih => intro i e; have := ih (i + 1) (by omega); have := hr i (by omega); omega
    have := riseT_le p n y x (fun i hi => hr i (by omega)) (fun i hi => ⟨(hb i (by omega)).1, by have := hm (n - i) i (by omega); omega⟩)
    have := mn_le (fun x => riseT p n x + iab (p n - x)) t y (by omega)
    simp only [riseT, sumTo]
    rw [hy]
    omega
theorem riseT_at (p : Nat → Int) : ∀ (n t : Nat), ∃ x : Nat → Int, RiseN x n ∧ (∀ i, i < n → 0 ≤ x i ∧ x i ≤ t) ∧ riseT p n t = sumTo (fun i => iab (p i - x i)) n
  | 0, _ => ⟨fun _ => 0, fun _ h => absurd h (by omega), fun _ h => absurd h (by omega), rfl⟩
  | n + 1, t => by
    obtain ⟨y, hy, e⟩ := mn_at (fun x => riseT p n x + iab (p n - x)) t
    obtain ⟨x, hr, hb, ex⟩ := riseT_at p n y
    refine ⟨fun i => if i < n then x i else y, fun i hi => ?_, fun i hi => ?_, ?_⟩
    · show (if i < n then x i else (y : Int)) ≤ (if i + 1 < n then x (i + 1) else (y : Int))
      rw [if_pos (show i < n by omega)]
      by_cases h : i + 1 < n
      · rw [if_pos h]; exact hr i h
      · rw [if_neg h]; exact (hb i (by omega)).2
    · show 0 ≤ (if i < n then x i else (y : Int)) ∧ (if i < n then x i else (y : Int)) ≤ (t : Int)
      by_cases h : i < n
      · rw [if_pos h]; have := hb i h; omega
      · rw [if_neg h]; omega
    · rw [riseT, e, sumTo, ex]
      congr 1
      · exact sumTo_congr fun i hi => by show _ = iab (p i - (if i < n then x i else (y : Int))); rw [if_pos hi]
      · show _ = iab (p n - (if n < n then x n else (y : Int))); rw [if_neg (Nat.lt_irrefl n)]
theorem iab_nonneg (x : Int) : 0 ≤ iab x := by unfold iab; omega
theorem iab_zero {x : Int} (h : iab x = 0) : x = 0 := by unfold iab at h; omega
theorem riseT_nonneg (p : Nat → Int) (n t : Nat) : 0 ≤ riseT p n t := by
  obtain ⟨x, _, _, e⟩ := riseT_at p n t
  rw [e]
  exact sumTo_nonneg fun i _ => iab_nonneg _
theorem riseT_le_const (p : Nat → Int) (n t x : Nat) (h : x ≤ t) : riseT p n t ≤ sumTo (fun i => iab (p i - x)) n :=
  riseT_le p n t (fun _ => x) (fun _ _ => Int.le_refl _) fun _ _ => by omega
/-- What rises costs nothing, and only that. -/
theorem rise_zero (p : Nat → Int) (n t : Nat) (hb : ∀ i, i < n → 0 ≤ p i ∧ p i ≤ t) : riseT p n t = 0 ↔ RiseN p n := by
  constructor
  · intro h
    obtain ⟨x, hr, _, e⟩ := riseT_at p n t
    rw [h] at e
    have hz := sumTo_eq_zero (fun i _ => iab_nonneg (p i - x i)) e.symm
    intro i hi
    have h1 := iab_zero (hz i (by omega))
    have h2 := iab_zero (hz (i + 1) hi)
    have := hr i hi
    omega
  · intro h
    have h1 := riseT_le p n t p h hb
    have h2 := riseT_nonneg p n t
    have h3 : sumTo (fun i => iab (p i - p i)) n = 0 := by
      rw [sumTo_congr (g := fun _ => 0) fun i _ => by simp [iab]]
      exact sumTo_zero n
    omega
theorem rise_flip_le (p q : Nat → Int) (n t : Nat) (hq : ∀ i, i < n → q i = t - p (n - 1 - i)) : riseT q n t ≤ riseT p n t := by
  obtain ⟨x, hr, hb, e⟩ := riseT_at p n t
  rw [e]
  have h1 := riseT_le q n t (fun i => t - x (n - 1 - i)) (fun i hi => by
    have := hr (n - 1 - (i + 1)) (by omega)
    rw [show n - 1 - (i + 1) + 1 = n - 1 - i by omega] at this
    show (t : Int) - x (n - 1 - i) ≤ t - x (n - 1 - (i + 1))
    omega) (fun i hi => by
    have := hb (n - 1 - i) (by omega)
    show 0 ≤ (t : Int) - x (n - 1 - i) ∧ (t : Int) - x (n - 1 - i) ≤ t
    omega)
  refine Int.le_trans h1 ?_
  rw [← sumTo_back (fun i => iab (p i - x i)) n]
  refine sumTo_le fun i hi => ?_
  rw [hq i hi]
  simp only [iab]
  omega
/-- Upside down the other way round it costs the same. -/
theorem rise_flip (p q : Nat → Int) (n t : Nat) (hq : ∀ i, i < n → q i = t - p (n - 1 - i)) : riseT q n t = riseT p n t := by
  have h1 := rise_flip_le p q n t hq
  have h2 := rise_flip_le q p n t fun i hi => by
    have := hq (n - 1 - i) (by omega)
    rw [show n - 1 - (n - 1 - i) = i by omega] at this
    omega
  omega
theorem riseT_bd (p : Nat → Int) (n t : Nat) (c : Nat) (hb : ∀ i, i < n → 0 ≤ p i ∧ p i ≤ c) (hc : t ≤ c) : riseT p n t ≤ c * n := by
  refine Int.le_trans (riseT_le_const p n t 0 (Nat.zero_le _)) ?_
  exact (sumTo_bd (f := fun i => iab (p i - ((0 : Nat) : Int))) 0 c fun i hi => by have := hb i hi; simp only [iab]; omega).2
end Go.Proofs.YtaeenedjmakelaaDoor
/- Ponds, as lists: what they hold up to a level, and how that goes with the level. -/
namespace Go.Proofs.YtaeenedjmakelaaDoor

def lowB (p : List Int) (lv : Int) (i : Nat) : Bool := decide (p.getD i 0 < lv)
/-- Is k in the pond of i up to the level? -/
noncomputable def inP (n m : Nat) (p : List Int) (lv : Int) (i k : Nat) : Bool := lowB p lv i && inB (lowB p lv) (flatsL n m (bothB (lowB p lv))) i k
noncomputable def pondL (n m : Nat) (p : List Int) (lv : Int) (i : Nat) : List Int := whereL (n * m) (inP n m p lv i)
noncomputable def pondC (n m : Nat) (p : List Int) (lv : Int) (i : Nat) : Int := sumTo (fun k => if inP n m p lv i k = true then 1 else 0) (n * m)
noncomputable def pondW (n m : Nat) (p : List Int) (lv : Int) (i : Nat) : Int := sumTo (fun k => if inP n m p lv i k = true then lv - p.getD k 0 else 0) (n * m)
theorem inP_low {n m : Nat} {p : List Int} {lv : Int} {i k : Nat} (h : inP n m p lv i k = true) : p.getD i 0 < lv ∧ p.getD k 0 < lv := by
  simp only [inP, inB, lowB, Bool.and_eq_true, decide_eq_true_eq] at h
  exact ⟨h.1, h.2.1⟩
/-- In the pond is what is reached over lower cells. -/
theorem inP_reach {n m : Nat} {p : List Int} {lv : Int} {i k : Nat} (hn : n ≤ 5) (hm : m ≤ 5) (hi : i < n * m) (hk : k < n * m) : inP n m p lv i k = true ↔ p.getD i 0 < lv ∧ Reach n m (bothB (lowB p lv)) i k := by
  have F := flatsL_ok (bothB_symm (lowB p lv)) hn hm
  constructor
  · intro h
    refine ⟨(inP_low h).1, ?_⟩
    simp only [inP, inB, Bool.and_eq_true, beq_iff_eq] at h
    obtain ⟨_, _, he⟩ := h
    obtain ⟨j, e1, _, h1⟩ := F.ok k hk
    obtain ⟨j2, e2, _, h2⟩ := F.ok i hi
    have : j = j2 := by rw [he, e2] at e1; omega
    subst this
    exact h2.trans (h1.symm (bothB_symm _) hn hm hk)
  · rintro ⟨h1, h2⟩
    have hl : lowB p lv i = true := decide_eq_true h1
    have hlk : lowB p lv k = true := by
      rcases reach_both h2 with rfl | h
      · exact hl
      · exact h.2
    simp only [inP, inB, Bool.and_eq_true, beq_iff_eq]
    exact ⟨hl, hlk, F.reach hn hm hi h2⟩
theorem pondL_eq {n m : Nat} {p : List Int} {lv : Int} {i : Nat} (h : lowB p lv i = true) : pondL n m p lv i = whereL (n * m) (inB (lowB p lv) (flatsL n m (bothB (lowB p lv))) i) := by
  unfold pondL
  congr 1
  funext k
  simp [inP, h]
theorem pondL_none {n m : Nat} {p : List Int} {lv : Int} {i : Nat} (h : lowB p lv i = false) : pondL n m p lv i = [] := by
  have : inP n m p lv i = fun _ => false := by funext k; simp [inP, h]
  unfold pondL whereL
  rw [this]
  simp
theorem pondL_len (n m : Nat) (p : List Int) (lv : Int) (i : Nat) : ((pondL n m p lv i).length : Int) = pondC n m p lv i := len_whereL _ _
theorem pondL_sum (n m : Nat) (p : List Int) (lv : Int) (i : Nat) : sumTo (fun j => lv - p.getD ((pondL n m p lv i).getD j 0).toNat 0) (pondL n m p lv i).length = pondW n m p lv i := by
  have := sumTo_whereL (inP n m p lv i) (fun x => lv - p.getD x.toNat 0) (n * m)
  unfold pondL pondW
  rw [this]
  rfl
theorem reach_up {n m : Nat} {p : List Int} {lv lv' : Int} (h : lv ≤ lv') {i k : Nat} (hr : Reach n m (bothB (lowB p lv)) i k) : Reach n m (bothB (lowB p lv')) i k := by
  induction hr with
  | refl => exact .refl
  | step _ hk he ih =>
    refine .step ih hk ?_
    simp only [bothB, lowB, Bool.and_eq_true, decide_eq_true_eq] at he ⊢
    omega
theorem inP_up {n m : Nat} {p : List Int} {lv lv' : Int} {i k : Nat} (hn : n ≤ 5) (hm : m ≤ 5) (hi : i < n * m) (hk : k < n * m) (h : lv ≤ lv') (hp : inP n m p lv i k = true) : inP n m p lv' i k = true := by
  rw [inP_reach hn hm hi hk] at hp ⊢
  exact ⟨by omega, reach_up h hp.2⟩
theorem inP_self {n m : Nat} {p : List Int} {lv : Int} {i : Nat} (h : p.getD i 0 < lv) : inP n m p lv i i = true := by
  simp only [inP, inB, lowB, Bool.and_eq_true, decide_eq_true_eq, beq_self_eq_true, and_true]
  exact ⟨h, h⟩
theorem pondC_zero {n m : Nat} {p : List Int} {lv : Int} {i : Nat} (hi : i < n * m) : pondC n m p lv i = 0 ↔ lv ≤ p.getD i 0 := by
  constructor
  · intro h
    have := sumTo_eq_zero (f := fun k => if inP n m p lv i k = true then 1 else 0) (k := n * m) (fun k _ => by split <;> omega) h i hi
    by_cases hl : p.getD i 0 < lv
    · rw [if_pos (inP_self hl)] at this; omega
    · omega
  · intro h
    unfold pondC
    rw [sumTo_congr (g := fun _ => 0), sumTo_zero]
    intro k _
    rw [if_neg]
    intro h2
    have := (inP_low h2).1
    omega
theorem pondC_nonneg (n m : Nat) (p : List Int) (lv : Int) (i : Nat) : 0 ≤ pondC n m p lv i := by rw [← pondL_len]; omega
theorem pondC_le (n m : Nat) (p : List Int) (lv : Int) (i : Nat) : pondC n m p lv i ≤ ((n * m : Nat) : Int) := by
  rw [← pondL_len]
  have := whereL_len (n * m) (inP n m p lv i)
  unfold pondL
  omega
theorem pondC_W (n m : Nat) (p : List Int) (lv : Int) (i : Nat) : pondC n m p lv i ≤ pondW n m p lv i := by
  refine sumTo_le fun k _ => ?_
  by_cases h : inP n m p lv i k = true
  · rw [if_pos h, if_pos h]; have := (inP_low h).2; omega
  · rw [if_neg h, if_neg h]; omega
theorem pondW_bd {n m : Nat} {p : List Int} {lv : Int} {i : Nat} (hp : ∀ k, k < n * m → 0 ≤ p.getD k 0) (hl : 0 ≤ lv ∧ lv ≤ 12) : 0 ≤ pondW n m p lv i ∧ pondW n m p lv i ≤ 12 * ((n * m : Nat) : Int) := by
  have := sumTo_bd (f := fun k => if inP n m p lv i k = true then lv - p.getD k 0 else 0) 0 12 (k := n * m) fun k hk => by
    have := hp k hk
    by_cases h : inP n m p lv i k = true
    · rw [if_pos h]; have := (inP_low h).2; omega
    · rw [if_neg h]; omega
  unfold pondW
  omega
theorem pond_up {n m : Nat} {p : List Int} {lv lv' : Int} {i : Nat} (hn : n ≤ 5) (hm : m ≤ 5) (hi : i < n * m) (h : lv ≤ lv') : pondC n m p lv i ≤ pondC n m p lv' i ∧ pondW n m p lv i ≤ pondW n m p lv' i := by
  constructor
  · refine sumTo_le fun k hk => ?_
    by_cases h2 : inP n m p lv i k = true
    · rw [if_pos h2, if_pos (inP_up hn hm hi hk h h2)]; omega
    · rw [if_neg h2]; split <;> omega
  · refine sumTo_le fun k hk => ?_
    by_cases h2 : inP n m p lv i k = true
    · rw [if_pos h2, if_pos (inP_up hn hm hi hk h h2)]; omega
    · rw [if_neg h2]
      by_cases h3 : inP n m p lv' i k = true
      · rw [if_pos h3]; have := (inP_low h3).2; omega
      · rw [if_neg h3]; omega
theorem pond_one {n m : Nat} {p : List Int} {lv : Int} {i : Nat} (hn : n ≤ 5) (hm : m ≤ 5) (hi : i < n * m) : pondW n m p lv i + pondC n m p lv i ≤ pondW n m p (lv + 1) i := by
  unfold pondW pondC
  rw [← sumTo_add]
  refine sumTo_le fun k hk => ?_
  by_cases h2 : inP n m p lv i k = true
  · rw [if_pos h2, if_pos h2, if_pos (inP_up hn hm hi hk (by omega) h2)]; omega
  · rw [if_neg h2, if_neg h2]
    by_cases h3 : inP n m p (lv + 1) i k = true
    · rw [if_pos h3]; have := (inP_low h3).2; omega
    · rw [if_neg h3]; omega
theorem pondW_zero {n m : Nat} {p : List Int} {i : Nat} (hp : 0 ≤ p.getD i 0) : pondW n m p 0 i = 0 := by
  unfold pondW
  rw [sumTo_congr (g := fun _ => 0), sumTo_zero]
  intro k _
  rw [if_neg]
  intro h2
  have := (inP_low h2).1
  omega
/-- The greatest number up to t at which g is at most c; 0 if there is none. -/
def topT (g : Nat → Int) (c : Int) : Nat → Nat
  | 0 => 0
  | t + 1 => if g (t + 1) ≤ c then t + 1 else topT g c t
theorem topT_le (g : Nat → Int) (c : Int) : ∀ t, topT g c t ≤ t
  | 0 => Nat.le_refl _
  | t + 1 => by
    rw [topT]
    split
    · exact Nat.le_refl _
    · have := topT_le g c t; omega
theorem topT_ok (g : Nat → Int) (c : Int) (h0 : g 0 ≤ c) : ∀ t, g (topT g c t) ≤ c
  | 0 => h0
  | t + 1 => by
    rw [topT]
    split
    · rename_i h; exact h
    · exact topT_ok g c h0 t
theorem topT_over (g : Nat → Int) (c : Int) : ∀ t k, topT g c t < k → k ≤ t → c < g k
  | 0, k, h, hk => by omega
  | t + 1, k, h, hk => by
    rw [topT] at h
    split at h
    · omega
    · rename_i h2
      by_cases e : k = t + 1
      · subst e; omega
      · exact topT_over g c t k h (by omega)
theorem topT_eq (g : Nat → Int) (c : Int) (t x : Nat) (hx : x ≤ t) (h1 : g x ≤ c) (h2 : ∀ k, x < k → k ≤ t → c < g k) (h0 : g 0 ≤ c) : topT g c t = x := by
  have a1 := topT_le g c t
  have a2 := topT_ok g c h0 t
  rcases Nat.lt_trichotomy (topT g c t) x with h | h | h
  · have := topT_over g c t x h hx; omega
  · exact h
  · have := h2 _ h a1; omega
/-- What PondAt and LevelFor answer. -/
noncomputable def pondOk (h : List (List Int)) (i lv : Int) : Bool := vCell h i && inR lv 0 12
noncomputable def pondAX (h : List (List Int)) (i lv : Int) : Int := if pondOk h i lv = true then pondC h.length (h.getD 0 []).length h.flatten lv i.toNat else -1
noncomputable def pondBX (h : List (List Int)) (i lv : Int) : Int := if pondOk h i lv = true then pondW h.length (h.getD 0 []).length h.flatten lv i.toNat else -1
noncomputable def levelX (h : List (List Int)) (i c : Int) : Int := if (vCell h i && decide (0 ≤ c)) = true then ((topT (fun l => pondW h.length (h.getD 0 []).length h.flatten l i.toNat) c 12 : Nat) : Int) else -1
end Go.Proofs.YtaeenedjmakelaaDoor
/- The contracts of impl.apart, impl.itself, impl.sumOf over whole numbers, for any function value that only reads, and of spec.sum. -/
namespace Go.Proofs.YtaeenedjmakelaaDoor
open Go.RowKit

theorem wrap_small' (x : Int) (h1 : -1000000 ≤ x) (h2 : x ≤ 1000000) : IntKind.i64.wrap x = x := IntWalk.i64_in _ (by omega)

/-- A function value (function fk, what it captured: lb) that gives f of numbers for which P holds, and only reads. -/
def Gives (fk : Nat) (lb : Array Value) (P : Int → Prop) (f : Int → Int) (w : World) : Prop :=
  ∀ (x : Int) (W : World), Grew w W → P x → Calls Tryd.prog fk (#[.int .i64 x] ++ lb) W fun e w' => e = .returned (.int .i64 (f x)) ∧ ∃ q, w' = W.drewN q
theorem Gives.grew {fk : Nat} {lb : Array Value} {P : Int → Prop} {f : Int → Int} {w w' : World} (h : Gives fk lb P f w) (hg : Grew w w') : Gives fk lb P f w' := fun x W hW hP => h x W (hg.trans hW) hP



end Go.Proofs.YtaeenedjmakelaaDoor
/- The contracts of slices.Contains, impl.pondUpTo, waterOn, PondAt and LevelFor. -/
namespace Go.Proofs.YtaeenedjmakelaaDoor
open Go.RowKit

theorem IntsO.shS {E lo hi : Nat} {w : World} {v : Value} {xs : List Int} (h : IntsO E lo hi w v xs) : ∃ a c, v = .slice a xs.length c := by
  rcases h.shape with ⟨rfl, rfl⟩ | ⟨g, c, rfl, _⟩
  · exact ⟨_, _, rfl⟩
  · exact ⟨_, _, rfl⟩
theorem wrap_p (x : Int) (h1 : -1000000000 ≤ x) (h2 : x ≤ 1000000000) : IntKind.i64.wrap x = x := IntWalk.i64_in _ (by omega)
set_option maxRecDepth 100000 in
set_option maxHeartbeats 1000000 in
theorem slicesIndex_any (v : Value) (xs : List Int) (x : Int) (w : World) (hv : IntsV w v xs) (hl : xs.length ≤ 1000) :
    Calls Tryd.prog 129 #[v, .int .i64 x] w fun e w' => ∃ r : Int, e = .returned (.int .i64 r) ∧ (0 ≤ r ↔ x ∈ xs) ∧ w = w' := by
  obtain ⟨a, b, o, c, rfl, ⟨hlc, hcb⟩, ha, HC⟩ := hv.shape
  have HA := Lib.hid ha
  clear hv ha
  go_enter Tryd.func129, Tryd.ntmps129
  go_wp2
  go_loopw [8] (fun i wr => ∃ k : Nat, i = .int .i64 k ∧ k ≤ xs.length ∧ Hid ((∀ j, j < k → xs.getD j 0 ≠ x) ∧ w = wr)) (fun i _ => xs.length - (intOf i).toNat)
  case atStart => exact ⟨0, rfl, Nat.zero_le _, fun j hj => absurd hj (Nat.not_lt_zero _), rfl⟩
  case round =>
    obtain ⟨k, rfl, hk, HI⟩ := hrel
    by_cases hlt : k < xs.length
    · obtain rfl := HA.out (by omega)
      have hc := HC.out k hlt
      rw [HI.out.2] at hc
      obtain ⟨y, ey⟩ : ∃ y, xs.getD k 0 = y := ⟨_, rfl⟩
      rw [ey] at hc
      have HY := Lib.hid ey
      have r1 : (k : Int) < xs.length := by omega
      have r2 : (0 : Int) ≤ k := by omega
      have w1' : IntKind.i64.wrap ((k : Int) + 1) = (k : Int) + 1 := wrap_p _ (by omega) (by omega)
      clear ey
      by_cases hxy : x = y
      · subst hxy
        have HM : Hid (x ∈ xs) := Lib.hid (by rw [← HY.out, List.getD_eq_getElem?_getD, List.getElem?_eq_getElem hlt]; exact List.getElem_mem hlt)
        go_wp2
        go_ret
        exact ⟨k, rfl, ⟨fun _ => HM.out, fun _ => by omega⟩, HI.out.2⟩
      · have hb : (x == y) = false := beq_eq_false_iff_ne.2 hxy
        have HQ : Hid ((∀ j, j < k + 1 → xs.getD j 0 ≠ x) ∧ w = wr) := ⟨fun j hj => by
          by_cases e : j = k
          · rw [e, HY.out]; exact fun h => hxy h.symm
          · exact HI.out.1 j (by omega), HI.out.2⟩
        go_wp2
        go_roundw
        case rel => exact ⟨k + 1, by go_num, by omega, HQ.out⟩
        case measure => simp [intOf]; omega
    · obtain rfl : k = xs.length := by omega
      go_wp2
      go_ret
      refine ⟨-1, rfl, ⟨fun h => absurd h (by omega), fun hm => ?_⟩, HI.out.2⟩
      obtain ⟨j, hj, e⟩ := List.getElem_of_mem hm
      exact absurd (by simp [hj, e]) (HI.out.1 j hj)
set_option maxRecDepth 100000 in
set_option maxHeartbeats 1000000 in
theorem slicesContains_any (v : Value) (xs : List Int) (x : Int) (w : World) (hv : IntsV w v xs) (hl : xs.length ≤ 1000) :
    Calls Tryd.prog 117 #[v, .int .i64 x] w fun e w' => e = .returned (.bool (decide (x ∈ xs))) ∧ w = w' := by
  have HI := Lib.hid (slicesIndex_any v xs x w hv hl)
  obtain ⟨a, b, o, c, rfl, _, _, _⟩ := hv.shape
  clear hv
  go_enter Tryd.func117, Tryd.ntmps117
  go_wp2_with (fail)
  refine HI.out.mono ?_
  rintro e w1 ⟨r, rfl, hr, rfl⟩
  have HR := Lib.hid hr
  clear hr
  go_wp2
  go_ret
  refine ⟨ret_bool ?_, rfl⟩
  rw [Bool.eq_iff_iff, decide_eq_true_eq]
  first | exact HR.out | (rw [decide_eq_true_eq]; exact HR.out)

/-- The pond, as a slice. -/
def PondPost (L : List Int) (w : World) (e : Ending) (w' : World) : Prop := ∃ a c, e = .returned (.slice a L.length c) ∧ IntsV w' (.slice a L.length c) L ∧ Grew w w'
end Go.Proofs.YtaeenedjmakelaaDoor
/- Maps of slices as the program has them (waters): what a map holds told by a function; the contracts of beginningOf and join. -/
namespace Go.Proofs.YtaeenedjmakelaaDoor
open Go.RowKit Go.Maps

/-- A slice told by numbers, so that it can be told back. -/
def slR : Value → Option (DataW Unit × List MemPlace)
  | .slice none n c => some (.agg [.lit (.int .u64 (n : Int)), .lit (.int .u64 (c : Int))], [])
  | .slice (some ⟨b, o, none⟩) n c => some (.agg [.lit (.int .u64 (b : Int)), .lit (.int .u64 (o : Int)), .lit (.int .u64 (n : Int)), .lit (.int .u64 (c : Int))], [])
  | _ => none
def encS : Value → DataW Unit
  | .slice none n c => .agg [.lit (.int .u64 (n : Int)), .lit (.int .u64 (c : Int))]
  | .slice (some ⟨b, o, _⟩) n c => .agg [.lit (.int .u64 (b : Int)), .lit (.int .u64 (o : Int)), .lit (.int .u64 (n : Int)), .lit (.int .u64 (c : Int))]
  | _ => .nil
theorem slR_some {v : Value} {z : DataW Unit × List MemPlace} (h : slR v = some z) : z = (encS v, []) ∧ ∃ a n c, v = .slice a n c := by
  unfold slR at h
  split at h
  · cases h; exact ⟨rfl, _, _, _, rfl⟩
  · cases h; exact ⟨rfl, _, _, _, rfl⟩
  · cases h
theorem slR_inj {v v' : Value} {z z' : DataW Unit × List MemPlace} (h : slR v = some z) (h' : slR v' = some z') (e : z.1 = z'.1) : v = v' := by
  unfold slR at h h'
  split at h <;> split at h' <;> first | (cases h; done) | (cases h'; done) | skip
  all_goals
    cases h
    cases h'
    simp at e
  · obtain ⟨h1, h2⟩ := e
    obtain rfl := Int.ofNat_inj.1 h1
    obtain rfl := Int.ofNat_inj.1 h2
    rfl
  · obtain ⟨h1, h2, h3, h4⟩ := e
    obtain rfl := Int.ofNat_inj.1 h1
    obtain rfl := Int.ofNat_inj.1 h2
    obtain rfl := Int.ofNat_inj.1 h3
    obtain rfl := Int.ofNat_inj.1 h4
    rfl
abbrev key1 (x : Int) : Lit := .int .i64 x
/-- D holds what f tells. -/
structure MapIs (D : DataW Unit) (f : Int → Option Value) : Prop where
  isMap : Maps.IsMap D
  has : ∀ x, Maps.has D (key1 x) = (f x).isSome
  at_ : ∀ x v, f x = some v → (∀ zd, D.atKey (key1 x) zd = encS v) ∧ slR v = some (encS v, [])
theorem MapIs.empty : MapIs (.map []) fun _ => none := ⟨Maps.isMap_empty, fun _ => rfl, fun _ _ h => by cases h⟩
theorem key1_ne {x y : Int} (h : y ≠ x) : key1 y ≠ key1 x := fun e => h (by injection e)
theorem MapIs.put {D : DataW Unit} {f : Int → Option Value} (h : MapIs D f) (x : Int) (v : Value) (hv : slR v = some (encS v, [])) : MapIs (D.put (key1 x) (encS v)) fun y => if y = x then some v else f y := by
  refine ⟨h.isMap.put _ _, fun y => ?_, fun y u hu => ?_⟩
  · by_cases e : y = x
    · subst e; rw [if_pos rfl, Maps.has_put_same (k := key1 y) h.isMap trivial]; rfl
    · rw [if_neg e, Maps.has_put_other (key1_ne e), h.has]
  · by_cases e : y = x
    · subst e
      rw [if_pos rfl] at hu
      cases hu
      exact ⟨fun zd => Maps.atKey_put_same (k := key1 y) h.isMap trivial _ _, hv⟩
    · rw [if_neg e] at hu
      exact ⟨fun zd => by rw [Maps.atKey_put_other (key1_ne e)]; exact (h.at_ y u hu).1 zd, (h.at_ y u hu).2⟩
theorem MapIs.del {D : DataW Unit} {f : Int → Option Value} (h : MapIs D f) (x : Int) : MapIs (D.del (key1 x)) fun y => if y = x then none else f y := by
  refine ⟨h.isMap.del _, fun y => ?_, fun y u hu => ?_⟩
  · by_cases e : y = x
    · subst e; rw [if_pos rfl, Maps.has_del_same]; rfl
    · rw [if_neg e, Maps.has_del_other (key1_ne e), h.has]
  · by_cases e : y = x
    · rw [if_pos e] at hu; cases hu
    · rw [if_neg e] at hu
      exact ⟨fun zd => by rw [Maps.atKey_del_other (key1_ne e)]; exact (h.at_ y u hu).1 zd, (h.at_ y u hu).2⟩
theorem MapIs.congr {D : DataW Unit} {f g : Int → Option Value} (h : MapIs D f) (e : ∀ x, f x = g x) : MapIs D g := by
  have : f = g := funext e
  rwa [← this]
theorem lawI : Keyed Tryd.prog 3 := int_keyed Tryd.underlying3
theorem key1_of {x : Int} (h : -9223372036854775808 ≤ x ∧ x ≤ 9223372036854775807) : keyOf Tryd.prog 3 (.int .i64 x) = some (key1 x) := keyOf_int_mk Tryd.underlying3 (WalkArith.wf_i64 h)
abbrev OwnsW (w : World) (B n : Nat) (D : DataW Unit) : Prop := w.ownsMap Tryd.prog 3 slR B n D
theorem grownBy_some {w w' : World} {r : Nat} (h : w.grownBy w' (some r)) : Within r (r + 1) w w' := grownBy_within h fun g e => by cases e; omega
theorem within_grownBy {w w' : World} {r : Nat} (h : Within r (r + 1) w w') : w.grownBy w' (some r) := ⟨h.os, h.tape, h.output, h.size, fun k hk hne => h.block k hk (by
  rcases Nat.lt_trichotomy k r with g | g | g
  · exact .inl g
  · exact absurd (by rw [g]) hne
  · exact .inr g)⟩
theorem grew_grownBy {w w' : World} (h : Grew w w') (row : Option Nat) : w.grownBy w' row := ⟨h.os, h.tape, h.output, h.size, fun _ hk _ => h.block hk⟩
set_option maxRecDepth 100000 in
set_option maxHeartbeats 4000000 in
theorem beginningOf_any (B n : Nat) (D : DataW Unit) (f : Int → Option Value) (M : Int → List Int) (cell : Int) (r : Int) (ok : Bool) (w : World) (hown : OwnsW w B n D) (hf : MapIs D f) (hM : ∀ x v, f x = some v → IntsV w v (M x) ∧ (M x).length ≤ 1000)
    (hok : if ok = true then (f r).isSome = true ∧ cell ∈ M r ∧ ∀ x, (f x).isSome = true → cell ∈ M x → x = r else ∀ x, (f x).isSome = true → ¬ cell ∈ M x) (hr : ok = false → r = 0) :
    Calls Tryd.prog 98 #[.map (some B), .int .i64 cell] w fun e w' => e = .returned (.tuple #[.int .i64 r, .bool ok]) ∧ Grew w w' := by
  have HO := Lib.hid hown
  have HF := Lib.hid hf
  have HM := Lib.hid hM
  have HOK := Lib.hid hok
  have HR := Lib.hid hr
  have hB := hown.lt
  clear hown hf hM hok hr
  go_enter Tryd.func98, Tryd.ntmps98
  go_wp2_with (first
    | (at_range; refine wpList_range_own _ rfl _ 89 rfl 3 22 lawI Tryd.underlying89 _ B n _ rfl HO.out ?_; intro w0 hrg0 hg0 hs0)
    | go_in)
  go_frame
  have HG0 := Lib.hid (And.intro hrg0 (And.intro (grownBy_none hg0) hs0))
  clear hrg0 hg0 hs0
  go_loopw [6] (fun _ wr => ∃ (left : Lit → Bool) (cnt : Nat), Hid (wr.ranges Tryd.prog 3 slR B w.heap.size n D left cnt ∧ Grew w wr ∧ ∀ x v, f x = some v → left (key1 x) = false → ¬ cell ∈ M x)) (fun _ wr => wr.rangeLeft B w.heap.size)
  case atStart => exact ⟨_, _, HG0.out.1, HG0.out.2.1, fun x v hv hl => by
    rw [HF.out.has, hv] at hl
    cases hl⟩
  case round =>
    obtain ⟨left, cnt, HI⟩ := hrel
    go_wp2_with (first
      | (at_next; refine wpList_next_ranges _ rfl _ rfl 3 lawI slR (Value.int .i64) (fun c : Option Addr × Nat × Nat => Value.slice c.1 c.2.1 c.2.2) (fun key kl hkey => by obtain ⟨x, rfl, _⟩ := Maps.keyOf_int_inv Tryd.underlying3 hkey; exact ⟨x, rfl⟩) (fun v y hv => by obtain ⟨_, a, n, c, rfl⟩ := slR_some hv; exact ⟨(a, n, c), rfl⟩) B w.heap.size n _ _ _ rfl HI.out.1 ?_ ?_)
      | go_in)
    · intro _ hl0
      have HE : Hid (ok = false) := Lib.hid (by
        cases ok with
        | false => rfl
        | true =>
          have h := HOK.out
          rw [if_pos rfl] at h
          obtain ⟨v, hv⟩ := Option.isSome_iff_exists.1 h.1
          exact absurd h.2.1 (HI.out.2.2 r v hv (hl0 _)))
      clear hl0
      go_wp2
      go_ret2
      have h1 := HE.out
      subst h1
      rw [HR.out rfl]
      exact ⟨rfl, HI.out.2.1⟩
    · intro x ca cn cc kl yd yp w1 cnt1 hkey hlx hy hat hrg1 hlt hg1 hs1 hen
      obtain ⟨x', ex, rfl, hwx⟩ := Maps.keyOf_int_inv Tryd.underlying3 hkey
      cases ex
      have hhas : (f x).isSome = true := by
        rw [← HF.out.has]
        exact Maps.has_true_of_atKey hat
      obtain ⟨v, hv⟩ := Option.isSome_iff_exists.1 hhas
      obtain ⟨hv1, hv2⟩ := HF.out.at_ x v hv
      obtain rfl : v = .slice ca cn cc := slR_inj hv2 hy (by rw [← hat .nil, ← hv1 .nil])
      have hgr : Grew w w1 := Within.grew HI.out.2.1 (grownBy_some hg1) (Nat.le_refl _)
      obtain ⟨hvM, hl⟩ := HM.out x _ hv
      have HC := Lib.hid (slicesContains_any _ (M x) cell w1 (hvM.grew hgr) hl)
      obtain ⟨z, ez⟩ : ∃ z, decide (cell ∈ M x) = z := ⟨_, rfl⟩
      rw [ez] at HC
      have H1 := Lib.hid (And.intro hrg1 (And.intro hgr (And.intro hlt (And.intro hv (And.intro hlx (And.intro hhas ez))))))
      clear hrg1 hgr hlt hg1 hs1 hkey hlx hy hat hwx hhas hv hv1 hv2 hvM hl ez
      go_wp2_with (fail)
      refine HC.out.mono ?_
      rintro e w2 ⟨rfl, rfl⟩
      cases z with
      | true =>
        have HE : Hid (ok = true ∧ r = x) := Lib.hid (by
          have hm := of_decide_eq_true H1.out.2.2.2.2.2.2
          have h := HOK.out
          cases ok with
          | false => rw [if_neg (by simp)] at h; exact absurd hm (h x H1.out.2.2.2.2.2.1)
          | true => rw [if_pos rfl] at h; exact ⟨rfl, (h.2.2 x H1.out.2.2.2.2.2.1 hm).symm⟩)
        go_wp2
        go_ret2
        obtain ⟨h1, h2⟩ := HE.out
        subst h1
        subst h2
        exact ⟨rfl, H1.out.2.1⟩
      | false =>
        go_wp2
        go_roundw
        case rel => exact ⟨_, cnt1, H1.out.1, H1.out.2.1, fun y u hu hl => by
          by_cases e : y = x
          · subst e; exact of_decide_eq_false H1.out.2.2.2.2.2.2
          · refine HI.out.2.2 y u hu ?_
            have hsk : (key1 y).sameKey (key1 x) = false := Maps.sameKey_ne (key1_ne e)
            simpa [hsk] using hl⟩
        case measure => rw [H1.out.1.left_eq, HI.out.1.left_eq]; exact H1.out.2.2.1
/-- 'append(s, row...)' at an own slice that lies at a known block: where the new one lies. -/
theorem wpList_append_ints_at {P : Program} {w : World} {ops : Array Oper} {rest : List Oper} {o : Oper} {a : Act} {Q : Exit → Act → World → Prop} (hgd : o.guard = none) (s x : Operand) (t : TypeId)
    (ho : o.op = .call { callee := .builtin .append, args := #[s, x], argTypes := #[t, t] }) {E : TypeId} (ht : P.underlying t = some (.slice E))
    (hinfo : (P.info? E).map (fun i => (i.zero, i.size, i.bytes)) = some (some (.int .i64 0), 1, 8)) {g n c : Nat} {xs ys : List Int} {b o' m c2 : Nat} (hs : a.eval s = .slice (some ⟨g, 0, none⟩) n c) (hx : a.eval x = .slice (some ⟨b, o', none⟩) m c2) (hm : m = ys.length)
    (hcells : ∀ i, i < ys.length → w.cell? ⟨b, o' + i, none⟩ = some (.int .i64 (ys.getD i 0)))
    (hv : IntsO E g (g + 1) w (.slice (some ⟨g, 0, none⟩) n c) xs) (hlen : xs.length + ys.length ≤ 17592186044416) (hpos : 0 < xs.length) (hn : n = xs.length)
    (h : ∀ g' c' w', IntsO E g' (g' + 1) w' (.slice (some ⟨g', 0, none⟩) (xs.length + ys.length) c') (xs ++ ys) → Within g (g + 1) w w' → (g' = g ∨ w.heap.size ≤ g') → g' < w'.heap.size →
      wpList P ops Q rest (a.put o.dst (.slice (some ⟨g', 0, none⟩) (xs.length + ys.length) c')) w') : wpList P ops Q (o :: rest) a w := by
  subst hn
  subst hm
  obtain ⟨i, hi1, hi2, hi3, hi4⟩ := info_parts hinfo
  have hgs : g < w.heap.size := (World.ownsRow.lt hv.1 g rfl).2
  refine wpList_append_own_at _ hgd s x t ho g E i (.int .i64 0) 1 8 ht hi1 hi2 hi3 hi4 rfl (by decide) _ xs.length _ hs hv.1 ⟨b, o', none⟩ ys.length c2 (ys.map (.int .i64)) hx (by simp) ?_ ?_ (by unfold maxLen; omega) (by omega) (by omega) ?_
  · intro j u hu
    rw [List.getElem?_map, Option.map_eq_some_iff] at hu
    obtain ⟨y, h1, rfl⟩ := hu
    obtain ⟨hj, h2⟩ := List.getElem?_eq_some_iff.1 h1
    have := hcells j hj
    have e : ys.getD j 0 = y := by simp [hj, h2]
    rw [e] at this
    rw [Addr.add_lit]; exact this
  · intro u hu
    obtain ⟨y, _, rfl⟩ := List.mem_map.1 hu
    rfl
  intro v' w' hown hg _ hat
  have hW : Within g (g + 1) w w' := grownBy_within hg fun k e => by simp [Value.ownBlock] at e; omega
  have hO : IntsO E g w'.heap.size w' v' (xs ++ ys) := IntsO.mk (by simpa using hown) (Nat.le_refl _)
  obtain ⟨g', c', hv', _⟩ := hO.pos (by simp; omega)
  have e : (xs ++ ys).length = xs.length + ys.length := by simp
  rw [e] at hv'
  subst hv'
  have hg' := (World.ownsRow.lt hO.1 g' rfl).2
  refine h g' c' w' hO.at1 hW ?_ hg'
  rcases hat with h1 | h1
  · simp [Value.ownBlock] at h1; exact .inl h1
  · simp [Value.ownBlock] at h1; exact .inr (by omega)
theorem look_is {B n : Nat} {D : DataW Unit} {f : Int → Option Value} {w : World} (hown : OwnsW w B n D) (hf : MapIs D f) {x : Int} {v : Value} (hv : f x = some v) (hx : -9223372036854775808 ≤ x ∧ x ≤ 9223372036854775807) :
    (Instr.lookup 89 (.map (some B)) (.int .i64 x) false).run Tryd.prog w = .ok v w := by
  obtain ⟨u, ps, hrun, hu⟩ := World.ownsMap.lookup (zd := encS (.slice none 0 0)) (zp := []) hown lawI Tryd.underlying89 (Tryd.zeroValue22 w) rfl (key1_of hx)
  obtain ⟨h1, h2⟩ := hf.at_ x v hv
  obtain rfl : u = v := slR_inj hu h2 (h1 _)
  exact hrun
def JoinPost (B n : Nat) (f : Int → Option Value) (la ea : Int) (xs ys : List Int) (g1 : Nat) (w : World) (e : Ending) (w' : World) : Prop :=
  e = .returned (.tuple #[]) ∧ ∃ D' g' c', OwnsW w' B (n + 1) D' ∧ MapIs D' (fun y => if y = la then none else if y = ea then some (.slice (some ⟨g', 0, none⟩) (xs.length + ys.length) c') else f y) ∧
    IntsO 3 g' (g' + 1) w' (.slice (some ⟨g', 0, none⟩) (xs.length + ys.length) c') (xs ++ ys) ∧ (g' = g1 ∨ w.heap.size ≤ g') ∧ Only (fun k => k = B ∨ k = g1) w w'
set_option maxRecDepth 100000 in
set_option maxHeartbeats 4000000 in
theorem join_any (B n : Nat) (D : DataW Unit) (f : Int → Option Value) (la ea : Int) (g1 n1 c1 g2 n2 c2 : Nat) (xs ys : List Int) (w : World) (hown : OwnsW w B n D) (hf : MapIs D f) (hn : n < 1000000) (hla : 0 ≤ la ∧ la ≤ 1000) (hea : 0 ≤ ea ∧ ea ≤ 1000)
    (h1 : f ea = some (.slice (some ⟨g1, 0, none⟩) n1 c1)) (h2 : f la = some (.slice (some ⟨g2, 0, none⟩) n2 c2)) (hx : IntsO 3 g1 (g1 + 1) w (.slice (some ⟨g1, 0, none⟩) n1 c1) xs) (hy : IntsV w (.slice (some ⟨g2, 0, none⟩) n2 c2) ys)
    (hB : B ≠ g1) (hl1 : 0 < xs.length) (hl : xs.length + ys.length ≤ 1000) :
    Calls Tryd.prog 99 #[.map (some B), .int .i64 la, .int .i64 ea] w (JoinPost B n f la ea xs ys g1 w) := by
  have hr1 := look_is hown hf h1 (by omega)
  have hr2 := look_is hown hf h2 (by omega)
  have hBs := hown.lt
  have hn1 : n1 = xs.length := by
    rcases hx.shape with ⟨e, _⟩ | ⟨g, c, e, _⟩
    · cases e
    · simp only [Value.slice.injEq] at e; exact e.2.1
  have hyc : n2 = ys.length ∧ ∀ i, i < ys.length → w.cell? ⟨g2, 0 + i, none⟩ = some (.int .i64 (ys.getD i 0)) := by
    refine ⟨?_, fun i hi => by rw [Nat.zero_add]; exact NumsV.at hy i hi⟩
    obtain ⟨_, _, _, _, e, _⟩ := hy
    simp only [Value.slice.injEq] at e; exact e.2.1
  have HO := Lib.hid (And.intro hown (And.intro hf hx))
  have HY := Lib.hid hyc
  have HN1 := Lib.hid hn1
  have HKE := Lib.hid (key1_of (x := ea) (by omega))
  have HKL := Lib.hid (key1_of (x := la) (by omega))
  clear hown hf hx hy h1 h2 hyc hla hea hn1
  go_enter Tryd.func99, Tryd.ntmps99
  go_wp2_with (first
    | (at_builtin; refine wpList_append_ints_at rfl (.tmp 10) (.tmp 13) 22 rfl Tryd.underlying22 Tryd.infoE rfl rfl HY.out.1 HY.out.2 HO.out.2.2 (by omega) hl1 HN1.out ?_; intro g5 c5 w5 hO5 hW5 hL5 hS5; have H5 := Lib.hid (And.intro hO5 (And.intro hW5 (And.intro hL5 hS5))); clear hO5 hW5 hL5 hS5)
    | (at_mapUpdate; refine wpList_mapUpdate_own _ rfl _ _ _ 89 rfl 3 22 lawI Tryd.underlying89 slR B n D rfl (HO.out.1.kept (within_grownBy H5.out.2.1) (fun e => hB (Option.some.inj e))) (by unfold maxLen; omega) _ _ _ rfl rfl HKE.out (encS (.slice (some ⟨g5, 0, none⟩) (xs.length + ys.length) c5)) [] rfl ?_; intro w6 hown6 hg6; have H6 := Lib.hid (And.intro hown6 hg6); clear hown6 hg6)
    | (at_delete; refine wpList_delete_own _ rfl _ _ 89 3 rfl 22 lawI Tryd.underlying89 slR B (n + 1) _ rfl H6.out.1 _ _ rfl HKL.out ?_; intro w7 hown7 ht7; have H7 := Lib.hid (And.intro hown7 ht7.grown); clear hown7 ht7)
    | go_in)
  go_end0
  have hW1 : Within B (B + 1) w5 w6 := grownBy_some H6.out.2
  have hW2 : Within B (B + 1) w6 w7 := grownBy_some H7.out.2
  have hB5 : B ≠ g5 := fun e => by have := H5.out.2.2.1; omega
  refine ⟨rfl, _, g5, c5, H7.out.1, (HO.out.2.1.put ea _ rfl).del la, ?_, H5.out.2.2.1, ?_⟩
  · exact (H5.out.1.within hW1 (by omega)).within hW2 (by omega)
  · have o1 : Only (fun k => k = B ∨ k = g1) w w5 := H5.out.2.1.only fun k h1 h2 => .inr (by omega)
    have o2 : Only (fun k => k = B ∨ k = g1) w5 w6 := hW1.only fun k h1 h2 => .inl (by omega)
    have o3 : Only (fun k => k = B ∨ k = g1) w6 w7 := hW2.only fun k h1 h2 => .inl (by omega)
    exact (o1.trans o2 fun _ _ h => h).trans o3 fun _ _ h => h
end Go.Proofs.YtaeenedjmakelaaDoor
/- Pieces told by searches among all cells, as lists: how many searches begin. -/
namespace Go.Proofs.YtaeenedjmakelaaDoor

/-- What can be reached from i over cells that belong, each touching the next. -/
inductive RT (N : Nat) (T : Nat → Nat → Bool) (bel : Nat → Bool) (i : Nat) : Nat → Prop
  | refl : RT N T bel i i
  | step {j k : Nat} : RT N T bel i j → k < N → bel k = true → T j k = true → RT N T bel i k
theorem RT.trans {N : Nat} {T : Nat → Nat → Bool} {bel : Nat → Bool} {i j k : Nat} (h : RT N T bel i j) (g : RT N T bel j k) : RT N T bel i k := by
  induction g with
  | refl => exact h
  | step _ h1 h2 h3 ih => exact .step ih h1 h2 h3
theorem RT.bel {N : Nat} {T : Nat → Nat → Bool} {bel : Nat → Bool} {i j : Nat} (hi : bel i = true) (h : RT N T bel i j) : bel j = true := by
  cases h with
  | refl => exact hi
  | step _ _ h2 _ => exact h2
/-- Reached from a cell ahead of i. -/
def OldT (N : Nat) (T : Nat → Nat → Bool) (bel : Nat → Bool) (i x : Nat) : Prop := ∃ c, c < i ∧ bel c = true ∧ RT N T bel c x
/-- A search begins here. -/
def LeadT (N : Nat) (T : Nat → Nat → Bool) (bel : Nat → Bool) (c : Nat) : Prop := bel c = true ∧ ¬ OldT N T bel c c
open Classical in
noncomputable def cntT (N : Nat) (T : Nat → Nat → Bool) (bel : Nat → Bool) (k : Nat) : Int := sumTo (fun c => if LeadT N T bel c then 1 else 0) k
theorem cntT_yes {N : Nat} {T : Nat → Nat → Bool} {bel : Nat → Bool} {k : Nat} (h : LeadT N T bel k) : cntT N T bel (k + 1) = cntT N T bel k + 1 := by
  rw [cntT, cntT, sumTo, if_pos h]
theorem cntT_no {N : Nat} {T : Nat → Nat → Bool} {bel : Nat → Bool} {k : Nat} (h : ¬ LeadT N T bel k) : cntT N T bel (k + 1) = cntT N T bel k := by
  rw [cntT, cntT, sumTo, if_neg h, Int.add_zero]
theorem cntT_le (N : Nat) (T : Nat → Nat → Bool) (bel : Nat → Bool) (k : Nat) : 0 ≤ cntT N T bel k ∧ cntT N T bel k ≤ k := by
  induction k with
  | zero => exact ⟨Int.le_refl _, Int.le_refl _⟩
  | succ k ih =>
    by_cases h : LeadT N T bel k
    · rw [cntT_yes h]; omega
    · rw [cntT_no h]; omega
structure TOut (N : Nat) (T : Nat → Nat → Bool) (bel : Nat → Bool) (i : Nat) (sb : List Bool) (out : Int) : Prop where
  len : sb.length = N
  sn : ∀ x, x < N → (sb.getD x false = true ↔ OldT N T bel i x)
  cnt : out = cntT N T bel i
structure TIn (N : Nat) (T : Nat → Nat → Bool) (bel : Nat → Bool) (i : Nat) (sb : List Bool) (out : Int) (ls : List Int) (q t : Nat) : Prop where
  len : sb.length = N
  sn : ∀ x, x < N → (sb.getD x false = true ↔ OldT N T bel i x ∨ ∃ s, s < ls.length ∧ ls.getD s 0 = x)
  cnt : out = cntT N T bel (i + 1)
  mem : ∀ s, s < ls.length → ∃ X : Nat, ls.getD s 0 = X ∧ X < N ∧ bel X = true ∧ RT N T bel i X
  room : ls.length + sb.count false ≤ N
  first : 0 < ls.length ∧ ls.getD 0 0 = i
  bi : bel i = true
  iN : i < N
  done : ∀ s, s < q → ∀ X : Nat, ls.getD s 0 = X → ∀ k, k < N → bel k = true → T X k = true → sb.getD k false = true
  here : ∀ X : Nat, ls.getD q 0 = X → ∀ k, k < t → k < N → bel k = true → T X k = true → sb.getD k false = true
theorem tOut_start (N : Nat) (T : Nat → Nat → Bool) (bel : Nat → Bool) : TOut N T bel 0 (List.replicate N false) 0 :=
  ⟨by simp, fun x hx => ⟨fun h => by simp [hx] at h, fun ⟨c, hc, _⟩ => absurd hc (Nat.not_lt_zero _)⟩, rfl⟩
theorem OldT.succ {N : Nat} {T : Nat → Nat → Bool} {bel : Nat → Bool} {i x : Nat} (h : OldT N T bel i x) : OldT N T bel (i + 1) x := by
  obtain ⟨c, h1, h2⟩ := h
  exact ⟨c, by omega, h2⟩
theorem OldT.go {N : Nat} {T : Nat → Nat → Bool} {bel : Nat → Bool} {i x y : Nat} (h : OldT N T bel i x) (g : RT N T bel x y) : OldT N T bel i y := by
  obtain ⟨c, h1, h2, h3⟩ := h
  exact ⟨c, h1, h2, h3.trans g⟩
theorem TOut.skip {N : Nat} {T : Nat → Nat → Bool} {bel : Nat → Bool} {i : Nat} {sb : List Bool} {out : Int} (H : TOut N T bel i sb out) (hi : i < N) (h : sb.getD i false = true ∨ bel i = false) : TOut N T bel (i + 1) sb out := by
  refine ⟨H.len, fun x hx => (H.sn x hx).trans ⟨OldT.succ, fun ⟨c, h1, h2, h3⟩ => ?_⟩, ?_⟩
  · by_cases e : c = i
    · subst e
      rcases h with h | h
      · exact ((H.sn c hi).1 h).go h3
      · rw [h] at h2; cases h2
    · exact ⟨c, by omega, h2, h3⟩
  · rw [cntT_no ?_]
    · exact H.cnt
    · rintro ⟨h1, h2⟩
      rcases h with h | h
      · exact h2 ((H.sn i hi).1 h)
      · rw [h] at h1; cases h1
theorem count_le_len (l : List Bool) : l.count false ≤ l.length := List.count_le_length
theorem TOut.begin {N : Nat} {T : Nat → Nat → Bool} {bel : Nat → Bool} {i : Nat} {sb : List Bool} {out : Int} (H : TOut N T bel i sb out) (hi : i < N) (h : sb.getD i false = false) (hb : bel i = true) : TIn N T bel i (sb.set i true) (out + 1) [(i : Int)] 0 0 := by
  have hno : ¬ OldT N T bel i i := fun e => by rw [(H.sn i hi).2 e] at h; cases h
  have hc := count_setB sb i (by rw [H.len]; exact hi) h
  have hl := count_le_len sb
  refine ⟨by rw [List.length_set]; exact H.len, fun x hx => ?_, by rw [cntT_yes ⟨hb, hno⟩, H.cnt], fun s hs => ?_, ?_, ⟨by simp, rfl⟩, hb, hi, fun s hs => absurd hs (Nat.not_lt_zero _), fun X _ k hk => absurd hk (Nat.not_lt_zero _)⟩
  · rw [getD_setB _ _ _ _ (by rw [H.len]; exact hi)]
    by_cases e : x = i
    · subst e
      rw [if_pos rfl]
      exact ⟨fun _ => .inr ⟨0, by simp, rfl⟩, fun _ => rfl⟩
    · rw [if_neg e, H.sn x hx]
      refine ⟨.inl, fun h => ?_⟩
      rcases h with h | ⟨s, hs, h2⟩
      · exact h
      · rw [List.length_singleton] at hs
        obtain rfl : s = 0 := by omega
        have h3 : (i : Int) = x := h2
        exact absurd (by omega : x = i) e
  · rw [List.length_singleton] at hs
    obtain rfl : s = 0 := by omega
    exact ⟨i, rfl, hi, hb, .refl⟩
  · rw [List.length_singleton]
    have := H.len
    omega
theorem getD_app_l (l : List Int) (y : Int) (s : Nat) (h : s < l.length) : (l ++ [y]).getD s 0 = l.getD s 0 := by
  simp only [List.getD_eq_getElem?_getD, List.getElem?_append_left h]
theorem getD_app_r (l : List Int) (y : Int) : (l ++ [y]).getD l.length 0 = y := by simp
theorem TIn.tell {N : Nat} {T : Nat → Nat → Bool} {bel : Nat → Bool} {i : Nat} {sb : List Bool} {out : Int} {ls : List Int} {q x X : Nat} (H : TIn N T bel i sb out ls q x) (hq : q < ls.length) (hx : x < N) (h : sb.getD x false = false) (hb : bel x = true) (hX : ls.getD q 0 = X) (hT : T X x = true) :
    TIn N T bel i (sb.set x true) out (ls ++ [(x : Int)]) q (x + 1) := by
  have hc := count_setB sb x (by rw [H.len]; exact hx) h
  have hset : ∀ k, (sb.set x true).getD k false = if k = x then true else sb.getD k false := fun k => getD_setB _ _ _ _ (by rw [H.len]; exact hx)
  have up : ∀ k, sb.getD k false = true → (sb.set x true).getD k false = true := fun k hk => by rw [hset]; split; rfl; exact hk
  refine ⟨by rw [List.length_set]; exact H.len, fun y hy => ?_, H.cnt, fun s hs => ?_, ?_, ⟨by rw [List.length_append]; omega, ?_⟩, H.bi, H.iN, fun s hs Y hY k hk hbk hTk => ?_, fun Y hY k hk hkN hbk hTk => ?_⟩
  · rw [hset]
    by_cases e : y = x
    · subst e
      rw [if_pos rfl]
      exact ⟨fun _ => .inr ⟨ls.length, by simp, getD_app_r _ _⟩, fun _ => rfl⟩
    · rw [if_neg e, H.sn y hy]
      refine or_congr Iff.rfl ⟨fun ⟨s, h1, h2⟩ => ⟨s, by rw [List.length_append]; omega, by rw [getD_app_l _ _ _ h1]; exact h2⟩, fun ⟨s, h1, h2⟩ => ?_⟩
      rw [List.length_append, List.length_singleton] at h1
      by_cases e2 : s = ls.length
      · subst e2
        rw [getD_app_r] at h2
        exact absurd (by omega : y = x) e
      · exact ⟨s, by omega, by rw [getD_app_l _ _ _ (by omega)] at h2; exact h2⟩
  · rw [List.length_append, List.length_singleton] at hs
    by_cases e2 : s = ls.length
    · subst e2
      obtain ⟨Z, z1, _, _, z4⟩ := H.mem q hq
      obtain rfl : Z = X := by rw [hX] at z1; omega
      exact ⟨x, getD_app_r _ _, hx, hb, .step z4 hx hb hT⟩
    · rw [getD_app_l _ _ _ (by omega)]
      exact H.mem s (by omega)
  · rw [List.length_append, List.length_singleton]
    have := H.room
    omega
  · rw [getD_app_l _ _ _ H.first.1]; exact H.first.2
  · rw [getD_app_l _ _ _ (by omega)] at hY
    exact up k (H.done s hs Y hY k hk hbk hTk)
  · rw [getD_app_l _ _ _ hq] at hY
    by_cases e : k = x
    · rw [hset, if_pos e]
    · exact up k (H.here Y hY k (by omega) hkN hbk hTk)
theorem TIn.pass {N : Nat} {T : Nat → Nat → Bool} {bel : Nat → Bool} {i : Nat} {sb : List Bool} {out : Int} {ls : List Int} {q x X : Nat} (H : TIn N T bel i sb out ls q x) (hX : ls.getD q 0 = X) (h : sb.getD x false = true ∨ bel x = false ∨ T X x = false) :
    TIn N T bel i sb out ls q (x + 1) := by
  refine ⟨H.len, H.sn, H.cnt, H.mem, H.room, H.first, H.bi, H.iN, H.done, fun Y hY k hk hkN hbk hTk => ?_⟩
  by_cases e : k = x
  · subst e
    obtain rfl : Y = X := by rw [hX] at hY; omega
    rcases h with h | h | h
    · exact h
    · rw [h] at hbk; cases hbk
    · rw [h] at hTk; cases hTk
  · exact H.here Y hY k (by omega) hkN hbk hTk
theorem TIn.next {N : Nat} {T : Nat → Nat → Bool} {bel : Nat → Bool} {i : Nat} {sb : List Bool} {out : Int} {ls : List Int} {q : Nat} (H : TIn N T bel i sb out ls q N) : TIn N T bel i sb out ls (q + 1) 0 := by
  refine ⟨H.len, H.sn, H.cnt, H.mem, H.room, H.first, H.bi, H.iN, fun s hs X hX k hk hbk hTk => ?_, fun X _ k hk => absurd hk (Nat.not_lt_zero _)⟩
  by_cases e : s = q
  · subst e; exact H.here X hX k hk hk hbk hTk
  · exact H.done s (by omega) X hX k hk hbk hTk
theorem TIn.finish {N : Nat} {T : Nat → Nat → Bool} {bel : Nat → Bool} {i : Nat} {sb : List Bool} {out : Int} {ls : List Int} (H : TIn N T bel i sb out ls ls.length 0) : TOut N T bel (i + 1) sb out := by
  have key : ∀ x, RT N T bel i x → x < N ∧ sb.getD x false = true := fun x hx => by
    induction hx with
    | refl => exact ⟨H.iN, (H.sn i H.iN).2 (.inr ⟨0, H.first.1, H.first.2⟩)⟩
    | @step j k hj hk hb hT ih =>
      refine ⟨hk, ?_⟩
      rcases (H.sn j ih.1).1 ih.2 with h | ⟨s, h1, h2⟩
      · exact (H.sn k hk).2 (.inl (h.go (.step .refl hk hb hT)))
      · exact H.done s h1 j h2 k hk hb hT
  refine ⟨H.len, fun x hx => ⟨fun h => ?_, fun ⟨c, h1, h2, h3⟩ => ?_⟩, H.cnt⟩
  · rcases (H.sn x hx).1 h with h | ⟨s, h1, h2⟩
    · exact h.succ
    · obtain ⟨X, x1, _, _, x4⟩ := H.mem s h1
      obtain rfl : X = x := by rw [h2] at x1; omega
      exact ⟨i, by omega, H.bi, x4⟩
  · by_cases e : c = i
    · subst e; exact (key x h3).2
    · exact (H.sn x hx).2 (.inl ⟨c, by omega, h2, h3⟩)
theorem TIn.lslen {N : Nat} {T : Nat → Nat → Bool} {bel : Nat → Bool} {i : Nat} {sb : List Bool} {out : Int} {ls : List Int} {q t : Nat} (H : TIn N T bel i sb out ls q t) : ls.length ≤ N := by have := H.room; omega
end Go.Proofs.YtaeenedjmakelaaDoor
/- How many pieces there are, as lists: by first cells and by searches. -/
namespace Go.Proofs.YtaeenedjmakelaaDoor

/-- Two cells with a side in common, or one. -/
def touchS (m : Nat) (i k : Nat) : Bool := decide ((((i / m : Nat) : Int) - (k / m : Nat)) * (((i / m : Nat) : Int) - (k / m : Nat)) + (((i % m : Nat) : Int) - (k % m : Nat)) * (((i % m : Nat) : Int) - (k % m : Nat)) ≤ 1)
def touchChk (n m : Nat) : Bool := (List.range (n * m)).all fun i => (List.range (n * m)).all fun k => touchS m i k == (decide (i = k) || decide ((k : Int) ∈ aroundL n m i))
theorem touch_chk : ∀ n, n < 6 → ∀ m, m < 6 → touchChk n m = true := by decide +kernel
theorem touch_iff {n m i k : Nat} (hn : n ≤ 5) (hm : m ≤ 5) (hi : i < n * m) (hk : k < n * m) : touchS m i k = true ↔ i = k ∨ (k : Int) ∈ aroundL n m i := by
  have h := touch_chk n (by omega) m (by omega)
  unfold touchChk at h
  rw [List.all_eq_true] at h
  have h1 := h i (List.mem_range.2 hi)
  rw [List.all_eq_true] at h1
  have h2 := h1 k (List.mem_range.2 hk)
  rw [beq_iff_eq] at h2
  rw [h2, Bool.or_eq_true, decide_eq_true_eq, decide_eq_true_eq]
theorem rt_reach {n m c x : Nat} {B : Nat → Bool} (hn : n ≤ 5) (hm : m ≤ 5) (hc : c < n * m) (hb : B c = true) (h : RT (n * m) (touchS m) B c x) : x < n * m ∧ Reach n m (bothB B) c x := by
  induction h with
  | refl => exact ⟨hc, .refl⟩
  | @step j k hj hk hbk hT ih =>
    refine ⟨hk, ?_⟩
    rcases (touch_iff hn hm ih.1 hk).1 hT with rfl | hT
    · exact ih.2
    · exact .step ih.2 hT (by unfold bothB; rw [hj.bel hb, hbk]; rfl)
theorem reach_rt {n m c x : Nat} {B : Nat → Bool} (hn : n ≤ 5) (hm : m ≤ 5) (hc : c < n * m) (h : Reach n m (bothB B) c x) : RT (n * m) (touchS m) B c x := by
  induction h with
  | refl => exact .refl
  | @step j k hj hk he ih =>
    have hjN := hj.lt hn hm hc
    have hkN := around_lt hn hm hjN hk
    unfold bothB at he
    rw [Bool.and_eq_true] at he
    exact .step ih hkN he.2 ((touch_iff hn hm hjN hkN).2 (.inr hk))
/-- A search begins where a piece has its first cell. -/
theorem lead_iff {n m k : Nat} {B : Nat → Bool} {f : List Int} (hn : n ≤ 5) (hm : m ≤ 5) (F : Flats n m (bothB B) f) (hk : k < n * m) (hb : B k = true) : LeadT (n * m) (touchS m) B k ↔ f.getD k 0 = k := by
  obtain ⟨j, e, hj, hr⟩ := F.ok k hk
  constructor
  · intro h
    rw [e]
    by_cases hjk : j = k
    · rw [hjk]
    · have hbj : B j = true := by
        rcases reach_both hr with h1 | h1
        · exact absurd h1 hjk
        · exact h1.2
      exact absurd ⟨j, by omega, hbj, reach_rt hn hm (hr.lt hn hm hk) (hr.symm (bothB_symm B) hn hm hk)⟩ h.2
  · intro h
    refine ⟨hb, ?_⟩
    rintro ⟨c, h1, h2, h3⟩
    have hc : c < n * m := by omega
    have h4 := F.reach hn hm hc (rt_reach hn hm hc h2 h3).2
    obtain ⟨d, e2, hd, _⟩ := F.ok c hc
    rw [h, e2] at h4
    omega
theorem head_mem (l : List Int) (h : 0 < l.length) : l.getD 0 0 ∈ l := by
  rw [List.getD_eq_getElem?_getD, List.getElem?_eq_getElem h]
  exact List.getElem_mem h
theorem pieces_cnt {n m : Nat} {B : Nat → Bool} {f : List Int} (hn : n ≤ 5) (hm : m ≤ 5) (F : Flats n m (bothB B) f) : ∀ k, k ≤ n * m → ((piecesT f (whereL k B)).length : Int) = cntT (n * m) (touchS m) B k
  | 0, _ => rfl
  | k + 1, hk => by
    have ih := pieces_cnt hn hm F k (by omega)
    have P := pieces_inv hn hm F k (by omega)
    rw [whereL_succ]
    cases hB : B k with
    | false =>
      rw [cntT_no (fun h => by have h1 := h.1; rw [hB] at h1; cases h1)]
      simpa using ih
    | true =>
      rw [if_pos rfl, piecesT_snoc, Int.toNat_natCast]
      obtain ⟨j, e, hj, hr⟩ := F.ok k (by omega)
      have hheads : ∀ r, r < (piecesT f (whereL k B)).length → ((piecesT f (whereL k B)).getD r []).getD 0 0 ∈ whereL k B := fun r hrl => by
        obtain ⟨G, g1, g2, g3⟩ := P.fits r hrl
        have hm0 := head_mem _ g3
        exact (P.holds hrl hm0).1
      by_cases hl : f.getD k 0 = k
      · rw [cntT_yes ((lead_iff hn hm F (by omega) hB).2 hl), addAt_none, List.length_append, List.length_singleton]
        · omega
        · intro r hrl he
          obtain ⟨x, hx, _, ex⟩ := (whereL_mem _ _ _).1 (hheads r hrl)
          omega
      · rw [cntT_no (fun h => hl ((lead_iff hn hm F (by omega) hB).1 h))]
        have hjk : j < k := by
          rcases Nat.lt_or_ge j k with h | h
          · exact h
          · exact absurd (by rw [e, show j = k by omega]) hl
        have hBj : B j = true := by
          rcases reach_both hr with h | h
          · omega
          · exact h.2
        have hfj : f.getD j 0 = f.getD k 0 := F.reach hn hm (by omega) hr
        obtain ⟨r, hrl, hmr⟩ := P.all j ((whereL_mem _ _ _).2 ⟨j, hjk, hBj, rfl⟩)
        obtain ⟨G, g1, g2, g3⟩ := P.fits r hrl
        have hG : f.getD (j : Int).toNat 0 = G := by
          rw [g1, List.mem_filter] at hmr
          simpa using hmr.2
        rw [Int.toNat_natCast] at hG
        obtain ⟨r0, ⟨h1, h2⟩, h3⟩ := least_of (fun r => r < (piecesT f (whereL k B)).length ∧ ((piecesT f (whereL k B)).getD r []).getD 0 0 = f.getD k 0) r ⟨hrl, by rw [g2, ← hG, hfj]⟩
        rw [addAt_found _ _ _ r0 h1 (fun s hs he => by have := h3 s ⟨by omega, he⟩; omega) h2, List.length_set]
        exact ih
end Go.Proofs.YtaeenedjmakelaaDoor
/- Lands and high peaks, as lists: each piece has a peak of its own, and where there is a high peak there is a piece. -/
namespace Go.Proofs.YtaeenedjmakelaaDoor
open Go.RowKit

theorem few_rel {α β : Type} [DecidableEq β] (R : α → β → Prop) : ∀ (l : List α) (l2 : List β), l.Nodup → (∀ x, x ∈ l → ∃ y, y ∈ l2 ∧ R x y) → (∀ x x' y, x ∈ l → x' ∈ l → R x y → R x' y → x = x') → l.length ≤ l2.length
  | [], _, _, _, _ => Nat.zero_le _
  | a :: l, l2, hd, h1, h2 => by
    obtain ⟨y, hy, hr⟩ := h1 a (by simp)
    have hd2 := List.nodup_cons.1 hd
    have ih := few_rel R l (l2.erase y) hd2.2 (fun x hx => by
      obtain ⟨z, hz, hrz⟩ := h1 x (by simp [hx])
      refine ⟨z, ?_, hrz⟩
      by_cases e : z = y
      · subst e
        have := h2 x a z (by simp [hx]) (by simp) hrz hr
        subst this
        exact absurd hx hd2.1
      · exact (List.mem_erase_of_ne e).2 hz) (fun x x' z hx hx' => h2 x x' z (by simp [hx]) (by simp [hx']))
    rw [List.length_erase_of_mem hy] at ih
    have : 0 < l2.length := List.length_pos_of_mem hy
    rw [List.length_cons]
    omega
open Classical in
noncomputable def leadsL (N : Nat) (T : Nat → Nat → Bool) (B : Nat → Bool) (k : Nat) : List Nat := (List.range k).filter fun c => decide (LeadT N T B c)
theorem leads_len (N : Nat) (T : Nat → Nat → Bool) (B : Nat → Bool) : ∀ k, cntT N T B k = ((leadsL N T B k).length : Int)
  | 0 => rfl
  | k + 1 => by
    unfold leadsL
    rw [List.range_succ, List.filter_append, List.length_append]
    have ih := leads_len N T B k
    unfold leadsL at ih
    by_cases h : LeadT N T B k
    · rw [cntT_yes h, ih]; simp [h]
    · rw [cntT_no h, ih]; simp [h]
theorem mem_leads {N : Nat} {T : Nat → Nat → Bool} {B : Nat → Bool} {k c : Nat} : c ∈ leadsL N T B k ↔ c < k ∧ LeadT N T B c := by
  unfold leadsL
  simp
theorem sum_filter (P : Int → Prop) [DecidablePred P] : ∀ l : List Int, (l.map fun x => if P x then (1 : Int) else 0).sum = ((l.filter fun x => decide (P x)).length : Int)
  | [] => rfl
  | a :: l => by
    rw [List.map_cons, List.sum_cons, sum_filter P l]
    by_cases h : P a
    · rw [if_pos h, List.filter_cons_of_pos (by simp [h]), List.length_cons]; omega
    · rw [if_neg h, List.filter_cons_of_neg (by simp [h])]; omega
theorem sumTo_list' (F : Int → Int) (l : List Int) : ∀ k, k ≤ l.length → sumTo (fun j => F (l.getD j 0)) k = ((l.take k).map F).sum
  | 0, _ => rfl
  | k + 1, h => by
    rw [sumTo, sumTo_list' F l k (by omega), List.take_succ_eq_append_getElem (by omega), List.map_append, List.sum_append]
    have : l.getD k 0 = l[k] := by simp [show k < l.length by omega]
    rw [this]
    simp
theorem same_both {n m i j : Nat} {p : List Int} {t : Int} (hi : above p t i = true) (h : Reach n m (sameH p) i j) : Reach n m (bothB (above p t)) i j ∧ above p t j = true := by
  induction h with
  | refl => exact ⟨.refl, hi⟩
  | @step j k hj hk he ih =>
    have hb : above p t k = true := by
      have h1 := sameH_iff.1 he
      have h2 := ih.2
      unfold above at h2 ⊢
      rw [← h1]; exact h2
    exact ⟨.step ih.1 hk (by unfold bothB; rw [ih.2, hb]; rfl), hb⟩
theorem top_of {N : Nat} {T : Nat → Nat → Bool} {B : Nat → Bool} {p : List Int} {c : Nat} (hp : ∀ x, p.getD x 0 ≤ 12) : ∀ (d : Nat) (x : Nat), RT N T B c x → 12 - p.getD x 0 ≤ (d : Int) → ∃ y, RT N T B c y ∧ ∀ z, RT N T B c z → p.getD z 0 ≤ p.getD y 0
  | d, x, hr, hd => by
    by_cases h : ∃ z, RT N T B c z ∧ p.getD x 0 < p.getD z 0
    · obtain ⟨z, hz, hlt⟩ := h
      cases d with
      | zero => have := hp z; omega
      | succ d => exact top_of hp d z hz (by omega)
    · exact ⟨x, hr, fun z hz => Int.not_lt.1 fun hlt => h ⟨z, hz, hlt⟩⟩
theorem least_bool {B : Nat → Bool} : ∀ c, B c = true → ∃ a, a ≤ c ∧ B a = true ∧ ∀ b, b < a → B b = false
  | c, hc => by
    by_cases h : ∃ b, b < c ∧ B b = true
    · obtain ⟨b, hb, hB⟩ := h
      obtain ⟨a, h1, h2, h3⟩ := least_bool b hB
      exact ⟨a, by omega, h2, h3⟩
    · refine ⟨c, Nat.le_refl _, hc, fun b hb => ?_⟩
      cases e : B b with
      | false => rfl
      | true => exact absurd ⟨b, hb, e⟩ h
theorem lands_peaks {n m N : Nat} {p fs M : List Int} {bs : List Bool} {t : Int} (hn : n ≤ 5) (hm : m ≤ 5) (eN : n * m = N) (hp : ∀ x, p.getD x 0 ≤ 12) (F : Flats n m (sameH p) fs) (B : Beat n m p fs ovUp N 0 bs) (hM : M = keptL fs bs N) :
    cntT N (touchS m) (above p t) N ≤ sumTo (fun k => if t < p.getD (M.getD k 0).toNat 0 then 1 else 0) M.length ∧ (0 < sumTo (fun k => if t < p.getD (M.getD k 0).toNat 0 then 1 else 0) M.length → 0 < cntT N (touchS m) (above p t) N) := by
  subst eN
  rw [leads_len, sumTo_list' (fun z => if t < p.getD z.toNat 0 then (1 : Int) else 0) M M.length (Nat.le_refl _), List.take_length, sum_filter (fun z => t < p.getD z.toNat 0) M]
  have hb : ∀ x, above p t x = true ↔ t < p.getD x 0 := fun x => by unfold above; exact decide_eq_true_iff
  constructor
  · have key := few_rel (fun (c : Nat) (y : Int) => ∃ C : Nat, y = C ∧ C < n * m ∧ RT (n * m) (touchS m) (above p t) c C) (leadsL (n * m) (touchS m) (above p t) (n * m)) (M.filter fun z => decide (t < p.getD z.toNat 0)) (List.nodup_range.filter _) (fun c hc => ?_) (fun c c' y hc hc' h h' => ?_)
    · omega
    · obtain ⟨hcN, hcB, _⟩ := mem_leads.1 hc
      obtain ⟨x, hx, hmax⟩ := top_of (N := n * m) (T := touchS m) (B := above p t) hp (12 - p.getD c 0).toNat c .refl (by omega)
      have hxN := (rt_reach hn hm hcN hcB hx).1
      have hxB := hx.bel hcB
      obtain ⟨C, e, hCx, hre⟩ := F.ok x hxN
      have hCN : C < n * m := by omega
      have hxC := same_both hxB hre
      have hcC := hx.trans (reach_rt hn hm hxN hxC.1)
      have eCC : fs.getD C 0 = C := by rw [F.reach hn hm hxN hre, e]
      have hpC := hre.high
      refine ⟨C, ?_, C, rfl, hCN, hcC⟩
      rw [List.mem_filter, hM, mem_keptL]
      refine ⟨⟨C, rfl, hCN, eCC, ?_⟩, by rw [Int.toNat_natCast, decide_eq_true_eq]; exact (hb C).1 hxC.2⟩
      cases e2 : bs.getD C false with
      | false => rfl
      | true =>
        obtain ⟨x', s, k, h1, h2, h3, h4, h5, h6⟩ := (B.iff C hCN).1 e2
        obtain ⟨C', e', _, hre'⟩ := F.ok x' h2
        obtain rfl : C' = C := by omega
        have hkm : (k : Int) ∈ aroundL n m x' := by
          rw [← h4, List.getD_eq_getElem?_getD, List.getElem?_eq_getElem h3]
          exact List.getElem_mem h3
        have hkN := around_lt hn hm h2 hkm
        have hC2 := same_both hxC.2 (hre'.symm (sameH_symm p) hn hm h2)
        have hcx := hcC.trans (reach_rt hn hm hCN hC2.1)
        have hpx := hre'.high
        have hlt : p.getD x' 0 < p.getD k 0 := by simpa [ovUp] using h5
        have hkB : above p t k = true := (hb k).2 (by have := (hb x').1 hC2.2; omega)
        have := hmax k (.step hcx hkN hkB ((touch_iff hn hm h2 hkN).2 (.inr hkm)))
        omega
    · obtain ⟨hcN, hcB, hcO⟩ := mem_leads.1 hc
      obtain ⟨hcN', hcB', hcO'⟩ := mem_leads.1 hc'
      obtain ⟨C, e, hCN, hr⟩ := h
      obtain ⟨C', e', _, hr'⟩ := h'
      obtain rfl : C' = C := by omega
      have back : ∀ a, a < n * m → above p t a = true → RT (n * m) (touchS m) (above p t) a C' → RT (n * m) (touchS m) (above p t) C' a := fun a ha hB h =>
        reach_rt hn hm hCN ((rt_reach hn hm ha hB h).2.symm (bothB_symm _) hn hm ha)
      by_cases e1 : c < c'
      · exact absurd ⟨c, e1, hcB, hr.trans (back c' hcN' hcB' hr')⟩ hcO'
      · by_cases e2 : c' < c
        · exact absurd ⟨c', e2, hcB', hr'.trans (back c hcN hcB hr)⟩ hcO
        · omega
  · intro h
    have h0 : 0 < (M.filter fun z => decide (t < p.getD z.toNat 0)).length := by omega
    obtain ⟨z, hz⟩ := List.exists_mem_of_length_pos h0
    rw [List.mem_filter, hM, mem_keptL] at hz
    obtain ⟨⟨i, rfl, hi, _, _⟩, h2⟩ := hz
    rw [Int.toNat_natCast, decide_eq_true_eq] at h2
    obtain ⟨a, h3, h4, h5⟩ := least_bool i ((hb i).2 h2)
    have : a ∈ leadsL (n * m) (touchS m) (above p t) (n * m) := mem_leads.2 ⟨by omega, h4, fun ⟨b, hb1, hb2, _⟩ => by rw [h5 b hb1] at hb2; cases hb2⟩
    have := List.length_pos_of_mem this
    omega
/-- What the ends of a grid are: the flats, what beats them, the list. -/
theorem endsL_some' {ov : Int → Int → Bool} {h : List (List Int)} {n m N : Nat} {p : List Int} (hg : vGrid h = true) (en : h.length = n) (em : (h.getD 0 []).length = m) (ep : h.flatten = p) (eN : n * m = N)
    (hB : ∃ bs, Beat n m p (flatsL n m (sameH p)) ov N 0 bs) : ∃ bs, Flats n m (sameH p) (flatsL n m (sameH p)) ∧ Beat n m p (flatsL n m (sameH p)) ov N 0 bs ∧ endsL ov h = keptL (flatsL n m (sameH p)) bs N := by
  have G := Grid.of hg
  obtain ⟨bs, hB⟩ := hB
  have F : Flats n m (sameH p) (flatsL n m (sameH p)) := flatsL_ok (sameH_symm p) (by rw [← en]; exact G.n5) (by rw [← em]; exact G.m5)
  exact ⟨bs, F, hB, endsL_yes hg en em ep eN F hB⟩
theorem beat_exists' (n m N : Nat) (p fs : List Int) (ov : Int → Int → Bool) (_hN : n * m = N) : ∃ bs, Beat n m p fs ov N 0 bs := by
  obtain ⟨P, eP⟩ : ∃ P : Nat → Prop, ∀ c, P c ↔ ∃ x s k : Nat, (x < N ∨ x = N ∧ s < 0) ∧ x < n * m ∧ s < (aroundL n m x).length ∧ (aroundL n m x).getD s 0 = k ∧ ov (p.getD k 0) (p.getD x 0) = true ∧ fs.getD x 0 = c := ⟨_, fun _ => Iff.rfl⟩
  refine ⟨(List.range (n * m)).map fun c => @decide (P c) (Classical.propDecidable _), by simp, fun c hc => ?_⟩
  rw [← eP]
  have : ((List.range (n * m)).map fun c => @decide (P c) (Classical.propDecidable _)).getD c false = @decide (P c) (Classical.propDecidable _) := by simp [hc]
  rw [this]
  exact @decide_eq_true_iff _ (Classical.propDecidable _)
end Go.Proofs.YtaeenedjmakelaaDoor
/- Slices of meetings of the call's own: three numbers each. -/
namespace Go.Proofs.YtaeenedjmakelaaDoor
open Go.RowKit

abbrev Meet3 := Nat × Nat × Int
def flatM (q : List Meet3) : List Value := q.flatMap fun e => [.int .i64 (e.1 : Int), .int .i64 (e.2.1 : Int), .int .i64 e.2.2]
theorem flatM_len (q : List Meet3) : (flatM q).length = q.length * 3 := by
  induction q with
  | nil => rfl
  | cons e q ih => simp only [flatM, List.flatMap_cons, List.length_append, List.length_cons, List.length_nil] at ih ⊢; omega
theorem flatM_append (a b : List Meet3) : flatM (a ++ b) = flatM a ++ flatM b := by simp [flatM]
theorem flatM_get : ∀ (q : List Meet3) (i : Nat), i < q.length → (flatM q)[i * 3]? = some (.int .i64 ((q.getD i (0, 0, 0)).1 : Nat)) ∧ (flatM q)[i * 3 + 1]? = some (.int .i64 ((q.getD i (0, 0, 0)).2.1 : Nat)) ∧ (flatM q)[i * 3 + 2]? = some (.int .i64 (q.getD i (0, 0, 0)).2.2)
  | [], i, h => absurd h (Nat.not_lt_zero _)
  | e :: q, 0, _ => ⟨rfl, rfl, rfl⟩
  | e :: q, i + 1, h => by
    have ih := flatM_get q i (by simpa using h)
    have e1 : flatM (e :: q) = .int .i64 (e.1 : Int) :: .int .i64 (e.2.1 : Int) :: .int .i64 e.2.2 :: flatM q := rfl
    rw [e1, show (i + 1) * 3 = i * 3 + 1 + 1 + 1 by omega]
    simp only [List.getElem?_cons_succ, List.getD_cons_succ]
    exact ih
def MeetO (E lo hi : Nat) (w : World) (v : Value) (q : List Meet3) : Prop := w.ownsRow lo E 3 v q.length (flatM q) ∧ ∀ g, v.ownBlock = some g → g < hi
theorem MeetO.grew {E lo hi : Nat} {w w' : World} {v : Value} {q : List Meet3} (h : MeetO E lo hi w v q) (hg : Grew w w') : MeetO E lo hi w' v q :=
  ⟨ownsRow_block h.1 fun g e => hg.block (World.ownsRow.lt h.1 g e).2, h.2⟩
theorem MeetO.only {E lo hi : Nat} {S : Nat → Prop} {w w' : World} {v : Value} {q : List Meet3} (h : MeetO E lo hi w v q) (hg : Only S w w') (hd : ∀ g, v.ownBlock = some g → ¬ S g) : MeetO E lo hi w' v q :=
  ⟨ownsRow_block h.1 fun g e => hg.block g (World.ownsRow.lt h.1 g e).2 (hd g e), h.2⟩
theorem MeetO.wide {E lo hi lo' hi' : Nat} {w : World} {v : Value} {q : List Meet3} (h : MeetO E lo hi w v q) (hl : lo' ≤ lo) (hh : hi ≤ hi') : MeetO E lo' hi' w v q :=
  ⟨ownsRow_base h.1 hl, fun g e => Nat.lt_of_lt_of_le (h.2 g e) hh⟩
theorem MeetO.nil (E lo hi : Nat) (w : World) : MeetO E lo hi w (.slice none 0 0) [] := ⟨World.ownsRow_nil _ _ _ _, fun g e => by simp [Value.ownBlock] at e⟩
theorem MeetO.shape {E lo hi : Nat} {w : World} {v : Value} {q : List Meet3} (h : MeetO E lo hi w v q) : (v = .slice none 0 0 ∧ q = []) ∨ ∃ g c, v = .slice (some ⟨g, 0, none⟩) q.length c ∧ lo ≤ g ∧ g < hi ∧ q.length ≤ c ∧ c ≤ maxLen := by
  rcases h.1.2 with ⟨e, h0⟩ | ⟨g, cap, cur, rfl, h3, h4, h5, h6, h7⟩
  · exact .inl ⟨e, List.eq_nil_of_length_eq_zero h0⟩
  · exact .inr ⟨g, cap, rfl, h3, h.2 g rfl, h5, h6⟩
theorem MeetO.sh {E lo hi : Nat} {w : World} {v : Value} {q : List Meet3} (h : MeetO E lo hi w v q) : ∃ a c, v = .slice a q.length c := by
  rcases h.shape with ⟨rfl, rfl⟩ | ⟨g, c, rfl, _⟩
  · exact ⟨_, _, rfl⟩
  · exact ⟨_, _, rfl⟩
theorem MeetO.at {E lo hi : Nat} {w : World} {q : List Meet3} {g c n : Nat} (h : MeetO E lo hi w (.slice (some ⟨g, 0, none⟩) n c) q) {i : Nat} (hi' : i < q.length) :
    w.cell? ⟨g, i * 3, none⟩ = some (.int .i64 ((q.getD i (0, 0, 0)).1 : Nat)) ∧ w.cell? ⟨g, i * 3 + 1, none⟩ = some (.int .i64 ((q.getD i (0, 0, 0)).2.1 : Nat)) ∧ w.cell? ⟨g, i * 3 + 2, none⟩ = some (.int .i64 (q.getD i (0, 0, 0)).2.2) := by
  obtain ⟨h1, _⟩ := h
  have hn : n = q.length := by
    rcases h1.2 with ⟨e, _⟩ | ⟨_, _, _, e, _⟩
    · cases e
    · cases e; rfl
  subst hn
  obtain ⟨f1, f2, f3⟩ := flatM_get q i hi'
  exact ⟨(World.ownsRow.cellAt h1 (i * 3) (by omega)).trans f1, (World.ownsRow.cellAt h1 (i * 3 + 1) (by omega)).trans f2, (World.ownsRow.cellAt h1 (i * 3 + 2) (by omega)).trans f3⟩
theorem Tryd.infoMeet : (Tryd.prog.info? 58).map (fun i => (i.zero, i.size, i.bytes)) = some (some (.agg #[.int .i64 0, .int .i64 0, .int .i64 0]), 3, 24) := by kernel_rfl
/-- 'append(s, m)' at a slice of meetings of the call's own. -/
theorem wpList_append_meet {P : Program} {w : World} {ops : Array Oper} {rest : List Oper} {o : Oper} {a : Act} {Q : Exit → Act → World → Prop} (hgd : o.guard = none) (s x : Operand) (t : TypeId)
    (ho : o.op = .call { callee := .builtin .append, args := #[s, x], argTypes := #[t, t] }) {E : TypeId} (ht : P.underlying t = some (.slice E))
    (hinfo : (P.info? E).map (fun i => (i.zero, i.size, i.bytes)) = some (some (.agg #[.int .i64 0, .int .i64 0, .int .i64 0]), 3, 24)) {lo hi : Nat} {v : Value} {q : List Meet3} (e : Meet3) {nb : Nat} (hs : a.eval s = v) (hx : a.eval x = .slice (some ⟨nb, 0, none⟩) 1 1) (hnb : nb = w.heap.size)
    (hv : MeetO E lo hi w v q) (hlen : q.length + 1 ≤ 1000000) (hbase : lo ≤ w.heap.size)
    (h : ∀ g c w', MeetO E lo w'.heap.size w' (.slice (some ⟨g, 0, none⟩) (q.length + 1) c) (q ++ [e]) → Only (fun k => v.ownBlock = some k) w w' → (v.ownBlock = some g ∨ w.heap.size ≤ g) →
      wpList P ops Q rest (a.put o.dst (.slice (some ⟨g, 0, none⟩) (q.length + 1) c)) w') : wpList P ops Q (o :: rest) a (w.alloc (.cells #[.int .i64 (e.1 : Int), .int .i64 (e.2.1 : Int), .int .i64 e.2.2] E)) := by
  subst hnb
  obtain ⟨i, hi1, hi2, hi3, hi4⟩ := info_parts hinfo
  refine wpList_append_own_at _ hgd s x t ho lo E i (.agg #[.int .i64 0, .int .i64 0, .int .i64 0]) 3 24 ht hi1 hi2 hi3 hi4 (by decide) (by decide) v q.length _ hs (hv.1.alloc _) ⟨w.heap.size, 0, none⟩ 1 1 [.int .i64 (e.1 : Int), .int .i64 (e.2.1 : Int), .int .i64 e.2.2] hx rfl ?_ (by simp [Value.oneCell']) (by unfold maxLen; omega) (by omega) (by simp; omega) ?_
  · intro j u hu
    have hj : j < 3 := by
      have := (List.getElem?_eq_some_iff.1 hu).1
      simpa using this
    rw [Addr.add_lit]
    have : j = 0 ∨ j = 1 ∨ j = 2 := by omega
    rcases this with rfl | rfl | rfl
    all_goals (simp at hu ⊢; exact hu)
  · intro v' w' hown hg _ hat
    have hO1 : Only (fun k => v.ownBlock = some k) (w.alloc (.cells #[.int .i64 (e.1 : Int), .int .i64 (e.2.1 : Int), .int .i64 e.2.2] E)) w' := ⟨hg.os, hg.tape, hg.output, hg.size, fun k hk hne => hg.block k hk (fun e => hne e.symm)⟩
    have hO : MeetO E lo w'.heap.size w' v' (q ++ [e]) := ⟨by rw [flatM_append, List.length_append]; exact hown, fun g e => (World.ownsRow.lt hown g e).2⟩
    rcases hO.shape with ⟨_, e0⟩ | ⟨g, c, hv', _⟩
    · simp at e0
    have el : (q ++ [e]).length = q.length + 1 := by simp
    rw [el] at hv'
    subst hv'
    refine h g c w' hO ((((Grew.refl w).alloc _).only).trans hO1 fun _ _ h => h) ?_
    rcases hat with h1 | h1
    · exact .inl h1.symm
    · simp [Value.ownBlock] at h1; exact .inr (by omega)
end Go.Proofs.YtaeenedjmakelaaDoor
/- What the map of waters holds while they are joined. -/
namespace Go.Proofs.YtaeenedjmakelaaDoor
open Go.RowKit Go.Maps

/-- The map told by f and M, at most K entries ever; its rows lie from block L on, each apart, and apart from the meetings. -/
structure WInv (L : Nat → Prop) (B K : Nat) (rt : Nat → Nat) (pr : Nat → Bool) (vm : Value) (f : Int → Option Value) (M : Int → List Int) (D : DataW Unit) (cnt : Nat) (wr : World) : Prop where
  cle : cnt ≤ K
  own : OwnsW wr B cnt D
  is : MapIs D f
  key : ∀ x, (f x).isSome = true ↔ ∃ c : Nat, x = c ∧ pr c = true ∧ rt c = c
  row : ∀ x v, f x = some v → ∃ g c, v = .slice (some ⟨g, 0, none⟩) (M x).length c ∧ IntsO 3 g (g + 1) wr v (M x) ∧ L g ∧ vm.ownBlock ≠ some g
  mem : ∀ x v, f x = some v → (∀ y, y ∈ M x ↔ ∃ c : Nat, y = c ∧ pr c = true ∧ (rt c : Int) = x) ∧ (M x).Nodup
  apart : ∀ x y v u, f x = some v → f y = some u → x ≠ y → v.ownBlock ≠ u.ownBlock
  vml : ∀ g, vm.ownBlock = some g → L g
theorem OwnsW.only {S : Nat → Prop} {w w' : World} {B n : Nat} {D : DataW Unit} (h : OwnsW w B n D) (hg : Only S w w') (hB : ¬ S B) : OwnsW w' B n D := by
  have hlt := World.ownsMap.lt h
  obtain ⟨es, clock, hb, F, hs, hD⟩ := h
  exact ⟨es, clock, (hg.block B hlt hB).trans hb, F, hs, hD⟩
theorem WInv.only {L : Nat → Prop} {B K : Nat} {rt : Nat → Nat} {pr : Nat → Bool} {vm : Value} {f : Int → Option Value} {M : Int → List Int} {D : DataW Unit} {cnt : Nat} {w w' : World} {S : Nat → Prop} (h : WInv L B K rt pr vm f M D cnt w) (hg : Only S w w') (hB : ¬ S B) (hr : ∀ g, L g → vm.ownBlock ≠ some g → ¬ S g) : WInv L B K rt pr vm f M D cnt w' := by
  refine ⟨h.cle, OwnsW.only h.own hg hB, h.is, h.key, fun x v hv => ?_, h.mem, h.apart, h.vml⟩
  obtain ⟨g, c, e, ho, hl, hm⟩ := h.row x v hv
  exact ⟨g, c, e, ho.only hg fun k h1 h2 => by obtain rfl : k = g := by omega
                                               exact hr k hl hm, hl, hm⟩
theorem WInv.grew {L : Nat → Prop} {B K : Nat} {rt : Nat → Nat} {pr : Nat → Bool} {vm : Value} {f : Int → Option Value} {M : Int → List Int} {D : DataW Unit} {cnt : Nat} {w w' : World} (h : WInv L B K rt pr vm f M D cnt w) (hg : Grew w w') : WInv L B K rt pr vm f M D cnt w' :=
  h.only (S := fun _ => False) hg.only (fun h => h) fun _ _ _ h => h
theorem WInv.mono {L : Nat → Prop} {B K K' : Nat} {rt : Nat → Nat} {pr : Nat → Bool} {vm : Value} {f : Int → Option Value} {M : Int → List Int} {D : DataW Unit} {cnt : Nat} {w : World} (h : WInv L B K rt pr vm f M D cnt w) (hK : K ≤ K') : WInv L B K' rt pr vm f M D cnt w := ⟨Nat.le_trans h.cle hK, h.own, h.is, h.key, h.row, h.mem, h.apart, h.vml⟩
theorem WInv.congr {L : Nat → Prop} {B K : Nat} {rt rt' : Nat → Nat} {pr pr' : Nat → Bool} {vm : Value} {f : Int → Option Value} {M : Int → List Int} {D : DataW Unit} {cnt : Nat} {w : World} (h : WInv L B K rt pr vm f M D cnt w) (hr : rt = rt') (hp : ∀ c, pr c = pr' c) : WInv L B K rt' pr' vm f M D cnt w := by
  obtain rfl : pr = pr' := funext hp
  subst hr
  exact h
/-- A cell's water of its own. -/
theorem WInv.add {L : Nat → Prop} {B K i : Nat} {rt : Nat → Nat} {pr : Nat → Bool} {vm : Value} {f : Int → Option Value} {M : Int → List Int} {D : DataW Unit} {cnt : Nat} {w w' : World} (h : WInv L B K rt pr vm f M D cnt w) (hR : RI rt pr) (hi : pr i = false) (hL : L w.heap.size) (hBL : ¬ L B) (hvm : ∀ g, vm.ownBlock = some g → g < w.heap.size)
    (hown : OwnsW w' B (cnt + 1) (D.put (key1 i) (encS (.slice (some ⟨w.heap.size, 0, none⟩) 1 1)))) (hg : (w.alloc (.cells #[.int .i64 (i : Int)] 3)).grownBy w' (some B)) :
    WInv L B (K + 1) rt (fun c => pr c || decide (c = i)) vm (fun y => if y = (i : Int) then some (.slice (some ⟨w.heap.size, 0, none⟩) 1 1) else f y) (fun y => if y = (i : Int) then [(i : Int)] else M y) (D.put (key1 i) (encS (.slice (some ⟨w.heap.size, 0, none⟩) 1 1))) (cnt + 1) w' := by
  have hrti : rt i = i := hR.out i hi
  have hW : Within B (B + 1) (w.alloc (.cells #[.int .i64 (i : Int)] 3)) w' := grownBy_some hg
  have hO : Only (fun k => k = B) w w' := (((Grew.refl w).alloc _).only (S := fun k => k = B)).trans (hW.only (S := fun k => k = B) fun k h1 h2 => by omega) fun _ _ h => h
  have hnot : ∀ x v, f x = some v → x ≠ (i : Int) := fun x v hv e => by
    obtain ⟨c, e1, e2, _⟩ := (h.key x).1 (by rw [hv]; rfl)
    have : c = i := by omega
    subst this
    rw [hi] at e2; cases e2
  have hBlt := World.ownsMap.lt h.own
  refine ⟨Nat.succ_le_succ h.cle, hown, h.is.put i _ rfl, fun x => ?_, fun x v hv => ?_, fun x v hv => ?_, fun x y v u hv hu hne => ?_, h.vml⟩
  · by_cases e : x = (i : Int)
    · rw [if_pos e]
      exact ⟨fun _ => ⟨i, e, by simp, hrti⟩, fun _ => rfl⟩
    · rw [if_neg e, h.key x]
      constructor
      · rintro ⟨c, h1, h2, h3⟩
        exact ⟨c, h1, by rw [h2]; rfl, h3⟩
      · rintro ⟨c, h1, h2, h3⟩
        refine ⟨c, h1, ?_, h3⟩
        rw [Bool.or_eq_true, decide_eq_true_eq] at h2
        rcases h2 with h2 | h2
        · exact h2
        · exact absurd (by rw [h1, h2]) e
  · by_cases e : x = (i : Int)
    · rw [if_pos e] at hv ⊢
      cases hv
      refine ⟨w.heap.size, 1, rfl, ?_, hL, fun he => absurd (hvm _ he) (Nat.lt_irrefl _)⟩
      have := IntsO.lit 3 w.heap.size w [(i : Int)] #[.int .i64 (i : Int)] rfl (Nat.le_refl _) (show 1 ≤ maxLen by decide)
      exact this.within hW (by omega)
    · rw [if_neg e] at hv ⊢
      obtain ⟨g, c, e1, ho, hl, hm⟩ := h.row x v hv
      exact ⟨g, c, e1, ho.only hO fun k h1 h2 e2 => hBL (by rw [← e2, show k = g by omega]; exact hl), hl, hm⟩
  · by_cases e : x = (i : Int)
    · rw [if_pos e] at hv ⊢
      refine ⟨fun y => ?_, by simp⟩
      rw [List.mem_singleton]
      constructor
      · rintro rfl
        exact ⟨i, rfl, by simp, by rw [hrti, e]⟩
      · rintro ⟨c, h1, h2, h3⟩
        rw [Bool.or_eq_true, decide_eq_true_eq] at h2
        rcases h2 with h2 | h2
        · have : rt c = i := by omega
          have h4 := hR.pres c h2
          rw [this, hi] at h4; cases h4
        · rw [h1, h2]
    · rw [if_neg e] at hv ⊢
      obtain ⟨h1, h2⟩ := h.mem x v hv
      refine ⟨fun y => (h1 y).trans ⟨fun ⟨c, g1, g2, g3⟩ => ⟨c, g1, by rw [g2]; rfl, g3⟩, fun ⟨c, g1, g2, g3⟩ => ⟨c, g1, ?_, g3⟩⟩, h2⟩
      rw [Bool.or_eq_true, decide_eq_true_eq] at g2
      rcases g2 with g2 | g2
      · exact g2
      · subst g2; rw [hrti] at g3; exact absurd g3.symm e
  · have new : ∀ x v, f x = some v → v.ownBlock ≠ some w.heap.size := fun x v hv he => by
      obtain ⟨g, c, e1, ho, hl, hm⟩ := h.row x v hv
      subst e1
      simp [Value.ownBlock] at he
      have := (World.ownsRow.lt ho.1 g rfl).2
      omega
    by_cases e1 : x = (i : Int)
    · rw [if_pos e1] at hv
      cases hv
      have e2 : ¬ y = (i : Int) := fun e => hne (by rw [e1, e])
      rw [if_neg e2] at hu
      exact fun he => new y u hu he.symm
    · rw [if_neg e1] at hv
      by_cases e2 : y = (i : Int)
      · rw [if_pos e2] at hu
        cases hu
        exact new x v hv
      · rw [if_neg e2] at hu
        exact h.apart x y v u hv hu hne
/-- Two waters become one. -/
theorem WInv.join {L : Nat → Prop} {B K l e : Nat} {rt : Nat → Nat} {pr : Nat → Bool} {vm : Value} {f : Int → Option Value} {M : Int → List Int} {D D' : DataW Unit} {cnt g1 n1 c1 g' c' : Nat} {ys : List Int} {w w' : World} (h : WInv L B K rt pr vm f M D cnt w) (hl : pr l = true ∧ rt l = l) (he : pr e = true ∧ rt e = e) (hne : l ≠ e) (hBL : ¬ L B) (hLw : ∀ g, w.heap.size ≤ g → L g) (hvm : ∀ g, vm.ownBlock = some g → g < w.heap.size)
    (h1 : f (e : Int) = some (.slice (some ⟨g1, 0, none⟩) n1 c1)) (hys : ys = M (l : Int))
    (hown : OwnsW w' B (cnt + 1) D') (his : MapIs D' (fun y => if y = (l : Int) then none else if y = (e : Int) then some (.slice (some ⟨g', 0, none⟩) ((M (e : Int)).length + ys.length) c') else f y))
    (hO : IntsO 3 g' (g' + 1) w' (.slice (some ⟨g', 0, none⟩) ((M (e : Int)).length + ys.length) c') (M (e : Int) ++ ys)) (hg' : g' = g1 ∨ w.heap.size ≤ g') (hOn : Only (fun k => k = B ∨ k = g1) w w') :
    WInv L B (K + 1) (joinR rt l e) pr vm (fun y => if y = (l : Int) then none else if y = (e : Int) then some (.slice (some ⟨g', 0, none⟩) ((M (e : Int)).length + ys.length) c') else f y) (fun y => if y = (e : Int) then M (e : Int) ++ ys else M y) D' (cnt + 1) w' := by
  subst hys
  have hlI : (l : Int) ≠ (e : Int) := fun x => hne (by omega)
  obtain ⟨vl, hvl⟩ := Option.isSome_iff_exists.1 ((h.key (l : Int)).2 ⟨l, rfl, hl.1, hl.2⟩)
  obtain ⟨g1', c1', e1', ho1, hL1, hm1⟩ := h.row _ _ h1
  simp only [Value.slice.injEq, Option.some.injEq, Addr.mk.injEq] at e1'
  obtain ⟨⟨rfl, _⟩, _, _⟩ := e1'
  have hg1lt := (World.ownsRow.lt ho1.1 g1 rfl).2
  have others : ∀ x v, f x = some v → x ≠ (e : Int) → ∀ g, v.ownBlock = some g → g ≠ g1 := fun x v hv hx g hg he2 => by
    subst he2
    exact h.apart x e v _ hv h1 hx (by rw [hg]; rfl)
  have mL : ∀ y, y ∈ M (l : Int) ↔ ∃ c : Nat, y = c ∧ pr c = true ∧ (rt c : Int) = (l : Int) := (h.mem _ _ hvl).1
  have mE : ∀ y, y ∈ M (e : Int) ↔ ∃ c : Nat, y = c ∧ pr c = true ∧ (rt c : Int) = (e : Int) := (h.mem _ _ h1).1
  refine ⟨Nat.succ_le_succ h.cle, hown, his, fun x => ?_, fun x v hv => ?_, fun x v hv => ?_, fun x y v u hv hu hxy => ?_, h.vml⟩
  · by_cases a1 : x = (l : Int)
    · rw [if_pos a1]
      constructor
      · intro hh; cases hh
      · rintro ⟨c, h2, h3, h4⟩
        have : c = l := by omega
        subst this
        unfold joinR at h4
        rw [if_pos hl.2] at h4
        exact absurd h4.symm hne
    · rw [if_neg a1]
      by_cases a2 : x = (e : Int)
      · rw [if_pos a2]
        refine ⟨fun _ => ⟨e, a2, he.1, ?_⟩, fun _ => rfl⟩
        unfold joinR
        rw [he.2, if_neg (fun x => hne x.symm)]
      · rw [if_neg a2, h.key x]
        constructor
        · rintro ⟨c, h2, h3, h4⟩
          refine ⟨c, h2, h3, ?_⟩
          unfold joinR
          rw [h4, if_neg (fun x2 => a1 (by rw [h2, x2]))]
        · rintro ⟨c, h2, h3, h4⟩
          refine ⟨c, h2, h3, ?_⟩
          unfold joinR at h4
          by_cases b1 : rt c = l
          · rw [if_pos b1] at h4
            exact absurd (by rw [h2, ← h4]) a2
          · rwa [if_neg b1] at h4
  · by_cases a1 : x = (l : Int)
    · rw [if_pos a1] at hv; cases hv
    · rw [if_neg a1] at hv
      by_cases a2 : x = (e : Int)
      · rw [if_pos a2] at hv ⊢
        cases hv
        refine ⟨g', c', by rw [List.length_append], hO, ?_, fun hh => ?_⟩
        · rcases hg' with rfl | hg'
          · exact hL1
          · exact hLw _ hg'
        · rcases hg' with rfl | hg'
          · exact hm1 hh
          · have := hvm _ hh; omega
      · rw [if_neg a2] at hv ⊢
        obtain ⟨g, c, e3, ho, hLg, hm⟩ := h.row x v hv
        refine ⟨g, c, e3, ho.only hOn fun k k1 k2 => ?_, hLg, hm⟩
        obtain rfl : k = g := by omega
        have := others x v hv a2 k (by rw [e3]; rfl)
        rintro (rfl | hk)
        · exact hBL hLg
        · exact this hk
  · by_cases a1 : x = (l : Int)
    · rw [if_pos a1] at hv; cases hv
    · rw [if_neg a1] at hv
      by_cases a2 : x = (e : Int)
      · rw [if_pos a2] at hv ⊢
        refine ⟨fun y => ?_, List.nodup_append.2 ⟨(h.mem _ _ h1).2, (h.mem _ _ hvl).2, fun a ha b hb hab => ?_⟩⟩
        · rw [List.mem_append, mE, mL]
          constructor
          · rintro (⟨c, h2, h3, h4⟩ | ⟨c, h2, h3, h4⟩)
            · refine ⟨c, h2, h3, ?_⟩
              have : rt c = e := by omega
              unfold joinR
              rw [this, if_neg (fun z => hne z.symm), a2]
            · refine ⟨c, h2, h3, ?_⟩
              have : rt c = l := by omega
              unfold joinR
              rw [if_pos this, a2]
          · rintro ⟨c, h2, h3, h4⟩
            unfold joinR at h4
            by_cases b1 : rt c = l
            · exact .inr ⟨c, h2, h3, by rw [b1]⟩
            · rw [if_neg b1] at h4
              exact .inl ⟨c, h2, h3, by rw [h4, a2]⟩
        · subst hab
          obtain ⟨c, h2, h3, h4⟩ := (mE a).1 ha
          obtain ⟨d, h5, h6, h7⟩ := (mL a).1 hb
          have : c = d := by omega
          subst this
          exact hlI (h7.symm.trans h4)
      · rw [if_neg a2] at hv ⊢
        obtain ⟨h2, h3⟩ := h.mem x v hv
        refine ⟨fun y => (h2 y).trans ⟨fun ⟨c, b1, b2, b3⟩ => ⟨c, b1, b2, ?_⟩, fun ⟨c, b1, b2, b3⟩ => ⟨c, b1, b2, ?_⟩⟩, h3⟩
        · unfold joinR
          rw [if_neg (fun z => a1 (by rw [← b3, z]))]; exact b3
        · unfold joinR at b3
          by_cases b4 : rt c = l
          · rw [if_pos b4] at b3; exact absurd b3.symm a2
          · rwa [if_neg b4] at b3
  · by_cases a1 : x = (l : Int)
    · rw [if_pos a1] at hv; cases hv
    · rw [if_neg a1] at hv
      by_cases b1 : y = (l : Int)
      · rw [if_pos b1] at hu; cases hu
      · rw [if_neg b1] at hu
        have new : ∀ z v, f z = some v → z ≠ (e : Int) → v.ownBlock ≠ some g' := fun z v hz hze hh => by
          obtain ⟨g, c, e3, ho, _, _⟩ := h.row z v hz
          have hgl := (World.ownsRow.lt ho.1 g (by rw [e3]; rfl)).2
          have h2 := others z v hz hze g (by rw [e3]; rfl)
          rw [e3] at hh
          simp [Value.ownBlock] at hh
          omega
        by_cases a2 : x = (e : Int)
        · rw [if_pos a2] at hv
          cases hv
          have b2 : ¬ y = (e : Int) := fun z => hxy (by rw [a2, z])
          rw [if_neg b2] at hu
          exact fun hh => new y u hu b2 hh.symm
        · rw [if_neg a2] at hv
          by_cases b2 : y = (e : Int)
          · rw [if_pos b2] at hu
            cases hu
            exact new x v hv a2
          · rw [if_neg b2] at hu
            exact h.apart x y v u hv hu hxy
/-- The meetings' slice has grown. -/
theorem WInv.meet {L : Nat → Prop} {B K g' n' c' : Nat} {rt : Nat → Nat} {pr : Nat → Bool} {vm : Value} {f : Int → Option Value} {M : Int → List Int} {D : DataW Unit} {cnt : Nat} {w w' : World} (h : WInv L B K rt pr vm f M D cnt w) (hO : Only (fun k => vm.ownBlock = some k) w w') (hB : ¬ L B) (hg : vm.ownBlock = some g' ∨ w.heap.size ≤ g') (hLw : ∀ g, w.heap.size ≤ g → L g) : WInv L B K rt pr (.slice (some ⟨g', 0, none⟩) n' c') f M D cnt w' := by
  have h' := h.only hO (fun hh => hB (h.vml B hh)) fun g _ hm hh => hm hh
  refine ⟨h'.cle, h'.own, h'.is, h'.key, fun x v hv => ?_, h'.mem, h'.apart, fun g hgg => ?_⟩
  rotate_left
  · simp [Value.ownBlock] at hgg
    subst hgg
    rcases hg with hg | hg
    · exact h.vml _ hg
    · exact hLw _ hg
  obtain ⟨g, c, e, ho, hl, hm⟩ := h'.row x v hv
  refine ⟨g, c, e, ho, hl, fun hh => ?_⟩
  simp [Value.ownBlock] at hh
  subst hh
  rcases hg with hg | hg
  · exact hm hg
  · obtain ⟨g2, c2, e2, ho2, _, _⟩ := h.row x v hv
    rw [e] at e2
    simp only [Value.slice.injEq, Option.some.injEq, Addr.mk.injEq] at e2
    obtain ⟨⟨rfl, _⟩, _⟩ := e2
    have : g' < w.heap.size := (World.ownsRow.lt ho2.1 g' (by rw [e]; rfl)).2
    omega
/-- The rows are where they are. -/
theorem WInv.pred {L L' : Nat → Prop} {B K : Nat} {rt : Nat → Nat} {pr : Nat → Bool} {vm : Value} {f : Int → Option Value} {M : Int → List Int} {D : DataW Unit} {cnt : Nat} {w : World} (h : WInv L B K rt pr vm f M D cnt w) (hvm : ∀ g, vm.ownBlock = some g → g < w.heap.size) (hP : ∀ g, L g → g < w.heap.size → L' g) : WInv L' B K rt pr vm f M D cnt w := by
  refine ⟨h.cle, h.own, h.is, h.key, fun x v hv => ?_, h.mem, h.apart, fun g hg => hP g (h.vml g hg) (hvm g hg)⟩
  obtain ⟨g, c, e, ho, hl, hm⟩ := h.row x v hv
  exact ⟨g, c, e, ho, hP g hl (World.ownsRow.lt ho.1 g (by rw [e]; rfl)).2, hm⟩
/-- What beginningOf is asked. -/
theorem WInv.begin_ok {L : Nat → Prop} {B K N : Nat} {rt : Nat → Nat} {pr : Nat → Bool} {vm : Value} {f : Int → Option Value} {M : Int → List Int} {D : DataW Unit} {cnt : Nat} {w : World} (h : WInv L B K rt pr vm f M D cnt w) (hR : RI rt pr) (hN : ∀ c, pr c = true → c < N) (hN2 : N ≤ 25) (b : Nat) :
    (∀ x v, f x = some v → IntsV w v (M x) ∧ (M x).length ≤ 25) ∧ (if pr b = true then (f (rt b : Int)).isSome = true ∧ (b : Int) ∈ M (rt b : Int) ∧ ∀ x, (f x).isSome = true → (b : Int) ∈ M x → x = (rt b : Int) else ∀ x, (f x).isSome = true → ¬ (b : Int) ∈ M x) := by
  constructor
  · intro x v hv
    obtain ⟨g, c, e, ho, _, _⟩ := h.row x v hv
    refine ⟨ho.toV, ?_⟩
    obtain ⟨h1, h2⟩ := h.mem x v hv
    have := few_rel (fun (y : Int) (c : Nat) => y = c) (M x) (List.range N) h2 (fun y hy => by
      obtain ⟨c, g1, g2, _⟩ := (h1 y).1 hy
      exact ⟨c, List.mem_range.2 (hN c g2), g1⟩) (fun _ _ _ _ _ e1 e2 => by rw [e1, e2])
    rw [List.length_range] at this
    omega
  · by_cases hb : pr b = true
    · rw [if_pos hb]
      have hs := (h.key (rt b : Int)).2 ⟨rt b, rfl, hR.pres b hb, hR.idem b⟩
      obtain ⟨v, hv⟩ := Option.isSome_iff_exists.1 hs
      refine ⟨hs, ((h.mem _ _ hv).1 b).2 ⟨b, rfl, hb, rfl⟩, fun x hx hm => ?_⟩
      obtain ⟨u, hu⟩ := Option.isSome_iff_exists.1 hx
      obtain ⟨c, e1, _, e3⟩ := ((h.mem _ _ hu).1 b).1 hm
      have : c = b := by omega
      rw [← e3, this]
    · rw [if_neg hb]
      intro x hx hm
      obtain ⟨u, hu⟩ := Option.isSome_iff_exists.1 hx
      obtain ⟨c, e1, e2, _⟩ := ((h.mem _ _ hu).1 b).1 hm
      have : c = b := by omega
      rw [this] at e2
      exact hb e2
end Go.Proofs.YtaeenedjmakelaaDoor
/- The contract of impl.meetingsOf. -/
namespace Go.Proofs.YtaeenedjmakelaaDoor
open Go.RowKit Go.Maps

set_option maxRecDepth 100000 in
set_option maxHeartbeats 16000000 in
theorem meetingsOf_any (v : Value) (h : List (List Int)) (w : World) (hv : RowsV w v h) (hg : vGrid h = true) (hS : Steps w) :
    Calls Tryd.prog 61 #[v] w fun e w' => ∃ u, e = .returned u ∧ MeetO 58 w.heap.size w'.heap.size w' u (meetsX h) ∧ Grew w w' := by
  have G := Grid.of hg
  have hpl := flat_grid_len G
  have hN25 : h.flatten.length ≤ 25 := by rw [hpl]; exact Nat.le_trans (Nat.mul_le_mul G.n5 G.m5) (by decide)
  have hN1 : 1 ≤ h.flatten.length := by rw [hpl]; exact Nat.mul_pos G.n1 G.m1
  have HK : Hid (∀ W, Grew w W → Calls Tryd.prog 60 #[v] W (FlatPost W h.flatten)) := fun W hW =>
    slicesConcat_any v h W (hv.grew hW) G.n1 (Nat.le_trans G.n5 (by decide)) (fun r hr => by have := G.len r hr; have := G.m1; have := G.m5; omega)
  have HBS : Hid (∀ (I : Nat) W, Grew w W → I < h.flatten.length → Calls Tryd.prog 72 #[v, .int .i64 I] W (OwnI W (aroundL h.length (h.getD 0 []).length I))) := fun I W hW hI => cellsBeside_any v h I W (hv.grew hW) hg (by rw [← hpl]; exact hI) (hS.grew hW)
  have HAR : Hid (∀ I, I < h.flatten.length → (aroundL h.length (h.getD 0 []).length I).length ≤ 4 ∧ ∀ t, t < (aroundL h.length (h.getD 0 []).length I).length → ∃ b : Nat, (aroundL h.length (h.getD 0 []).length I).getD t 0 = (b : Int) ∧ b < h.flatten.length) := Lib.hid fun I hI => by
    obtain ⟨h1, _, h3⟩ := around_facts G.n5 G.m5 (n := h.length) (m := (h.getD 0 []).length) (I := I) (by rw [← hpl]; exact hI)
    refine ⟨h3, fun t ht => ?_⟩
    obtain ⟨A, eA⟩ : ∃ A, aroundL h.length (h.getD 0 []).length I = A := ⟨_, rfl⟩
    rw [eA] at ht h1 ⊢
    have hm : A.getD t 0 ∈ A := by rw [List.getD_eq_getElem?_getD, List.getElem?_eq_getElem ht]; exact List.getElem_mem _
    obtain ⟨g1, g2, _⟩ := h1 _ hm
    exact ⟨(A.getD t 0).toNat, by omega, by rw [hpl]; omega⟩
  unfold meetsX
  obtain ⟨n, en⟩ : ∃ n, h.length = n := ⟨_, rfl⟩
  obtain ⟨m, em⟩ : ∃ m, (h.getD 0 []).length = m := ⟨_, rfl⟩
  obtain ⟨p, ep⟩ : ∃ p, h.flatten = p := ⟨_, rfl⟩
  rw [en, em] at HBS HAR
  rw [ep] at HK HBS HAR hN25 hN1 ⊢
  rw [en, em]
  obtain ⟨N, eN⟩ : ∃ N, p.length = N := ⟨_, rfl⟩
  rw [eN] at HBS HAR hN25 hN1 ⊢
  have HCI : Hid (∀ (hc g c : Nat) (W : World), hc < W.heap.size → g < W.heap.size → W.cell? ⟨hc, 0, none⟩ = some (.slice (some ⟨g, 0, none⟩) N c) → IntsV W (.slice (some ⟨g, 0, none⟩) N c) p →
      Calls Tryd.prog 97 #[.int .i64 (N : Int), .func (.func 95) #[] #[.pointer (some ⟨hc, 0, none⟩)]] W fun e w' => ∃ g c, e = .returned (.slice (some ⟨g, 0, none⟩) N c) ∧ W.heap.size ≤ g ∧ g < w'.heap.size ∧ (∀ j, j < N → w'.cell? ⟨g, j, none⟩ = some (.int .i64 ((ordTo p N).getD j 0 : Nat))) ∧ Grew W w') := Lib.hid fun hc g c W h1 h2 h3 h4 => by
    obtain ⟨k, rfl⟩ : ∃ k, N = k + 1 := ⟨N - 1, by omega⟩
    exact cellsInOrder_any hc g c k p W (by omega) h1 h2 h3 h4 eN
  have HEN := Lib.hid eN
  obtain ⟨ord, eord⟩ : ∃ ord, ordTo p N = ord := ⟨_, rfl⟩
  have hordl : ord.length = N := by rw [← eord]; exact ordTo_len p N
  have HORD : Hid (∀ k, k < N → ord.getD k 0 < N ∧ presB ord k (ord.getD k 0) = false) := Lib.hid fun k hk => by rw [← eord]; exact ⟨ordTo_at_lt hk, presB_new hk⟩
  have HPL : Hid (∀ k c, presB ord k c = true → c < N) := Lib.hid fun k c hc => by
    have := presB_mem hc
    rw [← eord] at this
    exact mem_ordTo.1 this
  rw [eord] at HCI ⊢
  have HL := Lib.hid hordl
  obtain ⟨a, b, o, c, rfl, _, _, _⟩ := hv.shape
  rw [en] at HK HBS ⊢
  clear hv hg hS G hpl en em ep eord hordl eN
  have hmf : ∀ (fn : Fn) (first cap : Array Value) (w : World), (Instr.makeFunc fn first cap).run Tryd.prog w = .ok (.func fn first cap) w := fun _ _ _ _ => rfl
  have hmm := @run_makeMap Tryd.prog
  have eg := enters_of Tryd.func95 (by kernel_rfl) rfl
  go_enter Tryd.func61, Tryd.ntmps61
  go_wp2_with (fail)
  refine (HK.out _ (Grew.refl _)).mono ?_
  rintro e w1 ⟨g1, c1, rfl, hO1, hg1⟩
  rw [HEN.out] at hO1 ⊢
  have hgl := (World.ownsRow.lt hO1.1 g1 rfl).2
  have hg1w := (IntsO.blk hO1).1
  obtain ⟨hc, ehc⟩ : ∃ hc, w1.heap.size = hc := ⟨_, rfl⟩
  have H1 : Hid (IntsV ((w1.alloc (.cells #[.slice (some ⟨g1, 0, none⟩) N c1] 22)).alloc (.map #[] 0)) (.slice (some ⟨g1, 0, none⟩) N c1) p ∧ Grew w ((w1.alloc (.cells #[.slice (some ⟨g1, 0, none⟩) N c1] 22)).alloc (.map #[] 0)) ∧ ((w1.alloc (.cells #[.slice (some ⟨g1, 0, none⟩) N c1] 22)).alloc (.map #[] 0)).cell? ⟨hc, 0, none⟩ = some (.slice (some ⟨g1, 0, none⟩) N c1) ∧ g1 < hc ∧ ((w1.alloc (.cells #[.slice (some ⟨g1, 0, none⟩) N c1] 22)).alloc (.map #[] 0)).heap.size = hc + 2 ∧ OwnsW ((w1.alloc (.cells #[.slice (some ⟨g1, 0, none⟩) N c1] 22)).alloc (.map #[] 0)) (hc + 1) 0 (.map []) ∧ w.heap.size ≤ g1) := by
    subst ehc
    refine Lib.hid ⟨hO1.toV.grew (((Grew.refl w1).alloc _).alloc _), (hg1.alloc _).alloc _, ((Grew.refl _).alloc _).cell (by simp), hgl, by simp, ?_, hg1w⟩
    have := World.ownsMap_made (w1.alloc (.cells #[.slice (some ⟨g1, 0, none⟩) N c1] 22)) Tryd.prog 3 slR
    simpa using this
  clear hO1 hg1 hgl hg1w
  go_wp2_with (fail)
  obtain ⟨W0, eW0⟩ : ∃ W0, (w1.alloc (.cells #[.slice (some ⟨g1, 0, none⟩) N c1] 22)).alloc (.map #[] 0) = W0 := ⟨_, rfl⟩
  rw [eW0] at H1 ⊢
  clear eW0 ehc
  refine (HCI.out hc g1 c1 W0 (by have := H1.out.2.2.2.2.1; omega) (by have := H1.out.2.2.2.1; have := H1.out.2.2.2.2.1; omega) H1.out.2.2.1 H1.out.1).mono ?_
  rintro e w2 ⟨g2, c2, rfl, hg2a, hg2b, hcc, hgw⟩
  obtain ⟨L2, eL2⟩ : ∃ L2, w2.heap.size = L2 := ⟨_, rfl⟩
  have H2 : Hid ((∀ j, j < N → w2.cell? ⟨g2, j, none⟩ = some (.int .i64 (ord.getD j 0 : Nat))) ∧ IntsV w2 (.slice (some ⟨g1, 0, none⟩) N c1) p ∧ w2.cell? ⟨hc, 0, none⟩ = some (.slice (some ⟨g1, 0, none⟩) N c1) ∧ Grew w w2 ∧ OwnsW w2 (hc + 1) 0 (.map []) ∧ w2.heap.size = L2) :=
    Lib.hid ⟨hcc, H1.out.1.grew hgw, hgw.cell H1.out.2.2.1, H1.out.2.1.trans hgw, World.ownsMap.kept H1.out.2.2.2.2.2.1 (grew_grownBy hgw none) (by simp), eL2⟩
  have b1 : hc + 2 ≤ g2 := by have := H1.out.2.2.2.2.1; omega
  have b2 : g2 < L2 := by omega
  have b3 : g1 < hc := H1.out.2.2.2.1
  have b4 : w.heap.size ≤ g1 := H1.out.2.2.2.2.2.2
  have HGW : Hid (∀ W, Only (fun x => x = hc + 1) w2 W → Grew w W) := Lib.hid fun W hW => Only.grew H2.out.2.2.2.1 hW fun x hx => by omega
  clear hcc hgw hg2a hg2b eL2 H1 HCI HK hmm
  go_wp2_with (fail)
  go_loopw [6, 25] (fun m' k' wr => ∃ (k : Nat) (am : Option Addr) (ql cm : Nat), k ≤ N ∧ k' = .int .i64 k ∧ m' = .slice am ql cm ∧ Hid (ql = (meetTo p n m ord k).2.length ∧ ql ≤ 4 * k ∧ ∃ f M D cnt, WInv (fun g => L2 ≤ g) (hc + 1) (6 * k) (meetTo p n m ord k).1 (presB ord k) (.slice am ql cm) f M D cnt wr ∧ MeetO 58 L2 wr.heap.size wr (.slice am ql cm) (meetTo p n m ord k).2 ∧ Only (fun x => x = hc + 1) w2 wr)) (fun _ k' _ => N - (intOf k').toNat)
  case atStart => exact ⟨0, none, 0, 0, Nat.zero_le _, rfl, rfl, rfl, Nat.le_refl _, fun _ => none, fun _ => [], .map [], 0, ⟨Nat.le_refl _, H2.out.2.2.2.2.1, MapIs.empty, fun x => ⟨fun h => (by cases h), fun ⟨c, _, h, _⟩ => (by rw [presB_zero] at h; cases h)⟩, fun _ _ h => (by cases h), fun _ _ h => (by cases h), fun _ _ _ _ h => (by cases h), fun g h => (by simp [Value.ownBlock] at h)⟩, MeetO.nil _ _ _ _, Only.refl _ _⟩
  case round =>
    obtain ⟨k, am, ql, cm, hk, rfl, rfl, HI⟩ := hrel
    by_cases hlt : k < N
    · obtain ⟨hql, hqk, f, M, D, cnt, hW, hMe, hOn⟩ := HI.out
      obtain ⟨hiN, hinew⟩ := HORD.out k hlt
      have hck := hOn.cell (H2.out.1 k hlt) (show ¬ g2 = hc + 1 by omega)
      have hR := meetTo_RI p n m ord k (by rw [HL.out]; omega)
      have hps := presB_succ (ord := ord) (k := k) (by rw [HL.out]; exact hlt)
      have hR1 := hR.more (by rw [HL.out]; exact hlt)
      have hself := presB_self (ord := ord) (k := k) (by rw [HL.out]; exact hlt)
      have hnext : meetTo p n m ord (k + 1) = meetN p (presB ord (k + 1)) (ord.getD k 0) (aroundL n m (ord.getD k 0)) (meetTo p n m ord k) (aroundL n m (ord.getD k 0)).length := rfl
      obtain ⟨hl4, hbs⟩ := HAR.out _ hiN
      obtain ⟨i, ei⟩ : ∃ i, ord.getD k 0 = i := ⟨_, rfl⟩
      obtain ⟨st, est⟩ : ∃ st, meetTo p n m ord k = st := ⟨_, rfl⟩
      rw [ei] at hiN hinew hck hself hnext hl4 hbs
      rw [ei] at hps
      rw [est] at hql hW hMe hR hR1 hnext
      have hvm : ∀ g, (Value.slice am ql cm).ownBlock = some g → g < wr.heap.size := fun g hg => (World.ownsRow.lt hMe.1 g hg).2
      have hwr : L2 ≤ wr.heap.size := by rw [← H2.out.2.2.2.2.2]; exact hOn.size
      have hcnt : cnt < maxLen := by have := hW.cle; unfold maxLen; omega
      have HW := Lib.hid (And.intro hW (And.intro hMe (And.intro hOn (And.intro hvm hwr))))
      have HST := Lib.hid (And.intro hR (And.intro hR1 (And.intro hself (And.intro hnext (And.intro hps (And.intro hinew (And.intro hql (And.intro hl4 hbs))))))))
      have HKI := Lib.hid (key1_of (x := (i : Int)) (by omega))
      have HIN := Lib.hid hiN
      have HQK := Lib.hid hqk
      clear hW hMe hOn hvm hwr hR hR1 hself hnext hps hinew hql ei est HI hl4 hbs hqk
      go_wp2_with (at_mapUpdate; refine wpList_mapUpdate_own _ rfl _ _ _ 89 rfl 3 22 lawI Tryd.underlying89 slR (hc + 1) cnt D rfl (HW.out.1.own.alloc _) hcnt _ _ _ rfl rfl HKI.out (encS (.slice (some ⟨wr.heap.size, 0, none⟩) 1 1)) [] rfl ?_; intro w3 hown3 hg3; have H3' := Lib.hid (And.intro hown3 hg3); clear hown3 hg3)
      have hO3 : Only (fun x => x = hc + 1) wr w3 := (((Grew.refl wr).alloc _).only (S := fun x => x = hc + 1)).trans ((grownBy_some H3'.out.2).only (S := fun x => x = hc + 1) fun x h1 h2 => by omega) fun _ _ h => h
      have H3 : Hid (∃ f M D cnt, WInv (fun g => L2 ≤ g) (hc + 1) (6 * k + 1) st.1 (presB ord (k + 1)) (.slice am ql cm) f M D cnt w3 ∧ MeetO 58 L2 w3.heap.size w3 (.slice am ql cm) st.2 ∧ Only (fun x => x = hc + 1) w2 w3 ∧ L2 ≤ w3.heap.size) :=
        Lib.hid ⟨_, _, _, _, (HW.out.1.add HST.out.1 HST.out.2.2.2.2.2.1 HW.out.2.2.2.2 (by omega) HW.out.2.2.2.1 H3'.out.1 H3'.out.2).congr rfl (fun c => (HST.out.2.2.2.2.1 c).symm), (HW.out.2.1.only hO3 fun g hg => by have := HW.out.1.vml g hg; omega).wide (Nat.le_refl _) hO3.size, HW.out.2.2.1.trans hO3 fun _ _ h => h, Nat.le_trans HW.out.2.2.2.2 hO3.size⟩
      clear hO3 H3' hcnt HW
      obtain ⟨pr, epr⟩ : ∃ pr, presB ord (k + 1) = pr := ⟨_, rfl⟩
      have HEP := Lib.hid epr
      have HPR : Hid (∀ c, pr c = true → c < N) := Lib.hid (by rw [← epr]; exact HPL.out (k + 1))
      rw [epr] at H3 HST
      clear epr
      go_wp2_with (fail)
      refine (HBS.out i w3 (HGW.out _ H3.out.choose_spec.choose_spec.choose_spec.choose_spec.2.2.1) HIN.out).mono ?_
      rintro e w4 ⟨a4, c4, rfl, hO4, hg4⟩
      obtain ⟨ar, ear⟩ : ∃ ar, aroundL n m i = ar := ⟨_, rfl⟩
      rw [ear] at HST hO4 ⊢
      obtain ⟨l, el⟩ : ∃ l, ar.length = l := ⟨_, rfl⟩
      obtain ⟨s3, es3⟩ : ∃ s3, w3.heap.size = s3 := ⟨_, rfl⟩
      obtain ⟨s4, es4⟩ : ∃ s4, w4.heap.size = s4 := ⟨_, rfl⟩
      have hA4 : 0 < l → ∃ g4, a4 = some ⟨g4, 0, none⟩ ∧ s3 ≤ g4 ∧ g4 < s4 ∧ ∀ t, t < l → w4.cell? ⟨g4, t, none⟩ = some (.int .i64 (ar.getD t 0)) := fun h0 => by
        obtain ⟨g4, cc4, e4, x1, x2, _, _⟩ := hO4.pos (by omega)
        simp only [Value.slice.injEq] at e4
        obtain ⟨rfl, _, rfl⟩ := e4
        exact ⟨g4, rfl, by omega, by omega, fun t ht => (hO4.at rfl (by omega)).1⟩
      have hs34 : s3 ≤ s4 := by have := hg4.size; omega
      have H4 : Hid (∃ f M D cnt, WInv (fun g => L2 ≤ g ∧ (g < s3 ∨ s4 ≤ g)) (hc + 1) (6 * k + 1) st.1 pr (.slice am ql cm) f M D cnt w4 ∧ MeetO 58 L2 w4.heap.size w4 (.slice am ql cm) st.2 ∧ Only (fun x => x = hc + 1) w2 w4) := by
        obtain ⟨f, M, D, cnt, h1, h2, h3, h4⟩ := H3.out
        exact Lib.hid ⟨f, M, D, cnt, (h1.pred (fun g hg => (World.ownsRow.lt h2.1 g hg).2) (fun g hL hlt => ⟨hL, .inl (by omega)⟩)).grew hg4, (h2.grew hg4).wide (Nat.le_refl _) hg4.size, h3.trans hg4.only fun _ _ h => h⟩
      have HA4 := Lib.hid hA4
      have hL23 : L2 ≤ s3 := by have := H3.out.choose_spec.choose_spec.choose_spec.choose_spec.2.2.2; omega
      have HEL := Lib.hid (And.intro el (And.intro es4 HST.out.2.2.2.2.2.2.2.1))
      have hl4 : l ≤ 4 := by rw [← el]; exact HST.out.2.2.2.2.2.2.2.1
      have HBB : Hid (∀ t, t < l → ∃ b : Nat, ar.getD t 0 = (b : Int) ∧ b < N) := Lib.hid fun t ht => HST.out.2.2.2.2.2.2.2.2 t (by rw [el]; exact ht)
      have HRJ : Hid (∀ j, RI (meetN p pr i ar st j).1 pr) := Lib.hid fun j => meetN_RI HST.out.2.1 HST.out.2.2.1 j
      have hi0 : st.1 i = i := HST.out.1.out i HST.out.2.2.2.2.2.1
      have hnx : meetTo p n m ord (k + 1) = meetN p pr i ar st l := by rw [HST.out.2.2.2.1, el]
      have hpi : pr i = true := HST.out.2.2.1
      have hql0 : ql = st.2.length := HST.out.2.2.2.2.2.2.1
      have HNX := Lib.hid (And.intro hnx (And.intro hpi hql0))
      rw [el]
      clear hO4 hg4 ear el es3 es4 hA4 H3 HST hnx hpi hql0
      go_wp2_with (fail)
      go_loopw [6, 9, 38] (fun m' o' j' wr => ∃ (j : Nat) (am : Option Addr) (ql cm : Nat), j ≤ l ∧ j' = .int .i64 j ∧ o' = .int .i64 ((meetN p pr i ar st j).1 i : Nat) ∧ m' = .slice am ql cm ∧ Hid (ql = (meetN p pr i ar st j).2.length ∧ ql ≤ 4 * k + j ∧ ∃ f M D cnt, WInv (fun g => L2 ≤ g ∧ (g < s3 ∨ s4 ≤ g)) (hc + 1) (6 * k + 1 + j) (meetN p pr i ar st j).1 pr (.slice am ql cm) f M D cnt wr ∧ MeetO 58 L2 wr.heap.size wr (.slice am ql cm) (meetN p pr i ar st j).2 ∧ Only (fun x => x = hc + 1) w2 wr ∧ Only (fun x => x = hc + 1 ∨ (L2 ≤ x ∧ x < s3)) w4 wr)) (fun _ _ j' _ => l - (intOf j').toNat)
      case atStart => exact ⟨0, am, ql, cm, Nat.zero_le _, rfl, by rw [show (meetN p pr i ar st 0).1 i = st.1 i from rfl, hi0], rfl, HNX.out.2.2, by have := HQK.out; omega, by
        obtain ⟨f, M, D, cnt, h1, h2, h3⟩ := H4.out
        exact ⟨f, M, D, cnt, h1, h2, h3, Only.refl _ _⟩⟩
      case round =>
        obtain ⟨j, am, ql, cm, hj, rfl, rfl, rfl, HJ⟩ := hrel
        by_cases hjl : j < l
        · obtain ⟨b, eb, hbN⟩ := HBB.out j hjl
          obtain ⟨g4, rfl, y1, y2, hcell4⟩ := HA4.out (by omega)
          obtain ⟨hqj, hqb, f, M, D, cnt, hW, hMe, hOn, hOn4⟩ := HJ.out
          have hcb := hOn4.cell (hcell4 j hjl) (show ¬ (g4 = hc + 1 ∨ (L2 ≤ g4 ∧ g4 < s3)) by omega)
          rw [eb] at hcb
          have hRj := HRJ.out j
          have hnj : meetN p pr i ar st (j + 1) = meetB p pr i (meetN p pr i ar st j) b := by rw [meetN, eb, Int.toNat_natCast]
          obtain ⟨sj, esj⟩ : ∃ sj, meetN p pr i ar st j = sj := ⟨_, rfl⟩
          rw [esj] at hqj hW hMe hRj hnj ⊢
          obtain ⟨hbg1, hbg2⟩ := hW.begin_ok hRj HPR.out hN25 b
          have HBG : Hid (Calls Tryd.prog 98 #[.map (some (hc + 1)), .int .i64 b] wr fun e w' => e = .returned (.tuple #[.int .i64 (if pr b = true then (sj.1 b : Int) else 0), .bool (pr b)]) ∧ Grew wr w') :=
            Lib.hid (beginningOf_any (hc + 1) cnt D f M b _ (pr b) wr hW.own hW.is (fun x v hv => ⟨(hbg1 x v hv).1, Nat.le_trans (hbg1 x v hv).2 (by decide)⟩) (by
              cases hpb : pr b with
              | true => rw [hpb] at hbg2; rw [if_pos rfl] at hbg2 ⊢; rw [if_pos rfl]; exact hbg2
              | false => rw [hpb] at hbg2; rw [if_neg (by simp)] at hbg2 ⊢; exact hbg2) (fun hf => by rw [hf, if_neg (by simp)]))
          have hLq : ∀ W : World, Only (fun x => x = hc + 1 ∨ (L2 ≤ x ∧ x < s3)) w4 W → ∀ g, W.heap.size ≤ g → L2 ≤ g ∧ (g < s3 ∨ s4 ≤ g) := fun W hO g hg => by
            have := hO.size
            have := HEL.out.2.1
            omega
          have HLQ := Lib.hid hLq
          have HWJ := Lib.hid (And.intro hW (And.intro hMe (And.intro hOn (And.intro hOn4 (And.intro hRj (And.intro hnj (And.intro hqj hqb)))))))
          clear hbg1 hbg2 hLq hW hMe hOn hOn4 hRj hnj hqj hqb esj eb HJ hcell4
          go_wp2_with (fail)
          refine HBG.out.mono ?_
          rintro e w5 ⟨rfl, hg5⟩
          have HG5 := Lib.hid hg5
          clear hg5 HBG
          cases hpb : pr b with
          | false =>
            have HN : Hid (meetN p pr i ar st (j + 1) = sj) := Lib.hid (by rw [HWJ.out.2.2.2.2.2.1]; unfold meetB; rw [if_neg (fun h => by rw [hpb] at h; cases h.1)])
            clear hpb
            go_wp2_with (fail)
            go_roundw
            case rel => exact ⟨j + 1, am, ql, cm, by omega, by first | rfl | go_num, by rw [HN.out], rfl, by rw [HN.out]; exact HWJ.out.2.2.2.2.2.2.1, by have := HWJ.out.2.2.2.2.2.2.2; omega, by
              rw [HN.out]
              exact ⟨f, M, D, cnt, (HWJ.out.1.grew HG5.out).mono (by omega), (HWJ.out.2.1.grew HG5.out).wide (Nat.le_refl _) HG5.out.size, HWJ.out.2.2.1.trans HG5.out.only fun _ _ h => h, HWJ.out.2.2.2.1.trans HG5.out.only fun _ _ h => h⟩⟩
            case measure => simp [intOf]; omega
          | true =>
            obtain ⟨rb, erb⟩ : ∃ rb, sj.1 b = rb := ⟨_, rfl⟩
            obtain ⟨ri, eri⟩ : ∃ ri, sj.1 i = ri := ⟨_, rfl⟩
            have hpi := HNX.out.2.1
            have hprb : pr rb = true := by rw [← erb]; exact HWJ.out.2.2.2.2.1.pres b hpb
            have hpri : pr ri = true := by rw [← eri]; exact HWJ.out.2.2.2.2.1.pres i hpi
            have hidb : sj.1 rb = rb := by rw [← erb]; exact HWJ.out.2.2.2.2.1.idem b
            have hidi : sj.1 ri = ri := by rw [← eri]; exact HWJ.out.2.2.2.2.1.idem i
            have hrbN := HPR.out rb hprb
            have hriN := HPR.out ri hpri
            rw [erb, eri]
            by_cases hrr : rb = ri
            · have HN : Hid (meetN p pr i ar st (j + 1) = sj) := Lib.hid (by rw [HWJ.out.2.2.2.2.2.1]; unfold meetB; rw [if_neg (fun h => h.2 (by rw [erb, eri]; exact hrr))])
              have e1 : ((rb : Int) == (ri : Int)) = true := by simp [hrr]
              have HERI := Lib.hid eri
              clear hrr hpi hprb hpri hidb hidi erb eri
              go_wp2_with (fail)
              go_roundw
              case rel => exact ⟨j + 1, am, ql, cm, by omega, by first | rfl | go_num, by rw [HN.out, HERI.out], rfl, by rw [HN.out]; exact HWJ.out.2.2.2.2.2.2.1, by have := HWJ.out.2.2.2.2.2.2.2; omega, by
                rw [HN.out]
                exact ⟨f, M, D, cnt, (HWJ.out.1.grew HG5.out).mono (by omega), (HWJ.out.2.1.grew HG5.out).wide (Nat.le_refl _) HG5.out.size, HWJ.out.2.2.1.trans HG5.out.only fun _ _ h => h, HWJ.out.2.2.2.1.trans HG5.out.only fun _ _ h => h⟩⟩
              case measure => simp [intOf]; omega
            · have e1 : ((rb : Int) == (ri : Int)) = false := beq_eq_false_iff_ne.2 (by omega)
              have hOn5 : Only (fun x => x = hc + 1) w2 w5 := HWJ.out.2.2.1.trans HG5.out.only fun _ _ h => h
              have hiv5 : IntsV w5 (.slice (some ⟨g1, 0, none⟩) N c1) p := by
                obtain ⟨a', b', o', c', e', hl', hcc'⟩ := H2.out.2.1
                refine ⟨a', b', o', c', e', hl', fun t ht => ⟨(hcc' t ht).1, ?_⟩⟩
                have ea := (hcc' t ht).1
                simp only [Value.slice.injEq] at e'
                rw [ea] at e'
                simp only [Option.some.injEq, Addr.mk.injEq] at e'
                obtain ⟨⟨rfl, _⟩, _⟩ := e'
                exact hOn5.cell (hcc' t ht).2 (by show ¬ g1 = hc + 1; omega)
              have HOG := Lib.hid (order_gg hc g1 c1 N rb ri p w5 (hOn5.cell H2.out.2.2.1 (by show ¬ hc = hc + 1; omega)) hiv5 HEN.out hrbN hriN)
              have HNE := Lib.hid hrr
              have hneg := risingC_neg (p := p) (a := rb) (b := ri)
              obtain ⟨rr, err⟩ : ∃ rr, risingC p rb ri = rr := ⟨_, rfl⟩
              rw [err] at HOG hneg
              have HRT := Lib.hid (And.intro erb (And.intro eri (And.intro hpi (And.intro hprb (And.intro hpri (And.intro hidb (And.intro hidi hpb)))))))
              clear hrr hiv5 hOn5 err hpi hprb hpri hidb hidi erb eri
              cases hah : ahead p rb ri with
              | true =>
                have hd : decide (rr < 0) = true := decide_eq_true (hneg.2 hah)
                have HMB : Hid (meetN p pr i ar st (j + 1) = (joinR sj.1 ri rb, sj.2 ++ [(ri, rb, p.getD i 0)])) := Lib.hid (by
                  rw [HWJ.out.2.2.2.2.2.1]; unfold meetB
                  rw [if_pos ⟨HRT.out.2.2.2.2.2.2.2, by rw [HRT.out.1, HRT.out.2.1]; exact HNE.out⟩, HRT.out.1, HRT.out.2.1, if_neg (by rw [ahead_asymm hah]; simp)])
                clear hneg hah
                go_wp2_with (fail)
                refine HOG.out.mono ?_
                rintro e w6 ⟨rfl, hg6⟩
                have HG6 := Lib.hid (HG5.out.trans hg6.grew)
                clear hg6 HOG
                have hW6 := HWJ.out.1.grew HG6.out
                obtain ⟨ve, hve⟩ := Option.isSome_iff_exists.1 ((hW6.key (rb : Int)).2 ⟨rb, rfl, HRT.out.2.2.2.1, HRT.out.2.2.2.2.2.1⟩)
                obtain ⟨vl, hvl⟩ := Option.isSome_iff_exists.1 ((hW6.key (ri : Int)).2 ⟨ri, rfl, HRT.out.2.2.2.2.1, HRT.out.2.2.2.2.2.2.1⟩)
                obtain ⟨ge, ce, rfl, hoe, hle, hme⟩ := hW6.row _ _ hve
                obtain ⟨gl, cl, rfl, hol, hll, hml⟩ := hW6.row _ _ hvl
                have hle25 := ((hW6.begin_ok HWJ.out.2.2.2.2.1 HPR.out hN25 b).1 _ _ hve).2
                have hll25 := ((hW6.begin_ok HWJ.out.2.2.2.2.1 HPR.out hN25 b).1 _ _ hvl).2
                have he1 : 0 < (M (rb : Int)).length := List.length_pos_of_mem (((hW6.mem _ _ hve).1 (rb : Int)).2 ⟨rb, rfl, HRT.out.2.2.2.1, by rw [HRT.out.2.2.2.2.2.1]⟩)
                have hcle := hW6.cle
                have HJN := Lib.hid (join_any (hc + 1) cnt D f (ri : Int) (rb : Int) ge _ ce gl _ cl (M (rb : Int)) (M (ri : Int)) w6 hW6.own hW6.is (by omega) (by omega) (by omega) hve hvl hoe hol.toV (by omega) he1 (by omega))
                have HW6 := Lib.hid (And.intro hW6 (And.intro hve (And.intro hle hme)))
                clear hW6 hve hvl hoe hle hme hol hll hml hle25 hll25 he1 hcle
                go_wp2_with (fail)
                refine HJN.out.mono ?_
                rintro e w7 ⟨rfl, D', g', c', hown7, his7, hO7, hg7, hOn7⟩
                have hsz6 : wr.heap.size ≤ w6.heap.size := HG6.out.size
                have hvm6 : ∀ g, (Value.slice am ql cm).ownBlock = some g → g < w6.heap.size := fun g hg => by have := (World.ownsRow.lt HWJ.out.2.1.1 g hg).2; omega
                have hW7 := WInv.join HW6.out.1 (l := ri) (e := rb) ⟨HRT.out.2.2.2.2.1, HRT.out.2.2.2.2.2.2.1⟩ ⟨HRT.out.2.2.2.1, HRT.out.2.2.2.2.2.1⟩ (fun h => HNE.out h.symm) (by omega) (HLQ.out w6 (HWJ.out.2.2.2.1.trans HG6.out.only fun _ _ h => h)) hvm6 HW6.out.2.1 rfl hown7 his7 hO7 hg7 hOn7
                have hL7 := HLQ.out w7 ((HWJ.out.2.2.2.1.trans HG6.out.only fun _ _ h => h).trans hOn7 fun x hx h => by
                  have h1 := HW6.out.2.2.1
                  have h2 := HEL.out.2.1
                  rcases h with h | h
                  · exact .inl h
                  · exact .inr (by omega))
                have hMe7 : MeetO 58 L2 w7.heap.size w7 (.slice am ql cm) sj.2 := ((HWJ.out.2.1.grew HG6.out).only hOn7 fun g hg => by
                  have h1 := HWJ.out.1.vml g hg
                  rintro (h | h)
                  · omega
                  · exact HW6.out.2.2.2 (by rw [hg, h])).wide (Nat.le_refl _) (Nat.le_trans hsz6 hOn7.size)
                have hOn27 : Only (fun x => x = hc + 1) w2 w7 := (HWJ.out.2.2.1.trans HG6.out.only fun _ _ h => h).trans hOn7 fun x hx h => by
                  have h1 := HW6.out.2.2.1
                  have h2 := H2.out.2.2.2.2.2
                  omega
                have hOn47 : Only (fun x => x = hc + 1 ∨ (L2 ≤ x ∧ x < s3)) w4 w7 := (HWJ.out.2.2.2.1.trans HG6.out.only fun _ _ h => h).trans hOn7 fun x hx h => by
                  have h1 := HW6.out.2.2.1
                  have h2 := HEL.out.2.1
                  rcases h with h | h
                  · exact .inl h
                  · exact .inr (by omega)
                have h7c := hOn27.cell H2.out.2.2.1 (show ¬ hc = hc + 1 by omega)
                have h7p := hOn27.cell (NumsV.at H2.out.2.1 i (by rw [HEN.out]; exact HIN.out)) (show ¬ g1 = hc + 1 by omega)
                have hq7 : sj.2.length + 1 ≤ 1000000 := by have := HWJ.out.2.2.2.2.2.2.1; have := HWJ.out.2.2.2.2.2.2.2; omega
                have hb7 : L2 ≤ w7.heap.size := by have := hOn27.size; have := H2.out.2.2.2.2.2; omega
                have r5 : (i : Int) < N := by have := HIN.out; omega
                have r6 : (0 : Int) ≤ i := by omega
                obtain ⟨x, ex⟩ : ∃ x, p.getD i 0 = x := ⟨_, rfl⟩
                rw [ex] at h7p
                rw [ex] at HMB
                have H7 := Lib.hid (And.intro hW7 (And.intro hMe7 (And.intro hOn27 (And.intro hOn47 hL7))))
                clear hW7 hMe7 hOn27 hOn47 hL7 hown7 his7 hO7 hg7 hOn7 hsz6 hvm6 ex
                go_wp2_with (at_builtin; refine wpList_append_meet rfl (.tmp 68) (.tmp 76) 55 rfl Tryd.underlying55 Tryd.infoMeet (ri, rb, x) rfl rfl rfl H7.out.2.1 hq7 hb7 ?_; intro g8 c8 w8 hM8 hO8 hg8; have H8 := Lib.hid (And.intro hM8 (And.intro hO8 hg8)); clear hM8 hO8 hg8)
                have HF : Hid (∃ f M D cnt, WInv (fun g => L2 ≤ g ∧ (g < s3 ∨ s4 ≤ g)) (hc + 1) (6 * k + 1 + (j + 1)) (joinR sj.1 ri rb) pr (.slice (some ⟨g8, 0, none⟩) (sj.2.length + 1) c8) f M D cnt w8 ∧ MeetO 58 L2 w8.heap.size w8 (.slice (some ⟨g8, 0, none⟩) (sj.2.length + 1) c8) (sj.2 ++ [(ri, rb, x)]) ∧ Only (fun x => x = hc + 1) w2 w8 ∧ Only (fun x => x = hc + 1 ∨ (L2 ≤ x ∧ x < s3)) w4 w8) := by
                  have hv7 : ∀ g, (Value.slice am ql cm).ownBlock = some g → L2 ≤ g ∧ (g < s3 ∨ s4 ≤ g) := HWJ.out.1.vml
                  refine Lib.hid ⟨_, _, _, _, H7.out.1.meet H8.out.2.1 (by omega) H8.out.2.2 H7.out.2.2.2.2, H8.out.1, H7.out.2.2.1.trans H8.out.2.1 fun y hy h => ?_, H7.out.2.2.2.1.trans H8.out.2.1 fun y hy h => ?_⟩
                  · have := hv7 y h
                    have := H2.out.2.2.2.2.2
                    omega
                  · have := hv7 y h
                    have := HEL.out.2.1
                    exact .inr (by omega)
                have HOWN : Hid (rb = (meetN p pr i ar st (j + 1)).1 i) := Lib.hid (by
                  rw [HMB.out]
                  show rb = joinR sj.1 ri rb i
                  unfold joinR
                  rw [HRT.out.2.1]
                  rw [if_pos rfl])
                go_roundw
                case rel => exact ⟨j + 1, some ⟨g8, 0, none⟩, sj.2.length + 1, c8, by omega, by first | rfl | go_num, by rw [← HOWN.out], rfl, by rw [HMB.out]; simp, by have := HWJ.out.2.2.2.2.2.2.1; have := HWJ.out.2.2.2.2.2.2.2; omega, by
                  rw [HMB.out]
                  exact HF.out⟩
                case measure => simp [intOf]; omega
              | false =>
                have hd : decide (rr < 0) = false := decide_eq_false (fun h => by rw [hneg.1 h] at hah; cases hah)
                have hah2 : ahead p ri rb = true := by
                  cases h : ahead p ri rb with
                  | true => rfl
                  | false => exact absurd (ahead_total hah h) HNE.out
                have HMB : Hid (meetN p pr i ar st (j + 1) = (joinR sj.1 rb ri, sj.2 ++ [(rb, ri, p.getD i 0)])) := Lib.hid (by
                  rw [HWJ.out.2.2.2.2.2.1]; unfold meetB
                  rw [if_pos ⟨HRT.out.2.2.2.2.2.2.2, by rw [HRT.out.1, HRT.out.2.1]; exact HNE.out⟩, HRT.out.1, HRT.out.2.1, if_pos hah2])
                clear hneg hah hah2
                go_wp2_with (fail)
                refine HOG.out.mono ?_
                rintro e w6 ⟨rfl, hg6⟩
                have HG6 := Lib.hid (HG5.out.trans hg6.grew)
                clear hg6 HOG
                have hW6 := HWJ.out.1.grew HG6.out
                obtain ⟨ve, hve⟩ := Option.isSome_iff_exists.1 ((hW6.key (ri : Int)).2 ⟨ri, rfl, HRT.out.2.2.2.2.1, HRT.out.2.2.2.2.2.2.1⟩)
                obtain ⟨vl, hvl⟩ := Option.isSome_iff_exists.1 ((hW6.key (rb : Int)).2 ⟨rb, rfl, HRT.out.2.2.2.1, HRT.out.2.2.2.2.2.1⟩)
                obtain ⟨ge, ce, rfl, hoe, hle, hme⟩ := hW6.row _ _ hve
                obtain ⟨gl, cl, rfl, hol, hll, hml⟩ := hW6.row _ _ hvl
                have hle25 := ((hW6.begin_ok HWJ.out.2.2.2.2.1 HPR.out hN25 b).1 _ _ hve).2
                have hll25 := ((hW6.begin_ok HWJ.out.2.2.2.2.1 HPR.out hN25 b).1 _ _ hvl).2
                have he1 : 0 < (M (ri : Int)).length := List.length_pos_of_mem (((hW6.mem _ _ hve).1 (ri : Int)).2 ⟨ri, rfl, HRT.out.2.2.2.2.1, by rw [HRT.out.2.2.2.2.2.2.1]⟩)
                have hcle := hW6.cle
                have HJN := Lib.hid (join_any (hc + 1) cnt D f (rb : Int) (ri : Int) ge _ ce gl _ cl (M (ri : Int)) (M (rb : Int)) w6 hW6.own hW6.is (by omega) (by omega) (by omega) hve hvl hoe hol.toV (by omega) he1 (by omega))
                have HW6 := Lib.hid (And.intro hW6 (And.intro hve (And.intro hle hme)))
                clear hW6 hve hvl hoe hle hme hol hll hml hle25 hll25 he1 hcle
                go_wp2_with (fail)
                refine HJN.out.mono ?_
                rintro e w7 ⟨rfl, D', g', c', hown7, his7, hO7, hg7, hOn7⟩
                have hsz6 : wr.heap.size ≤ w6.heap.size := HG6.out.size
                have hvm6 : ∀ g, (Value.slice am ql cm).ownBlock = some g → g < w6.heap.size := fun g hg => by have := (World.ownsRow.lt HWJ.out.2.1.1 g hg).2; omega
                have hW7 := WInv.join HW6.out.1 (l := rb) (e := ri) ⟨HRT.out.2.2.2.1, HRT.out.2.2.2.2.2.1⟩ ⟨HRT.out.2.2.2.2.1, HRT.out.2.2.2.2.2.2.1⟩ HNE.out (by omega) (HLQ.out w6 (HWJ.out.2.2.2.1.trans HG6.out.only fun _ _ h => h)) hvm6 HW6.out.2.1 rfl hown7 his7 hO7 hg7 hOn7
                have hL7 := HLQ.out w7 ((HWJ.out.2.2.2.1.trans HG6.out.only fun _ _ h => h).trans hOn7 fun x hx h => by
                  have h1 := HW6.out.2.2.1
                  have h2 := HEL.out.2.1
                  rcases h with h | h
                  · exact .inl h
                  · exact .inr (by omega))
                have hMe7 : MeetO 58 L2 w7.heap.size w7 (.slice am ql cm) sj.2 := ((HWJ.out.2.1.grew HG6.out).only hOn7 fun g hg => by
                  have h1 := HWJ.out.1.vml g hg
                  rintro (h | h)
                  · omega
                  · exact HW6.out.2.2.2 (by rw [hg, h])).wide (Nat.le_refl _) (Nat.le_trans hsz6 hOn7.size)
                have hOn27 : Only (fun x => x = hc + 1) w2 w7 := (HWJ.out.2.2.1.trans HG6.out.only fun _ _ h => h).trans hOn7 fun x hx h => by
                  have h1 := HW6.out.2.2.1
                  have h2 := H2.out.2.2.2.2.2
                  omega
                have hOn47 : Only (fun x => x = hc + 1 ∨ (L2 ≤ x ∧ x < s3)) w4 w7 := (HWJ.out.2.2.2.1.trans HG6.out.only fun _ _ h => h).trans hOn7 fun x hx h => by
                  have h1 := HW6.out.2.2.1
                  have h2 := HEL.out.2.1
                  rcases h with h | h
                  · exact .inl h
                  · exact .inr (by omega)
                have h7c := hOn27.cell H2.out.2.2.1 (show ¬ hc = hc + 1 by omega)
                have h7p := hOn27.cell (NumsV.at H2.out.2.1 i (by rw [HEN.out]; exact HIN.out)) (show ¬ g1 = hc + 1 by omega)
                have hq7 : sj.2.length + 1 ≤ 1000000 := by have := HWJ.out.2.2.2.2.2.2.1; have := HWJ.out.2.2.2.2.2.2.2; omega
                have hb7 : L2 ≤ w7.heap.size := by have := hOn27.size; have := H2.out.2.2.2.2.2; omega
                have r5 : (i : Int) < N := by have := HIN.out; omega
                have r6 : (0 : Int) ≤ i := by omega
                obtain ⟨x, ex⟩ : ∃ x, p.getD i 0 = x := ⟨_, rfl⟩
                rw [ex] at h7p
                rw [ex] at HMB
                have H7 := Lib.hid (And.intro hW7 (And.intro hMe7 (And.intro hOn27 (And.intro hOn47 hL7))))
                clear hW7 hMe7 hOn27 hOn47 hL7 hown7 his7 hO7 hg7 hOn7 hsz6 hvm6 ex
                go_wp2_with (at_builtin; refine wpList_append_meet rfl (.tmp 68) (.tmp 76) 55 rfl Tryd.underlying55 Tryd.infoMeet (rb, ri, x) rfl rfl rfl H7.out.2.1 hq7 hb7 ?_; intro g8 c8 w8 hM8 hO8 hg8; have H8 := Lib.hid (And.intro hM8 (And.intro hO8 hg8)); clear hM8 hO8 hg8)
                have HF : Hid (∃ f M D cnt, WInv (fun g => L2 ≤ g ∧ (g < s3 ∨ s4 ≤ g)) (hc + 1) (6 * k + 1 + (j + 1)) (joinR sj.1 rb ri) pr (.slice (some ⟨g8, 0, none⟩) (sj.2.length + 1) c8) f M D cnt w8 ∧ MeetO 58 L2 w8.heap.size w8 (.slice (some ⟨g8, 0, none⟩) (sj.2.length + 1) c8) (sj.2 ++ [(rb, ri, x)]) ∧ Only (fun x => x = hc + 1) w2 w8 ∧ Only (fun x => x = hc + 1 ∨ (L2 ≤ x ∧ x < s3)) w4 w8) := by
                  have hv7 : ∀ g, (Value.slice am ql cm).ownBlock = some g → L2 ≤ g ∧ (g < s3 ∨ s4 ≤ g) := HWJ.out.1.vml
                  refine Lib.hid ⟨_, _, _, _, H7.out.1.meet H8.out.2.1 (by omega) H8.out.2.2 H7.out.2.2.2.2, H8.out.1, H7.out.2.2.1.trans H8.out.2.1 fun y hy h => ?_, H7.out.2.2.2.1.trans H8.out.2.1 fun y hy h => ?_⟩
                  · have := hv7 y h
                    have := H2.out.2.2.2.2.2
                    omega
                  · have := hv7 y h
                    have := HEL.out.2.1
                    exact .inr (by omega)
                have HOWN : Hid (ri = (meetN p pr i ar st (j + 1)).1 i) := Lib.hid (by
                  rw [HMB.out]
                  show ri = joinR sj.1 rb ri i
                  unfold joinR
                  rw [HRT.out.2.1]
                  rw [if_neg (fun h => HNE.out h.symm)])
                go_roundw
                case rel => exact ⟨j + 1, some ⟨g8, 0, none⟩, sj.2.length + 1, c8, by omega, by first | rfl | go_num, by rw [← HOWN.out], rfl, by rw [HMB.out]; simp, by have := HWJ.out.2.2.2.2.2.2.1; have := HWJ.out.2.2.2.2.2.2.2; omega, by
                  rw [HMB.out]
                  exact HF.out⟩
                case measure => simp [intOf]; omega
        · obtain rfl : j = l := by omega
          have HF : Hid (ql = (meetTo p n m ord (k + 1)).2.length ∧ ql ≤ 4 * (k + 1) ∧ ∃ f M D cnt, WInv (fun g => L2 ≤ g) (hc + 1) (6 * (k + 1)) (meetTo p n m ord (k + 1)).1 (presB ord (k + 1)) (.slice am ql cm) f M D cnt wr ∧ MeetO 58 L2 wr.heap.size wr (.slice am ql cm) (meetTo p n m ord (k + 1)).2 ∧ Only (fun x => x = hc + 1) w2 wr) := by
            obtain ⟨h1, h2, f, M, D, cnt, h3, h4, h5, _⟩ := HJ.out
            rw [HNX.out.1, HEP.out]
            exact Lib.hid ⟨h1, by omega, f, M, D, cnt, (h3.pred (fun g hg => (World.ownsRow.lt h4.1 g hg).2) (fun g hL _ => hL.1)).mono (by omega), h4, h5⟩
          go_wp2_with (fail)
          go_roundw
          case rel => exact ⟨k + 1, am, ql, cm, by omega, by first | rfl | go_num, rfl, HF.out⟩
          case measure => simp [intOf]; omega
    · obtain rfl : k = N := by omega
      have HF : Hid (MeetO 58 w.heap.size wr.heap.size wr (.slice am ql cm) (meetTo p n m ord k).2 ∧ Grew w wr) := by
        obtain ⟨h1, _, f, M, D, cnt, h3, h4, h5⟩ := HI.out
        exact Lib.hid ⟨h4.wide (by have := H2.out.2.2.2.1.size; have := H2.out.2.2.2.2.2; omega) (Nat.le_refl _), HGW.out _ h5⟩
      go_wp2_with (fail)
      go_ret
      exact ⟨_, rfl, HF.out.1, HF.out.2⟩
end Go.Proofs.YtaeenedjmakelaaDoor
/- The sum of the meetings' heights and the least tree, by the numbers of pieces that stand at each height. -/
namespace Go.Proofs.YtaeenedjmakelaaDoor
open Go.RowKit

theorem rt_back {N : Nat} {T : Nat → Nat → Bool} {B : Nat → Bool} {i j : Nat} (hT : ∀ a b, T a b = T b a) (hi : i < N) (hb : B i = true) (h : RT N T B i j) : RT N T B j i ∧ j < N ∧ B j = true := by
  induction h with
  | refl => exact ⟨.refl, hi, hb⟩
  | @step j k _ hk hbk hTk ih => exact ⟨(RT.step .refl ih.2.1 ih.2.2 (by rw [hT]; exact hTk)).trans ih.1, hk, hbk⟩
def edgeChk (n m : Nat) : Bool := (List.range (n * m)).all fun i => edgeL n m i == (decide (i / m = 0) || decide (i / m + 1 = n) || decide (i % m = 0) || decide (i % m + 1 = m))
def tT (p : List Int) (m : Nat) (t : Int) (c d : Nat) : Bool := touchS m c d && (decide (p.getD c 0 ≤ t) && decide (p.getD d 0 ≤ t))
def allB : Nat → Bool := fun _ => true
noncomputable def kN (p : List Int) (m N : Nat) (t : Int) : Int := cntT N (tT p m t) allB N
def rootsN (rt : Nat → Nat) (N : Nat) : Int := sumTo (fun c => if rt c = c then 1 else 0) N
def GS (rt : Nat → Nat) (N : Nat) : Prop := ∀ c, c < N → rt c < N ∧ rt (rt c) = rt c
theorem touchS_symm' (m i k : Nat) : touchS m i k = touchS m k i := by
  unfold touchS
  congr 1
  rw [show ((i / m : Nat) : Int) - (k / m : Nat) = -(((k / m : Nat) : Int) - (i / m : Nat)) by omega, show ((i % m : Nat) : Int) - (k % m : Nat) = -(((k % m : Nat) : Int) - (i % m : Nat)) by omega, Int.neg_mul_neg, Int.neg_mul_neg]
theorem tT_symm (p : List Int) (m : Nat) (t : Int) (a b : Nat) : tT p m t a b = tT p m t b a := by
  unfold tT
  rw [touchS_symm' m a b, Bool.and_comm (decide (p.getD a 0 ≤ t))]
theorem sumTo_one {y : Nat} : ∀ N, y < N → sumTo (fun c => if c = y then 1 else 0) N = 1
  | 0, h => absurd h (Nat.not_lt_zero _)
  | N + 1, h => by
    rw [sumTo]
    by_cases e : N = y
    · subst e
      rw [if_pos rfl, sumTo_congr (g := fun _ => 0) fun i hi => if_neg (by omega), sumTo_zero]; rfl
    · rw [if_neg e, sumTo_one N (by omega)]; rfl
theorem roots_join {rt : Nat → Nat} {N y e : Nat} (hy : y < N) (ry : rt y = y) (re : rt e = e) (hne : y ≠ e) : rootsN (joinR rt y e) N = rootsN rt N - 1 := by
  unfold rootsN
  have h1 := sumTo_one N hy
  have h2 := sumTo_sub (fun c => if rt c = c then 1 else 0) (fun c => if c = y then 1 else 0) N
  rw [h1] at h2
  rw [← h2]
  clear h1 h2
  refine sumTo_congr fun c _ => ?_
  unfold joinR
  by_cases ec : c = y
  · subst ec
    rw [if_pos ry, if_neg (fun h => hne h.symm), if_pos ry, if_pos rfl]; rfl
  · rw [if_neg ec]
    by_cases e2 : rt c = y
    · rw [if_pos e2, if_neg (fun h => by rw [← h, re] at e2; exact hne e2.symm), if_neg (fun h => ec (by rw [← h, e2]))]; rfl
    · rw [if_neg e2]; omega
theorem lead_ex {N : Nat} {T : Nat → Nat → Bool} : ∀ (k x : Nat), x ≤ k → x < N → ∃ y, y < N ∧ LeadT N T allB y ∧ RT N T allB y x := by
  intro k
  induction k with
  | zero =>
    intro x hx hN
    refine ⟨x, hN, ⟨rfl, fun ⟨c, hc, _⟩ => by omega⟩, .refl⟩
  | succ k ih =>
    intro x hx hN
    by_cases ho : OldT N T allB x x
    · obtain ⟨c, hc, _, hr⟩ := ho
      obtain ⟨y, h1, h2, h3⟩ := ih c (by omega) (by omega)
      exact ⟨y, h1, h2, h3.trans hr⟩
    · exact ⟨x, hN, ⟨rfl, ho⟩, .refl⟩
theorem rootsN_len (rt : Nat → Nat) : ∀ N, rootsN rt N = (((List.range N).filter fun c => decide (rt c = c)).length : Int)
  | 0 => rfl
  | N + 1 => by
    have ih := rootsN_len rt N
    unfold rootsN at ih ⊢
    rw [sumTo, ih, List.range_succ, List.filter_append, List.length_append]
    by_cases h : rt N = N
    · simp [h]
    · simp [h]
theorem roots_cnt {N : Nat} {T : Nat → Nat → Bool} {rt : Nat → Nat} (hT : ∀ a b, T a b = T b a) (G : GS rt N) (h : ∀ c d, c < N → d < N → (rt c = rt d ↔ RT N T allB c d)) : rootsN rt N = cntT N T allB N := by
  rw [rootsN_len, leads_len]
  have m1 : ∀ x, x ∈ (List.range N).filter (fun c => decide (rt c = c)) ↔ x < N ∧ rt x = x := fun x => by simp
  have h1 := few_rel (fun x y => RT N T allB x y) ((List.range N).filter fun c => decide (rt c = c)) (leadsL N T allB N) (List.Nodup.sublist List.filter_sublist List.nodup_range) (fun x hx => by
      obtain ⟨hx1, _⟩ := (m1 x).1 hx
      obtain ⟨y, h1, h2, h3⟩ := lead_ex (N := N) (T := T) x x (Nat.le_refl _) hx1
      exact ⟨y, mem_leads.2 ⟨h1, h2⟩, (rt_back hT h1 rfl h3).1⟩) (fun x x' y hx hx' h2 h3 => by
      obtain ⟨a1, a2⟩ := (m1 x).1 hx
      obtain ⟨b1, b2⟩ := (m1 x').1 hx'
      have := (h x x' a1 b1).2 (h2.trans (rt_back hT b1 rfl h3).1)
      rwa [a2, b2] at this)
  have h2 := few_rel (fun y x => RT N T allB y x) (leadsL N T allB N) ((List.range N).filter fun c => decide (rt c = c)) (by unfold leadsL; exact List.Nodup.sublist List.filter_sublist List.nodup_range) (fun y hy => by
      obtain ⟨hy1, _⟩ := mem_leads.1 hy
      obtain ⟨g1, g2⟩ := G y hy1
      exact ⟨rt y, (m1 _).2 ⟨g1, g2⟩, (h y (rt y) hy1 g1).1 g2.symm⟩) (fun y y' x hy hy' h2 h3 => by
      obtain ⟨a1, a2⟩ := mem_leads.1 hy
      obtain ⟨b1, b2⟩ := mem_leads.1 hy'
      have r1 := h2.trans (rt_back hT b1 rfl h3).1
      have r2 := h3.trans (rt_back hT a1 rfl h2).1
      rcases Nat.lt_trichotomy y y' with e | e | e
      · exact absurd ⟨y, e, rfl, r1⟩ b2.2
      · exact e
      · exact absurd ⟨y', e, rfl, r2⟩ a2.2)
  omega
theorem joinR_keep {rt : Nat → Nat} {y e c d : Nat} (h : rt c = rt d) : joinR rt y e c = joinR rt y e d := by unfold joinR; rw [h]
theorem joinR_gs {rt : Nat → Nat} {N y e : Nat} (G : GS rt N) (he : e < N) (re : rt e = e) (hne : y ≠ e) : GS (joinR rt y e) N := fun c hc => by
  unfold joinR
  by_cases h : rt c = y
  · rw [if_pos h, re, if_neg (fun h => hne h.symm)]; exact ⟨he, rfl⟩
  · rw [if_neg h, (G c hc).2, if_neg h]; exact ⟨(G c hc).1, rfl⟩
/-- What is of one water is joined by cells up to t. -/
def SoundT (p : List Int) (m N : Nat) (t : Int) (rt : Nat → Nat) : Prop := ∀ c d, c < N → d < N → rt c = rt d → RT N (tT p m t) allB c d
theorem joinR_sound {p : List Int} {m N : Nat} {t : Int} {rt : Nat → Nat} (S : SoundT p m N t rt) {i b : Nat} (hi : i < N) (hb : b < N) (hc : RT N (tT p m t) allB i b) : SoundT p m N t (joinR rt (rt i) (rt b)) := fun c d hcN hd he => by
  unfold joinR at he
  have back : ∀ {x y}, x < N → RT N (tT p m t) allB x y → RT N (tT p m t) allB y x := fun hx h => (rt_back (tT_symm p m t) hx rfl h).1
  by_cases h1 : rt c = rt i
  · rw [if_pos h1] at he
    by_cases h2 : rt d = rt i
    · exact S c d hcN hd (h1.trans h2.symm)
    · rw [if_neg h2] at he
      exact (S c i hcN hi h1).trans (hc.trans (S b d hb hd he))
  · rw [if_neg h1] at he
    by_cases h2 : rt d = rt i
    · rw [if_pos h2] at he
      exact (S c b hcN hb he).trans ((back hi hc).trans (S i d hi hd h2.symm))
    · rw [if_neg h2] at he
      exact S c d hcN hd he
end Go.Proofs.YtaeenedjmakelaaDoor
/- The least tree's sum is the sum of the meetings' heights. -/
namespace Go.Proofs.YtaeenedjmakelaaDoor
open Go.RowKit

section
variable {p : List Int} {m N : Nat}
/-- From one state to a later one, all joined at the height t. -/
def Stp (p : List Int) (m N : Nat) (t : Int) (s s' : SpanS) : Prop := GS s.1 N → GS s'.1 N ∧ (∀ c d, s.1 c = s.1 d → s'.1 c = s'.1 d) ∧ s'.2 + t * rootsN s'.1 N = s.2 + t * rootsN s.1 N ∧ ∀ t', t ≤ t' → SoundT p m N t' s.1 → SoundT p m N t' s'.1
theorem Stp.refl (t : Int) (s : SpanS) : Stp p m N t s s := fun G => ⟨G, fun _ _ h => h, rfl, fun _ _ h => h⟩
theorem Stp.trans {t : Int} {a b c : SpanS} (h : Stp p m N t a b) (g : Stp p m N t b c) : Stp p m N t a c := fun G => by
  obtain ⟨h1, h2, h3, h4⟩ := h G
  obtain ⟨g1, g2, g3, g4⟩ := g h1
  exact ⟨g1, fun x y e => g2 x y (h2 x y e), g3.trans h3, fun t' ht hs => g4 t' ht (h4 t' ht hs)⟩
theorem stp_join {t : Int} {s : SpanS} {i b : Nat} (hi : i < N) (hb : b < N) (ht : touchS m i b = true) (h1 : p.getD i 0 ≤ t) (h2 : p.getD b 0 ≤ t) (hne : s.1 i ≠ s.1 b) : Stp p m N t s (joinR s.1 (s.1 i) (s.1 b), s.2 + t) := fun G => by
  obtain ⟨a1, a2⟩ := G i hi
  obtain ⟨b1, b2⟩ := G b hb
  refine ⟨joinR_gs G b1 b2 hne, fun c d h => joinR_keep h, ?_, fun t' ht' hs => joinR_sound hs hi hb (.step .refl hb rfl ?_)⟩
  · show s.2 + t + t * rootsN (joinR s.1 (s.1 i) (s.1 b)) N = _
    rw [roots_join a1 a2 b2 hne, Int.mul_sub, Int.mul_one]; omega
  · unfold tT
    rw [ht, decide_eq_true (show p.getD i 0 ≤ t' by omega), decide_eq_true (show p.getD b 0 ≤ t' by omega)]; rfl
theorem joined {rt : Nat → Nat} {y e c d : Nat} (hc : rt c = y) (hd : rt d = e) (hne : y ≠ e) : joinR rt y e c = joinR rt y e d := by
  unfold joinR
  rw [if_pos hc, if_neg (fun h => hne (by rw [← h, hd])), hd]
theorem spB_stp {t : Int} {s : SpanS} {i b : Nat} (hi : i < N) (hb : b < N) (ht : touchS m i b = true) : Stp p m N t s (spB p t i s b) := by
  unfold spB
  by_cases h : max (p.getD i 0) (p.getD b 0) = t ∧ s.1 i ≠ s.1 b
  · rw [if_pos h]
    exact stp_join hi hb ht (by have := h.1; omega) (by have := h.1; omega) h.2
  · rw [if_neg h]; exact .refl _ _
theorem spB_joins {t : Int} {s : SpanS} {i b : Nat} (hm : max (p.getD i 0) (p.getD b 0) = t) : (spB p t i s b).1 i = (spB p t i s b).1 b := by
  unfold spB
  by_cases h : s.1 i = s.1 b
  · rw [if_neg (fun h2 => h2.2 h)]; exact h
  · rw [if_pos ⟨hm, h⟩]; exact joined rfl rfl h
/-- The cells beside a cell. -/
structure Arn (m N i : Nat) (ar : List Int) : Prop where
  ok : ∀ j, j < ar.length → (ar.getD j 0).toNat < N ∧ touchS m i (ar.getD j 0).toNat = true
  all : ∀ d, d < N → touchS m i d = true → d ≠ i → ∃ j, j < ar.length ∧ (ar.getD j 0).toNat = d
theorem spJ_stp {t : Int} {s : SpanS} {i : Nat} {ar : List Int} (hi : i < N) (A : Arn m N i ar) (j : Nat) : ∀ k, j + k ≤ ar.length → Stp p m N t (spJ p t i ar s j) (spJ p t i ar s (j + k))
  | 0, _ => .refl _ _
  | k + 1, h => (spJ_stp hi A j k (by omega)).trans (by
      rw [show j + (k + 1) = (j + k) + 1 by omega, spJ]
      obtain ⟨h1, h2⟩ := A.ok (j + k) (by omega)
      exact spB_stp hi h1 h2)
theorem spI_stp {n : Nat} {t : Int} {s : SpanS} (A : ∀ i, i < N → Arn m N i (aroundL n m i)) (j : Nat) : ∀ k, j + k ≤ N → Stp p m N t (spI p n m t s j) (spI p n m t s (j + k))
  | 0, _ => .refl _ _
  | k + 1, h => (spI_stp A j k (by omega)).trans (by
      rw [show j + (k + 1) = (j + k) + 1 by omega, spI]
      have := spJ_stp (p := p) (t := t) (s := spI p n m t s (j + k)) (show j + k < N by omega) (A (j + k) (by omega)) 0 (aroundL n m (j + k)).length (by omega)
      rw [Nat.zero_add] at this
      exact this)
theorem spI_joins {n : Nat} {t : Int} {s : SpanS} (A : ∀ i, i < N → Arn m N i (aroundL n m i)) (G : GS s.1 N) {c d : Nat} (hc : c < N) (hd : d < N) (ht : touchS m c d = true) (hm : max (p.getD c 0) (p.getD d 0) = t) : (spI p n m t s N).1 c = (spI p n m t s N).1 d := by
  by_cases e : d = c
  · rw [e]
  obtain ⟨j, hj, ej⟩ := (A c hc).all d hd ht e
  have g0 := (spI_stp (p := p) (t := t) (s := s) A 0 c (by omega) G).1
  rw [Nat.zero_add] at g0
  have s1 := spJ_stp (p := p) (t := t) (s := spI p n m t s c) hc (A c hc) 0 (j + 1) (by omega)
  rw [Nat.zero_add] at s1
  have s2 := spJ_stp (p := p) (t := t) (s := spI p n m t s c) hc (A c hc) (j + 1) ((aroundL n m c).length - (j + 1)) (by omega)
  rw [show j + 1 + ((aroundL n m c).length - (j + 1)) = (aroundL n m c).length by omega] at s2
  have s3 := spI_stp (p := p) (t := t) (s := s) A (c + 1) (N - (c + 1)) (by omega)
  rw [show c + 1 + (N - (c + 1)) = N by omega, spI] at s3
  have hj2 : (spJ p t c (aroundL n m c) (spI p n m t s c) (j + 1)).1 c = (spJ p t c (aroundL n m c) (spI p n m t s c) (j + 1)).1 d := by
    rw [spJ, ej]; exact spB_joins hm
  have g1 := (s1 g0).1
  have g2 := s2 g1
  exact (s3 g2.1).2.1 _ _ (g2.2.1 _ _ hj2)
/-- The classes are those of the cells up to t. -/
theorem kN_of {t : Int} {rt : Nat → Nat} (G : GS rt N) (S : SoundT p m N t rt) (C : ∀ c d, c < N → d < N → tT p m t c d = true → rt c = rt d) : rootsN rt N = kN p m N t :=
  roots_cnt (tT_symm p m t) G fun c d hc hd => ⟨S c d hc hd, fun h => by
    have key : ∀ x, RT N (tT p m t) allB c x → x < N ∧ rt c = rt x := fun x hx => by
      induction hx with
      | refl => exact ⟨hc, rfl⟩
      | @step j k _ hk _ hT ih => exact ⟨hk, ih.2.trans (C j k ih.1 hk hT)⟩
    exact (key d h).2⟩
theorem gs_id (N : Nat) : GS id N := fun _ hc => ⟨hc, rfl⟩
theorem sound_id (p : List Int) (m N : Nat) (t : Int) : SoundT p m N t id := fun c d _ _ h => by
  have : c = d := h
  subst this; exact .refl
theorem spT_gs {n : Nat} (A : ∀ i, i < N → Arn m N i (aroundL n m i)) : ∀ t, GS (spT p n m N t).1 N
  | 0 => gs_id N
  | t + 1 => by
    have h := spI_stp (p := p) (t := (t : Int)) (s := spT p n m N t) A 0 N (by omega) (spT_gs A t)
    rw [Nat.zero_add] at h
    exact h.1
theorem spT_sound {n : Nat} (A : ∀ i, i < N → Arn m N i (aroundL n m i)) (t' : Nat) : ∀ t, t ≤ t' + 1 → SoundT p m N (t' : Int) (spT p n m N t).1
  | 0, _ => sound_id _ _ _ _
  | t + 1, h => by
    have h1 := spI_stp (p := p) (t := (t : Int)) (s := spT p n m N t) A 0 N (by omega) (spT_gs A t)
    rw [Nat.zero_add] at h1
    exact h1.2.2.2 (t' : Int) (by omega) (spT_sound A t' t (by omega))
theorem spT_keep {n : Nat} (A : ∀ i, i < N → Arn m N i (aroundL n m i)) {c d : Nat} (t : Nat) : ∀ k, (spT p n m N t).1 c = (spT p n m N t).1 d → (spT p n m N (t + k)).1 c = (spT p n m N (t + k)).1 d
  | 0, h => h
  | k + 1, h => by
    have h1 := spI_stp (p := p) (t := ((t + k : Nat) : Int)) (s := spT p n m N (t + k)) A 0 N (by omega) (spT_gs A (t + k))
    rw [Nat.zero_add] at h1
    exact h1.2.1 c d (spT_keep A t k h)
theorem spT_comp {n : Nat} (A : ∀ i, i < N → Arn m N i (aroundL n m i)) (hp : ∀ i, i < N → 0 ≤ p.getD i 0) (t : Nat) {c d : Nat} (hc : c < N) (hd : d < N) (hT : tT p m t c d = true) : (spT p n m N (t + 1)).1 c = (spT p n m N (t + 1)).1 d := by
  unfold tT at hT
  simp only [Bool.and_eq_true, decide_eq_true_eq] at hT
  have h1 := hp c hc
  have h2 := hp d hd
  obtain ⟨u, hu⟩ : ∃ u : Nat, max (p.getD c 0) (p.getD d 0) = (u : Int) := ⟨(max (p.getD c 0) (p.getD d 0)).toNat, by omega⟩
  have hj := spI_joins (p := p) (t := (u : Int)) (s := spT p n m N u) A (spT_gs A u) hc hd hT.1 hu
  have := spT_keep A (p := p) (c := c) (d := d) (u + 1) (t - u) hj
  rwa [show u + 1 + (t - u) = t + 1 by omega] at this
theorem spT_kN {n : Nat} (A : ∀ i, i < N → Arn m N i (aroundL n m i)) (hp : ∀ i, i < N → 0 ≤ p.getD i 0) (t : Nat) : rootsN (spT p n m N (t + 1)).1 N = kN p m N t :=
  kN_of (spT_gs A _) (spT_sound A t (t + 1) (Nat.le_refl _)) fun _ _ hc hd hT => spT_comp A hp t hc hd hT
/-- What states at the heights 0, 1, .. have put together. -/
theorem sum_of (B : Nat → SpanS) (h0 : (B 0).2 = 0) (hs : ∀ t, (B (t + 1)).2 + ((t + 1 : Nat) : Int) * rootsN (B (t + 1)).1 N = (B t).2 + ((t + 1 : Nat) : Int) * rootsN (B t).1 N) (hk : ∀ t : Nat, rootsN (B t).1 N = kN p m N t) : ∀ t : Nat, (B t).2 = sumTo (fun u => kN p m N (u : Nat)) t - (t : Int) * kN p m N t
  | 0 => by rw [h0]; simp [sumTo]
  | t + 1 => by
    have ih := sum_of B h0 hs hk t
    have h := hs t
    rw [hk, hk, ih] at h
    rw [sumTo]
    obtain ⟨a, ea⟩ : ∃ a, kN p m N ((t : Nat) : Int) = a := ⟨_, rfl⟩
    obtain ⟨b, eb⟩ : ∃ b, kN p m N ((t + 1 : Nat) : Int) = b := ⟨_, rfl⟩
    rw [ea, eb] at h
    rw [ea, eb]
    have e1 : ((t + 1 : Nat) : Int) * a = (t : Int) * a + a := by rw [Int.natCast_add, Int.add_mul]; simp
    rw [e1] at h
    omega
theorem spT_sum {n : Nat} (A : ∀ i, i < N → Arn m N i (aroundL n m i)) (hp : ∀ i, i < N → 0 ≤ p.getD i 0) (t : Nat) : (spT p n m N (t + 1)).2 = sumTo (fun u => kN p m N (u : Nat)) t - (t : Int) * kN p m N t := by
  refine sum_of (p := p) (m := m) (N := N) (fun t => spT p n m N (t + 1)) ?_ (fun t => ?_) (fun t => spT_kN A hp t) t
  · have h1 := (spI_stp (p := p) (t := ((0 : Nat) : Int)) (s := spT p n m N 0) A 0 N (by omega) (gs_id N)).2.2.1
    rw [Nat.zero_add] at h1
    show (spI p n m ((0 : Nat) : Int) (spT p n m N 0) N).2 = 0
    simp at h1
    exact h1
  · have h1 := (spI_stp (p := p) (t := ((t + 1 : Nat) : Int)) (s := spT p n m N (t + 1)) A 0 N (by omega) (spT_gs A (t + 1))).2.2.1
    rw [Nat.zero_add] at h1
    exact h1
/-- Of the meetings: which water, and the sum of the heights. -/
def mv (st : MeetS) : SpanS := (st.1, spanS st.2)
theorem spanS_snoc (q : List (Nat × Nat × Int)) (e : Nat × Nat × Int) : spanS (q ++ [e]) = spanS q + e.2.2 := by
  unfold spanS; rw [List.map_append, List.sum_append]; simp
theorem meetB_stp {pr : Nat → Bool} {st : MeetS} {i b : Nat} (hi : i < N) (hb : b < N) (ht : touchS m i b = true) (hle : pr b = true → p.getD b 0 ≤ p.getD i 0) : Stp p m N (p.getD i 0) (mv st) (mv (meetB p pr i st b)) := by
  unfold meetB
  by_cases h : pr b = true ∧ st.1 b ≠ st.1 i
  · rw [if_pos h]
    split
    · have := stp_join (s := mv st) hb hi (by rw [touchS_symm']; exact ht) (hle h.1) (Int.le_refl _) h.2
      have e : mv (joinR st.1 (st.1 b) (st.1 i), st.2 ++ [(st.1 b, st.1 i, p.getD i 0)]) = (joinR (mv st).1 ((mv st).1 b) ((mv st).1 i), (mv st).2 + p.getD i 0) := by
        unfold mv; rw [spanS_snoc]
      rw [e]; exact this
    · have := stp_join (s := mv st) hi hb ht (Int.le_refl _) (hle h.1) (fun e => h.2 e.symm)
      have e : mv (joinR st.1 (st.1 i) (st.1 b), st.2 ++ [(st.1 i, st.1 b, p.getD i 0)]) = (joinR (mv st).1 ((mv st).1 i) ((mv st).1 b), (mv st).2 + p.getD i 0) := by
        unfold mv; rw [spanS_snoc]
      rw [e]; exact this
  · rw [if_neg h]; exact .refl _ _
theorem meetB_joins {pr : Nat → Bool} {st : MeetS} {i b : Nat} (hpr : pr b = true) : (meetB p pr i st b).1 i = (meetB p pr i st b).1 b := by
  unfold meetB
  by_cases h : st.1 b = st.1 i
  · rw [if_neg (fun h2 => h2.2 h)]; exact h.symm
  · rw [if_pos ⟨hpr, h⟩]
    split
    · exact (joined rfl rfl h).symm
    · exact joined rfl rfl (fun e => h e.symm)
theorem meetN_stp {pr : Nat → Bool} {st : MeetS} {i : Nat} {ar : List Int} (hi : i < N) (A : Arn m N i ar) (hle : ∀ b, pr b = true → p.getD b 0 ≤ p.getD i 0) (j : Nat) : ∀ k, j + k ≤ ar.length → Stp p m N (p.getD i 0) (mv (meetN p pr i ar st j)) (mv (meetN p pr i ar st (j + k)))
  | 0, _ => .refl _ _
  | k + 1, h => (meetN_stp hi A hle j k (by omega)).trans (by
      rw [show j + (k + 1) = (j + k) + 1 by omega, meetN]
      obtain ⟨h1, h2⟩ := A.ok (j + k) (by omega)
      exact meetB_stp hi h1 h2 (hle _))
theorem ord_le {k b : Nat} (hk : k < N) (hb : presB (ordTo p N) (k + 1) b = true) : p.getD b 0 ≤ p.getD ((ordTo p N).getD k 0) 0 := by
  obtain ⟨j, hj, rfl⟩ := ord_has (p := p) (mem_ordTo.1 (presB_mem hb))
  by_cases h : k < j
  · exfalso
    have hm := List.contains_iff_mem.1 hb
    obtain ⟨x, hx, ex⟩ := List.getElem_of_mem hm
    rw [List.length_take, ordTo_len] at hx
    rw [List.getElem_take] at ex
    have e2 : (ordTo p N).getD x 0 = (ordTo p N).getD j 0 := by rw [← ex]; simp [show x < (ordTo p N).length by rw [ordTo_len]; omega]
    have := ord_ne (p := p) (show x < j by omega) hj
    rw [e2, ahead_irrefl] at this; cases this
  · by_cases e : j = k
    · rw [e]; exact Int.le_refl _
    · have := ahead_iff.1 (ord_ne (p := p) (show j < k by omega) hk)
      omega
theorem meetTo_stp {n : Nat} (A : ∀ i, i < N → Arn m N i (aroundL n m i)) {k : Nat} (hk : k < N) : Stp p m N (p.getD ((ordTo p N).getD k 0) 0) (mv (meetTo p n m (ordTo p N) k)) (mv (meetTo p n m (ordTo p N) (k + 1))) := by
  have h := meetN_stp (p := p) (pr := presB (ordTo p N) (k + 1)) (st := meetTo p n m (ordTo p N) k) (ordTo_at_lt hk) (A _ (ordTo_at_lt (p := p) hk)) (fun b hb => ord_le hk hb) 0 (aroundL n m ((ordTo p N).getD k 0)).length (by omega)
  rw [Nat.zero_add] at h
  rw [meetTo]; exact h
theorem meetTo_gs {n : Nat} (A : ∀ i, i < N → Arn m N i (aroundL n m i)) : ∀ k, k ≤ N → GS (meetTo p n m (ordTo p N) k).1 N
  | 0, _ => gs_id N
  | k + 1, h => (meetTo_stp (p := p) A (show k < N by omega) (meetTo_gs A k (by omega))).1
theorem meetTo_comp {n : Nat} (A : ∀ i, i < N → Arn m N i (aroundL n m i)) {c d : Nat} (hc : c < N) (hd : d < N) (hT : touchS m c d = true) : ∀ k, k ≤ N → presB (ordTo p N) k c = true → presB (ordTo p N) k d = true → (meetTo p n m (ordTo p N) k).1 c = (meetTo p n m (ordTo p N) k).1 d
  | 0, _, h, _ => by rw [presB_zero] at h; cases h
  | k + 1, hk, h1, h2 => by
    have hkl : k < (ordTo p N).length := by rw [ordTo_len]; omega
    have G := meetTo_gs (p := p) A k (by omega)
    by_cases ecd : c = d
    · rw [ecd]
    -- the new cell's ways are all gone
    have new : ∀ x y, x < N → y < N → touchS m x y = true → x ≠ y → (ordTo p N).getD k 0 = x → presB (ordTo p N) (k + 1) y = true → (meetTo p n m (ordTo p N) (k + 1)).1 x = (meetTo p n m (ordTo p N) (k + 1)).1 y := fun x y hx hy ht hne ex hpy => by
      obtain ⟨j, hj, ej⟩ := (A x hx).all y hy ht (fun e => hne e.symm)
      have st := meetN_stp (p := p) (pr := presB (ordTo p N) (k + 1)) (st := meetTo p n m (ordTo p N) k) hx (A x hx) (fun b hb => by rw [← ex]; exact ord_le (by omega) hb)
      have s1 := st 0 (j + 1) (by omega)
      rw [Nat.zero_add] at s1
      have s2 := st (j + 1) ((aroundL n m x).length - (j + 1)) (by omega)
      rw [show j + 1 + ((aroundL n m x).length - (j + 1)) = (aroundL n m x).length by omega] at s2
      rw [meetTo, ex]
      refine (s2 (s1 G).1).2.1 x y ?_
      show (meetN p (presB (ordTo p N) (k + 1)) x (aroundL n m x) (meetTo p n m (ordTo p N) k) (j + 1)).1 x = (meetN p (presB (ordTo p N) (k + 1)) x (aroundL n m x) (meetTo p n m (ordTo p N) k) (j + 1)).1 y
      rw [meetN, ej]; exact meetB_joins hpy
    by_cases e1 : (ordTo p N).getD k 0 = c
    · exact new c d hc hd hT ecd e1 h2
    · by_cases e2 : (ordTo p N).getD k 0 = d
      · exact (new d c hd hc (by rw [touchS_symm']; exact hT) (fun e => ecd e.symm) e2 h1).symm
      · have g1 : presB (ordTo p N) k c = true := by
          rw [presB_succ hkl, decide_eq_false (fun e => e1 e.symm), Bool.or_false] at h1; exact h1
        have g2 : presB (ordTo p N) k d = true := by
          rw [presB_succ hkl, decide_eq_false (fun e => e2 e.symm), Bool.or_false] at h2; exact h2
        exact (meetTo_stp (p := p) A (show k < N by omega) G).2.1 c d (meetTo_comp A hc hd hT k (by omega) g1 g2)
end
end Go.Proofs.YtaeenedjmakelaaDoor
/- The contracts of impl.MergesOf and impl.SpanOf. -/
namespace Go.Proofs.YtaeenedjmakelaaDoor
open Go.RowKit

theorem take_map_next {α β : Type} (f : α → β) (d : α) {q : List α} {k : Nat} (hk : k < q.length) : (q.take (k + 1)).map f = (q.take k).map f ++ [f (q.getD k d)] := by
  rw [List.take_succ_eq_append_getElem hk, List.map_append]
  simp [hk]
theorem take_filter_next {α : Type} (f : α → Bool) (d : α) {q : List α} {k : Nat} (hk : k < q.length) : (q.take (k + 1)).filter f = (q.take k).filter f ++ (if f (q.getD k d) = true then [q.getD k d] else []) := by
  rw [List.take_succ_eq_append_getElem hk, List.filter_append]
  have : q.getD k d = q[k] := by simp [hk]
  rw [this]
  congr 1
  simp only [List.filter_cons, List.filter_nil]
theorem spanS_le {q : List (Nat × Nat × Int)} (hq : ∀ e ∈ q, 0 ≤ e.2.2 ∧ e.2.2 ≤ 12) : 0 ≤ spanS q ∧ spanS q ≤ 12 * (q.length : Int) := by
  induction q with
  | nil => simp [spanS]
  | cons e q ih =>
    have h1 := ih fun x hx => hq x (List.mem_cons_of_mem _ hx)
    have h2 := hq e List.mem_cons_self
    unfold spanS at h1 ⊢
    rw [List.map_cons, List.sum_cons, List.length_cons]
    omega
set_option maxRecDepth 100000 in
set_option maxHeartbeats 4000000 in
theorem SpanOf_any (v : Value) (h : List (List Int)) (w : World) (hv : RowsV w v h) (hS : Steps w) :
    Calls Tryd.prog 35 #[v] w fun e w' => e = .returned (.int .i64 (spanX h)) ∧ Grew w w' := by
  have HK := ValidGrid_any v h w hv
  cases hg : vGrid h with
  | false =>
    rw [hg] at HK
    have HK2 := Lib.hid HK
    have HX : Hid (spanX h = -1) := Lib.hid (by unfold spanX; rw [hg]; rfl)
    obtain ⟨a, b, o, c, rfl, _, _, _⟩ := hv.shape
    clear hv hS HK hg
    go_enter Tryd.func35, Tryd.ntmps35
    go_wp2_with (fail)
    refine HK2.out.mono ?_
    rintro e w1 ⟨rfl, rfl⟩
    go_wp2
    go_ret
    exact ⟨by rw [HX.out]; rfl, Grew.refl _⟩
  | true =>
    rw [hg] at HK
    have HK2 := Lib.hid HK
    have HM := Lib.hid (meetingsOf_any v h w hv hg hS)
    obtain ⟨hl, hq⟩ := meetsX_ok hg
    have HX : Hid (spanX h = spanS (meetsX h)) := Lib.hid (by unfold spanX; rw [hg]; rfl)
    rw [HX.out]
    obtain ⟨q, eq⟩ : ∃ q, meetsX h = q := ⟨_, rfl⟩
    rw [eq] at HM hl hq ⊢
    have HQ := Lib.hid hq
    obtain ⟨a, b, o, c, rfl, _, _, _⟩ := hv.shape
    clear hv hS HK hg eq HX hq
    go_enter Tryd.func35, Tryd.ntmps35
    go_wp2_with (fail)
    refine HK2.out.mono ?_
    rintro e w1 ⟨rfl, rfl⟩
    go_wp2_with (fail)
    refine HM.out.mono ?_
    rintro e w2 ⟨u, rfl, hO, hg2⟩
    obtain ⟨a2, c2, rfl⟩ := hO.sh
    obtain ⟨l, el⟩ : ∃ l, q.length = l := ⟨_, rfl⟩
    rw [el] at hO hl ⊢
    have H2 := Lib.hid (And.intro hO (And.intro hg2 el))
    clear hO hg2 HK2 HM el
    go_wp2
    go_loopw [3, 12] (fun s' j' wr => ∃ j : Nat, j ≤ l ∧ j' = .int .i64 j ∧ s' = .int .i64 (spanS (q.take j)) ∧ Hid (Grew w2 wr)) (fun _ j' _ => l - (intOf j').toNat)
    case atStart => exact ⟨0, Nat.zero_le _, rfl, rfl, Grew.refl _⟩
    case round =>
      obtain ⟨j, hj, rfl, rfl, HG⟩ := hrel
      by_cases hlt : j < l
      · have hjq : j < q.length := by rw [H2.out.2.2]; exact hlt
        have hM := H2.out.1.grew HG.out
        have ha2 : ∃ g2, a2 = some ⟨g2, 0, none⟩ := by
          rcases hM.shape with ⟨_, e0⟩ | ⟨g, c, hv', _⟩
          · rw [e0] at hjq; simp at hjq
          · simp only [Value.slice.injEq] at hv'; exact ⟨g, hv'.1⟩
        obtain ⟨g2, rfl⟩ := ha2
        obtain ⟨c0, c1, c2'⟩ := hM.at hjq
        have hb := HQ.out (q.getD j (0, 0, 0)) (by rw [List.getD_eq_getElem?_getD, List.getElem?_eq_getElem hjq]; exact List.getElem_mem _)
        have hs1 := spanS_le (q := q.take j) fun e he => (HQ.out e (List.mem_of_mem_take he)).2.2
        have hs2 : (q.take j).length ≤ 100 := by rw [List.length_take]; omega
        have hnx : spanS (q.take (j + 1)) = spanS (q.take j) + (q.getD j (0, 0, 0)).2.2 := by
          unfold spanS
          rw [take_map_next _ (0, 0, 0) hjq, List.sum_append]; simp
        have HN := Lib.hid hnx
        obtain ⟨x1, ex1⟩ : ∃ x, (q.getD j (0, 0, 0)).1 = x := ⟨_, rfl⟩
        obtain ⟨x2, ex2⟩ : ∃ x, (q.getD j (0, 0, 0)).2.1 = x := ⟨_, rfl⟩
        obtain ⟨x3, ex3⟩ : ∃ x, (q.getD j (0, 0, 0)).2.2 = x := ⟨_, rfl⟩
        rw [ex1] at c0 hb
        rw [ex2] at c1 hb
        rw [ex3] at c2' hb HN
        obtain ⟨_, _, hb0, hb1⟩ := hb
        obtain ⟨s, es⟩ : ∃ s, spanS (q.take j) = s := ⟨_, rfl⟩
        rw [es] at hs1 HN ⊢
        obtain ⟨hs0, hs1⟩ := hs1
        have wr1 : IntKind.i64.wrap (s + x3) = s + x3 := wrap_small' _ (by omega) (by omega)
        clear hM hnx hjq es ex1 ex2 ex3
        go_wp2
        go_roundw
        case rel => exact ⟨j + 1, by omega, by first | rfl | go_num, by rw [HN.out], by first | exact HG.out.alloc _ | exact (HG.out.alloc _).setAgg _ _ | skip⟩
        case measure => simp [intOf]; omega
      · obtain rfl : j = l := by omega
        have HT : Hid (q.take j = q) := Lib.hid (List.take_of_length_le (by rw [H2.out.2.2]; exact Nat.le_refl _))
        go_wp2
        go_ret
        exact ⟨by rw [HT.out]; rfl, H2.out.2.1.trans HG.out⟩
set_option maxRecDepth 100000 in
set_option maxHeartbeats 8000000 in
theorem MergesOf_any (v : Value) (h : List (List Int)) (w : World) (hv : RowsV w v h) (hS : Steps w) :
    Calls Tryd.prog 23 #[v] w (NewRows w (mergX h)) := by
  have HK := ValidGrid_any v h w hv
  cases hg : vGrid h with
  | false =>
    rw [hg] at HK
    have HK2 := Lib.hid HK
    have HX : Hid (mergX h = []) := Lib.hid (by unfold mergX; rw [hg]; rfl)
    rw [HX.out]
    obtain ⟨a, b, o, c, rfl, _, _, _⟩ := hv.shape
    clear hv hS HK hg HX
    go_enter Tryd.func23, Tryd.ntmps23
    go_wp2_with (fail)
    refine HK2.out.mono ?_
    rintro e w1 ⟨rfl, rfl⟩
    go_wp2
    go_ret
    exact ⟨_, rfl, RowsO.nil _ _ _ _ _, Grew.refl _⟩
  | true =>
    rw [hg] at HK
    have HK2 := Lib.hid HK
    have G := Grid.of hg
    have HC : Hid (Calls Tryd.prog 60 #[v] w (FlatPost w h.flatten)) :=
      Lib.hid (slicesConcat_any v h w hv G.n1 (Nat.le_trans G.n5 (by decide)) (fun r hr => by have := G.len r hr; have := G.m1; have := G.m5; omega))
    have HM := Lib.hid (fun W (hW : Grew w W) => meetingsOf_any v h W (hv.grew hW) hg (hS.grew hW))
    obtain ⟨hl, hq⟩ := meetsX_ok hg
    have HX : Hid (mergX h = mergS h.flatten (meetsX h)) := Lib.hid (by unfold mergX; rw [hg]; rfl)
    rw [HX.out]
    obtain ⟨q, eq⟩ : ∃ q, meetsX h = q := ⟨_, rfl⟩
    rw [eq] at HM hl hq ⊢
    obtain ⟨p, ep⟩ : ∃ p, h.flatten = p := ⟨_, rfl⟩
    rw [ep] at HC hq ⊢
    obtain ⟨N, eN⟩ : ∃ N, p.length = N := ⟨_, rfl⟩
    rw [eN] at hq
    have HQ := Lib.hid (And.intro hq eN)
    obtain ⟨a, b, o, c, rfl, _, _, _⟩ := hv.shape
    clear hv hS HK hg eq HX hq ep G
    go_enter Tryd.func23, Tryd.ntmps23
    go_wp2_with (fail)
    refine HK2.out.mono ?_
    rintro e w0 ⟨rfl, rfl⟩
    go_wp2_with (fail)
    refine HC.out.mono ?_
    rintro e w1 ⟨g1, c1, rfl, hO1, hg1⟩
    rw [HQ.out.2] at hO1 ⊢
    have H1 := Lib.hid (And.intro hO1.toV hg1)
    clear hO1 hg1 HK2 HC
    go_wp2_with (fail)
    refine (HM.out w1 H1.out.2).mono ?_
    rintro e w2 ⟨u, rfl, hO, hg2⟩
    obtain ⟨a2, c2, rfl⟩ := hO.sh
    obtain ⟨l, el⟩ : ∃ l, q.length = l := ⟨_, rfl⟩
    rw [el] at hO hl ⊢
    have H2 := Lib.hid (And.intro hO (And.intro hg2 (And.intro el (And.intro (H1.out.1.grew hg2) (H1.out.2.trans hg2)))))
    clear hO hg2 HM el H1
    go_wp2
    go_loopw [4, 15] (fun m' j' wr => ∃ (j : Nat) (am : Option Addr) (ql cm : Nat), j ≤ l ∧ j' = .int .i64 j ∧ m' = .slice am ql cm ∧ Hid (ql = (mergS p (q.take j)).length ∧ ql ≤ j ∧ RowsO 22 3 w2.heap.size wr.heap.size wr (.slice am ql cm) (mergS p (q.take j)) ∧ Grew w2 wr)) (fun _ j' _ => l - (intOf j').toNat)
    case atStart => exact ⟨0, none, 0, 0, Nat.zero_le _, rfl, rfl, rfl, Nat.le_refl _, RowsO.nil _ _ _ _ _, Grew.refl _⟩
    case round =>
      obtain ⟨j, am, ql, cm, hj, rfl, rfl, HI⟩ := hrel
      by_cases hlt : j < l
      · have hjq : j < q.length := by rw [H2.out.2.2.1]; exact hlt
        obtain ⟨hql, hqj, hR, hG⟩ := HI.out
        have hM := H2.out.1.grew hG
        have ha2 : ∃ g2, a2 = some ⟨g2, 0, none⟩ := by
          rcases hM.shape with ⟨_, e0⟩ | ⟨g, c, hv', _⟩
          · rw [e0] at hjq; simp at hjq
          · simp only [Value.slice.injEq] at hv'; exact ⟨g, hv'.1⟩
        obtain ⟨g2, rfl⟩ := ha2
        obtain ⟨c0, c1', c2'⟩ := hM.at hjq
        have hb := HQ.out.1 (q.getD j (0, 0, 0)) (by rw [List.getD_eq_getElem?_getD, List.getElem?_eq_getElem hjq]; exact List.getElem_mem _)
        have hnx : mergS p (q.take (j + 1)) = mergS p (q.take j) ++ if p.getD (q.getD j (0, 0, 0)).1 0 < (q.getD j (0, 0, 0)).2.2 then [rowM (q.getD j (0, 0, 0))] else [] := by
          unfold mergS
          rw [take_filter_next _ (0, 0, 0) hjq, List.map_append]
          by_cases hc : p.getD (q.getD j (0, 0, 0)).1 0 < (q.getD j (0, 0, 0)).2.2
          · rw [if_pos (decide_eq_true hc), if_pos hc]; rfl
          · rw [if_neg (by rw [decide_eq_false hc]; decide), if_neg hc]; rfl
        obtain ⟨e, ee⟩ : ∃ e, q.getD j (0, 0, 0) = e := ⟨_, rfl⟩
        rw [ee] at c0 c1' c2' hb hnx
        obtain ⟨x1, x2, x3⟩ := e
        obtain ⟨hb1, hb2, hb3, hb4⟩ := hb
        have hcp := NumsV.at (H2.out.2.2.2.1.grew hG) x1 (by rw [HQ.out.2]; exact hb1)
        have hN := Lib.hid hnx
        obtain ⟨B, eB⟩ : ∃ B, wr.heap.size = B := ⟨_, rfl⟩
        have hg1B : g1 < B := by rw [← eB]; exact World.block_lt_of_cell? _ _ hcp
        have hg2B : g2 < B := by rw [← eB]; exact World.block_lt_of_cell? _ _ c0
        have r1 : (x1 : Int) < N := by exact_mod_cast hb1
        have r2 : (0 : Int) ≤ x1 := by omega
        obtain ⟨y, ey⟩ : ∃ y, p.getD x1 0 = y := ⟨_, rfl⟩
        have HX := Lib.hid ey
        rw [ey] at hcp
        have HI2 := Lib.hid (And.intro hql (And.intro hqj (And.intro hR hG)))
        simp only at c0 c1' c2' hb1 hb2 hb3 hb4
        clear hM hnx hql hqj hR hG HI ey hjq ee
        go_wp2
        go_quiet (fail)
        have hgW : Grew wr ((wr.alloc (.cells #[.int .i64 (x1 : Int), .int .i64 (x2 : Int), .int .i64 x3] 58)).drewN nq) := ((Grew.refl _).alloc _).drewN _
        have hd0 : ((wr.alloc (.cells #[.int .i64 (x1 : Int), .int .i64 (x2 : Int), .int .i64 x3] 58)).drewN nq).cell? ⟨B, 0, none⟩ = some (.int .i64 (x1 : Int)) := by rw [← eB]; simp
        have hd1 : ((wr.alloc (.cells #[.int .i64 (x1 : Int), .int .i64 (x2 : Int), .int .i64 x3] 58)).drewN nq).cell? ⟨B, 1, none⟩ = some (.int .i64 (x2 : Int)) := by rw [← eB]; simp
        have hd2 : ((wr.alloc (.cells #[.int .i64 (x1 : Int), .int .i64 (x2 : Int), .int .i64 x3] 58)).drewN nq).cell? ⟨B, 2, none⟩ = some (.int .i64 x3) := by rw [← eB]; simp
        have hsB : ((wr.alloc (.cells #[.int .i64 (x1 : Int), .int .i64 (x2 : Int), .int .i64 x3] 58)).drewN nq).heap.size = B + 1 := by rw [← eB]; simp
        obtain ⟨W3, hW3⟩ : ∃ W3, (wr.alloc (.cells #[.int .i64 (x1 : Int), .int .i64 (x2 : Int), .int .i64 x3] 58)).drewN nq = W3 := ⟨_, rfl⟩
        rw [hW3] at hgW hd0 hd1 hd2 hsB ⊢
        have H3 : Hid (RowsO 22 3 w2.heap.size W3.heap.size W3 (.slice am ql cm) (mergS p (q.take j)) ∧ Grew w2 W3 ∧ W3.heap.size = B + 1 ∧ w2.heap.size ≤ W3.heap.size) :=
          Lib.hid ⟨(HI2.out.2.2.1.grew hgW).wide (Nat.le_refl _) hgW.size, HI2.out.2.2.2.trans hgW, hsB, (HI2.out.2.2.2.trans hgW).size⟩
        have hq1 : (mergS p (q.take j)).length + 1 ≤ 5864062014805 := by have := HI2.out.1; have := HI2.out.2.1; omega
        have hqe := HI2.out.1
        have hqj := HI2.out.2.1
        rw [hqe] at H3 hqj ⊢
        clear hW3 hgW hsB c0 c1' c2' hcp HI2 hqe
        by_cases hc : y < x3
        · have hnn := hN.out
          rw [HX.out, if_pos hc] at hnn
          have HNN := Lib.hid hnn
          have hcd : decide (y < x3) = true := decide_eq_true hc
          clear hnn hN
          rw [hcd]
          go_wp2_with (at_builtin; refine wpList_append_row (w := W3.alloc (.cells #[.int .i64 (x1 : Int), .int .i64 (x2 : Int), .int .i64 x3] 3)) rfl (.tmp 27) (.tmp 35) 32 rfl (by decide) Tryd.underlying32 Tryd.infoIs rfl rfl (by simp) (H3.out.1.grew ((Grew.refl _).alloc _)) (IntsO.lit 3 W3.heap.size W3 [(x1 : Int), (x2 : Int), x3] #[.int .i64 x1, .int .i64 x2, .int .i64 x3] rfl (Nat.le_refl _) (by simp [maxLen])) hq1 (by have := H3.out.2.2.2; simp; omega) H3.out.2.2.2 ?_; intro g6 c6 w6 hO6 hW6 hS6)
          have HF : Hid (RowsO 22 3 w2.heap.size w6.heap.size w6 (.slice (some ⟨g6, 0, none⟩) ((mergS p (q.take j)).length + 1) c6) (mergS p (q.take (j + 1))) ∧ Grew w2 w6) := by
            rw [HNN.out]
            exact Lib.hid ⟨hO6, Within.grew (H3.out.2.1.trans ((Grew.refl _).alloc _)) hW6 (Nat.le_refl _)⟩
          clear hO6 hW6 hS6
          go_wp2
          go_roundw
          case rel => exact ⟨j + 1, _, _, _, by omega, by first | rfl | go_num, rfl, by rw [HNN.out, List.length_append]; rfl, by omega, HF.out⟩
          case measure => simp [intOf]; omega
        · have hnn := hN.out
          rw [HX.out, if_neg hc, List.append_nil] at hnn
          have HNN := Lib.hid hnn
          have hcd : decide (y < x3) = false := decide_eq_false hc
          clear hnn hN
          rw [hcd]
          go_wp2
          go_roundw
          case rel => exact ⟨j + 1, _, _, _, by omega, by first | rfl | go_num, rfl, by rw [HNN.out], by omega, by rw [HNN.out]; exact ⟨H3.out.1, H3.out.2.1⟩⟩
          case measure => simp [intOf]; omega
      · obtain rfl : j = l := by omega
        have HT : Hid (q.take j = q) := Lib.hid (List.take_of_length_le (by rw [H2.out.2.2.1]; exact Nat.le_refl _))
        have HF : Hid (RowsO 22 3 w.heap.size wr.heap.size wr (.slice am ql cm) (mergS p q) ∧ Grew w wr) := by
          have := HI.out.2.2.1
          rw [HT.out] at this
          exact Lib.hid ⟨this.wide H2.out.2.2.2.2.size (Nat.le_refl _), H2.out.2.2.2.2.trans HI.out.2.2.2⟩
        go_wp2
        go_ret
        exact ⟨_, rfl, HF.out⟩
end Go.Proofs.YtaeenedjmakelaaDoor
/- The least tree's sum is the sum of the meetings' heights: prefixes of the order. -/
namespace Go.Proofs.YtaeenedjmakelaaDoor
open Go.RowKit

section
variable {p : List Int} {m N : Nat}
theorem ord_mono {j k : Nat} (h : j ≤ k) (hk : k < N) : p.getD ((ordTo p N).getD j 0) 0 ≤ p.getD ((ordTo p N).getD k 0) 0 := by
  by_cases e : j = k
  · rw [e]; exact Int.le_refl _
  · have := ahead_iff.1 (ord_ne (p := p) (show j < k by omega) hk)
    omega
theorem prefix_ex (p : List Int) (N : Nat) (t : Int) : ∀ M, M ≤ N → ∃ k, k ≤ M ∧ (∀ j, j < k → p.getD ((ordTo p N).getD j 0) 0 ≤ t) ∧ ∀ j, k ≤ j → j < M → t < p.getD ((ordTo p N).getD j 0) 0
  | 0, _ => ⟨0, Nat.le_refl _, fun _ h => absurd h (Nat.not_lt_zero _), fun _ _ h => absurd h (Nat.not_lt_zero _)⟩
  | M + 1, hM => by
    obtain ⟨k, h1, h2, h3⟩ := prefix_ex p N t M (by omega)
    by_cases e : k = M ∧ p.getD ((ordTo p N).getD M 0) 0 ≤ t
    · refine ⟨M + 1, Nat.le_refl _, fun j hj => ?_, fun j hj1 hj2 => by omega⟩
      by_cases ej : j = M
      · rw [ej]; exact e.2
      · exact h2 j (by omega)
    · refine ⟨k, by omega, h2, fun j hj1 hj2 => ?_⟩
      by_cases ej : j = M
      · subst ej
        by_cases ek : k = j
        · by_cases h : p.getD ((ordTo p N).getD j 0) 0 ≤ t
          · exact absurd ⟨ek, h⟩ e
          · omega
        · have := h3 k (Nat.le_refl _) (by omega)
          have := ord_mono (p := p) (show k ≤ j by omega) (show j < N by omega)
          omega
      · exact h3 j hj1 (by omega)
noncomputable def kT (p : List Int) (N : Nat) (t : Nat) : Nat := (prefix_ex p N (t : Int) N (Nat.le_refl _)).choose
theorem kT_spec (p : List Int) (N : Nat) (t : Nat) : kT p N t ≤ N ∧ (∀ j, j < kT p N t → p.getD ((ordTo p N).getD j 0) 0 ≤ (t : Int)) ∧ ∀ j, kT p N t ≤ j → j < N → (t : Int) < p.getD ((ordTo p N).getD j 0) 0 := (prefix_ex p N (t : Int) N (Nat.le_refl _)).choose_spec
theorem presB_of {j k : Nat} (hj : j < k) (hk : k ≤ N) : presB (ordTo p N) k ((ordTo p N).getD j 0) = true := by
  refine List.contains_iff_mem.2 ?_
  have hl : j < ((ordTo p N).take k).length := by rw [List.length_take, ordTo_len]; omega
  have e : (ordTo p N).getD j 0 = ((ordTo p N).take k)[j] := by rw [List.getElem_take]; simp [show j < (ordTo p N).length by rw [ordTo_len]; omega]
  rw [e]; exact List.getElem_mem _
theorem meetTo_run {n : Nat} (A : ∀ i, i < N → Arn m N i (aroundL n m i)) {t : Int} (k0 : Nat) : ∀ x, k0 + x ≤ N → (∀ j, k0 ≤ j → j < k0 + x → p.getD ((ordTo p N).getD j 0) 0 = t) → Stp p m N t (mv (meetTo p n m (ordTo p N) k0)) (mv (meetTo p n m (ordTo p N) (k0 + x)))
  | 0, _, _ => .refl _ _
  | x + 1, h, ht => (meetTo_run A k0 x (by omega) fun j h1 h2 => ht j h1 (by omega)).trans (by
      have := meetTo_stp (p := p) A (show k0 + x < N by omega)
      rw [ht (k0 + x) (by omega) (by omega)] at this
      exact this)
theorem meetTo_sound {n : Nat} (A : ∀ i, i < N → Arn m N i (aroundL n m i)) {t : Int} : ∀ k, k ≤ N → (∀ j, j < k → p.getD ((ordTo p N).getD j 0) 0 ≤ t) → SoundT p m N t (meetTo p n m (ordTo p N) k).1
  | 0, _, _ => sound_id _ _ _ _
  | k + 1, h, ht => (meetTo_stp (p := p) A (show k < N by omega) (meetTo_gs A k (by omega))).2.2.2 t (ht k (by omega)) (meetTo_sound A k (by omega) fun j hj => ht j (by omega))
theorem meetTo_kN {n : Nat} (A : ∀ i, i < N → Arn m N i (aroundL n m i)) {t : Int} {k : Nat} (hk : k ≤ N) (h1 : ∀ j, j < k → p.getD ((ordTo p N).getD j 0) 0 ≤ t) (h2 : ∀ j, k ≤ j → j < N → t < p.getD ((ordTo p N).getD j 0) 0) : rootsN (meetTo p n m (ordTo p N) k).1 N = kN p m N t :=
  kN_of (meetTo_gs A k hk) (meetTo_sound A k hk h1) fun c d hc hd hT => by
    unfold tT at hT
    simp only [Bool.and_eq_true, decide_eq_true_eq] at hT
    have pres : ∀ x, x < N → p.getD x 0 ≤ t → presB (ordTo p N) k x = true := fun x hx hle => by
      obtain ⟨j, hj, rfl⟩ := ord_has (p := p) hx
      by_cases e : j < k
      · exact presB_of e hk
      · have := h2 j (by omega) hj; omega
    exact meetTo_comp A hc hd hT.1 k hk (pres c hc hT.2.1) (pres d hd hT.2.2)
theorem meetTo_sum {n : Nat} (A : ∀ i, i < N → Arn m N i (aroundL n m i)) (hp : ∀ i, i < N → 0 ≤ p.getD i 0) (t : Nat) : spanS (meetTo p n m (ordTo p N) (kT p N t)).2 = sumTo (fun u => kN p m N (u : Nat)) t - (t : Int) * kN p m N t := by
  refine sum_of (p := p) (m := m) (N := N) (fun t => mv (meetTo p n m (ordTo p N) (kT p N t))) ?_ (fun t => ?_) (fun t => ?_) t
  · obtain ⟨h1, h2, _⟩ := kT_spec p N 0
    have h := (meetTo_run (p := p) (t := 0) A 0 (kT p N 0) (by omega) (fun j _ hj => by
      have := h2 j (by omega)
      have := hp ((ordTo p N).getD j 0) (ordTo_at_lt (by omega))
      omega) (gs_id N)).2.2.1
    rw [Nat.zero_add] at h
    have e0 : (mv (meetTo p n m (ordTo p N) 0)).2 = 0 := rfl
    rw [e0] at h
    show (mv (meetTo p n m (ordTo p N) (kT p N 0))).2 = 0
    omega
  · obtain ⟨h1, h2, h3⟩ := kT_spec p N t
    obtain ⟨g1, g2, g3⟩ := kT_spec p N (t + 1)
    have hle : kT p N t ≤ kT p N (t + 1) := by
      by_cases h : kT p N t ≤ kT p N (t + 1)
      · exact h
      · have := h2 (kT p N (t + 1)) (by omega)
        have := g3 (kT p N (t + 1)) (Nat.le_refl _) (by omega)
        omega
    have h := (meetTo_run (p := p) (t := ((t + 1 : Nat) : Int)) A (kT p N t) (kT p N (t + 1) - kT p N t) (by omega) (fun j hj1 hj2 => by
      have := h3 j hj1 (by omega)
      have := g2 j (by omega)
      omega) (meetTo_gs A _ h1)).2.2.1
    rw [show kT p N t + (kT p N (t + 1) - kT p N t) = kT p N (t + 1) by omega] at h
    exact h
  · obtain ⟨h1, h2, h3⟩ := kT_spec p N t
    exact meetTo_kN A h1 h2 h3
end
theorem arn_of {n m : Nat} (hn : n ≤ 5) (hm : m ≤ 5) : ∀ i, i < n * m → Arn m (n * m) i (aroundL n m i) := fun i hi => by
  obtain ⟨h1, _, _⟩ := around_facts hn hm hi
  have ok : ∀ j, j < (aroundL n m i).length → ((aroundL n m i).getD j 0).toNat < n * m ∧ (((aroundL n m i).getD j 0).toNat : Int) ∈ aroundL n m i := fun j hj => by
    have hmem : (aroundL n m i).getD j 0 ∈ aroundL n m i := by rw [List.getD_eq_getElem?_getD, List.getElem?_eq_getElem hj]; exact List.getElem_mem _
    obtain ⟨g1, g2, _⟩ := h1 _ hmem
    refine ⟨by omega, ?_⟩
    rw [show ((((aroundL n m i).getD j 0).toNat : Nat) : Int) = (aroundL n m i).getD j 0 by omega]; exact hmem
  refine ⟨fun j hj => ⟨(ok j hj).1, (touch_iff hn hm hi (ok j hj).1).2 (.inr (ok j hj).2)⟩, fun d hd ht hne => ?_⟩
  rcases (touch_iff hn hm hi hd).1 ht with e | e
  · exact absurd e.symm hne
  · obtain ⟨j, hj, ej⟩ := List.getElem_of_mem e
    exact ⟨j, hj, by rw [List.getD_eq_getElem?_getD, List.getElem?_eq_getElem hj, Option.getD_some, ej]; omega⟩
theorem grid_p {h : List (List Int)} (hg : vGrid h = true) : ∀ i, i < h.flatten.length → 0 ≤ h.flatten.getD i 0 ∧ h.flatten.getD i 0 ≤ 12 := fun i hi => grid_num (Grid.of hg) i (by rw [← flat_grid_len (Grid.of hg)]; exact hi)
/-- The numbers of pieces tell the sum. -/
theorem spanX_sum {h : List (List Int)} (hg : vGrid h = true) : spanX h = sumTo (fun u => kN h.flatten (h.getD 0 []).length h.flatten.length (u : Nat)) 12 - 12 * kN h.flatten (h.getD 0 []).length h.flatten.length 12 := by
  have G := Grid.of hg
  have hpl := flat_grid_len G
  have hp := grid_p hg
  have A := arn_of G.n5 G.m5
  rw [← hpl] at A
  unfold spanX meetsX
  rw [if_pos hg]
  have h2 := meetTo_sum A (fun i hi => (hp i hi).1) 12
  obtain ⟨g1, _, g3⟩ := kT_spec h.flatten h.flatten.length 12
  have e : kT h.flatten h.flatten.length 12 = h.flatten.length := by
    by_cases e : kT h.flatten h.flatten.length 12 = h.flatten.length
    · exact e
    · have h5 := g3 (kT h.flatten h.flatten.length 12) (Nat.le_refl _) (by omega)
      have := (hp _ (ordTo_at_lt (p := h.flatten) (show kT h.flatten h.flatten.length 12 < h.flatten.length by omega))).2
      omega
  rw [e] at h2
  exact h2
theorem span_eq {h : List (List Int)} (hg : vGrid h = true) : spanT h = spanX h := by
  have G := Grid.of hg
  have hpl := flat_grid_len G
  have hp := grid_p hg
  have A := arn_of G.n5 G.m5
  rw [← hpl] at A
  rw [spanX_sum hg]
  exact spT_sum A (fun i hi => (hp i hi).1) 12
end Go.Proofs.YtaeenedjmakelaaDoor
/- The contract of impl.LandsAt: how many searches begin. -/
namespace Go.Proofs.YtaeenedjmakelaaDoor
open Go.RowKit

/-- How many pieces the cells above t have. -/
noncomputable def landsX (h : List (List Int)) (t : Int) : Int := if vLevel h t = true then cntT (h.length * (h.getD 0 []).length) (touchS (h.getD 0 []).length) (above h.flatten t) (h.length * (h.getD 0 []).length) else -1
set_option maxRecDepth 100000 in
set_option maxHeartbeats 1000000 in
theorem LandsAt_any (v : Value) (h : List (List Int)) (t : Int) (w : World) (hv : RowsV w v h) (hS : Steps w) :
    Calls Tryd.prog 38 #[v, .int .i64 t] w fun e w' => e = .returned (.int .i64 (landsX h t)) ∧ Grew w w' := by
  have HV := Lib.hid (validLevel_any v h t w hv)
  have HR := Lib.hid (And.intro hv hS)
  obtain ⟨a, b, o, c, rfl, _, _, _⟩ := hv.shape
  clear hv hS
  unfold landsX
  cases hp : vLevel h t with
  | false =>
    have HP := Lib.hid hp
    clear hp
    go_enter Tryd.func38, Tryd.ntmps38
    go_wp2_with (fail)
    refine HV.out.mono ?_
    rw [HP.out]
    rintro e w1 ⟨rfl, rfl⟩
    go_wp2
    go_ret
    exact ⟨ret_int (by simp), Grew.refl _⟩
  | true =>
    have hg := vLevel_grid hp
    have G := Grid.of hg
    have hpl := flat_grid_len G
    have hn5 := G.n5
    have hm5 := G.m5
    have HP := Lib.hid (And.intro hp (And.intro hg hpl))
    have HN := Lib.hid (And.intro hn5 hm5)
    clear hp hg hpl G hn5 hm5
    go_enter Tryd.func38, Tryd.ntmps38
    go_wp2_with (fail)
    refine HV.out.mono ?_
    rw [HP.out.1]
    rintro e w1 ⟨rfl, rfl⟩
    go_wp2_with (fail)
    refine (higherThan_any _ h t w HR.out.1 HP.out.2.1).mono ?_
    rintro e w2 ⟨lb, rfl, hT, hg2⟩
    rw [HP.out.2.2] at hT
    have H2 := Lib.hid (And.intro hT hg2)
    clear hT hg2
    go_wp2_with (fail)
    refine (piecesOf_any _ h h.length (h.getD 0 []).length (above h.flatten t) _ lb (enters_of Tryd.func105 (by kernel_rfl) rfl) w2 (HR.out.1.grew H2.out.2) HP.out.2.1 (HR.out.2.grew H2.out.2) rfl rfl H2.out.1).mono ?_
    rintro e w3 ⟨v3, f, rfl, hO3, hF3, hg3⟩
    obtain ⟨a3, c3, rfl⟩ := hO3.sh
    have HG3 := Lib.hid (H2.out.2.trans hg3)
    have hc := pieces_cnt HN.out.1 HN.out.2 hF3 _ (Nat.le_refl _)
    obtain ⟨K, eK⟩ : ∃ K, (piecesT f (whereL (h.length * (h.getD 0 []).length) (above h.flatten t))).length = K := ⟨_, rfl⟩
    rw [eK] at hc ⊢
    have HK := Lib.hid hc
    clear hO3 hg3 eK hc hF3
    go_wp2
    go_ret
    exact ⟨ret_int HK.out, HG3.out⟩
end Go.Proofs.YtaeenedjmakelaaDoor
/- The least tree's sum by areas and lands of the grid upside down. -/
namespace Go.Proofs.YtaeenedjmakelaaDoor
open Go.RowKit

theorem idx_lt' {n m r c : Nat} (hr : r < n) (hc : c < m) : r * m + c < n * m := by
  have h5 : (r + 1) * m ≤ n * m := Nat.mul_le_mul_right _ hr
  rw [Nat.add_mul] at h5
  omega
theorem idx_div' {m r c : Nat} (hc : c < m) : (r * m + c) / m = r := by rw [Nat.add_comm, Nat.add_mul_div_right _ _ (by omega), Nat.div_eq_of_lt hc, Nat.zero_add]
theorem idx_mod' {m r c : Nat} (hc : c < m) : (r * m + c) % m = c := by rw [Nat.add_comm, Nat.add_mul_mod_self_right, Nat.mod_eq_of_lt hc]
theorem rt_congr' {N : Nat} {T : Nat → Nat → Bool} {B B' : Nat → Bool} (h : ∀ i, i < N → B i = B' i) {i j : Nat} (hr : RT N T B i j) : RT N T B' i j := by
  induction hr with
  | refl => exact .refl
  | step _ hk hbk hT ih => exact .step ih hk (by rw [← h _ hk]; exact hbk) hT
theorem lead_congr' {N : Nat} {T : Nat → Nat → Bool} {B B' : Nat → Bool} (h : ∀ i, i < N → B i = B' i) {c : Nat} (hc : c < N) (hl : LeadT N T B c) : LeadT N T B' c :=
  ⟨by rw [← h c hc]; exact hl.1, fun ⟨b, hb, hB, hr⟩ => hl.2 ⟨b, hb, by rw [h b (by omega)]; exact hB, rt_congr' (fun i hi => (h i hi).symm) hr⟩⟩
theorem cntT_congr' {N : Nat} {T : Nat → Nat → Bool} {B B' : Nat → Bool} (h : ∀ i, i < N → B i = B' i) : ∀ k, k ≤ N → cntT N T B k = cntT N T B' k
  | 0, _ => rfl
  | k + 1, hk => by
    have ih := cntT_congr' (T := T) h k (by omega)
    by_cases hl : LeadT N T B k
    · rw [cntT_yes hl, cntT_yes (lead_congr' h (by omega) hl), ih]
    · rw [cntT_no hl, cntT_no (fun h' => hl (lead_congr' (fun i hi => (h i hi).symm) (by omega) h')), ih]
theorem cnt_oneE' {N : Nat} {T : Nat → Nat → Bool} {B : Nat → Bool} (h0 : B 0 = true) (hall : ∀ c, c < N → B c = true → RT N T B 0 c) : ∀ k, k < N → cntT N T B (k + 1) = 1
  | 0, _ => by rw [cntT_yes ⟨h0, fun ⟨b, hb, _⟩ => absurd hb (Nat.not_lt_zero _)⟩]; rfl
  | k + 1, hk => by
    rw [cntT_no (fun hl => hl.2 ⟨0, by omega, h0, hall _ hk hl.1⟩)]
    exact cnt_oneE' h0 hall k (by omega)
theorem grid_all' {n m : Nat} {T : Nat → Nat → Bool} {B : Nat → Bool} (hB : ∀ i, i < n * m → B i = true) (hright : ∀ R C, R < n → C + 1 < m → T (R * m + C) (R * m + (C + 1)) = true) (hdown : ∀ R C, R + 1 < n → C < m → T (R * m + C) ((R + 1) * m + C) = true) :
    ∀ C, C < m → ∀ R, R < n → RT (n * m) T B 0 (R * m + C)
  | 0, hC, 0, hR => by rw [Nat.zero_mul]; exact .refl
  | 0, hC, R + 1, hR => (grid_all' hB hright hdown 0 hC R (by omega)).step (idx_lt' hR hC) (hB _ (idx_lt' hR hC)) (hdown R 0 hR hC)
  | C + 1, hC, R, hR => (grid_all' hB hright hdown C (by omega) R hR).step (idx_lt' hR hC) (hB _ (idx_lt' hR hC)) (hright R C hR hC)
theorem cell_of' {n m i : Nat} (hi : i < n * m) : i / m < n ∧ i % m < m ∧ i = i / m * m + i % m := by
  have hm : 0 < m := Nat.pos_of_ne_zero fun e => by subst e; omega
  exact ⟨div_lt_of n m i hi, Nat.mod_lt i hm, by rw [Nat.mul_comm]; exact (Nat.div_add_mod i m).symm⟩
theorem touchS_right' {m R C : Nat} (h : C + 1 < m) : touchS m (R * m + C) (R * m + (C + 1)) = true := by
  unfold touchS
  rw [idx_div' (by omega), idx_div' h, idx_mod' (by omega), idx_mod' h, Int.sub_self, show (C : Int) - ((C + 1 : Nat) : Int) = -1 by omega]
  decide
theorem touchS_down' {m R C : Nat} (h : C < m) : touchS m (R * m + C) ((R + 1) * m + C) = true := by
  unfold touchS
  rw [idx_div' h, idx_div' h, idx_mod' h, idx_mod' h, Int.sub_self, show (R : Int) - ((R + 1 : Nat) : Int) = -1 by omega]
  decide
theorem under_flat' (h : List (List Int)) : (underL h).flatten = h.flatten.map fun x => 12 - x := by
  unfold underL
  induction h with
  | nil => rfl
  | cons a l ih => simp only [List.map_cons, List.flatten_cons, List.map_append] at ih ⊢; rw [ih]
def belT (p : List Int) (t : Int) (i : Nat) : Bool := decide (p.getD i 0 ≤ t)
section
variable {p : List Int} {m N : Nat} {t : Int}
theorem rt_all {b c : Nat} (h : RT N (tT p m t) allB b c) : c = b ∨ (belT p t b = true ∧ belT p t c = true ∧ RT N (touchS m) (belT p t) b c) := by
  induction h with
  | refl => exact .inl rfl
  | @step j k hj hk _ hT ih =>
    unfold tT at hT
    simp only [Bool.and_eq_true] at hT
    have hjb : belT p t j = true := hT.2.1
    have hkb : belT p t k = true := hT.2.2
    rcases ih with rfl | ⟨h1, h2, h3⟩
    · exact .inr ⟨hjb, hkb, .step .refl hk hkb hT.1⟩
    · exact .inr ⟨h1, hkb, .step h3 hk hkb hT.1⟩
theorem rt_bel {b c : Nat} (hb : belT p t b = true) (h : RT N (touchS m) (belT p t) b c) : belT p t c = true ∧ RT N (tT p m t) allB b c := by
  induction h with
  | refl => exact ⟨hb, .refl⟩
  | @step j k hj hk hkb hT ih =>
    refine ⟨hkb, .step ih.2 hk rfl ?_⟩
    unfold tT
    rw [hT]
    have h1 := ih.1
    unfold belT at h1 hkb
    rw [h1, hkb]; rfl
/-- The pieces: each cell above is one, and the pieces of the cells up to t. -/
theorem kN_split (p : List Int) (m N : Nat) (t : Int) : kN p m N t = sumTo (fun i => if above p t i = true then 1 else 0) N + cntT N (touchS m) (belT p t) N := by
  unfold kN cntT
  rw [← sumTo_add]
  refine sumTo_congr fun c hc => ?_
  cases ha : above p t c with
  | true =>
    have hb : belT p t c = false := by unfold above at ha; unfold belT; rw [decide_eq_true_eq] at ha; exact decide_eq_false (by omega)
    have h1 : LeadT N (tT p m t) allB c := ⟨rfl, fun ⟨b, hbc, _, hr⟩ => by
      rcases rt_all hr with e | ⟨_, e, _⟩
      · omega
      · rw [hb] at e; cases e⟩
    have h2 : ¬ LeadT N (touchS m) (belT p t) c := fun h => by have := h.1; rw [hb] at this; cases this
    rw [if_pos h1, if_neg h2]; rfl
  | false =>
    have hb : belT p t c = true := by unfold above at ha; unfold belT; rw [decide_eq_false_iff_not] at ha; exact decide_eq_true (by omega)
    have h1 : LeadT N (tT p m t) allB c ↔ LeadT N (touchS m) (belT p t) c := by
      constructor
      · intro h
        exact ⟨hb, fun ⟨b, hbc, hbb, hr⟩ => h.2 ⟨b, hbc, rfl, (rt_bel hbb hr).2⟩⟩
      · intro h
        refine ⟨rfl, fun ⟨b, hbc, _, hr⟩ => ?_⟩
        rcases rt_all hr with e | ⟨e1, _, e3⟩
        · omega
        · exact h.2 ⟨b, hbc, e1, e3⟩
    by_cases h2 : LeadT N (touchS m) (belT p t) c
    · rw [if_pos (h1.2 h2), if_pos h2]; rfl
    · rw [if_neg (fun h => h2 (h1.1 h)), if_neg h2]; rfl
end
theorem kN_top {n m : Nat} {p : List Int} (hn1 : 0 < n) (hm1 : 0 < m) (hp : ∀ i, i < n * m → p.getD i 0 ≤ 12) : kN p m (n * m) 12 = 1 := by
  unfold kN
  have tt : ∀ i k, i < n * m → k < n * m → touchS m i k = true → tT p m 12 i k = true := fun i k hi hk h => by
    unfold tT
    rw [h, decide_eq_true (hp i hi), decide_eq_true (hp k hk)]; rfl
  have hall : ∀ c, c < n * m → allB c = true → RT (n * m) (tT p m 12) allB 0 c := fun c hc _ => by
    obtain ⟨h1, h2, h3⟩ := cell_of' hc
    rw [h3]
    exact grid_all' (n := n) (m := m) (T := tT p m 12) (B := allB) (fun _ _ => rfl) (fun R C hR hC => tt _ _ (idx_lt' hR (by omega)) (idx_lt' hR hC) (touchS_right' hC)) (fun R C hR hC => tt _ _ (idx_lt' (by omega) hC) (idx_lt' hR hC) (touchS_down' hC)) (c % m) h2 (c / m) h1
  have h := cnt_oneE' (N := n * m) (T := tT p m 12) (B := allB) rfl hall (n * m - 1) (by have := Nat.mul_pos hn1 hm1; omega)
  rw [show n * m - 1 + 1 = n * m by have := Nat.mul_pos hn1 hm1; omega] at h
  exact h
/-- Area and lands upside down, at a height. -/
theorem kN_area {h : List (List Int)} (hg : vGrid h = true) {t : Nat} (ht : t < 12) : kN h.flatten (h.getD 0 []).length h.flatten.length t = areaX h t + landsX (underL h) (11 - (t : Int)) ∧ 0 ≤ areaX h t ∧ areaX h t ≤ 25 ∧ 0 ≤ landsX (underL h) (11 - (t : Int)) ∧ landsX (underL h) (11 - (t : Int)) ≤ 25 := by
  have G := Grid.of hg
  have hpl := flat_grid_len G
  have hN25 : h.flatten.length ≤ 25 := by rw [hpl]; exact Nat.le_trans (Nat.mul_le_mul G.n5 G.m5) (by decide)
  have G2 := under_grid G
  have hg2 := G2.to
  have v1 : vLevel h (t : Int) = true := by unfold vLevel inR; rw [hg, decide_eq_true (show (-1 : Int) ≤ (t : Int) by omega), decide_eq_true (show (t : Int) ≤ 12 by omega)]; rfl
  have v2 : vLevel (underL h) (11 - (t : Int)) = true := by unfold vLevel inR; rw [hg2, decide_eq_true (show (-1 : Int) ≤ 11 - (t : Int) by omega), decide_eq_true (show 11 - (t : Int) ≤ 12 by omega)]; rfl
  have en2 : (underL h).length = h.length := by simp [underL]
  have em2 : ((underL h).getD 0 []).length = (h.getD 0 []).length := G2.len 0 (by rw [en2]; exact G.n1)
  have hA : areaX h t = sumTo (fun i => if above h.flatten t i = true then 1 else 0) h.flatten.length := by unfold areaX; rw [if_pos v1]; rfl
  have hL : landsX (underL h) (11 - (t : Int)) = cntT h.flatten.length (touchS (h.getD 0 []).length) (belT h.flatten t) h.flatten.length := by
    unfold landsX
    rw [if_pos v2, en2, em2, ← hpl]
    refine cntT_congr' (fun i hi => ?_) _ (Nat.le_refl _)
    unfold above belT
    rw [under_flat', getD_map' (fun x => 12 - x) _ i 0 0 hi]
    exact decide_eq_decide.2 (by omega)
  have b1 : 0 ≤ areaX h t ∧ areaX h t ≤ 25 := by
    rw [hA]
    have := sumTo_bd (f := fun i => if above h.flatten t i = true then (1 : Int) else 0) 0 1 (k := h.flatten.length) fun i _ => by split <;> omega
    omega
  have b2 := cntT_le h.flatten.length (touchS (h.getD 0 []).length) (belT h.flatten t) h.flatten.length
  rw [kN_split, ← hA, ← hL]
  rw [← hL] at b2
  exact ⟨rfl, b1.1, b1.2, b2.1, by omega⟩
/-- What FnSpanOf adds up. -/
theorem spanX_law {h : List (List Int)} (hg : vGrid h = true) : sumTo (fun t => (h.flatten.length : Int) - 1 - ((h.flatten.length : Int) - areaX h (t : Nat)) + landsX (underL h) (11 - ((t : Nat) : Int))) 12 = spanX h := by
  have G := Grid.of hg
  have hpl := flat_grid_len G
  have hp := grid_p hg
  rw [spanX_sum hg]
  have k1 : kN h.flatten (h.getD 0 []).length h.flatten.length 12 = 1 := by
    rw [hpl]; exact kN_top G.n1 G.m1 fun i hi => (hp i (by rw [hpl]; exact hi)).2
  rw [k1]
  have e : ∀ k, k ≤ 12 → sumTo (fun t => (h.flatten.length : Int) - 1 - ((h.flatten.length : Int) - areaX h (t : Nat)) + landsX (underL h) (11 - ((t : Nat) : Int))) k = sumTo (fun u => kN h.flatten (h.getD 0 []).length h.flatten.length (u : Nat)) k - k := by
    intro k
    induction k with
    | zero => intro _; rfl
    | succ k ih =>
      intro hk
      have := (kN_area hg (t := k) (by omega)).1
      rw [sumTo, sumTo, ih (by omega), this]
      omega
  rw [e 12 (Nat.le_refl _)]
  rfl
end Go.Proofs.YtaeenedjmakelaaDoor
/- The contract of laws.under. -/
namespace Go.Proofs.YtaeenedjmakelaaDoor
open Go.RowKit

set_option maxRecDepth 100000 in
set_option maxHeartbeats 2000000 in
theorem under_any (v : Value) (h : List (List Int)) (w : World) (hv : RowsV w v h) (hg : vGrid h = true) :
    Calls Tryd.prog 39 #[v] w (NewRows w (underL h)) := by
  have G := Grid.of hg
  obtain ⟨m, em⟩ : ∃ m, (h.getD 0 []).length = m := ⟨_, rfl⟩
  rw [em] at G
  have HG := Lib.hid G
  have b1 := G.n1
  have b5 := G.n5
  have c1 := G.m1
  have c5 := G.m5
  obtain ⟨a, b, o, c, rfl, ⟨hlc, hcb⟩, ha, HC⟩ := hv.shape
  obtain rfl := ha b1
  clear hv hg ha em G
  go_enter Tryd.func39, Tryd.ntmps39
  go_wp2_with (fail)
  have H0 : Hid (RowsO 22 3 w.heap.size (w.alloc (.cells #[] 22)).heap.size (w.alloc (.cells #[] 22)) (.slice (some ⟨w.heap.size, 0, none⟩) 0 0) [] ∧ Grew w (w.alloc (.cells #[] 22))) :=
    ⟨by simpa using RowsO.lit0 22 3 w.heap.size w (Nat.le_refl _), (Grew.refl w).alloc _⟩
  go_loopg [3, 4] h.length (fun gk v i wr => ∃ H g c', v = .slice (some ⟨g, 0, none⟩) (List.length H) c' ∧ i = .int .i64 ((List.length H : Nat) : Int) ∧ List.length H ≤ h.length ∧ h.length ≤ gk + List.length H ∧
    Hid (RowsO 22 3 w.heap.size wr.heap.size wr v H ∧ H = (h.take (List.length H)).map (fun row => row.map fun x => 12 - x) ∧ Grew w wr))
  case atStart => exact ⟨[], _, _, rfl, rfl, Nat.zero_le _, Nat.le_refl _, H0.out.1, rfl, H0.out.2⟩
  case round =>
    obtain ⟨H, g, c', rfl, rfl, hH1, hH2, HI⟩ := hrel
    clear H0
    by_cases hlt : H.length < h.length
    · obtain ⟨wo, rfl⟩ : ∃ wo : World, wo = wr := ⟨_, rfl⟩
      obtain ⟨gn, rfl⟩ : ∃ gn : Nat, gn = gk := ⟨_, rfl⟩
      have hsw := HI.out.2.2.size
      obtain ⟨u, hck, hu⟩ := HC.out H.length hlt
      have hrl := HG.out.len H.length hlt
      obtain ⟨row, er⟩ : ∃ row, h.getD H.length [] = row := ⟨_, rfl⟩
      have hnum := HG.out.num H.length hlt
      rw [er] at hu hrl hnum
      obtain ⟨a1, b1', o1, c1', rfl, ⟨hlc1, hcb1⟩, ha1, HC1⟩ := hu.shape
      obtain rfl := ha1 (by omega)
      have HCK := Lib.hid (HI.out.2.2.cell hck)
      have HER := Lib.hid (And.intro er (And.intro hrl hnum))
      have hrm : row.length ≤ 5 ∧ 1 ≤ row.length := by omega
      clear hck hu ha1 er hrl hnum
      go_wp2_with (fail)
      have H0 : Hid (IntsO 3 wo.heap.size (wo.alloc (.cells #[] 3)).heap.size (wo.alloc (.cells #[] 3)) (.slice (some ⟨wo.heap.size, 0, none⟩) 0 0) [] ∧ Grew wo (wo.alloc (.cells #[] 3))) :=
        ⟨by simpa using IntsO.lit 3 wo.heap.size wo [] #[] rfl (Nat.le_refl _) (by decide), (Grew.refl wo).alloc _⟩
      go_loopg [5, 6] row.length (fun gk v i wi => ∃ xs g' c', v = .slice (some ⟨g', 0, none⟩) (List.length xs) c' ∧ i = .int .i64 ((List.length xs : Nat) : Int) ∧ List.length xs ≤ row.length ∧ row.length ≤ gk + List.length xs ∧
        Hid (IntsO 3 wo.heap.size wi.heap.size wi v xs ∧ xs = (row.take (List.length xs)).map (fun x => 12 - x) ∧ Grew wo wi))
      case atStart => exact ⟨[], _, _, rfl, rfl, Nat.zero_le _, Nat.le_refl _, H0.out.1, rfl, H0.out.2⟩
      case round =>
        obtain ⟨xs, g', c2, rfl, rfl, hx1, hx2, HX⟩ := hrel
        clear H0
        have hck' := HX.out.2.2.cell HCK.out
        by_cases hltx : xs.length < row.length
        · have hel := HX.out.2.2.cell (HI.out.2.2.cell (HC1.out xs.length hltx))
          obtain ⟨y, ey⟩ : ∃ y, row.getD xs.length 0 = y := ⟨_, rfl⟩
          have hy := HER.out.2.2 xs.length (by have := HER.out.2.1; omega)
          rw [ey] at hel hy
          have HEY := Lib.hid ey
          clear ey
          go_wp2_with (at_builtin; refine wpList_append_int rfl (.tmp 24) (.tmp 33) 22 rfl Tryd.underlying22 Tryd.infoI rfl rfl rfl HX.out.1 (by omega) HX.out.2.2.size ?_; intro g5 c5 w5 hO5 hW5 hS5)
          have HF := Lib.hid (And.intro hO5 hW5)
          clear hO5 hW5
          go_wp2
          go_roundg (gk - 1)
          case measure => omega
          case rel => exact ⟨xs ++ [12 - y], g5, c5, by simp, by simp, by simp; omega, by simp; omega, HF.out.1, snoc_map 0 HX.out.2.1 hltx (by rw [HEY.out]), HF.out.2.grew HX.out.2.2 (Nat.le_refl _)⟩
        · go_wp2_with (at_builtin; refine wpList_append_row rfl (.tmp 35) (.tmp 37) 32 rfl (by decide) Tryd.underlying32 Tryd.infoIs rfl rfl rfl (HI.out.1.grew HX.out.2.2) HX.out.1 (by omega) (by have := HX.out.2.2.size; omega) hsw ?_; intro g5 c5 w5 hO5 hW5 hS5)
          have HF := Lib.hid (And.intro hO5 hW5)
          clear hO5 hW5
          go_wp2
          go_roundg (gn - 1)
          case measure => omega
          case rel => exact ⟨H ++ [xs], g5, c5, by simp, by simp, by simp; omega, by simp; omega, HF.out.1, snoc_map [] HI.out.2.1 hlt (by rw [HER.out.1, HX.out.2.1, List.take_of_length_le (by omega)]), HF.out.2.grew (HI.out.2.2.trans HX.out.2.2) (Nat.le_refl _)⟩
    · go_wp2
      go_ret
      refine ⟨_, rfl, ?_, HI.out.2.2⟩
      have := HI.out.2.1
      rw [List.take_of_length_le (by omega)] at this
      rw [underL, ← this]
      exact HI.out.1
end Go.Proofs.YtaeenedjmakelaaDoor
/- The contract of spec.SpanOf. -/
namespace Go.Proofs.YtaeenedjmakelaaDoor
open Go.RowKit

set_option maxRecDepth 100000 in
set_option maxHeartbeats 1000000 in
theorem SSpanOf_any (v : Value) (h : List (List Int)) (w : World) (hv : RowsV w v h) :
    Calls Tryd.prog 34 #[v] w fun e w' => e = .returned (.int .i64 (spanX h)) ∧ Grew w w' := by
  have HK := sValidGrid_any v h w hv
  cases hg : vGrid h with
  | false =>
    rw [hg] at HK
    have HK2 := Lib.hid HK
    have HX : spanX h = -1 := by unfold spanX; rw [hg]; rfl
    rw [HX]
    obtain ⟨a, b, o, c, rfl, _, _, _⟩ := hv.shape
    clear hv HK hg HX
    go_enter Tryd.func34, Tryd.ntmps34
    go_wp2_with (fail)
    refine HK2.out.mono ?_
    rintro e w1 ⟨rfl, hG⟩
    have HG := Lib.hid hG
    clear hG
    go_wp2
    go_ret
    exact ⟨rfl, HG.out⟩
  | true =>
    rw [hg] at HK
    have HK2 := Lib.hid HK
    have HE := Lib.hid fun W (hW : Grew w W) => spanning_any v h W (hv.grew hW) hg
    rw [span_eq hg] at HE
    obtain ⟨R, eR⟩ : ∃ R, spanX h = R := ⟨_, rfl⟩
    rw [eR] at HE ⊢
    obtain ⟨a, b, o, c, rfl, _, _, _⟩ := hv.shape
    clear hv HK hg eR
    go_enter Tryd.func34, Tryd.ntmps34
    go_wp2_with (fail)
    refine HK2.out.mono ?_
    rintro e w1 ⟨rfl, hG⟩
    have HG := Lib.hid hG
    clear hG
    go_wp2_with (fail)
    refine (HE.out _ HG.out).mono ?_
    rintro e w2 ⟨rfl, hG2⟩
    have H1 := Lib.hid (HG.out.trans hG2)
    clear hG2
    go_wp2
    go_ret
    exact ⟨rfl, H1.out⟩
end Go.Proofs.YtaeenedjmakelaaDoor
/- The law FnSpanOf returns true. -/
namespace Go.Proofs.YtaeenedjmakelaaDoor
open Go.RowKit

set_option maxRecDepth 100000 in
set_option maxHeartbeats 4000000 in
theorem FnSpanOf_any (v : Value) (bs : List Int) (w : World) (hv : NumsV .u8 w v bs) (hb : ∀ i, i < bs.length → 0 ≤ bs.getD i 0 ∧ bs.getD i 0 ≤ 255) (hS : Steps w) :
    Calls Tryd.prog 8 #[v] w fun e w' => e = .returned (.bool true) ∧ Grew w w' := by
  have HD := Lib.hid (DrawSpanOf_any v bs w hv hb)
  have HS := Lib.hid hS
  obtain ⟨a, b, o, c, rfl, ⟨hlc, hcb⟩, _, _⟩ := hv.shape
  clear hv hb hS
  by_cases hbig : 1048576 < bs.length
  · go_enter Tryd.func8, Tryd.ntmps8
    go_wp2
    go_ret
    exact ⟨rfl, Grew.refl _⟩
  · go_enter Tryd.func8, Tryd.ntmps8
    go_wp2_with (fail)
    refine HD.out.mono ?_
    rintro e w1 ⟨v1, h, rfl, hO, hd, hg1⟩
    have HV := Lib.hid (And.intro hO.toV hg1)
    have HS1 : Hid (Steps w1) := Lib.hid (HS.out.grew hg1)
    obtain ⟨a3, c3, rfl⟩ := hO.sh
    obtain ⟨X, eX⟩ : ∃ X, spanX h = X := ⟨_, rfl⟩
    have HX := Lib.hid eX
    clear hO hd hg1 HD eX
    go_wp2_with (fail)
    (with_reducible refine (SpanOf_any _ h _ HV.out.1 HS1.out).mono ?_)
    rw [HX.out]
    rintro e w2 ⟨rfl, hg2⟩
    have HG2 := Lib.hid hg2
    clear hg2
    go_wp2_with (fail)
    (with_reducible refine (SSpanOf_any _ h _ (HV.out.1.grew HG2.out)).mono ?_)
    rw [HX.out]
    rintro e w3 ⟨rfl, hg3⟩
    have HG3 := Lib.hid (HG2.out.trans hg3)
    clear hg3
    have exx : (X != X) = false := by simp
    cases hp : vGrid h with
    | false =>
      have hX : X = -1 := by rw [← HX.out]; unfold spanX; rw [hp]; rfl
      subst hX
      clear hp
      go_wp2_with (fail)
      (with_reducible refine (SSpanOf_any _ h _ (HV.out.1.grew HG3.out)).mono ?_)
      rw [HX.out]
      rintro e w4 ⟨rfl, hg4⟩
      have HG4 := Lib.hid (HV.out.2.trans (HG3.out.trans hg4))
      clear hg4
      go_wp2
      go_ret
      exact ⟨rfl, HG4.out⟩
    | true =>
      have G := Grid.of hp
      have hlaw := spanX_law hp
      rw [HX.out] at hlaw
      have HK := Lib.hid (fun (t : Nat) (ht : t < 12) => (kN_area hp (t := t) ht).2)
      have hX0 : ¬ X < 0 := by
        rw [← HX.out]; unfold spanX; rw [if_pos hp]
        have := (spanS_le (q := meetsX h) fun e he => ((meetsX_ok hp).2 e he).2.2).1
        omega
      have hpl := flat_grid_len G
      have hN25 : h.flatten.length ≤ 25 := by rw [hpl]; exact Nat.le_trans (Nat.mul_le_mul G.n5 G.m5) (by decide)
      have HRO := Lib.hid (fun W (hW : Grew w1 W) => rowOf_any _ h W (HV.out.1.grew hW) (Nat.le_trans G.n5 (by decide)) (fun r hr => by have := G.len r hr; have := G.m1; have := G.m5; omega))
      have HUN := Lib.hid (fun W (hW : Grew w1 W) => under_any _ h W (HV.out.1.grew hW) hp)
      obtain ⟨N, eN⟩ : ∃ N, h.flatten.length = N := ⟨_, rfl⟩
      have HLW := Lib.hid hlaw
      have HEN := Lib.hid eN
      rw [eN] at HLW hN25
      clear hlaw hpl G hp eN
      go_wp2_with (fail)
      (with_reducible refine (HRO.out _ HG3.out).mono ?_)
      rintro e w4 ⟨g4, c4, rfl, hO4, hg4⟩
      rw [HEN.out]
      have HG4 := Lib.hid (HG3.out.trans hg4)
      clear hO4 hg4
      go_wp2_with (fail)
      go_loopw [6, 7] (fun s' t' wr => ∃ t : Nat, t ≤ 12 ∧ t' = .int .i64 t ∧ s' = .int .i64 (sumTo (fun t => (N : Int) - 1 - ((N : Int) - areaX h (t : Nat)) + landsX (underL h) (11 - ((t : Nat) : Int))) t) ∧ Hid (Grew w1 wr)) (fun _ t' _ => 12 - (intOf t').toNat)
      case atStart => exact ⟨0, by decide, rfl, rfl, HG4.out⟩
      case round =>
        obtain ⟨t, ht, rfl, rfl, HI⟩ := hrel
        by_cases htl : t < 12
        · obtain ⟨k1, k2, k3, k4⟩ := HK.out t htl
          have HSM : Hid (sumTo (fun t => (N : Int) - 1 - ((N : Int) - areaX h (t : Nat)) + landsX (underL h) (11 - ((t : Nat) : Int))) (t + 1) = sumTo (fun t => (N : Int) - 1 - ((N : Int) - areaX h (t : Nat)) + landsX (underL h) (11 - ((t : Nat) : Int))) t + ((N : Int) - 1 - ((N : Int) - areaX h (t : Nat)) + landsX (underL h) (11 - ((t : Nat) : Int)))) := Lib.hid rfl
          have hsb := sumTo_bd (f := fun t => (N : Int) - 1 - ((N : Int) - areaX h (t : Nat)) + landsX (underL h) (11 - ((t : Nat) : Int))) (-100) 100 (k := t) fun i hi => by
            have := HK.out i (by omega)
            omega
          obtain ⟨S, eS⟩ : ∃ S, sumTo (fun t => (N : Int) - 1 - ((N : Int) - areaX h (t : Nat)) + landsX (underL h) (11 - ((t : Nat) : Int))) t = S := ⟨_, rfl⟩
          rw [eS] at HSM hsb ⊢
          obtain ⟨A, eA⟩ : ∃ A, areaX h (t : Nat) = A := ⟨_, rfl⟩
          obtain ⟨L, eL⟩ : ∃ L, landsX (underL h) (11 - ((t : Nat) : Int)) = L := ⟨_, rfl⟩
          rw [eA, eL] at HSM
          rw [eA] at k1 k2
          rw [eL] at k3 k4
          have HAL := Lib.hid (And.intro eA eL)
          have w1' : IntKind.i64.wrap (S + (N : Int)) = S + N := IntWalk.i64_in _ (by omega)
          have w2' : IntKind.i64.wrap (S + (N : Int) - 1) = S + N - 1 := IntWalk.i64_in _ (by omega)
          have w3' : IntKind.i64.wrap ((N : Int) - A) = N - A := IntWalk.i64_in _ (by omega)
          have w4' : IntKind.i64.wrap (S + (N : Int) - 1 - (N - A)) = S + N - 1 - (N - A) := IntWalk.i64_in _ (by omega)
          have w5' : IntKind.i64.wrap (11 - (t : Int)) = 11 - t := IntWalk.i64_in _ (by omega)
          have w6' : IntKind.i64.wrap (S + (N : Int) - 1 - (N - A) + L) = S + N - 1 - (N - A) + L := IntWalk.i64_in _ (by omega)
          have HFS : Hid (S + (N : Int) - 1 - (N - A) + L = sumTo (fun t => (N : Int) - 1 - ((N : Int) - areaX h (t : Nat)) + landsX (underL h) (11 - ((t : Nat) : Int))) (t + 1)) := Lib.hid (by rw [HSM.out]; omega)
          clear eS eA eL hsb HSM
          go_wp2_with (fail)
          (with_reducible refine (AreaAt_any _ h t _ (HV.out.1.grew HI.out)).mono ?_)
          rw [HAL.out.1]
          rintro e w5 ⟨rfl, hg5⟩
          have HG5 := Lib.hid (HI.out.trans hg5)
          clear hg5
          go_wp2_with (fail)
          (with_reducible refine (HUN.out _ HG5.out).mono ?_)
          rintro e w6 ⟨v6, rfl, hO6, hg6⟩
          obtain ⟨a6, c6, rfl⟩ := hO6.sh
          have H6 := Lib.hid (And.intro hO6.toV (HG5.out.trans hg6))
          clear hO6 hg6
          go_wp2_with (fail)
          (with_reducible refine (LandsAt_any _ (underL h) (11 - (t : Int)) _ H6.out.1 (HS1.out.grew H6.out.2)).mono ?_)
          rw [HAL.out.2]
          rintro e w7 ⟨rfl, hg7⟩
          have HG7 := Lib.hid (H6.out.2.trans hg7)
          clear hg7
          go_wp2
          rw [HFS.out]
          go_roundw
          case rel => exact ⟨t + 1, by omega, by first | rfl | go_num, rfl, HG7.out⟩
          case measure => simp [intOf]; omega
        · obtain rfl : t = 12 := by omega
          rw [HLW.out]
          have exx2 : (X == X) = true := by simp
          have HGF := Lib.hid (HV.out.2.trans HI.out)
          go_wp2
          go_ret
          exact ⟨ret_bool (by first | rfl | (simp; done)), HGF.out⟩
end Go.Proofs.YtaeenedjmakelaaDoor
namespace Go.Proofs.YtaeenedjmakelaaDoor.pSpanOf
open Go.RowKit Go.ChangeShapes Go.WideShapes Go.ChangeAt

set_option maxRecDepth 100000 in
theorem lifted (os : Os) (started : os.Started) (H : Type) (enc : TypeId × Value → H) :
    ReturnsInHanded {} Tryd.checked os 8 .any (fun w args => (Rows.fnSpanOfSpec.pre enc Tryd.prog Tryd.f8 [] false w args ∧ laidMetH Tryd.prog laid1 w) ∧ sizedMet enc Tryd.prog Tryd.f8 (OpenSpec.ofChange Rows.fnSpanOfSpec) false w args)
      (Rows.fnSpanOfSpec.post enc Tryd.prog Tryd.f8 false true false false) := by
  refine returnsInHanded_of_change_and (C := Tryd.checked) (X := fun w _ => laidMetH Tryd.prog laid1 w) (fun _ _ _ hh h => h.of_heap hh) Tryd.own started (by kernel_rfl) Tryd.func8
    (ChangeSpec.witness_shaped (enc := enc) (C := Tryd.checked) (os := os) (X := fun w _ => laidMetH Tryd.prog laid1 w) false (World.doorLaid Tryd.prog 400 os) #[.slice none 0 0] 8 rfl (World.shaped_of_RefB (by kernel_rfl) (by kernel_rfl)) (by kernel_rfl) (by kernel_rfl) (by kernel_rfl) (door_met os _)) ?_
  intro W base args ds gs before hval0 hW _ _ hL _
  have hval : ∀ (j : Nat) t v, Tryd.f8.params[j]? = some t → args[j]? = some v → Value.okWide Tryd.prog W .any base t v := hval0
  have hW' := hW
  obtain ⟨p, q, hA0, hV, rfl, _, _⟩ := hW
  have hA : DataW.TrodAll enc Tryd.prog W 0 (fun _ => true) true Tryd.f8.params.toList args.toList ds p := hA0
  rw [Tryd.params8] at hA hval
  obtain ⟨v0, d0, rfl, rfl, h0⟩ := trodAll_one hA
  have hV' := hV
  obtain ⟨_, _, _, _, dv, _, rfl, _⟩ := trodVars_one hV
  obtain ⟨a0, len0, cap0, rfl⟩ := okWide_slice Tryd.underlying27 (hval 0 27 v0 rfl rfl)
  have k0 := h0
  have lt0 : ∀ x ∈ p, x.block < W.heap.size := by obtain ⟨m, hm⟩ := k0; exact DataW.trod_lt m _ _ _ hm
  obtain ⟨bs0, hn0, hb0⟩ := bytes_came h0
  have HS := steps_of_laid hL
  clear hA0 hval0
  refine (FnSpanOf_any _ bs0 W hn0 hb0 HS).mono fun e W' ⟨he, bel⟩ => ?_
  subst he
  exact ⟨_, rfl, _, _, _, [], _, q, hW', trodAll_mk1 (shut_bool Tryd.underlying4 _), (trodAll_mk1 (Below.trod Tryd.laidOut (by kernel_rfl) (of_decide_eq_true (by kernel_rfl)) k0 bel lt0)), Below.trodVars Tryd.laidOut bel (by kernel_rfl) hV', Below.frame bel _, fun h => by cases h⟩

theorem row_proved : Rows.FnSpanOfSaid :=
  OpenClaim.holds_of_wide 8 Tryd.f8 rfl rfl rfl rfl rfl rfl rfl ⟨rfl, rfl, rfl, rfl, rfl⟩ rfl rfl rfl rfl rfl (by kernel_rfl) Tryd.func8
    (show joinedFacts Tryd.prog 8 Tryd.f8 Rows.fnSpanOfSpec Rows.fnSpanOfRow = true by unfold joinedFacts; rw [Tryd.makeG, Tryd.liftsG, Tryd.enterG]; kernel_rfl)
    (of_decide_eq_true (by kernel_rfl)) (by unfold Func.isWrapper; first | (rw [if_pos (by decide +kernel)]; kernel_rfl) | (rw [if_neg (by decide +kernel)]; exact ⟨rfl, rfl⟩))
    (fun os started H enc _ => lifted os started H enc)

theorem proved : Rows.FnSpanOfCardSaid :=
  Claim7.holds_tied_plain_at .later [] [.data] true Rows.fnSpanOfCard.stood.harness Rows.fnSpanOfCard.stood.looks
    row_proved (fun _ h => by cases h) (by kernel_rfl) (fun _ h => by cases h) fnSpanOf_row_tie rfl ⟨rfl, rfl⟩ (show Tryd.prog.mainIs = some (Rows.fnSpanOfCard.stood.harness.1, Rows.fnSpanOfCard.stood.harness.2.toList) from Tryd.mainG) rfl
    (fun f fn hf hfn => by
      obtain rfl : f = 8 := Option.some.inj ((show Tryd.prog.funcNamed "loop.example/wateronheights/laws.FnSpanOf" = some 8 by kernel_rfl).symm.trans hf) |>.symm
      obtain rfl : fn = Tryd.f8 := (Option.some.inj (Tryd.func8.symm.trans hfn)).symm
      exact ⟨by kernel_rfl, fun j t ht => by
        rw [Tryd.params8] at ht
        have hm : t ∈ [27] := by simpa using Array.mem_of_getElem? ht
        have hall : ([27].all fun u => !Tryd.prog.wantsStandIn u) = true := by kernel_rfl
        exact (show Tryd.prog.wantsStandIn t = false by simpa using List.all_eq_true.1 hall t hm)⟩)
    (by kernel_rfl)
#print axioms proved
end Go.Proofs.YtaeenedjmakelaaDoor.pSpanOf
