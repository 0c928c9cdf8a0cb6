/- Lakes found one after another, as lists. -/
import Derived.Test.YtgecghngfonejaaDoorLakes
namespace Go.Proofs.YtgecghngfonejaaDoor
open Go.RowKit

theorem count_put (l : List Int) (k : Nat) (v a : Int) (hk : k < l.length) (h1 : l.getD k 0 = -1) (ha : a ≠ -1) : (l.set k v).count a = l.count a + (if v = a then 1 else 0) := by
  induction l generalizing k with
  | nil => exact absurd hk (Nat.not_lt_zero _)
  | cons b l ih =>
    rcases k with _ | k
    · simp at h1
      subst h1
      simp only [List.set_cons_zero, List.count_cons]
      have : ¬ (-1 : Int) = a := fun e => ha e.symm
      by_cases e : v = a <;> simp [e, this]
    · simp at hk h1
      have := ih k hk (by simpa using h1)
      simp only [List.set_cons_succ, List.count_cons]
      omega
theorem cntL_full (fs : List Int) (N i : Nat) (hl : fs.length = N) (hi : i < N) : (cntL fs N N).getD i 0 = (fs.count (i : Int) : Int) := by
  rw [cntL_at _ _ _ _ hi, List.take_of_length_le (by omega)]
theorem lakesTo_set {fs ds ws : List Int} {N K c k : Nat} (hl : fs.length = N) (hK : K < N) (hu : fs.getD K 0 = -1) (hk : k ≤ c) (hkN : k ≤ N) : lakesTo (fs.set K (c : Int)) ds ws N k = lakesTo fs ds ws N k := by
  induction k with
  | zero => rfl
  | succ k ih =>
    rw [lakesTo, lakesTo, ih (by omega) (by omega), getD_set _ _ _ _ (by omega), cntL_full _ _ _ (by rw [List.length_set]; exact hl) (by omega), cntL_full _ _ _ hl (by omega), count_put fs K c (k : Int) (by omega) hu (by omega), if_neg (by omega : ¬ (c : Int) = (k : Int)), Nat.add_zero]
    by_cases e : k = K
    · subst e
      rw [if_pos rfl, hu, if_neg (by omega), if_neg (by omega)]
    · rw [if_neg e]

def SeenR (ds fs : List Int) (sn : List Bool) (N : Nat) : Prop := sn.length = N ∧ ∀ x, x < N → sn.getD x false = (decide (fs.getD x 0 ≠ -1) && decide (0 < ds.getD x 0))
theorem SeenR.set {ds fs : List Int} {sn : List Bool} {N K c : Nat} (h : SeenR ds fs sn N) (hl : fs.length = N) (hK : K < N) (hd : 0 < ds.getD K 0) : SeenR ds (fs.set K (c : Int)) (sn.set K true) N :=
  ⟨by rw [List.length_set]; exact h.1, fun x hx => by
    rw [getD_set _ _ _ _ (by omega)]
    by_cases e : x = K
    · subst e
      rw [if_pos rfl, decide_eq_true hd, decide_eq_true (by omega)]
      simp [h.1, hK]
    · rw [if_neg e, ← h.2 x hx, List.getD_eq_getElem?_getD, List.getElem?_set_ne (fun e2 => e e2.symm), ← List.getD_eq_getElem?_getD]⟩
/-- Between two lakes. -/
structure LOut (n m N : Nat) (ds ws : List Int) (k : Nat) (L : List (List Int)) (fs : List Int) (sn : List Bool) : Prop where
  bet : Between n m (jLake ds ws) k fs
  seen : SeenR ds fs sn N
  out : L = lakesTo fs ds ws N k
/-- While the lake of the cell k is gone over. -/
structure LIn (n m N : Nat) (ds ws : List Int) (k : Nat) (L : List (List Int)) (fs : List Int) (sn : List Bool) (met : List Int) (q : Nat) : Prop where
  going : Going n m (jLake ds ws) k fs met q
  seen : SeenR ds fs sn N
  out : L = lakesTo fs ds ws N k
  cnt : met.length = fs.count (k : Int)
  own : fs.getD k 0 = (k : Int)
  wet : 0 < ds.getD k 0
section
variable {n m N k : Nat} {ds ws fs met : List Int} {sn : List Bool} {L : List (List Int)} {q : Nat}
theorem LOut.start (eN : n * m = N) (ds ws : List Int) : LOut n m N ds ws 0 [] (List.replicate N (-1)) (List.replicate N false) := by
  have := between_start n m (jLake ds ws)
  rw [eN] at this
  exact ⟨this, ⟨by simp, fun x hx => by simp [hx]⟩, rfl⟩
theorem LOut.skip (H : LOut n m N ds ws k L fs sn) (eN : n * m = N) (hk : k < N) (hs : sn.getD k false = true) : LOut n m N ds ws (k + 1) L fs sn := by
  have h := H.seen.2 k hk
  rw [hs] at h
  have h2 := (Bool.and_eq_true _ _ ▸ h.symm : _ ∧ _)
  have h3 : fs.getD k 0 ≠ -1 := of_decide_eq_true h2.1
  refine ⟨H.bet.next h3, H.seen, ?_⟩
  rcases H.bet.ok k (by omega) with h4 | ⟨j, h4, h5, h6, _⟩
  · exact absurd h4 h3
  · rw [lakesTo, if_neg (by omega), List.append_nil]
    exact H.out
theorem LOut.dry (H : LOut n m N ds ws k L fs sn) (eN : n * m = N) (hk : k < N) (hd : ¬ 0 < ds.getD k 0) : ∃ fs', LOut n m N ds ws (k + 1) L fs' sn := by
  have hl : fs.length = N := by rw [H.bet.len, eN]
  by_cases hu : fs.getD k 0 = -1
  · refine ⟨fs.set k (k : Int), ?_, ⟨H.seen.1, fun x hx => ?_⟩, ?_⟩
    · have G := H.bet.going (by omega) hu
      have D : Done n m (jLake ds ws) k (fs.set k (k : Int)) [(k : Int)] 0 (aroundL n m ([(k : Int)].getD 0 0).toNat).length := fun s j _ _ _ hJ => by
        simp only [jLake, List.getD_cons_zero, Int.toNat_natCast, Bool.and_eq_true, decide_eq_true_eq] at hJ
        exact absurd hJ.1.1 hd
      exact (G.next (by simp) D).between
    · rw [getD_set _ _ _ _ (by omega), H.seen.2 x hx]
      by_cases e : x = k
      · subst e; rw [decide_eq_false hd]; simp
      · rw [if_neg e]
    · rw [lakesTo, if_neg (fun h => hd h.2), List.append_nil, lakesTo_set hl hk hu (Nat.le_refl _) (by omega)]
      exact H.out
  · exact ⟨fs, H.bet.next hu, H.seen, by rw [lakesTo, if_neg (fun h => hd h.2), List.append_nil]; exact H.out⟩
theorem no_own (B : Between n m (jLake ds ws) k fs) : fs.count (k : Int) = 0 := by
  rw [List.count_eq_zero]
  intro h
  obtain ⟨i, hi, e⟩ := List.getElem_of_mem h
  have e2 : fs.getD i 0 = (k : Int) := by simp [hi, e]
  rcases B.ok i (by rw [← B.len]; exact hi) with h4 | ⟨j, h4, h5, h6, _⟩ <;> omega
theorem LOut.begin (H : LOut n m N ds ws k L fs sn) (eN : n * m = N) (hk : k < N) (hs : sn.getD k false = false) (hd : 0 < ds.getD k 0) : LIn n m N ds ws k L (fs.set k (k : Int)) (sn.set k true) [(k : Int)] 0 := by
  have hl : fs.length = N := by rw [H.bet.len, eN]
  have hu : fs.getD k 0 = -1 := by
    have h := H.seen.2 k hk
    rw [hs, decide_eq_true hd, Bool.and_true] at h
    have := of_decide_eq_false h.symm
    omega
  refine ⟨H.bet.going (by omega) hu, H.seen.set hl hk hd, ?_, ?_, ?_, hd⟩
  · rw [lakesTo_set hl hk hu (Nat.le_refl _) (by omega)]; exact H.out
  · rw [count_put fs k k k (by omega) hu (by omega), no_own H.bet, if_pos rfl]; rfl
  · rw [getD_set _ _ _ _ (by omega), if_pos rfl]
theorem reach_wet {i j : Nat} (h : Reach n m (jLake ds ws) i j) : i = j ∨ (0 < ds.getD i 0 ∧ ws.getD i 0 = ws.getD j 0) := by
  induction h with
  | refl => exact .inl rfl
  | step _ _ hJ ih =>
    simp only [jLake, Bool.and_eq_true, decide_eq_true_eq] at hJ
    rcases ih with rfl | ih
    · exact .inr ⟨hJ.1.1, hJ.2⟩
    · exact .inr ⟨ih.1, by rw [ih.2, hJ.2]⟩
theorem LIn.cell (H : LIn n m N ds ws k L fs sn met q) (hq : q < met.length) : ∃ X : Nat, met.getD q 0 = X ∧ X < n * m ∧ 0 < ds.getD X 0 ∧ ws.getD X 0 = ws.getD k 0 := by
  obtain ⟨X, h1, h2, h3⟩ := H.going.mets q hq
  refine ⟨X, h1, h2, ?_⟩
  rcases reach_wet (H.going.high h2 h3) with rfl | h
  · exact ⟨H.wet, rfl⟩
  · exact h
theorem LIn.mark {K t : Nat} (hn : n ≤ 5) (hm : m ≤ 5) (H : LIn n m N ds ws k L fs sn met q) (eN : n * m = N) (hkN : k < N) (hq : q < met.length) (D : Done n m (jLake ds ws) k fs met q t)
    (ht : t < (aroundL n m (met.getD q 0).toNat).length) (hk : (aroundL n m (met.getD q 0).toNat).getD t 0 = K) (hK : K < N) (hs : sn.getD K false = false) (hd : 0 < ds.getD K 0) (hw : ws.getD K 0 = ws.getD k 0) :
    LIn n m N ds ws k L (fs.set K (k : Int)) (sn.set K true) (met ++ [(K : Int)]) q ∧ Done n m (jLake ds ws) k (fs.set K (k : Int)) (met ++ [(K : Int)]) q (t + 1) ∧ (met ++ [(K : Int)]).getD q 0 = met.getD q 0 := by
  have hl : fs.length = N := by rw [H.going.len, eN]
  have hu : fs.getD K 0 = -1 := by
    have h := H.seen.2 K hK
    rw [hs, decide_eq_true hd, Bool.and_true] at h
    have := of_decide_eq_false h.symm
    omega
  obtain ⟨X, h1, h2, h3, h4⟩ := H.cell hq
  have hJ : jLake ds ws (met.getD q 0).toNat K = true := by
    rw [h1, Int.toNat_natCast, jLake, decide_eq_true h3, decide_eq_true hd, decide_eq_true (by rw [h4, hw])]; rfl
  obtain ⟨g1, g2, g3⟩ := H.going.mark (jLake_symm ds ws) hn hm hq D ht hk hu hJ
  have hne : k ≠ K := fun e => by
    subst e
    have := H.own
    omega
  refine ⟨⟨g1, H.seen.set hl hK hd, ?_, ?_, ?_, H.wet⟩, g2, g3⟩
  · rw [lakesTo_set hl hK hu (Nat.le_refl _) (by omega)]; exact H.out
  · rw [count_put fs K k k (by omega) hu (by omega), if_pos rfl, List.length_append, H.cnt]; rfl
  · rw [getD_set _ _ _ _ (by omega), if_neg hne]; exact H.own
theorem LIn.skip {K t : Nat} (hn : n ≤ 5) (hm : m ≤ 5) (H : LIn n m N ds ws k L fs sn met q) (hq : q < met.length) (D : Done n m (jLake ds ws) k fs met q t)
    (ht : t < (aroundL n m (met.getD q 0).toNat).length) (hk : (aroundL n m (met.getD q 0).toNat).getD t 0 = K) (hK : K < N) (h : sn.getD K false = true ∨ ¬ 0 < ds.getD K 0 ∨ ¬ ws.getD K 0 = ws.getD k 0) :
    Done n m (jLake ds ws) k fs met q (t + 1) := by
  refine H.going.skip (jLake_symm ds ws) hn hm hq D ht hk ?_
  obtain ⟨X, h1, h2, h3, h4⟩ := H.cell hq
  rcases h with h | h | h
  · have e := H.seen.2 K hK
    rw [h] at e
    have h2 := (Bool.and_eq_true _ _ ▸ e.symm : _ ∧ _)
    exact .inl (of_decide_eq_true h2.1)
  · exact .inr (by rw [jLake, decide_eq_false h]; simp)
  · exact .inr (by rw [h1, Int.toNat_natCast, jLake, decide_eq_false (fun e => h (by rw [← e, h4]) : ¬ ws.getD X 0 = ws.getD K 0)]; simp)
theorem LIn.next (H : LIn n m N ds ws k L fs sn met q) (hq : q < met.length) (D : Done n m (jLake ds ws) k fs met q (aroundL n m (met.getD q 0).toNat).length) : LIn n m N ds ws k L fs sn met (q + 1) :=
  ⟨H.going.next hq D, H.seen, H.out, H.cnt, H.own, H.wet⟩
theorem LIn.done (H : LIn n m N ds ws k L fs sn met met.length) (eN : n * m = N) (hk : k < N) : LOut n m N ds ws (k + 1) (L ++ [[(k : Int), (met.length : Int), ws.getD k 0]]) fs sn :=
  ⟨H.going.between, H.seen, by rw [lakesTo, if_pos ⟨H.own, H.wet⟩, ← H.out, cntL_full _ _ _ (by rw [H.going.len, eN]) hk, H.cnt]⟩
theorem LIn.room (H : LIn n m N ds ws k L fs sn met q) (eN : n * m = N) : met.length ≤ N := by
  have := H.going.room
  omega
end
theorem lakesTo_rows (fs ds ws : List Int) (N k : Nat) : (∀ r, r ∈ lakesTo fs ds ws N k → ∃ i : Nat, i < k ∧ r = [(i : Int), (cntL fs N N).getD i 0, ws.getD i 0] ∧ fs.getD i 0 = (i : Int) ∧ 0 < ds.getD i 0) ∧ (lakesTo fs ds ws N k).Pairwise fun r s => r.getD 0 0 < s.getD 0 0 := by
  induction k with
  | zero => exact ⟨fun r h => (by cases h), List.Pairwise.nil⟩
  | succ k ih =>
    rw [lakesTo]
    split
    · rename_i hc
      refine ⟨fun r h => ?_, ?_⟩
      · rcases List.mem_append.1 h with h | h
        · obtain ⟨i, h1, h2⟩ := ih.1 r h
          exact ⟨i, by omega, h2⟩
        · rw [List.mem_singleton] at h
          exact ⟨k, by omega, h, hc.1, hc.2⟩
      · rw [List.pairwise_append]
        refine ⟨ih.2, List.pairwise_singleton _ _, fun r hr s hs => ?_⟩
        obtain ⟨i, h1, h2, _⟩ := ih.1 r hr
        rw [List.mem_singleton] at hs
        subst hs
        subst h2
        simp only [List.getD_cons_zero]
        omega
    · rw [List.append_nil]
      exact ⟨fun r h => by obtain ⟨i, h1, h2⟩ := ih.1 r h; exact ⟨i, by omega, h2⟩, ih.2⟩
end Go.Proofs.YtgecghngfonejaaDoor
