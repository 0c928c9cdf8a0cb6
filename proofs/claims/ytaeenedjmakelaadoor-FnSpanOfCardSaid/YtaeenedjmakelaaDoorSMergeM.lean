/- The memory of spec.merges. -/
import Derived.Test.YtaeenedjmakelaaDoorSRoot
import Derived.Test.YtaeenedjmakelaaDoorMeetF
namespace Go.Proofs.YtaeenedjmakelaaDoor
open Go.RowKit

theorem bools_at1 {E lo hi : Nat} {w : World} {g n c : Nat} {xs : List Bool} (h : BoolsO E lo hi w (.slice (some ⟨g, 0, none⟩) n c) xs) : BoolsO E g (g + 1) w (.slice (some ⟨g, 0, none⟩) n c) xs := by
  refine ⟨⟨h.1.1, ?_⟩, fun k e => by simp [Value.ownBlock] at e; omega⟩
  rcases h.1.2 with ⟨e, _⟩ | ⟨g1, cap, cur, e, hg, hh⟩
  · simp at e
  · simp only [Value.slice.injEq, Option.some.injEq, Addr.mk.injEq] at e
    obtain ⟨⟨rfl, _⟩, _, rfl⟩ := e
    exact .inr ⟨g, c, cur, by rw [‹n = _›], Nat.le_refl _, hh⟩
structure SM (wo : World) (s9 gu gt gl cl gr N : Nat) (u ls rk : List Int) (th : List Bool) (w : World) : Prop where
  up : IntsO 3 gu (gu + 1) w (.slice (some ⟨gu, 0, none⟩) N N) u
  th : BoolsO 4 gt (gt + 1) w (.slice (some ⟨gt, 0, none⟩) N N) th
  ls : IntsO 3 gl (gl + 1) w (.slice (some ⟨gl, 0, none⟩) N cl) ls
  rk : IntsO 3 gr (gr + 1) w (.slice (some ⟨gr, 0, none⟩) N N) rk
  gw : Grew wo w
  o1 : wo.heap.size ≤ gu
  o2 : gu + 1 ≤ gt
  o3 : gt + 1 ≤ gl
  o4 : gl + 1 ≤ gr
  o5 : gr + 1 ≤ s9
  o6 : s9 ≤ w.heap.size
variable {wo : World} {s9 gu gt gl cl gr N : Nat} {u ls rk : List Int} {th : List Bool} {w : World}
theorem SM.grew {w' : World} (h : SM wo s9 gu gt gl cl gr N u ls rk th w) (hg : Grew w w') : SM wo s9 gu gt gl cl gr N u ls rk th w' :=
  ⟨h.up.grew hg, h.th.grew hg, h.ls.grew hg, h.rk.grew hg, h.gw.trans hg, h.o1, h.o2, h.o3, h.o4, h.o5, Nat.le_trans h.o6 hg.size⟩
theorem SM.app {w' : World} {hi : Nat} (h : SM wo s9 gu gt gl cl gr N u ls rk th w) (hg : Within s9 hi w w') : SM wo s9 gu gt gl cl gr N u ls rk th w' := by
  have h1 := h.o1; have h2 := h.o2; have h3 := h.o3; have h4 := h.o4; have h5 := h.o5
  exact ⟨h.up.within hg (.inl (by omega)), h.th.within hg (.inl (by omega)), h.ls.within hg (.inl (by omega)), h.rk.within hg (.inl (by omega)), Within.grew h.gw hg (by omega), h.o1, h.o2, h.o3, h.o4, h.o5, Nat.le_trans h.o6 hg.size⟩
theorem SM.setU (h : SM wo s9 gu gt gl cl gr N u ls rk th w) (j : Nat) (x : Int) : SM wo s9 gu gt gl cl gr N (u.set j x) ls rk th (w.setCell ⟨gu, j, none⟩ (.int .i64 x)) := by
  have h1 := h.o1; have h2 := h.o2; have h3 := h.o3; have h4 := h.o4; have h5 := h.o5
  have hg : Within gu (gu + 1) w (w.setCell ⟨gu, j, none⟩ (.int .i64 x)) := (Within.refl _ _ _).setCell (p := ⟨gu, j, none⟩) (Nat.le_refl _) (Nat.lt_succ_self _) _
  exact ⟨h.up.set rfl j x, h.th.within hg (.inr (by omega)), h.ls.within hg (.inr (by omega)), h.rk.within hg (.inr (by omega)), Within.grew h.gw hg h1, h.o1, h.o2, h.o3, h.o4, h.o5, by simpa [World.setCell] using h.o6⟩
theorem SM.setT (h : SM wo s9 gu gt gl cl gr N u ls rk th w) (j : Nat) (x : Bool) : SM wo s9 gu gt gl cl gr N u ls rk (th.set j x) (w.setCell ⟨gt, j, none⟩ (.bool x)) := by
  have h1 := h.o1; have h2 := h.o2; have h3 := h.o3; have h4 := h.o4; have h5 := h.o5
  have hg : Within gt (gt + 1) w (w.setCell ⟨gt, j, none⟩ (.bool x)) := (Within.refl _ _ _).setCell (p := ⟨gt, j, none⟩) (Nat.le_refl _) (Nat.lt_succ_self _) _
  exact ⟨h.up.within hg (.inl (by omega)), h.th.set rfl j x, h.ls.within hg (.inr (by omega)), h.rk.within hg (.inr (by omega)), Within.grew h.gw hg (by omega), h.o1, h.o2, h.o3, h.o4, h.o5, by simpa [World.setCell] using h.o6⟩
theorem SM.setR (h : SM wo s9 gu gt gl cl gr N u ls rk th w) (j : Nat) (x : Int) : SM wo s9 gu gt gl cl gr N u ls (rk.set j x) th (w.setCell ⟨gr, j, none⟩ (.int .i64 x)) := by
  have h1 := h.o1; have h2 := h.o2; have h3 := h.o3; have h4 := h.o4; have h5 := h.o5
  have hg : Within gr (gr + 1) w (w.setCell ⟨gr, j, none⟩ (.int .i64 x)) := (Within.refl _ _ _).setCell (p := ⟨gr, j, none⟩) (Nat.le_refl _) (Nat.lt_succ_self _) _
  exact ⟨h.up.within hg (.inl (by omega)), h.th.within hg (.inl (by omega)), h.ls.within hg (.inl (by omega)), h.rk.set rfl j x, Within.grew h.gw hg (by omega), h.o1, h.o2, h.o3, h.o4, h.o5, by simpa [World.setCell] using h.o6⟩

/-- What the two lists hold when the first k cells of the order have been put in. -/
structure Rk (ord : List Nat) (N k : Nat) (u rk : List Int) : Prop where
  lu : u.length = N
  lr : rk.length = N
  au : ∀ j, j < k → u.getD (ord.getD j 0) 0 = (ord.getD j 0 : Nat)
  ar : ∀ j, j < k → rk.getD (ord.getD j 0) 0 = (j : Nat)
theorem getD_set_self {α : Type} (l : List α) (i : Nat) (x d : α) (h : i < l.length) : (l.set i x).getD i d = x := by
  rw [List.getD_eq_getElem?_getD, List.getElem?_set_self h]; rfl
theorem getD_set_other {α : Type} (l : List α) (i j : Nat) (x d : α) (h : i ≠ j) : (l.set i x).getD j d = l.getD j d := by
  rw [List.getD_eq_getElem?_getD, List.getElem?_set_ne h, ← List.getD_eq_getElem?_getD]
theorem ord_ne {p : List Int} {N i j : Nat} (hi : i < j) (hj : j < N) : ahead p ((ordTo p N).getD i 0) ((ordTo p N).getD j 0) = true := by
  have hl := ordTo_len p N
  have := List.pairwise_iff_getElem.1 (ordTo_sorted p N) i j (by omega) (by omega) hi
  have e1 : (ordTo p N).getD i 0 = (ordTo p N)[i] := by simp [show i < (ordTo p N).length by omega]
  have e2 : (ordTo p N).getD j 0 = (ordTo p N)[j] := by simp [show j < (ordTo p N).length by omega]
  rw [e1, e2]; exact this
theorem Rk.next {p : List Int} {N k : Nat} {u rk : List Int} (h : Rk (ordTo p N) N k u rk) (hk : k < N) : Rk (ordTo p N) N (k + 1) (u.set ((ordTo p N).getD k 0) (((ordTo p N).getD k 0 : Nat) : Int)) (rk.set ((ordTo p N).getD k 0) (k : Int)) := by
  have hN := ordTo_at_lt (p := p) hk
  refine ⟨by rw [List.length_set]; exact h.lu, by rw [List.length_set]; exact h.lr, fun j hj => ?_, fun j hj => ?_⟩
  · by_cases e : (ordTo p N).getD k 0 = (ordTo p N).getD j 0
    · rw [← e, getD_set_self _ _ _ _ (by rw [h.lu]; exact hN)]
    · have : j ≠ k := fun e2 => e (by rw [e2])
      rw [getD_set_other _ _ _ _ _ e, h.au j (by omega)]
  · by_cases e : j = k
    · subst e
      rw [getD_set_self _ _ _ _ (by rw [h.lr]; exact hN)]
    · have hne : (ordTo p N).getD k 0 ≠ (ordTo p N).getD j 0 := fun e2 => by
        have := ord_ne (p := p) (show j < k by omega) hk
        rw [← e2, ahead_irrefl] at this; cases this
      rw [getD_set_other _ _ _ _ _ hne, h.ar j (by omega)]
theorem ord_has {p : List Int} {N c : Nat} (hc : c < N) : ∃ j, j < N ∧ (ordTo p N).getD j 0 = c := by
  obtain ⟨j, hj, e⟩ := List.getElem_of_mem (mem_ordTo (p := p).2 hc)
  rw [ordTo_len] at hj
  exact ⟨j, hj, by simp [show j < (ordTo p N).length by rw [ordTo_len]; exact hj, e]⟩
theorem Rk.forest {p : List Int} {N : Nat} {u rk : List Int} (h : Rk (ordTo p N) N N u rk) : UpF u N id :=
  ⟨h.lu, fun _ => 0, fun c hc => ⟨c, hc, by obtain ⟨j, hj, e⟩ := ord_has (p := p) hc; have := h.au j hj; rwa [e] at this, rfl, fun _ => rfl, fun e => absurd rfl e⟩⟩
theorem Rk.rank {p : List Int} {N : Nat} {u rk : List Int} (h : Rk (ordTo p N) N N u rk) {a b : Nat} (ha : a < N) (hb : b < N) : decide (rk.getD a 0 < rk.getD b 0) = ahead p a b ∧ 0 ≤ rk.getD a 0 := by
  obtain ⟨i, hi, rfl⟩ := ord_has (p := p) ha
  obtain ⟨j, hj, rfl⟩ := ord_has (p := p) hb
  rw [h.ar i hi, h.ar j hj]
  refine ⟨?_, by omega⟩
  rcases Nat.lt_trichotomy i j with h1 | h1 | h1
  · rw [ord_ne h1 hj]; exact decide_eq_true (by omega)
  · subst h1
    rw [ahead_irrefl]; exact decide_eq_false (by omega)
  · rw [ahead_asymm (ord_ne h1 hi)]; exact decide_eq_false (by omega)
end Go.Proofs.YtaeenedjmakelaaDoor
