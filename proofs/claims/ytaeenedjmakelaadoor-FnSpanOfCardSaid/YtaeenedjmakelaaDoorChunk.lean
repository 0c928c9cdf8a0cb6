/- slices.Chunk as an iterator; rows that a loop over it collects. -/
import Derived.Test.YtaeenedjmakelaaDoorShaped
import Derived.Test.YtaeenedjmakelaaDoorClone
import Derived.Test.YtaeenedjmakelaaDoorBase
import Derived.RangeFuncNested
import Derived.RangeFuncBound
import Derived.RangeFuncCalls
import Derived.RangeFuncLeaves
import Derived.RangeFuncBox
import Derived.Shelf.Abstract
import Derived.Shelf.RegionOpen
import Derived.OwnWalkIn
import Derived.TacticsInMore
import Derived.LoopNIn
import Derived.LoopIn
namespace Go.Proofs.YtaeenedjmakelaaDoor
open Go.RowKit Go.Shelf

attribute [local go_sem] Oper.semAt_some

/-- The k-th cut of m, as a value. -/
def cutV (b o m : Nat) (k : Nat) : Value := .slice (some ⟨b, o + k * m, none⟩) m m
/-- The two boxes that slices.Chunk made lie as they lay. -/
def Keep2 (Bs Bm : Nat) (W W' : World) : Prop := W'.heap[Bs]? = W.heap[Bs]? ∧ W'.heap[Bm]? = W.heap[Bm]?
theorem Keep2.refl (Bs Bm : Nat) (W : World) : Keep2 Bs Bm W W := ⟨rfl, rfl⟩
theorem Keep2.trans {Bs Bm : Nat} {A B C : World} (h : Keep2 Bs Bm A B) (k : Keep2 Bs Bm B C) : Keep2 Bs Bm A C := ⟨k.1.trans h.1, k.2.trans h.2⟩
theorem Keep2.drew {Bs Bm : Nat} {A B : World} (h : Keep2 Bs Bm A B) : Keep2 Bs Bm A B.drew := h
def firstK (n k : Nat) : List (Fin n) := (List.finRange n).take k
theorem firstK_len (n k : Nat) (h : k ≤ n) : (firstK n k).length = k := by simp [firstK]; omega
theorem firstK_succ (n k : Nat) (h : k < n) : firstK n (k + 1) = firstK n k ++ [⟨k, h⟩] := by
  unfold firstK
  rw [List.take_succ_eq_append_getElem (by simpa using h)]
  simp
theorem firstK_all (n : Nat) : firstK n n = List.finRange n := List.take_of_length_le (by simp)

/-- Rows of the call's own abide whatever leaves cells as they are. -/
theorem RowsO.kept {T E lo : Nat} {W W' : World} {v : Value} {H : List (List Int)} {row : Option Nat} (h : RowsO T E lo W.heap.size W v H) (hg : W.grownBy W' row) (hr : ∀ r, row = some r → ∃ o : Obj, W.heap[r]? = some o ∧ o.isCells = false) : RowsO T E lo W'.heap.size W' v H := by
  obtain ⟨V, h1, h2, h3, h4⟩ := h
  have key : ∀ {a n : Nat} {e : TypeId} {z : Value} {ys : List Value}, W.ownsRow a e 1 z n ys → W'.ownsRow a e 1 z n ys := fun {a n e z ys} hz =>
    ownsRow_block hz fun g e2 => by
      refine hg.block g (World.ownsRow.lt hz g e2).2 fun e3 => ?_
      obtain ⟨o, ho1, ho2⟩ := hr g e3.symm
      rcases hz.2 with ⟨e4, _⟩ | ⟨g1, cap, cur, e4, _, h6, _⟩
      · subst e4; simp [Value.ownBlock] at e2
      · subst e4
        simp only [Value.ownBlock, Option.some.injEq] at e2
        subst e2
        rw [h6] at ho1
        simp only [Option.some.injEq] at ho1
        subst ho1
        cases ho2
  exact ⟨V, key h1, fun g e => Nat.lt_of_lt_of_le (h2 g e) hg.size, fun r hr2 => ⟨key (h3 r hr2).1, fun g e => Nat.lt_of_lt_of_le ((h3 r hr2).2 g e) hg.size⟩, h4⟩
theorem grew_others {W W' : World} (h : Grew W W') : KeepsOthers W W' := ⟨h.size, fun _ _ hk _ => (h.block (Array.getElem?_eq_some_iff.1 hk).1).trans hk⟩

/-- 'append(s, u)' at rows of the call's own, as one step of a region in a round. -/
theorem stepIn_append_row {F : Fence} {d : Nat} {P : Program} {ops : Array Oper} {w : World} {o : Oper} {a : Act} {K : Act → World → Prop} {Q : Exit → Act → World → Prop} {X : Prop} (hgd : o.guard = none) (s x : Operand) (t : TypeId)
    (ho : o.op = .call { callee := .builtin .append, args := #[s, x], argTypes := #[t, t] }) {T E : TypeId} (hTE : T ≠ E) (ht : P.underlying t = some (.slice T))
    (hinfo : (P.info? T).map (fun i => (i.zero, i.size, i.bytes)) = some (some (.slice none 0 0), 1, 24)) {lo mid hi : Nat} {v u : Value} {H : List (List Int)} {xs : List Int} {nb : Nat} (hs : a.eval s = v) (hx : a.eval x = .slice (some ⟨nb, 0, none⟩) 1 1) (hnb : nb = w.heap.size)
    (hv : RowsO T E lo mid w v H) (hu : IntsO E mid hi w u xs) (hlen : H.length + 1 ≤ 5864062014805) (hbase : lo ≤ w.heap.size) (hlo : lo ≤ mid)
    (h : ∀ g c w', RowsO T E lo w'.heap.size w' (.slice (some ⟨g, 0, none⟩) (H.length + 1) c) (H ++ [xs]) → (w.alloc (.cells #[u] T)).grownBy w' v.ownBlock → K (a.put o.dst (.slice (some ⟨g, 0, none⟩) (H.length + 1) c)) w') :
    if Region.wanted o (yielded ops a.tmps) = true then Oper.wpIn F d P o a (w.alloc (.cells #[u] T)) K Q else X := by
  subst hnb
  obtain ⟨i, hi1, hi2, hi3, hi4⟩ := info_parts hinfo
  obtain ⟨V, h1, h2, h3, h4⟩ := hv
  have hw : Region.wanted o (yielded ops a.tmps) = true := by simp [Region.wanted, hgd]
  rw [if_pos hw]
  obtain ⟨v', w', hrun, hown, hg, _⟩ := run_append_own (P := P) (w.alloc (.cells #[u] T)) lo t o.type T i (.slice none 0 0) 1 24 ht hi1 hi2 hi3 hi4 rfl (by decide) v H.length _ (h1.alloc _) ⟨w.heap.size, 0, none⟩ 1 1 [u] rfl (cell_one_new _ _ _) (by simpa using hu.one) (by unfold maxLen; omega) (by omega) (by simp; omega)
  have ga : Grew w (w.alloc (.cells #[u] T)) := (Grew.refl w).alloc _
  have hO := rows_snoc hTE hlo (h1.alloc (.cells #[u] T)) (fun r hr => (h3 r hr).grew ga) h4 (hu.grew ga) hg hown
  obtain ⟨g, c, hv', _⟩ := hO.pos (by simp)
  have e : (H ++ [xs]).length = H.length + 1 := by simp
  rw [e] at hv'
  subst hv'
  unfold Oper.wpIn
  refine ⟨?_, ?_⟩
  · simp [Oper.about, ho, resolve, Target.leads, Sem.run_pure]
  · rw [Oper.semAt_plain F _ _ (by rw [ho]; intro c hc'; cases hc')]
    simp [execOp, ho, resolve, invoke, builtin, hs, hx, hrun, Result.andThen]
    exact h g c w' hO hg

/-- Between two rounds: the rows so far. -/
def RowsSoFar (w : World) (xs : List Int) (n m : Nat) (pre : List (Fin n)) (W : World) : Prop :=
  (∃ v, Boxed W w.heap.size 32 v ∧ RowsO 22 3 (w.heap.size + 3) W.heap.size W v (pre.map fun k => (xs.drop (k.1 * m)).take m)) ∧ (w.heap.size + 3 ≤ W.heap.size ∧ Below w.heap.size w W)
theorem rowsSoFar_own (w : World) (xs : List Int) (n m : Nat) (B : Nat) (hB : w.heap.size ≤ B) : OwnFrom B (RowsSoFar w xs n m) := by
  rintro pre A C row ⟨⟨v, hb, hO⟩, hs, hbl⟩ hg hr
  have hr2 : ∀ r, row = some r → ∃ o : Obj, A.heap[r]? = some o ∧ o.isCells = false := fun r e => (hr r e).2
  refine ⟨⟨v, hb.kept hg fun e => ?_, hO.kept hg hr2⟩, Nat.le_trans hs hg.size, hbl.grown hg hbl.size fun j e => Nat.le_trans hB (hr j e).1⟩
  obtain ⟨o, h1, h2⟩ := hr2 _ e.symm
  rw [show A.heap[w.heap.size]? = _ from hb] at h1
  simp only [Option.some.injEq] at h1
  subst h1
  cases h2
end Go.Proofs.YtaeenedjmakelaaDoor
