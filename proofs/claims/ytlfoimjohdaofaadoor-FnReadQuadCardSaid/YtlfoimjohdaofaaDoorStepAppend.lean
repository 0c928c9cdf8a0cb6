/- 'append(s, y)' at a slice of numbers of the call's own, as a step of a region that draws its order. -/
import Derived.Test.YtlfoimjohdaofaaDoorBase
import Derived.Deep.AppendLies
namespace Go.Proofs.YtlfoimjohdaofaaDoor
open Go.RowKit

theorem step_append_int {P : Program} {w : World} {ops : Array Oper} {o : Oper} {a : Act} {K : Act → World → Prop} {Q : Exit → Act → World → Prop} {X : Prop} (hgd : o.guard = none) (s x : Operand) (t : TypeId)
    (ho : o.op = .call { callee := .builtin .append, args := #[s, x], argTypes := #[t, t] }) {E : TypeId} (ht : P.underlying t = some (.slice E))
    (hinfo : (P.info? E).map (fun i => (i.zero, i.size, i.bytes)) = some (some (.int .i64 0), 1, 8)) {g n c : Nat} {xs : List Int} {y : Int} {nb : Nat} (hs : a.eval s = .slice (some ⟨g, 0, none⟩) n c) (hx : a.eval x = .slice (some ⟨nb, 0, none⟩) 1 1) (hnb : nb = w.heap.size)
    (hv : IntsO E g (g + 1) w (.slice (some ⟨g, 0, none⟩) n c) xs) (hlen : xs.length + 1 ≤ 17592186044416) (hn : n = xs.length)
    (h : ∀ g' c' w', IntsO E g' (g' + 1) w' (.slice (some ⟨g', 0, none⟩) (xs.length + 1) c') (xs ++ [y]) → Within g (g + 1) w w' → (g' = g ∨ w.heap.size ≤ g') → g' < w'.heap.size →
      K (a.put o.dst (.slice (some ⟨g', 0, none⟩) (xs.length + 1) c')) w') : if Region.wanted o (yielded ops a.tmps) = true then Oper.wp P o a (w.alloc (.cells #[.int .i64 y] E)) K Q else X := by
  subst hnb
  subst hn
  obtain ⟨i, hi1, hi2, hi3, hi4⟩ := info_parts hinfo
  have hgs : g < w.heap.size := (World.ownsRow.lt hv.1 g rfl).2
  refine step_append_lies _ hgd s x t ho g E i (.int .i64 0) 1 8 ht hi1 hi2 hi3 hi4 rfl (by decide) _ xs.length _ hs (hv.1.alloc _) ⟨w.heap.size, 0, none⟩ 1 1 [.int .i64 y] hx rfl (cell_one_new _ _ _) (by simp [Value.oneCell']) (by omega) (by unfold maxLen; omega) (by omega) (by simp; omega) (w.heap.size + 1) (by simp) ?_
  intro g' c' w' hown hg hat hlt
  have hW : Within g (g + 1) w w' := (((Grew.refl w).alloc _).within g (g + 1)).trans (grownBy_within hg fun k e => by simp [Value.ownBlock] at e; omega)
  have hO := IntsO.snoc hown (Nat.le_refl _)
  refine h g' c' w' hO.at1 hW ?_ hlt
  rcases hat with h1 | h1
  · simp [Value.ownBlock] at h1; exact .inl h1.symm
  · exact .inr (by omega)

/-- 'append(s, u)' at rows of the call's own, u a row of its own that was made behind them, as a step of a region that draws. -/
theorem step_append_row {P : Program} {w : World} {ops : Array Oper} {o : Oper} {a : Act} {K : Act → World → Prop} {Q : Exit → Act → World → Prop} {X : Prop} (hgd : o.guard = none) (s x : Operand) (t : TypeId)
    (ho : o.op = .call { callee := .builtin .append, args := #[s, x], argTypes := #[t, t] }) {T E : TypeId} (hTE : T ≠ E) (ht : P.underlying t = some (.slice T))
    (hinfo : (P.info? T).map (fun i => (i.zero, i.size, i.bytes)) = some (some (.slice none 0 0), 1, 24)) {lo mid hi : Nat} {v u : Value} {H : List (List Int)} {xs : List Int} {nb : Nat} (hs : a.eval s = v) (hx : a.eval x = .slice (some ⟨nb, 0, none⟩) 1 1) (hnb : nb = w.heap.size)
    (hv : RowsO T E lo mid w v H) (hu : IntsO E mid hi w u xs) (hlen : H.length + 1 ≤ 5864062014805) (hbase : lo ≤ w.heap.size) (hlo : lo ≤ mid)
    (h : ∀ g c w', RowsO T E lo w'.heap.size w' (.slice (some ⟨g, 0, none⟩) (H.length + 1) c) (H ++ [xs]) → Within lo mid w w' → w.heap.size < w'.heap.size →
      K (a.put o.dst (.slice (some ⟨g, 0, none⟩) (H.length + 1) c)) w') : if Region.wanted o (yielded ops a.tmps) = true then Oper.wp P o a (w.alloc (.cells #[u] T)) K Q else X := by
  subst hnb
  obtain ⟨i, hi1, hi2, hi3, hi4⟩ := info_parts hinfo
  obtain ⟨V, h1, h2, h3, h4⟩ := hv
  refine step_append_lies _ hgd s x t ho lo T i (.slice none 0 0) 1 24 ht hi1 hi2 hi3 hi4 rfl (by decide) v H.length _ hs (h1.alloc _) ⟨w.heap.size, 0, none⟩ 1 1 [u] hx rfl (cell_one_new _ _ _) (by simpa using hu.one) (by omega) (by unfold maxLen; omega) (by omega) (by simp; omega) (w.heap.size + 1) (by simp) ?_
  intro g c w' hown hg _ hlt
  have hW : Within lo mid w w' := (((Grew.refl w).alloc _).within lo mid).trans (grownBy_within hg fun g e => ⟨(World.ownsRow.lt h1 g e).1, h2 g e⟩)
  have hS : w.heap.size < w'.heap.size := Nat.lt_of_lt_of_le (by simp) hg.size
  have ga : Grew w (w.alloc (.cells #[u] T)) := (Grew.refl w).alloc _
  have hO := rows_snoc hTE hlo (h1.alloc (.cells #[u] T)) (fun r hr => (h3 r hr).grew ga) h4 (hu.grew ga) hg hown
  exact h g c w' hO hW hS
end Go.Proofs.YtlfoimjohdaofaaDoor
