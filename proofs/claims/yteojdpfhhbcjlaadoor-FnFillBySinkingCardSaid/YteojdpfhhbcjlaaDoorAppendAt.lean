/- 'append(s, y)' where it is told which block the result lies in. -/
import Derived.Test.YteojdpfhhbcjlaaDoorOwn
namespace Go.Proofs.YteojdpfhhbcjlaaDoor
open Go.RowKit

theorem IntsO.at1 {E lo hi : Nat} {w : World} {g n c : Nat} {xs : List Int} (h : IntsO E lo hi w (.slice (some ⟨g, 0, none⟩) n c) xs) : IntsO E g (g + 1) w (.slice (some ⟨g, 0, none⟩) n c) xs := by
  refine ⟨⟨h.1.1, ?_⟩, fun k e => by simp [Value.ownBlock] at e; omega⟩
  rcases h.1.2 with ⟨e, _⟩ | ⟨g1, cap, cur, e, hg, hh⟩
  · simp at e
  · simp only [Value.slice.injEq, Option.some.injEq, Addr.mk.injEq] at e
    obtain ⟨⟨rfl, _⟩, _, rfl⟩ := e
    exact .inr ⟨g, c, cur, by rw [‹n = _›], Nat.le_refl _, hh⟩

theorem wpList_append_int_at {P : Program} {w : World} {ops : Array Oper} {rest : List Oper} {o : Oper} {a : Act} {Q : Exit → Act → World → Prop} (hgd : o.guard = none) (s x : Operand) (t : TypeId)
    (ho : o.op = .call { callee := .builtin .append, args := #[s, x], argTypes := #[t, t] }) {E : TypeId} (ht : P.underlying t = some (.slice E))
    (hinfo : (P.info? E).map (fun i => (i.zero, i.size, i.bytes)) = some (some (.int .i64 0), 1, 8)) {g n c : Nat} {xs : List Int} {y : Int} {nb : Nat} (hs : a.eval s = .slice (some ⟨g, 0, none⟩) n c) (hx : a.eval x = .slice (some ⟨nb, 0, none⟩) 1 1) (hnb : nb = w.heap.size)
    (hv : IntsO E g (g + 1) w (.slice (some ⟨g, 0, none⟩) n c) xs) (hlen : xs.length + 1 ≤ 17592186044416) (hn : n = xs.length)
    (h : ∀ g' c' w', IntsO E g' (g' + 1) w' (.slice (some ⟨g', 0, none⟩) (xs.length + 1) c') (xs ++ [y]) → Within g (g + 1) w w' → (g' = g ∨ w.heap.size ≤ g') → g' < w'.heap.size →
      wpList P ops Q rest (a.put o.dst (.slice (some ⟨g', 0, none⟩) (xs.length + 1) c')) w') : wpList P ops Q (o :: rest) a (w.alloc (.cells #[.int .i64 y] E)) := by
  subst hnb
  subst hn
  obtain ⟨i, hi1, hi2, hi3, hi4⟩ := info_parts hinfo
  have hgs : g < w.heap.size := (World.ownsRow.lt hv.1 g rfl).2
  refine wpList_append_own_at _ hgd s x t ho g E i (.int .i64 0) 1 8 ht hi1 hi2 hi3 hi4 rfl (by decide) _ xs.length _ hs (hv.1.alloc _) ⟨w.heap.size, 0, none⟩ 1 1 [.int .i64 y] hx rfl (cell_one_new _ _ _) (by simp [Value.oneCell']) (by unfold maxLen; omega) (by omega) (by simp; omega) ?_
  intro v' w' hown hg _ hat
  have hW : Within g (g + 1) w w' := (((Grew.refl w).alloc _).within g (g + 1)).trans (grownBy_within hg fun k e => by simp [Value.ownBlock] at e; omega)
  have hO := IntsO.snoc hown (Nat.le_refl _)
  obtain ⟨g', c', hv', _⟩ := hO.pos (by simp)
  have e : (xs ++ [y]).length = xs.length + 1 := by simp
  rw [e] at hv'
  subst hv'
  have hg' := (World.ownsRow.lt hO.1 g' rfl).2
  refine h g' c' w' hO.at1 hW ?_ hg'
  rcases hat with h1 | h1
  · simp [Value.ownBlock] at h1; exact .inl h1
  · simp [Value.ownBlock] at h1; exact .inr (by omega)
end Go.Proofs.YteojdpfhhbcjlaaDoor
