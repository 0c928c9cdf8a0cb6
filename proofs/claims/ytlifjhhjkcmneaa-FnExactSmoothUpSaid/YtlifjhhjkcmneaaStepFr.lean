/- Appends of pairs as steps of a region that draws its order. -/
import Derived.Test.YtlifjhhjkcmneaaFr
import Derived.Deep.AppendLies
namespace Go.Proofs.Ytlifjhhjkcmneaa
open Go.RowKit

/-- 'append(s, f)' at a slice of pairs of the call's own. -/
theorem step_append_fr {P : Program} {w : World} {ops : Array Oper} {o : Oper} {a : Act} {K : Act → World → Prop} {Q : Exit → Act → World → Prop} {X : Prop} (hgd : o.guard = none) (s x : Operand) (t : TypeId)
    (ho : o.op = .call { callee := .builtin .append, args := #[s, x], argTypes := #[t, t] }) {E : TypeId} (ht : P.underlying t = some (.slice E))
    (hinfo : (P.info? E).map (fun i => (i.zero, i.size, i.bytes)) = some (some (.agg #[.int .i64 0, .int .i64 0]), 2, 16)) {lo hi : Nat} {v : Value} {q : List (Int × Int)} {e1 e2 : Int} {nb : Nat} (hs : a.eval s = v) (hx : a.eval x = .slice (some ⟨nb, 0, none⟩) 1 1) (hnb : nb = w.heap.size)
    (hv : FrO E lo hi w v q) (hlen : q.length + 1 ≤ 1000000) (hbase : lo ≤ w.heap.size)
    (h : ∀ g c w', FrO E lo w'.heap.size w' (.slice (some ⟨g, 0, none⟩) (q.length + 1) c) (q ++ [(e1, e2)]) → Within lo hi w w' → w.heap.size < w'.heap.size →
      K (a.put o.dst (.slice (some ⟨g, 0, none⟩) (q.length + 1) c)) w') : if Region.wanted o (yielded ops a.tmps) = true then Oper.wp P o a (w.alloc (.cells #[.int .i64 e1, .int .i64 e2] E)) K Q else X := by
  rw [if_pos (show Region.wanted o (yielded ops a.tmps) = true by simp [Region.wanted, hgd])]
  subst hnb
  obtain ⟨i, hi1, hi2, hi3, hi4⟩ := info_parts hinfo
  refine wp_append_own _ s x t ho lo E i (.agg #[.int .i64 0, .int .i64 0]) 2 16 ht hi1 hi2 hi3 hi4 (by decide) (by decide) v q.length _ hs (hv.1.alloc _) ⟨w.heap.size, 0, none⟩ 1 1 [.int .i64 e1, .int .i64 e2] hx rfl ?_ (by simp [Value.oneCell']) (by unfold maxLen; omega) (by omega) (by simp; omega) ?_
  · intro j u hu
    have hj : j < 2 := by
      have := (List.getElem?_eq_some_iff.1 hu).1
      simpa using this
    rw [Addr.add_lit]
    have : j = 0 ∨ j = 1 := by omega
    rcases this with rfl | rfl
    · simp at hu ⊢; exact hu
    · simp at hu ⊢; exact hu
  · intro v' w' hown hg _
    have hW : Within lo hi w w' := (((Grew.refl w).alloc _).within lo hi).trans (grownBy_within hg fun g e => ⟨(World.ownsRow.lt hv.1 g e).1, hv.2 g e⟩)
    have hS : w.heap.size < w'.heap.size := Nat.lt_of_lt_of_le (by simp) hg.size
    have hO : FrO E lo w'.heap.size w' v' (q ++ [(e1, e2)]) := FrO.mk (by rw [flatF_append, List.length_append]; exact hown) (Nat.le_refl _)
    obtain ⟨g, c, hv', _⟩ := hO.pos (by simp)
    have e : (q ++ [(e1, e2)]).length = q.length + 1 := by simp
    rw [e] at hv'
    subst hv'
    exact h g c w' hO hW hS
/-- 'append(s, row...)' at a slice of pairs of the call's own. -/
theorem step_append_frs {P : Program} {w : World} {ops : Array Oper} {o : Oper} {a : Act} {K : Act → World → Prop} {Q : Exit → Act → World → Prop} {X : Prop} (hgd : o.guard = none) (s x : Operand) (t : TypeId)
    (ho : o.op = .call { callee := .builtin .append, args := #[s, x], argTypes := #[t, t] }) {E : TypeId} (ht : P.underlying t = some (.slice E))
    (hinfo : (P.info? E).map (fun i => (i.zero, i.size, i.bytes)) = some (some (.agg #[.int .i64 0, .int .i64 0]), 2, 16)) {lo hi : Nat} {v : Value} {q r : List (Int × Int)} {b o' n c : Nat} (hs : a.eval s = v) (hx : a.eval x = .slice (some ⟨b, o', none⟩) n c) (hn : n = r.length)
    (hcells : ∀ j, j < r.length → w.cell? ⟨b, o' + j * 2, none⟩ = some (.int .i64 (r.getD j (0, 0)).1) ∧ w.cell? ⟨b, o' + j * 2 + 1, none⟩ = some (.int .i64 (r.getD j (0, 0)).2))
    (hv : FrO E lo hi w v q) (hlen : q.length + r.length ≤ 1000000) (hbase : lo ≤ w.heap.size)
    (h : ∀ a' c' w', FrO E lo w'.heap.size w' (.slice a' (q.length + r.length) c') (q ++ r) → Within lo hi w w' →
      K (a.put o.dst (.slice a' (q.length + r.length) c')) w') : if Region.wanted o (yielded ops a.tmps) = true then Oper.wp P o a w K Q else X := by
  rw [if_pos (show Region.wanted o (yielded ops a.tmps) = true by simp [Region.wanted, hgd])]
  subst hn
  obtain ⟨i, hi1, hi2, hi3, hi4⟩ := info_parts hinfo
  refine wp_append_own _ s x t ho lo E i (.agg #[.int .i64 0, .int .i64 0]) 2 16 ht hi1 hi2 hi3 hi4 (by decide) (by decide) v q.length _ hs hv.1 ⟨b, o', none⟩ r.length c (flatF r) hx (flatF_len r) ?_ (flatF_one r) (by unfold maxLen; omega) (by omega) hbase ?_
  · intro j u hu
    have hj : j < r.length * 2 := by rw [← flatF_len]; exact (List.getElem?_eq_some_iff.1 hu).1
    rw [Addr.add_lit]
    have hc := hcells (j / 2) (by omega)
    have hf := flatF_get r (j / 2) (by omega)
    rcases (show j = j / 2 * 2 ∨ j = j / 2 * 2 + 1 by omega) with e | e
    · rw [e] at hu
      rw [hf.1] at hu
      rw [e, show (j / 2 * 2) / 2 * 2 = j / 2 * 2 by omega] at *
      rw [hc.1]; exact hu
    · rw [e] at hu
      rw [hf.2] at hu
      have e2 : o' + j = o' + j / 2 * 2 + 1 := by omega
      rw [e2, hc.2]; exact hu
  · intro v' w' hown hg _
    have hW : Within lo hi w w' := grownBy_within hg fun g e => ⟨(World.ownsRow.lt hv.1 g e).1, hv.2 g e⟩
    have hO : FrO E lo w'.heap.size w' v' (q ++ r) := FrO.mk (by rw [flatF_append, List.length_append]; exact hown) (Nat.le_refl _)
    obtain ⟨a', c', hv'⟩ := hO.sh
    have e : (q ++ r).length = q.length + r.length := by simp
    rw [e] at hv'
    subst hv'
    exact h a' c' w' hO hW
end Go.Proofs.Ytlifjhhjkcmneaa
