/- The contract of laws.rowOf: rows laid behind each other. -/
import Derived.Test.YtnfijchoijmehaaDoorTurns
namespace Go.Proofs.YtnfijchoijmehaaDoor
open Go.RowKit

/-- 'append(s, row...)' at a slice of numbers of the call's own. -/
theorem wpList_append_ints {P : Program} {w : World} {ops : Array Oper} {rest : List Oper} {o : Oper} {a : Act} {Q : Exit → Act → World → Prop} (hgd : o.guard = none) (s x : Operand) (t : TypeId)
    (ho : o.op = .call { callee := .builtin .append, args := #[s, x], argTypes := #[t, t] }) {E : TypeId} (ht : P.underlying t = some (.slice E))
    (hinfo : (P.info? E).map (fun i => (i.zero, i.size, i.bytes)) = some (some (.int .i64 0), 1, 8)) {lo hi : Nat} {v : Value} {xs ys : List Int} {b o' c : Nat} (hs : a.eval s = v) (hx : a.eval x = .slice (some ⟨b, o', none⟩) ys.length c)
    (hcells : ∀ i, i < ys.length → w.cell? ⟨b, o' + i, none⟩ = some (.int .i64 (ys.getD i 0)))
    (hv : IntsO E lo hi w v xs) (hy : 0 < ys.length) (hlen : xs.length + ys.length ≤ 17592186044416) (hbase : lo ≤ w.heap.size)
    (h : ∀ g c' w', IntsO E lo w'.heap.size w' (.slice (some ⟨g, 0, none⟩) (xs.length + ys.length) c') (xs ++ ys) → Within lo hi w w' →
      wpList P ops Q rest (a.put o.dst (.slice (some ⟨g, 0, none⟩) (xs.length + ys.length) c')) w') : wpList P ops Q (o :: rest) a w := by
  obtain ⟨i, hi1, hi2, hi3, hi4⟩ := info_parts hinfo
  refine wpList_append_own _ hgd s x t ho lo E i (.int .i64 0) 1 8 ht hi1 hi2 hi3 hi4 rfl (by decide) v xs.length _ hs hv.1 ⟨b, o', none⟩ ys.length c (ys.map (.int .i64)) hx (by simp) ?_ ?_ (by unfold maxLen; omega) (by omega) hbase ?_
  · intro j u hu
    rw [List.getElem?_map, Option.map_eq_some_iff] at hu
    obtain ⟨y, h1, rfl⟩ := hu
    obtain ⟨hj, h2⟩ := List.getElem?_eq_some_iff.1 h1
    have := hcells j hj
    have e : ys.getD j 0 = y := by simp [hj, h2]
    rw [e] at this
    rw [Addr.add_lit]; exact this
  · intro u hu
    obtain ⟨y, _, rfl⟩ := List.mem_map.1 hu
    rfl
  · intro v' w' hown hg _
    have hW : Within lo hi w w' := grownBy_within hg fun g e => ⟨(World.ownsRow.lt hv.1 g e).1, hv.2 g e⟩
    have hO : IntsO E lo w'.heap.size w' v' (xs ++ ys) := IntsO.mk (by simpa using hown) (Nat.le_refl _)
    obtain ⟨g, c', hv', _⟩ := hO.pos (by simp; omega)
    have e : (xs ++ ys).length = xs.length + ys.length := by simp
    rw [e] at hv'
    subst hv'
    exact h g c' w' hO hW

theorem flat_snoc (h : List (List Int)) (k : Nat) (hk : k < h.length) : (h.take k).flatten ++ h.getD k [] = (h.take (k + 1)).flatten := by
  have e : h.getD k [] = h[k] := by simp [hk]
  rw [List.take_succ_eq_append_getElem hk, List.flatten_append, e]
  simp
theorem flat_len (h : List (List Int)) (k : Nat) (hk : k ≤ h.length) (hr : ∀ r, r < h.length → (h.getD r []).length ≤ 1000) : (h.take k).flatten.length ≤ 1000 * k := by
  induction k with
  | zero => simp
  | succ k ih =>
    rw [← flat_snoc h k (by omega), List.length_append]
    have := ih (by omega)
    have := hr k (by omega)
    omega

theorem flat_grid {h : List (List Int)} {m : Nat} (g : Grid h m) (k : Nat) (hk : k ≤ h.length) : (h.take k).flatten.length = k * m := by
  induction k with
  | zero => simp
  | succ k ih =>
    rw [← flat_snoc h k (by omega), List.length_append, ih (by omega), g.len k (by omega), Nat.succ_mul]
theorem flat_grid_len {h : List (List Int)} {m : Nat} (g : Grid h m) : h.flatten.length = h.length * m := by
  have := flat_grid g h.length (Nat.le_refl _)
  rwa [List.take_of_length_le (Nat.le_refl _)] at this

def FlatPost (w : World) (xs : List Int) (e : Ending) (w' : World) : Prop := ∃ g c, e = .returned (.slice (some ⟨g, 0, none⟩) xs.length c) ∧ IntsO 3 w.heap.size w'.heap.size w' (.slice (some ⟨g, 0, none⟩) xs.length c) xs ∧ Grew w w'

end Go.Proofs.YtnfijchoijmehaaDoor
