/- 'append(s, row...)' at a slice of numbers of the call's own, the row empty or not; an own slice cut at its end. -/
import Derived.Test.YtaeenedjmakelaaDoorBoolApp
namespace Go.Proofs.YtaeenedjmakelaaDoor
open Go.RowKit

theorem wpList_append_rowOf {P : Program} {w : World} {ops : Array Oper} {rest : List Oper} {o : Oper} {a : Act} {Q : Exit → Act → World → Prop} (hgd : o.guard = none) (s x : Operand) (t : TypeId)
    (ho : o.op = .call { callee := .builtin .append, args := #[s, x], argTypes := #[t, t] }) {E : TypeId} (ht : P.underlying t = some (.slice E))
    (hinfo : (P.info? E).map (fun i => (i.zero, i.size, i.bytes)) = some (some (.int .i64 0), 1, 8)) {lo hi : Nat} {v : Value} {xs ys : List Int} {b o' n c : Nat} (hs : a.eval s = v) (hx : a.eval x = .slice (some ⟨b, o', none⟩) n c) (hn : n = ys.length)
    (hcells : ∀ i, i < ys.length → w.cell? ⟨b, o' + i, none⟩ = some (.int .i64 (ys.getD i 0)))
    (hv : IntsO E lo hi w v xs) (hlen : xs.length + ys.length ≤ 17592186044416) (hbase : lo ≤ w.heap.size)
    (h : ∀ a' c' w', IntsO E lo w'.heap.size w' (.slice a' (xs.length + ys.length) c') (xs ++ ys) → Within lo hi w w' →
      wpList P ops Q rest (a.put o.dst (.slice a' (xs.length + ys.length) c')) w') : wpList P ops Q (o :: rest) a w := by
  subst hn
  obtain ⟨i, hi1, hi2, hi3, hi4⟩ := info_parts hinfo
  refine wpList_append_own _ hgd s x t ho lo E i (.int .i64 0) 1 8 ht hi1 hi2 hi3 hi4 rfl (by decide) v xs.length _ hs hv.1 ⟨b, o', none⟩ ys.length c (ys.map (.int .i64)) hx (by simp) ?_ ?_ (by unfold maxLen; omega) (by omega) hbase ?_
  · intro j u hu
    rw [List.getElem?_map, Option.map_eq_some_iff] at hu
    obtain ⟨y, h1, rfl⟩ := hu
    obtain ⟨hj, h2⟩ := List.getElem?_eq_some_iff.1 h1
    have := hcells j hj
    have e : ys.getD j 0 = y := by simp [hj, h2]
    rw [e] at this
    rw [Addr.add_lit]; exact this
  · intro u hu
    obtain ⟨y, _, rfl⟩ := List.mem_map.1 hu
    rfl
  · intro v' w' hown hg _
    have hW : Within lo hi w w' := grownBy_within hg fun g e => ⟨(World.ownsRow.lt hv.1 g e).1, hv.2 g e⟩
    have hO : IntsO E lo w'.heap.size w' v' (xs ++ ys) := IntsO.mk (by simpa using hown) (Nat.le_refl _)
    obtain ⟨a', c', hv'⟩ := hO.sh
    have e : (xs ++ ys).length = xs.length + ys.length := by simp
    rw [e] at hv'
    subst hv'
    exact h a' c' w' hO hW

/-- An own slice cut at its end. -/
theorem IntsO.init {E lo hi : Nat} {w : World} {a : Option Addr} {n c : Nat} {xs : List Int} (h : IntsO E lo hi w (.slice a n c) xs) (m : Nat) (hm : m ≤ xs.length) : IntsO E lo hi w (.slice a m c) (xs.take m) := by
  have hl : (xs.take m).length = m := by simp; omega
  have ho : ∀ g, (Value.slice a m c).ownBlock = some g → (Value.slice a n c).ownBlock = some g := fun g e => by
    cases a with
    | none => simp [Value.ownBlock] at e
    | some x => exact e
  refine ⟨⟨by simp, ?_⟩, fun g e => h.2 g (ho g e)⟩
  rw [hl]
  rcases h.1.2 with ⟨e, h0⟩ | ⟨g, cap, cur, e, h3, h4, h5, h6, h7, h8⟩
  · simp only [Value.slice.injEq] at e
    obtain ⟨rfl, _, rfl⟩ := e
    have : m = 0 := by omega
    subst this
    exact .inl ⟨rfl, rfl⟩
  · simp only [Value.slice.injEq] at e
    obtain ⟨rfl, _, rfl⟩ := e
    refine .inr ⟨g, c, cur, rfl, h3, h4, by omega, h6, h7, ?_⟩
    rw [Nat.mul_one] at h8 ⊢
    rw [List.map_take, ← h8, List.take_take, Nat.min_eq_left hm]
end Go.Proofs.YtaeenedjmakelaaDoor
