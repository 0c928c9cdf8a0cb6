/- Slices of bools of the call's own: a literal, append. -/
import Derived.Test.YtaeenedjmakelaaDoorExact
namespace Go.Proofs.YtaeenedjmakelaaDoor
open Go.RowKit

theorem BoolsO.mk {E lo hi : Nat} {w : World} {v : Value} {xs : List Bool} (h : w.ownsRow lo E 1 v xs.length (xs.map .bool)) (hh : w.heap.size ≤ hi) : BoolsO E lo hi w v xs :=
  ⟨h, fun g hg => Nat.lt_of_lt_of_le (World.ownsRow.lt h g hg).2 hh⟩
theorem BoolsO.nil (E lo hi : Nat) (w : World) : BoolsO E lo hi w (.slice none 0 0) [] := ⟨World.ownsRow_nil _ _ _ _, fun g e => by simp [Value.ownBlock] at e⟩
theorem BoolsO.litAt (E lo blk hi n : Nat) (w : World) (xs : List Bool) (cs : Array Value) (h : cs.toList = xs.map .bool) (hb : blk = w.heap.size) (hn : n = xs.length) (hlo : lo ≤ blk) (hhi : blk < hi) (hl : xs.length ≤ maxLen) :
    BoolsO E lo hi (w.alloc (.cells cs E)) (.slice (some ⟨blk, 0, none⟩) n n) xs := by
  subst hb hn
  have hs : cs.size = xs.length * 1 := by rw [← Array.length_toList, h]; simp
  have := World.ownsRow_lit (e := E) (base := lo) w cs xs.length hlo hl hs
  rw [h] at this
  exact ⟨this, fun g e => by simp [Value.ownBlock] at e; omega⟩
theorem BoolsO.shape {E lo hi : Nat} {w : World} {v : Value} {xs : List Bool} (h : BoolsO E lo hi w v xs) : (v = .slice none 0 0 ∧ xs = []) ∨ ∃ g c, v = .slice (some ⟨g, 0, none⟩) xs.length c ∧ lo ≤ g ∧ g < hi ∧ xs.length ≤ c ∧ c ≤ maxLen := by
  rcases h.1.2 with ⟨e, h0⟩ | ⟨g, cap, cur, rfl, h3, h4, h5, h6, h7⟩
  · exact .inl ⟨e, List.eq_nil_of_length_eq_zero h0⟩
  · exact .inr ⟨g, cap, rfl, h3, h.2 g rfl, h5, h6⟩

/-- 'append(s, y)' at a slice of bools of the call's own. -/
theorem wpList_append_bool {P : Program} {w : World} {ops : Array Oper} {rest : List Oper} {o : Oper} {a : Act} {Q : Exit → Act → World → Prop} (hgd : o.guard = none) (s x : Operand) (t : TypeId)
    (ho : o.op = .call { callee := .builtin .append, args := #[s, x], argTypes := #[t, t] }) {E : TypeId} (ht : P.underlying t = some (.slice E))
    (hinfo : (P.info? E).map (fun i => (i.zero, i.size, i.bytes)) = some (some (.bool false), 1, 1)) {lo hi : Nat} {v : Value} {xs : List Bool} {y : Bool} {nb : Nat} (hs : a.eval s = v) (hx : a.eval x = .slice (some ⟨nb, 0, none⟩) 1 1) (hnb : nb = w.heap.size)
    (hv : BoolsO E lo hi w v xs) (hlen : xs.length + 1 ≤ 17592186044416) (hbase : lo ≤ w.heap.size)
    (h : ∀ g c w', BoolsO E lo w'.heap.size w' (.slice (some ⟨g, 0, none⟩) (xs.length + 1) c) (xs ++ [y]) → Within lo hi w w' → w.heap.size < w'.heap.size →
      wpList P ops Q rest (a.put o.dst (.slice (some ⟨g, 0, none⟩) (xs.length + 1) c)) w') : wpList P ops Q (o :: rest) a (w.alloc (.cells #[.bool y] E)) := by
  subst hnb
  obtain ⟨i, hi1, hi2, hi3, hi4⟩ := info_parts hinfo
  refine wpList_append_own _ hgd s x t ho lo E i (.bool false) 1 1 ht hi1 hi2 hi3 hi4 rfl (by decide) v xs.length _ hs (hv.1.alloc _) ⟨w.heap.size, 0, none⟩ 1 1 [.bool y] hx rfl (cell_one_new _ _ _) (by simp [Value.oneCell']) (by unfold maxLen; omega) (by omega) (by simp; omega) ?_
  intro v' w' hown hg _
  have hW : Within lo hi w w' := (((Grew.refl w).alloc _).within lo hi).trans (grownBy_within hg fun g e => ⟨(World.ownsRow.lt hv.1 g e).1, hv.2 g e⟩)
  have hS : w.heap.size < w'.heap.size := Nat.lt_of_lt_of_le (by simp) hg.size
  have hO : BoolsO E lo w'.heap.size w' v' (xs ++ [y]) := BoolsO.mk (by simpa using hown) (Nat.le_refl _)
  rcases hO.shape with ⟨_, e⟩ | ⟨g, c, hv', _⟩
  · simp at e
  have e : (xs ++ [y]).length = xs.length + 1 := by simp
  rw [e] at hv'
  subst hv'
  exact h g c w' hO hW hS
theorem BoolsO.sh {E lo hi : Nat} {w : World} {v : Value} {xs : List Bool} (h : BoolsO E lo hi w v xs) : ∃ a c, v = .slice a xs.length c := by
  rcases h.shape with ⟨rfl, rfl⟩ | ⟨g, c, rfl, _⟩
  · exact ⟨_, _, rfl⟩
  · exact ⟨_, _, rfl⟩
theorem IntsO.sh {E lo hi : Nat} {w : World} {v : Value} {xs : List Int} (h : IntsO E lo hi w v xs) : ∃ a c, v = .slice a xs.length c := by
  rcases h.shape with ⟨rfl, rfl⟩ | ⟨g, c, rfl, _⟩
  · exact ⟨_, _, rfl⟩
  · exact ⟨_, _, rfl⟩
end Go.Proofs.YtaeenedjmakelaaDoor
