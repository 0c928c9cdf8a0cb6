/- Slices that are made with zeros, and rows that are put into them. -/
import Derived.Test.YtohncmlinifkkaaDoorOwn
namespace Go.Proofs.YtohncmlinifkkaaDoor
open Go.RowKit

theorem madeCells_list (v : Value) (n : Nat) : (madeCells #[v] (n * 1)).toList = List.replicate n v := by
  rw [Nat.mul_one]
  have : ∀ x, [v][x % 1]?.getD default = v := fun x => by rw [Nat.mod_one]; rfl
  simp [madeCells, this, List.map_const']

/-- 'make([]int, n)'. -/
theorem wpList_make_ints {P : Program} {w : World} {ops : Array Oper} {rest : List Oper} {o : Oper} {a : Act} {Q : Exit → Act → World → Prop} (hgd : o.guard = none) (l c : Operand) (t : TypeId) (ho : o.op = Op.makeSlice t l c)
    {E : TypeId} (ht : P.underlying t = some (.slice E)) (hinfo : (P.info? E).map (fun i => (i.zero, i.size, i.bytes)) = some (some (.int .i64 0), 1, 8)) {L C : Int} {n : Nat} (hl : a.eval l = .int .i64 L) (hc : a.eval c = .int .i64 C)
    (hL : L = (n : Int)) (hC : C = (n : Int)) (hn : n ≤ 17592186044416)
    (h : ∀ w', IntsO E w.heap.size w'.heap.size w' (.slice (some ⟨w.heap.size, 0, none⟩) n n) (List.replicate n 0) → Grew w w' → w.heap.size < w'.heap.size → wpList P ops Q rest (a.put o.dst (.slice (some ⟨w.heap.size, 0, none⟩) n n)) w') :
    wpList P ops Q (o :: rest) a w := by
  obtain ⟨i, hi1, hi2, hi3, hi4⟩ := info_parts hinfo
  refine wpList_make_full w hgd l c t ho w.heap.size E i (.int .i64 0) 1 ht hi1 hi2 hi3 .i64 .i64 L C n hl hc hL hC (by rw [hi4]; omega) (by unfold maxLen; omega) (Nat.le_refl _) ?_
  intro w' hown hg
  have e : (madeCells (Value.int .i64 0).cells (n * 1)).toList = (List.replicate n 0).map (Value.int .i64) := by
    rw [List.map_replicate]
    exact madeCells_list _ _
  rw [e] at hown
  have hO : IntsO E w.heap.size w'.heap.size w' (.slice (some ⟨w.heap.size, 0, none⟩) n n) (List.replicate n 0) := IntsO.mk (by simpa using hown) (Nat.le_refl _)
  exact h w' hO (grownBy_none hg) (World.ownsRow.lt hown w.heap.size rfl).2

/-- 'make([][]int, n)'. -/
theorem wpList_make_rows {P : Program} {w : World} {ops : Array Oper} {rest : List Oper} {o : Oper} {a : Act} {Q : Exit → Act → World → Prop} (hgd : o.guard = none) (l c : Operand) (t : TypeId) (ho : o.op = Op.makeSlice t l c)
    {T E : TypeId} (ht : P.underlying t = some (.slice T)) (hinfo : (P.info? T).map (fun i => (i.zero, i.size, i.bytes)) = some (some (.slice none 0 0), 1, 24)) {L C : Int} {n : Nat} (hl : a.eval l = .int .i64 L) (hc : a.eval c = .int .i64 C)
    (hL : L = (n : Int)) (hC : C = (n : Int)) (hn : n ≤ 5864062014805)
    (h : ∀ w', RowsO T E w.heap.size w'.heap.size w' (.slice (some ⟨w.heap.size, 0, none⟩) n n) (List.replicate n []) → Grew w w' → w.heap.size < w'.heap.size → wpList P ops Q rest (a.put o.dst (.slice (some ⟨w.heap.size, 0, none⟩) n n)) w') :
    wpList P ops Q (o :: rest) a w := by
  obtain ⟨i, hi1, hi2, hi3, hi4⟩ := info_parts hinfo
  refine wpList_make_full w hgd l c t ho w.heap.size T i (.slice none 0 0) 1 ht hi1 hi2 hi3 .i64 .i64 L C n hl hc hL hC (by rw [hi4]; omega) (by unfold maxLen; omega) (Nat.le_refl _) ?_
  intro w' hown hg
  have e : (madeCells (Value.slice none 0 0).cells (n * 1)).toList = (List.range (List.replicate n ([] : List Int)).length).map (fun _ => Value.slice none 0 0) := by
    rw [List.length_replicate, List.map_const', List.length_range]
    exact madeCells_list _ _
  rw [e] at hown
  have hb := (World.ownsRow.lt hown w.heap.size rfl).2
  refine h w' ⟨fun _ => .slice none 0 0, by simpa using hown, fun g e => by simp [Value.ownBlock] at e; omega, fun r hr => ?_, fun r s _ _ g e => by simp [Value.ownBlock] at e⟩ (grownBy_none hg) hb
  have : (List.replicate n ([] : List Int)).getD r [] = [] := by
    rw [List.length_replicate] at hr
    simp [hr]
  rw [this]
  exact ⟨World.ownsRow_nil _ _ _ _, fun g e => by simp [Value.ownBlock] at e⟩

/-- A row that was made behind them is put into rows of the call's own. -/
theorem RowsO.put {T E lo mid hi : Nat} (hTE : T ≠ E) {w : World} {v u : Value} {H : List (List Int)} {xs : List Int} (hv : RowsO T E lo mid w v H) {g c n : Nat} (hs : v = .slice (some ⟨g, 0, none⟩) n c) {i : Nat} (hi' : i < H.length)
    (hu : IntsO E mid hi w u xs) (h1 : lo ≤ mid) (h2 : mid ≤ hi) : RowsO T E lo hi (w.setCell ⟨g, i, none⟩ u) v (H.set i xs) := by
  obtain ⟨V, k1, k2, k3, k4⟩ := hv
  have hn : n = H.length := by
    subst hs
    rcases k1.2 with ⟨e, _⟩ | ⟨_, _, _, e, _⟩
    · cases e
    · cases e; rfl
  subst hn
  have hsame : ∀ k, k ≠ g → (w.setCell ⟨g, i, none⟩ u).heap[k]? = w.heap[k]? := fun k hk => Below.heap_setCell _ _ _ _ hk
  have hgv : v.ownBlock = some g := by rw [hs]; rfl
  have keep : ∀ {a b : Nat} {z : Value} {ys : List Int}, IntsO E a b w z ys → (w.setCell ⟨g, i, none⟩ u).ownsRow a E 1 z ys.length (ys.map (.int .i64)) := fun {a b z ys} hz =>
    ownsRow_block hz.1 fun k e => hsame k fun e2 => by
      subst e2
      exact ownsRow_int_block hTE k1 hz.1 _ e hgv
  refine ⟨fun r => if r = i then u else V r, ?_, fun k e => Nat.lt_of_lt_of_le (k2 k e) h2, ?_, ?_⟩
  · rw [List.length_set]
    subst hs
    have := (World.ownsRow.stored k1 i u).1
    have e : (List.range H.length).map (fun r => if r = i then u else V r) = ((List.range H.length).map V).set i u := by
      apply List.ext_getElem
      · simp
      · intro k q1 q2
        simp only [List.getElem_map, List.getElem_range, List.getElem_set]
        by_cases e : k = i
        · subst e; simp
        · rw [if_neg e, if_neg (fun h => e h.symm)]
    rw [e]
    exact this
  · intro r hr
    rw [List.length_set] at hr
    by_cases e : r = i
    · subst e
      simp only [if_true]
      rw [List.getD_eq_getElem?_getD, List.getElem?_set_self hr, Option.getD_some]
      exact ⟨ownsRow_base (keep hu) h1, hu.2⟩
    · simp only [e, if_false]
      rw [List.getD_eq_getElem?_getD, List.getElem?_set_ne (by omega), ← List.getD_eq_getElem?_getD]
      exact ⟨keep (k3 r hr), fun k ek => Nat.lt_of_lt_of_le ((k3 r hr).2 k ek) h2⟩
  · intro r s hrs hlen k e1 e2
    rw [List.length_set] at hlen
    have ub : ∀ k, u.ownBlock = some k → mid ≤ k := fun k e => (World.ownsRow.lt hu.1 k e).1
    by_cases er : r = i
    · have es : s ≠ i := by omega
      simp only [er, if_true] at e1
      simp only [es, if_false] at e2
      have := ub k e1
      have := (k3 s hlen).2 k e2
      omega
    · simp only [er, if_false] at e1
      by_cases es : s = i
      · simp only [es, if_true] at e2
        have := ub k e2
        have := (k3 r (by omega)).2 k e1
        omega
      · simp only [es, if_false] at e2
        exact k4 r s hrs hlen k e1 e2
theorem RowsO.frozenAt {T E lo hi : Nat} {w : World} {v : Value} {H : List (List Int)} (hv : RowsO T E lo hi w v H) {g c n : Nat} (hs : v = .slice (some ⟨g, 0, none⟩) n c) (i : Nat) : w.frozen? ⟨g, i, none⟩ = false := by
  obtain ⟨V, k1, _⟩ := hv
  subst hs
  have hn : n = H.length := by
    rcases k1.2 with ⟨e, _⟩ | ⟨_, _, _, e, _⟩
    · cases e
    · cases e; rfl
  subst hn
  exact World.ownsRow.frozenAt k1 i
end Go.Proofs.YtohncmlinifkkaaDoor
