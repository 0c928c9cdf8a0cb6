/- Steps on the call's own rows: a row is appended, a number is set; what a walk reads of them. -/
import Derived.Test.YtohncmlinifkkaaDoorMem
import Derived.Deep.RegionWith
import Derived.Deep.RegionHeld3
import Derived.Maps.AppendAt
namespace Go.Proofs.YtohncmlinifkkaaDoor
open Go.RowKit

theorem getD_append_l {α : Type} (l m : List α) (i : Nat) (d : α) (h : i < l.length) : (l ++ m).getD i d = l.getD i d := by
  rw [List.getD_eq_getElem?_getD, List.getD_eq_getElem?_getD, List.getElem?_append_left h]
theorem getD_append_r {α : Type} (l : List α) (x : α) (d : α) : (l ++ [x]).getD l.length d = x := by
  rw [List.getD_eq_getElem?_getD, List.getElem?_append_right (Nat.le_refl _), Nat.sub_self]; rfl
theorem grownBy_within {w w' : World} {row : Option Nat} {lo hi : Nat} (h : w.grownBy w' row) (hr : ∀ g, row = some g → lo ≤ g ∧ g < hi) : Within lo hi w w' :=
  ⟨h.os, h.tape, h.output, h.size, fun k hk ho => h.block k hk (fun e => by have := hr k e.symm; omega)⟩
theorem grownBy_none {w w' : World} (h : w.grownBy w' none) : Grew w w' := ⟨h.os, h.tape, h.output, h.size, fun k hk => h.block k hk (fun e => by cases e)⟩

/-- A slice literal of numbers. -/
theorem IntsO.lit (E lo : Nat) (w : World) (xs : List Int) (cs : Array Value) (h : cs.toList = xs.map (.int .i64)) (hlo : lo ≤ w.heap.size) (hl : xs.length ≤ maxLen) :
    IntsO E lo (w.heap.size + 1) (w.alloc (.cells cs E)) (.slice (some ⟨w.heap.size, 0, none⟩) xs.length xs.length) xs := by
  refine IntsO.mk ?_ (by simp)
  have hs : cs.size = xs.length * 1 := by rw [← Array.length_toList, h]; simp
  rw [← h]
  exact World.ownsRow_lit w cs xs.length hlo hl hs
theorem RowsO.lit0 (T E lo : Nat) (w : World) (hlo : lo ≤ w.heap.size) : RowsO T E lo (w.heap.size + 1) (w.alloc (.cells #[] T)) (.slice (some ⟨w.heap.size, 0, none⟩) 0 0) [] :=
  ⟨fun _ => .slice none 0 0, World.ownsRow_lit w #[] 0 hlo (Nat.zero_le _) rfl, fun g e => by simp [Value.ownBlock] at e; omega, fun _ h => absurd h (Nat.not_lt_zero _), fun _ _ _ h => absurd h (Nat.not_lt_zero _)⟩

/-- A number is appended to a slice of the call's own. -/
theorem IntsO.snoc {E lo hi : Nat} {w' : World} {v' : Value} {xs : List Int} {x : Int} (h : w'.ownsRow lo E 1 v' (xs.length + 1) (xs.map (.int .i64) ++ [.int .i64 x])) (hh : w'.heap.size ≤ hi) : IntsO E lo hi w' v' (xs ++ [x]) :=
  IntsO.mk (by simpa using h) hh

theorem ownsRow_int_block {T E lo lo' : Nat} (hTE : T ≠ E) {w : World} {v u : Value} {n m : Nat} {xs ys : List Value} (h : w.ownsRow lo T 1 v n xs) (k : w.ownsRow lo' E 1 u m ys) : ∀ g, u.ownBlock = some g → v.ownBlock ≠ some g := by
  intro g e1 e2
  rcases h.2 with ⟨rfl, _⟩ | ⟨g1, _, _, rfl, _, h4, _⟩
  · simp [Value.ownBlock] at e2
  rcases k.2 with ⟨rfl, _⟩ | ⟨g2, _, _, rfl, _, k4, _⟩
  · simp [Value.ownBlock] at e1
  simp only [Value.ownBlock, Option.some.injEq] at e1 e2
  subst e1; subst e2
  rw [h4] at k4
  simp only [Option.some.injEq, Obj.cells.injEq] at k4
  exact hTE k4.2.1

/-- A row of the call's own is appended to rows of the call's own. -/
theorem rows_snoc {T E lo mid hi : Nat} (hTE : T ≠ E) {w w' : World} {v v' u : Value} {H : List (List Int)} {V : Nat → Value} {xs : List Int} (hlo : lo ≤ mid)
    (h1 : w.ownsRow lo T 1 v H.length ((List.range H.length).map V)) (h3 : ∀ r, r < H.length → IntsO E lo mid w (V r) (H.getD r []))
    (h4 : ∀ r s, r < s → s < H.length → ∀ g, (V r).ownBlock = some g → (V s).ownBlock ≠ some g) (hx : IntsO E mid hi w u xs)
    (hg : w.grownBy w' v.ownBlock) (ho : w'.ownsRow lo T 1 v' (H.length + 1) ((List.range H.length).map V ++ [u])) : RowsO T E lo w'.heap.size w' v' (H ++ [xs]) := by
  have keep : ∀ {a b : Nat} {z : Value} {ys : List Int}, IntsO E a b w z ys → w'.ownsRow a E 1 z ys.length (ys.map (.int .i64)) := fun {a b z ys} hz =>
    ownsRow_block hz.1 fun g e => hg.block g (World.ownsRow.lt hz.1 g e).2 (fun e2 => ownsRow_int_block hTE h1 hz.1 g e e2.symm)
  refine ⟨fun r => if r < H.length then V r else u, ?_, fun g e => (World.ownsRow.lt ho g e).2, ?_, ?_⟩
  · rw [List.length_append, List.length_singleton, List.range_succ, List.map_append, List.map_singleton]
    have : (List.range H.length).map (fun r => if r < H.length then V r else u) = (List.range H.length).map V :=
      List.map_congr_left fun r hr => by rw [if_pos (List.mem_range.1 hr)]
    rw [this]
    simpa using ho
  · intro r hr
    rw [List.length_append, List.length_singleton] at hr
    by_cases hlt : r < H.length
    · simp only [hlt, if_true]
      rw [getD_append_l _ _ _ _ hlt]
      exact ⟨keep (h3 r hlt), fun g e => Nat.lt_of_lt_of_le (World.ownsRow.lt (h3 r hlt).1 g e).2 hg.size⟩
    · have : r = H.length := by omega
      subst this
      simp only [Nat.lt_irrefl, if_false]
      rw [getD_append_r]
      exact ⟨ownsRow_base (keep hx) hlo, fun g e => Nat.lt_of_lt_of_le (World.ownsRow.lt hx.1 g e).2 hg.size⟩
  · intro r s hrs hs g e1 e2
    rw [List.length_append, List.length_singleton] at hs
    have hr : r < H.length := by omega
    simp only [hr, if_true] at e1
    by_cases hlt : s < H.length
    · simp only [hlt, if_true] at e2
      exact h4 r s hrs hlt g e1 e2
    · simp only [hlt, if_false] at e2
      have a := (h3 r hr).2 g e1
      have b := (World.ownsRow.lt hx.1 g e2).1
      omega

/-- What a walk reads of row i. -/
theorem RowsO.at {T E lo hi : Nat} {w : World} {v : Value} {H : List (List Int)} (hv : RowsO T E lo hi w v H) {g c n : Nat} (hs : v = .slice (some ⟨g, 0, none⟩) n c) {i : Nat} (hil : i < H.length) :
    ∃ u, w.cell? ⟨g, i, none⟩ = some u ∧ IntsO E lo hi w u (H.getD i []) := by
  obtain ⟨V, h1, h2, h3, h4⟩ := hv
  subst hs
  refine ⟨V i, ?_, h3 i hil⟩
  have hn : n = H.length := by
    rcases h1.2 with ⟨e, _⟩ | ⟨_, _, _, e, _⟩
    · cases e
    · cases e; rfl
  subst hn
  rw [World.ownsRow.cellAt h1 i (by omega)]
  simp [hil]
theorem IntsO.at {E lo hi : Nat} {w : World} {v : Value} {xs : List Int} (h : IntsO E lo hi w v xs) {g c n : Nat} (hs : v = .slice (some ⟨g, 0, none⟩) n c) {i : Nat} (hil : i < xs.length) :
    w.cell? ⟨g, i, none⟩ = some (.int .i64 (xs.getD i 0)) ∧ w.frozen? ⟨g, i, none⟩ = false := by
  subst hs
  have hn : n = xs.length := by
    rcases h.1.2 with ⟨e, _⟩ | ⟨_, _, _, e, _⟩
    · cases e
    · cases e; rfl
  subst hn
  exact ⟨by rw [World.ownsRow.cellAt h.1 i (by omega)]; simp [hil], World.ownsRow.frozenAt h.1 i⟩
theorem IntsO.pos {E lo hi : Nat} {w : World} {v : Value} {xs : List Int} (h : IntsO E lo hi w v xs) (h0 : 0 < xs.length) : ∃ g c, v = .slice (some ⟨g, 0, none⟩) xs.length c ∧ lo ≤ g ∧ g < hi ∧ xs.length ≤ c ∧ c ≤ 9223372036854775807 := by
  rcases h.shape with ⟨rfl, rfl⟩ | ⟨g, c, rfl, a, b, d, e⟩
  · simp at h0
  · exact ⟨g, c, rfl, a, b, d, by simpa [maxLen] using e⟩
theorem RowsO.pos {T E lo hi : Nat} {w : World} {v : Value} {H : List (List Int)} (h : RowsO T E lo hi w v H) (h0 : 0 < H.length) : ∃ g c, v = .slice (some ⟨g, 0, none⟩) H.length c ∧ lo ≤ g ∧ g < hi ∧ H.length ≤ c ∧ c ≤ 9223372036854775807 := by
  rcases h.shape with ⟨rfl, rfl⟩ | ⟨g, c, rfl, a, b, d, e⟩
  · simp at h0
  · exact ⟨g, c, rfl, a, b, d, by simpa [maxLen] using e⟩

/-- A number of an own slice is set. -/
theorem IntsO.set {E lo hi : Nat} {w : World} {v : Value} {xs : List Int} (h : IntsO E lo hi w v xs) {g c n : Nat} (hs : v = .slice (some ⟨g, 0, none⟩) n c) (j : Nat) (x : Int) :
    IntsO E lo hi (w.setCell ⟨g, j, none⟩ (.int .i64 x)) v (xs.set j x) := by
  subst hs
  have hn : n = xs.length := by
    rcases h.1.2 with ⟨e, _⟩ | ⟨_, _, _, e, _⟩
    · cases e
    · cases e; rfl
  subst hn
  refine ⟨?_, h.2⟩
  have := (World.ownsRow.stored h.1 j (.int .i64 x)).1
  rw [List.length_set, List.map_set]
  exact this
/-- A number of an own row of own rows is set. -/
theorem RowsO.set {T E lo hi : Nat} (hTE : T ≠ E) {w : World} {v : Value} {H : List (List Int)} (hv : RowsO T E lo hi w v H) {gv cv nv : Nat} (hsv : v = .slice (some ⟨gv, 0, none⟩) nv cv) {i : Nat} (hi' : i < H.length) {g c n : Nat}
    (hu : w.cell? ⟨gv, i, none⟩ = some (.slice (some ⟨g, 0, none⟩) n c)) (j : Nat) (x : Int) :
    RowsO T E lo hi (w.setCell ⟨g, j, none⟩ (.int .i64 x)) v (H.set i ((H.getD i []).set j x)) := by
  obtain ⟨V, h1, h2, h3, h4⟩ := hv
  have eV : V i = .slice (some ⟨g, 0, none⟩) n c := by
    subst hsv
    have hn : nv = H.length := by
      rcases h1.2 with ⟨e, _⟩ | ⟨_, _, _, e, _⟩
      · cases e
      · cases e; rfl
    subst hn
    rw [World.ownsRow.cellAt h1 i (by omega)] at hu
    simpa [hi'] using hu
  have hsame : ∀ k, k ≠ g → (w.setCell ⟨g, j, none⟩ (.int .i64 x)).heap[k]? = w.heap[k]? := fun k hk => Below.heap_setCell _ _ _ _ hk
  have hb : (V i).ownBlock = some g := by rw [eV]; rfl
  refine ⟨V, ?_, h2, ?_, ?_⟩
  · rw [List.length_set]
    exact ownsRow_block h1 fun k e => hsame k fun e2 => ownsRow_int_block hTE h1 (h3 i hi').1 g hb (by rw [e, e2])
  · intro r hr
    rw [List.length_set] at hr
    by_cases e : r = i
    · subst e
      have := (h3 r hr).set eV j x
      rw [List.getD_eq_getElem?_getD (l := H.set _ _), List.getElem?_set_self hi', Option.getD_some]
      exact this
    · rw [List.getD_eq_getElem?_getD (l := H.set _ _), List.getElem?_set_ne (by omega), ← List.getD_eq_getElem?_getD]
      refine ⟨ownsRow_block (h3 r hr).1 fun k ek => hsame k fun e2 => ?_, (h3 r hr).2⟩
      subst e2
      rcases Nat.lt_or_gt_of_ne e with h | h
      · exact h4 r i h hi' _ ek hb
      · exact h4 i r h hr _ hb ek
  · intro r s hrs hs
    rw [List.length_set] at hs
    exact h4 r s hrs hs

theorem IntsO.one {E lo hi : Nat} {w : World} {v : Value} {xs : List Int} (h : IntsO E lo hi w v xs) : v.oneCell' = true := by
  rcases h.shape with ⟨rfl, _⟩ | ⟨g, c, rfl, _⟩ <;> rfl

/-- 'append(s, y)' at a slice of numbers of the call's own. -/
theorem wpList_append_int {P : Program} {w : World} {ops : Array Oper} {rest : List Oper} {o : Oper} {a : Act} {Q : Exit → Act → World → Prop} (hgd : o.guard = none) (s x : Operand) (t : TypeId)
    (ho : o.op = .call { callee := .builtin .append, args := #[s, x], argTypes := #[t, t] }) {E : TypeId} (ht : P.underlying t = some (.slice E))
    (hinfo : (P.info? E).map (fun i => (i.zero, i.size, i.bytes)) = some (some (.int .i64 0), 1, 8)) {lo hi : Nat} {v : Value} {xs : List Int} {y : Int} {nb : Nat} (hs : a.eval s = v) (hx : a.eval x = .slice (some ⟨nb, 0, none⟩) 1 1) (hnb : nb = w.heap.size)
    (hv : IntsO E lo hi w v xs) (hlen : xs.length + 1 ≤ 17592186044416) (hbase : lo ≤ w.heap.size)
    (h : ∀ g c w', IntsO E lo w'.heap.size w' (.slice (some ⟨g, 0, none⟩) (xs.length + 1) c) (xs ++ [y]) → Within lo hi w w' → w.heap.size < w'.heap.size →
      wpList P ops Q rest (a.put o.dst (.slice (some ⟨g, 0, none⟩) (xs.length + 1) c)) w') : wpList P ops Q (o :: rest) a (w.alloc (.cells #[.int .i64 y] E)) := by
  subst hnb
  obtain ⟨i, hi1, hi2, hi3, hi4⟩ := info_parts hinfo
  refine wpList_append_own _ hgd s x t ho lo E i (.int .i64 0) 1 8 ht hi1 hi2 hi3 hi4 rfl (by decide) v xs.length _ hs (hv.1.alloc _) ⟨w.heap.size, 0, none⟩ 1 1 [.int .i64 y] hx rfl (cell_one_new _ _ _) (by simp [Value.oneCell']) (by unfold maxLen; omega) (by omega) (by simp; omega) ?_
  intro v' w' hown hg _
  have hW : Within lo hi w w' := (((Grew.refl w).alloc _).within lo hi).trans (grownBy_within hg fun g e => ⟨(World.ownsRow.lt hv.1 g e).1, hv.2 g e⟩)
  have hS : w.heap.size < w'.heap.size := Nat.lt_of_lt_of_le (by simp) hg.size
  have hO := IntsO.snoc hown (Nat.le_refl _)
  obtain ⟨g, c, hv', _⟩ := hO.pos (by simp)
  have e : (xs ++ [y]).length = xs.length + 1 := by simp
  rw [e] at hv'
  subst hv'
  exact h g c w' hO hW hS

/-- 'append(s, u)' at rows of the call's own, u a row of its own that was made behind them. -/
theorem wpList_append_row {P : Program} {w : World} {ops : Array Oper} {rest : List Oper} {o : Oper} {a : Act} {Q : Exit → Act → World → Prop} (hgd : o.guard = none) (s x : Operand) (t : TypeId)
    (ho : o.op = .call { callee := .builtin .append, args := #[s, x], argTypes := #[t, t] }) {T E : TypeId} (hTE : T ≠ E) (ht : P.underlying t = some (.slice T))
    (hinfo : (P.info? T).map (fun i => (i.zero, i.size, i.bytes)) = some (some (.slice none 0 0), 1, 24)) {lo mid hi : Nat} {v u : Value} {H : List (List Int)} {xs : List Int} {nb : Nat} (hs : a.eval s = v) (hx : a.eval x = .slice (some ⟨nb, 0, none⟩) 1 1) (hnb : nb = w.heap.size)
    (hv : RowsO T E lo mid w v H) (hu : IntsO E mid hi w u xs) (hlen : H.length + 1 ≤ 5864062014805) (hbase : lo ≤ w.heap.size) (hlo : lo ≤ mid)
    (h : ∀ g c w', RowsO T E lo w'.heap.size w' (.slice (some ⟨g, 0, none⟩) (H.length + 1) c) (H ++ [xs]) → Within lo mid w w' → w.heap.size < w'.heap.size →
      wpList P ops Q rest (a.put o.dst (.slice (some ⟨g, 0, none⟩) (H.length + 1) c)) w') : wpList P ops Q (o :: rest) a (w.alloc (.cells #[u] T)) := by
  subst hnb
  obtain ⟨i, hi1, hi2, hi3, hi4⟩ := info_parts hinfo
  obtain ⟨V, h1, h2, h3, h4⟩ := hv
  refine wpList_append_own _ hgd s x t ho lo T i (.slice none 0 0) 1 24 ht hi1 hi2 hi3 hi4 rfl (by decide) v H.length _ hs (h1.alloc _) ⟨w.heap.size, 0, none⟩ 1 1 [u] hx rfl (cell_one_new _ _ _) (by simpa using hu.one) (by unfold maxLen; omega) (by omega) (by simp; omega) ?_
  intro v' w' hown hg _
  have hW : Within lo mid w w' := (((Grew.refl w).alloc _).within lo mid).trans (grownBy_within hg fun g e => ⟨(World.ownsRow.lt h1 g e).1, h2 g e⟩)
  have hS : w.heap.size < w'.heap.size := Nat.lt_of_lt_of_le (by simp) hg.size
  have ga : Grew w (w.alloc (.cells #[u] T)) := (Grew.refl w).alloc _
  have hO := rows_snoc hTE hlo (h1.alloc (.cells #[u] T)) (fun r hr => (h3 r hr).grew ga) h4 (hu.grew ga) hg hown
  obtain ⟨g, c, hv', _⟩ := hO.pos (by simp)
  have e : (H ++ [xs]).length = H.length + 1 := by simp
  rw [e] at hv'
  subst hv'
  exact h g c w' hO hW hS
end Go.Proofs.YtohncmlinifkkaaDoor
