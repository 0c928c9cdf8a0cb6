/- Words for slices of numbers and slices of such slices in memory, over any program: what they read as, that they are owned, and that they abide. -/
import Derived.WalkKit
import Derived.WalkLawsBesides
import Derived.WalkSpells
import Derived.Deep.QuietTactic
import Derived.BigQuiet
import Derived.Lib.Hide
import Derived.Deep.LoopGhost
import Derived.Outline
namespace Go.Proofs.YtohncmlinifkkaaDoor
open Go.RowKit

/-- No block that lay has turned. -/
def Grew (w w' : World) : Prop := Below w.heap.size w w'
theorem Grew.refl (w : World) : Grew w w := Below.refl _ _
theorem Grew.trans {a b c : World} (h : Grew a b) (k : Grew b c) : Grew a c := Below.trans h (Below.mono k h.size)
theorem Grew.alloc {a w : World} (h : Grew a w) (o : Obj) : Grew a (w.alloc o) := Below.alloc h h.size o
theorem Grew.drew {a w : World} (h : Grew a w) : Grew a w.drew := Below.drew h
theorem Grew.drewN {a w : World} (h : Grew a w) (n : Nat) : Grew a (w.drewN n) := h.trans ⟨rfl, rfl, rfl, Nat.le_refl _, fun _ _ => rfl⟩
theorem Grew.size {a w : World} (h : Grew a w) : a.heap.size ≤ w.heap.size := Below.size h
theorem Grew.cell {a w : World} (h : Grew a w) {p : Addr} {v : Value} (hc : a.cell? p = some v) : w.cell? p = some v :=
  (Below.cell h (World.block_lt_of_cell? _ _ hc)).trans hc
theorem Grew.block {a w : World} (h : Grew a w) {k : Nat} (hk : k < a.heap.size) : w.heap[k]? = a.heap[k]? := Below.block h k hk

/-- Outside the blocks lo .. hi-1 no block that lay has turned. -/
structure Within (lo hi : Nat) (w w' : World) : Prop where
  os : w'.os = w.os
  tape : w'.tape = w.tape
  output : w'.output = w.output
  size : w.heap.size ≤ w'.heap.size
  block : ∀ k, k < w.heap.size → (k < lo ∨ hi ≤ k) → w'.heap[k]? = w.heap[k]?
theorem Within.refl (lo hi : Nat) (w : World) : Within lo hi w w := ⟨rfl, rfl, rfl, Nat.le_refl _, fun _ _ _ => rfl⟩
theorem Within.trans {lo hi : Nat} {a b c : World} (h : Within lo hi a b) (k : Within lo hi b c) : Within lo hi a c :=
  ⟨k.os.trans h.os, k.tape.trans h.tape, k.output.trans h.output, Nat.le_trans h.size k.size, fun i hi ho => (k.block i (Nat.lt_of_lt_of_le hi h.size) ho).trans (h.block i hi ho)⟩
theorem Within.wide {lo hi lo' hi' : Nat} {a b : World} (h : Within lo hi a b) (hl : lo' ≤ lo) (hh : hi ≤ hi') : Within lo' hi' a b :=
  ⟨h.os, h.tape, h.output, h.size, fun k hk ho => h.block k hk (by omega)⟩
theorem Grew.within {a b : World} (h : Grew a b) (lo hi : Nat) : Within lo hi a b := ⟨h.os, h.tape, h.output, h.size, fun k hk _ => Below.block h k hk⟩
theorem Within.grew {a b c : World} {lo hi : Nat} (h : Grew a b) (k : Within lo hi b c) (hl : a.heap.size ≤ lo) : Grew a c :=
  Below.trans h ⟨k.os, k.tape, k.output, k.size, fun i hi => k.block i (Nat.lt_of_lt_of_le hi h.size) (by omega)⟩
theorem Within.cell {lo hi : Nat} {a b : World} (h : Within lo hi a b) {p : Addr} {v : Value} (hc : a.cell? p = some v) (ho : p.block < lo ∨ hi ≤ p.block) : b.cell? p = some v :=
  (World.cell?_of_block (w := a) (h.block p.block (World.block_lt_of_cell? _ _ hc) ho)).trans hc
theorem Within.frozen {lo hi : Nat} {a b : World} (h : Within lo hi a b) {p : Addr} {v : Value} (hc : a.cell? p = some v) (hf : a.frozen? p = false) (ho : p.block < lo ∨ hi ≤ p.block) : b.frozen? p = false :=
  (World.frozen?_of_block (w := a) (h.block p.block (World.block_lt_of_cell? _ _ hc) ho)).trans hf
/-- What is written behind all that lay when a was does not count. -/
theorem Within.after {a b c : World} {lo hi lo' hi' : Nat} (h : Within lo hi a b) (k : Within lo' hi' b c) (hl : a.heap.size ≤ lo') : Within lo hi a c :=
  ⟨k.os.trans h.os, k.tape.trans h.tape, k.output.trans h.output, Nat.le_trans h.size k.size, fun i hi ho => (k.block i (Nat.lt_of_lt_of_le hi h.size) (by omega)).trans (h.block i hi ho)⟩
theorem Within.setCell {lo hi : Nat} {a w : World} (h : Within lo hi a w) {p : Addr} (h1 : lo ≤ p.block) (h2 : p.block < hi) (u : Value) : Within lo hi a (w.setCell p u) :=
  h.trans ⟨rfl, rfl, rfl, by simp [World.setCell], fun k _ ho => Below.heap_setCell _ _ _ _ (by omega)⟩
theorem Within.alloc {lo hi : Nat} {a w : World} (h : Within lo hi a w) (o : Obj) : Within lo hi a (w.alloc o) := h.trans ((Grew.refl w).alloc o |>.within lo hi)
theorem Within.drew {lo hi : Nat} {a w : World} (h : Within lo hi a w) : Within lo hi a w.drew := ⟨h.os, h.tape, h.output, h.size, h.block⟩

/-- v reads as the numbers xs. -/
def NumsV (k : IntKind) (w : World) (v : Value) (xs : List Int) : Prop :=
  ∃ a b o c, v = .slice a xs.length c ∧ (xs.length ≤ c ∧ c ≤ 9223372036854775807) ∧ ∀ i, i < xs.length → a = some ⟨b, o, none⟩ ∧ w.cell? ⟨b, o + i, none⟩ = some (.int k (xs.getD i 0))
abbrev IntsV := NumsV .i64
theorem NumsV.grew {k : IntKind} {w w' : World} {v : Value} {xs : List Int} (h : NumsV k w v xs) (hg : Grew w w') : NumsV k w' v xs := by
  obtain ⟨a, b, o, c, e, hl, hc⟩ := h
  exact ⟨a, b, o, c, e, hl, fun i hi => ⟨(hc i hi).1, hg.cell (hc i hi).2⟩⟩
theorem NumsV.nil (k : IntKind) (w : World) (a : Option Addr) (c : Nat) (hc : c ≤ 9223372036854775807) : NumsV k w (.slice a 0 c) [] := ⟨a, 0, 0, c, rfl, ⟨Nat.zero_le _, hc⟩, fun _ h => absurd h (Nat.not_lt_zero _)⟩
theorem NumsV.shape {k : IntKind} {w : World} {v : Value} {xs : List Int} (h : NumsV k w v xs) : ∃ a b o c, v = .slice a xs.length c ∧ (xs.length ≤ c ∧ c ≤ 9223372036854775807) ∧ (0 < xs.length → a = some ⟨b, o, none⟩) ∧
    Hid (∀ i, i < xs.length → w.cell? ⟨b, o + i, none⟩ = some (.int k (xs.getD i 0))) := by
  obtain ⟨a, b, o, c, e, hl, hc⟩ := h
  exact ⟨a, b, o, c, e, hl, fun h0 => (hc 0 h0).1, Lib.hid fun i hi => (hc i hi).2⟩

/-- v reads as the rows h. -/
def RowsV (w : World) (v : Value) (h : List (List Int)) : Prop :=
  ∃ a b o c, v = .slice a h.length c ∧ (h.length ≤ c ∧ c ≤ 9223372036854775807) ∧ ∀ r, r < h.length → a = some ⟨b, o, none⟩ ∧ ∃ u, w.cell? ⟨b, o + r, none⟩ = some u ∧ IntsV w u (h.getD r [])
theorem RowsV.grew {w w' : World} {v : Value} {h : List (List Int)} (hv : RowsV w v h) (hg : Grew w w') : RowsV w' v h := by
  obtain ⟨a, b, o, c, e, hl, hc⟩ := hv
  refine ⟨a, b, o, c, e, hl, fun i hi => ?_⟩
  obtain ⟨h1, u, h2, h3⟩ := hc i hi
  exact ⟨h1, u, hg.cell h2, h3.grew hg⟩
theorem RowsV.nil (w : World) (a : Option Addr) (c : Nat) (hc : c ≤ 9223372036854775807) : RowsV w (.slice a 0 c) [] := ⟨a, 0, 0, c, rfl, ⟨Nat.zero_le _, hc⟩, fun _ h => absurd h (Nat.not_lt_zero _)⟩
theorem RowsV.shape {w : World} {v : Value} {h : List (List Int)} (hv : RowsV w v h) : ∃ a b o c, v = .slice a h.length c ∧ (h.length ≤ c ∧ c ≤ 9223372036854775807) ∧ (0 < h.length → a = some ⟨b, o, none⟩) ∧
    Hid (∀ r, r < h.length → ∃ u, w.cell? ⟨b, o + r, none⟩ = some u ∧ IntsV w u (h.getD r [])) := by
  obtain ⟨a, b, o, c, e, hl, hc⟩ := hv
  exact ⟨a, b, o, c, e, hl, fun h0 => (hc 0 h0).1, Lib.hid fun i hi => (hc i hi).2⟩

/-- v is the call's own: in a block from lo up to less than hi, not frozen; it holds xs. -/
def IntsO (E lo hi : Nat) (w : World) (v : Value) (xs : List Int) : Prop := w.ownsRow lo E 1 v xs.length (xs.map (.int .i64)) ∧ ∀ g, v.ownBlock = some g → g < hi
theorem IntsO.mk {E lo hi : Nat} {w : World} {v : Value} {xs : List Int} (h : w.ownsRow lo E 1 v xs.length (xs.map (.int .i64))) (hh : w.heap.size ≤ hi) : IntsO E lo hi w v xs :=
  ⟨h, fun g hg => Nat.lt_of_lt_of_le (World.ownsRow.lt h g hg).2 hh⟩
theorem ownsRow_block {w w' : World} {base e size n : Nat} {v : Value} {xs : List Value} (h : w.ownsRow base e size v n xs) (hb : ∀ g, v.ownBlock = some g → w'.heap[g]? = w.heap[g]?) : w'.ownsRow base e size v n xs := by
  refine ⟨h.1, ?_⟩
  rcases h.2 with h2 | ⟨g, cap, cur, rfl, h3, h4, h5⟩
  · exact .inl h2
  · exact .inr ⟨g, cap, cur, rfl, h3, (hb g rfl).trans h4, h5⟩
theorem ownsRow_base {w : World} {base base' e size n : Nat} {v : Value} {xs : List Value} (h : w.ownsRow base e size v n xs) (hb : base' ≤ base) : w.ownsRow base' e size v n xs := by
  refine ⟨h.1, ?_⟩
  rcases h.2 with h2 | ⟨g, cap, cur, rfl, h3, h4, h5⟩
  · exact .inl h2
  · exact .inr ⟨g, cap, cur, rfl, Nat.le_trans hb h3, h4, h5⟩
theorem IntsO.within {E lo hi lo' hi' : Nat} {w w' : World} {v : Value} {xs : List Int} (h : IntsO E lo hi w v xs) (hg : Within lo' hi' w w') (hd : hi ≤ lo' ∨ hi' ≤ lo) : IntsO E lo hi w' v xs :=
  ⟨ownsRow_block h.1 fun g e => hg.block g (World.ownsRow.lt h.1 g e).2 (by have := h.2 g e; have := (World.ownsRow.lt h.1 g e).1; omega), h.2⟩
theorem IntsO.grew {E lo hi : Nat} {w w' : World} {v : Value} {xs : List Int} (h : IntsO E lo hi w v xs) (hg : Grew w w') : IntsO E lo hi w' v xs :=
  ⟨ownsRow_block h.1 fun g e => hg.block (World.ownsRow.lt h.1 g e).2, h.2⟩
theorem IntsO.wide {E lo hi lo' hi' : Nat} {w : World} {v : Value} {xs : List Int} (h : IntsO E lo hi w v xs) (hl : lo' ≤ lo) (hh : hi ≤ hi') : IntsO E lo' hi' w v xs :=
  ⟨ownsRow_base h.1 hl, fun g e => Nat.lt_of_lt_of_le (h.2 g e) hh⟩
theorem IntsO.shape {E lo hi : Nat} {w : World} {v : Value} {xs : List Int} (h : IntsO E lo hi w v xs) : (v = .slice none 0 0 ∧ xs = []) ∨ ∃ g c, v = .slice (some ⟨g, 0, none⟩) xs.length c ∧ lo ≤ g ∧ g < hi ∧ xs.length ≤ c ∧ c ≤ maxLen := by
  rcases h.1.2 with ⟨e, h0⟩ | ⟨g, cap, cur, rfl, h3, h4, h5, h6, h7⟩
  · exact .inl ⟨e, List.eq_nil_of_length_eq_zero h0⟩
  · exact .inr ⟨g, cap, rfl, h3, h.2 g rfl, h5, h6⟩
theorem IntsO.toV {E lo hi : Nat} {w : World} {v : Value} {xs : List Int} (h : IntsO E lo hi w v xs) : IntsV w v xs := by
  rcases h.shape with ⟨rfl, rfl⟩ | ⟨g, c, rfl, _, _, h5, h6⟩
  · exact NumsV.nil _ _ _ _ (by omega)
  · refine ⟨_, g, 0, c, rfl, ⟨h5, by unfold maxLen at h6; omega⟩, fun i hi => ⟨rfl, ?_⟩⟩
    rw [Nat.zero_add, World.ownsRow.cellAt h.1 i (by omega)]
    simp [hi]
theorem IntsO.len {E lo hi : Nat} {w : World} {v : Value} {xs : List Int} (h : IntsO E lo hi w v xs) : xs.length ≤ 9223372036854775807 := by
  rcases h.shape with ⟨rfl, rfl⟩ | ⟨g, c, rfl, _, _, h5, h6⟩
  · simp
  · unfold maxLen at h6; omega

/-- v is the call's own slice of rows, each one its own, no two of which share a block. -/
def RowsO (T E lo hi : Nat) (w : World) (v : Value) (h : List (List Int)) : Prop :=
  ∃ V : Nat → Value, w.ownsRow lo T 1 v h.length ((List.range h.length).map V) ∧ (∀ g, v.ownBlock = some g → g < hi) ∧
    (∀ r, r < h.length → IntsO E lo hi w (V r) (h.getD r [])) ∧ ∀ r s, r < s → s < h.length → ∀ g, (V r).ownBlock = some g → (V s).ownBlock ≠ some g
theorem RowsO.within {T E lo hi lo' hi' : Nat} {w w' : World} {v : Value} {h : List (List Int)} (hv : RowsO T E lo hi w v h) (hg : Within lo' hi' w w') (hd : hi ≤ lo' ∨ hi' ≤ lo) : RowsO T E lo hi w' v h := by
  obtain ⟨V, h1, h2, h3, h4⟩ := hv
  exact ⟨V, ownsRow_block h1 fun g e => hg.block g (World.ownsRow.lt h1 g e).2 (by have := h2 g e; have := (World.ownsRow.lt h1 g e).1; omega), h2, fun r hr => (h3 r hr).within hg hd, h4⟩
theorem RowsO.grew {T E lo hi : Nat} {w w' : World} {v : Value} {h : List (List Int)} (hv : RowsO T E lo hi w v h) (hg : Grew w w') : RowsO T E lo hi w' v h := by
  obtain ⟨V, h1, h2, h3, h4⟩ := hv
  exact ⟨V, ownsRow_block h1 fun g e => hg.block (World.ownsRow.lt h1 g e).2, h2, fun r hr => (h3 r hr).grew hg, h4⟩
theorem RowsO.wide {T E lo hi lo' hi' : Nat} {w : World} {v : Value} {h : List (List Int)} (hv : RowsO T E lo hi w v h) (hl : lo' ≤ lo) (hh : hi ≤ hi') : RowsO T E lo' hi' w v h := by
  obtain ⟨V, h1, h2, h3, h4⟩ := hv
  exact ⟨V, ownsRow_base h1 hl, fun g e => Nat.lt_of_lt_of_le (h2 g e) hh, fun r hr => (h3 r hr).wide hl hh, h4⟩
theorem RowsO.nil (T E lo hi : Nat) (w : World) : RowsO T E lo hi w (.slice none 0 0) [] :=
  ⟨fun _ => .slice none 0 0, World.ownsRow_nil _ _ _ _, fun g e => by simp [Value.ownBlock] at e, fun _ h => absurd h (Nat.not_lt_zero _), fun _ _ _ h => absurd h (Nat.not_lt_zero _)⟩
theorem RowsO.toV {T E lo hi : Nat} {w : World} {v : Value} {h : List (List Int)} (hv : RowsO T E lo hi w v h) : RowsV w v h := by
  obtain ⟨V, h1, h2, h3, h4⟩ := hv
  rcases h1.2 with ⟨rfl, h0⟩ | ⟨g, cap, cur, rfl, _, _, h5, h6, _⟩
  · have : h = [] := List.eq_nil_of_length_eq_zero h0
    subst this
    exact RowsV.nil _ _ _ (by omega)
  · refine ⟨_, g, 0, cap, rfl, ⟨h5, by unfold maxLen at h6; omega⟩, fun i hi => ⟨rfl, V i, ?_, (h3 i hi).toV⟩⟩
    rw [Nat.zero_add, World.ownsRow.cellAt h1 i (by omega)]
    simp [hi]
theorem RowsO.shape {T E lo hi : Nat} {w : World} {v : Value} {h : List (List Int)} (hv : RowsO T E lo hi w v h) : (v = .slice none 0 0 ∧ h = []) ∨ ∃ g c, v = .slice (some ⟨g, 0, none⟩) h.length c ∧ lo ≤ g ∧ g < hi ∧ h.length ≤ c ∧ c ≤ maxLen := by
  obtain ⟨V, h1, h2, h3, h4⟩ := hv
  rcases h1.2 with ⟨e, h0⟩ | ⟨g, cap, cur, rfl, h3, _, h5, h6, _⟩
  · exact .inl ⟨e, List.eq_nil_of_length_eq_zero h0⟩
  · exact .inr ⟨g, cap, rfl, h3, h2 g rfl, h5, h6⟩

theorem ret_bool {a b : Bool} (h : a = b) : Ending.returned (.bool a) = .returned (.bool b) := by rw [h]
theorem ret_int {a b : Int} (h : a = b) : Ending.returned (.int .i64 a) = .returned (.int .i64 b) := by rw [h]

theorem ret_slice {a : Option Addr} {n m c : Nat} (h : n = m) : Ending.returned (.slice a n c) = .returned (.slice a m c) := by rw [h]

/-! Lists. -/
theorem all_snoc {α : Type} (p : α → Bool) (xs : List α) (d : α) (k : Nat) (h : k < xs.length) : (xs.take (k + 1)).all p = ((xs.take k).all p && p (xs.getD k d)) := by
  rw [List.take_succ_eq_append_getElem h, List.all_append]; simp [h]
theorem all_false {α : Type} (p : α → Bool) (xs : List α) (d : α) (k : Nat) (h : k < xs.length) (hp : p (xs.getD k d) = false) : xs.all p = false := by
  rw [List.all_eq_false]
  exact ⟨xs[k], List.getElem_mem h, by simpa [h] using hp⟩
theorem all_take {α : Type} (p : α → Bool) (xs : List α) (k : Nat) (h : xs.length ≤ k) (hp : (xs.take k).all p = true) : xs.all p = true := by
  rwa [List.take_of_length_le h] at hp
end Go.Proofs.YtohncmlinifkkaaDoor
