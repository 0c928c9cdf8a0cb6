/- Slices in memory: read, owned, made, appended to, written to. -/
import Derived.WalkKit
import Derived.WalkLawsBesides
import Derived.WalkSpells
import Derived.Deep.QuietTactic
import Derived.BigQuiet
import Derived.Lib.Hide
import Derived.Deep.LoopGhost
import Derived.Outline
import Derived.Laws.CopyRow
import Derived.Deep.RegionWith
import Derived.Deep.RegionHeld3
import Derived.Maps.AppendAt
import Derived.Test.YtaeenedjmakelaaDoorRows
/- Words for slices of numbers and slices of such slices in memory, over any program: what they read as, that they are owned, and that they abide. -/
namespace Go.Proofs.YtaeenedjmakelaaDoor
open Go.RowKit

/-- No block that lay has turned. -/
def Grew (w w' : World) : Prop := Below w.heap.size w w'
theorem Grew.refl (w : World) : Grew w w := Below.refl _ _
theorem Grew.trans {a b c : World} (h : Grew a b) (k : Grew b c) : Grew a c := Below.trans h (Below.mono k h.size)
theorem Grew.alloc {a w : World} (h : Grew a w) (o : Obj) : Grew a (w.alloc o) := Below.alloc h h.size o
theorem Grew.drew {a w : World} (h : Grew a w) : Grew a w.drew := Below.drew h
theorem Grew.drewN {a w : World} (h : Grew a w) (n : Nat) : Grew a (w.drewN n) := h.trans ⟨rfl, rfl, rfl, Nat.le_refl _, fun _ _ => rfl⟩
theorem Grew.size {a w : World} (h : Grew a w) : a.heap.size ≤ w.heap.size := Below.size h
theorem Grew.cell {a w : World} (h : Grew a w) {p : Addr} {v : Value} (hc : a.cell? p = some v) : w.cell? p = some v :=
  (Below.cell h (World.block_lt_of_cell? _ _ hc)).trans hc
theorem Grew.block {a w : World} (h : Grew a w) {k : Nat} (hk : k < a.heap.size) : w.heap[k]? = a.heap[k]? := Below.block h k hk

/-- Outside the blocks lo .. hi-1 no block that lay has turned. -/
structure Within (lo hi : Nat) (w w' : World) : Prop where
  os : w'.os = w.os
  tape : w'.tape = w.tape
  output : w'.output = w.output
  size : w.heap.size ≤ w'.heap.size
  block : ∀ k, k < w.heap.size → (k < lo ∨ hi ≤ k) → w'.heap[k]? = w.heap[k]?
theorem Within.refl (lo hi : Nat) (w : World) : Within lo hi w w := ⟨rfl, rfl, rfl, Nat.le_refl _, fun _ _ _ => rfl⟩
theorem Within.trans {lo hi : Nat} {a b c : World} (h : Within lo hi a b) (k : Within lo hi b c) : Within lo hi a c :=
  ⟨k.os.trans h.os, k.tape.trans h.tape, k.output.trans h.output, Nat.le_trans h.size k.size, fun i hi ho => (k.block i (Nat.lt_of_lt_of_le hi h.size) ho).trans (h.block i hi ho)⟩
theorem Within.wide {lo hi lo' hi' : Nat} {a b : World} (h : Within lo hi a b) (hl : lo' ≤ lo) (hh : hi ≤ hi') : Within lo' hi' a b :=
  ⟨h.os, h.tape, h.output, h.size, fun k hk ho => h.block k hk (by omega)⟩
theorem Grew.within {a b : World} (h : Grew a b) (lo hi : Nat) : Within lo hi a b := ⟨h.os, h.tape, h.output, h.size, fun k hk _ => Below.block h k hk⟩
theorem Within.grew {a b c : World} {lo hi : Nat} (h : Grew a b) (k : Within lo hi b c) (hl : a.heap.size ≤ lo) : Grew a c :=
  Below.trans h ⟨k.os, k.tape, k.output, k.size, fun i hi => k.block i (Nat.lt_of_lt_of_le hi h.size) (by omega)⟩
theorem Within.cell {lo hi : Nat} {a b : World} (h : Within lo hi a b) {p : Addr} {v : Value} (hc : a.cell? p = some v) (ho : p.block < lo ∨ hi ≤ p.block) : b.cell? p = some v :=
  (World.cell?_of_block (w := a) (h.block p.block (World.block_lt_of_cell? _ _ hc) ho)).trans hc
theorem Within.frozen {lo hi : Nat} {a b : World} (h : Within lo hi a b) {p : Addr} {v : Value} (hc : a.cell? p = some v) (hf : a.frozen? p = false) (ho : p.block < lo ∨ hi ≤ p.block) : b.frozen? p = false :=
  (World.frozen?_of_block (w := a) (h.block p.block (World.block_lt_of_cell? _ _ hc) ho)).trans hf
/-- What is written behind all that lay when a was does not count. -/
theorem Within.after {a b c : World} {lo hi lo' hi' : Nat} (h : Within lo hi a b) (k : Within lo' hi' b c) (hl : a.heap.size ≤ lo') : Within lo hi a c :=
  ⟨k.os.trans h.os, k.tape.trans h.tape, k.output.trans h.output, Nat.le_trans h.size k.size, fun i hi ho => (k.block i (Nat.lt_of_lt_of_le hi h.size) (by omega)).trans (h.block i hi ho)⟩
theorem Within.setCell {lo hi : Nat} {a w : World} (h : Within lo hi a w) {p : Addr} (h1 : lo ≤ p.block) (h2 : p.block < hi) (u : Value) : Within lo hi a (w.setCell p u) :=
  h.trans ⟨rfl, rfl, rfl, by simp [World.setCell], fun k _ ho => Below.heap_setCell _ _ _ _ (by omega)⟩
theorem Within.alloc {lo hi : Nat} {a w : World} (h : Within lo hi a w) (o : Obj) : Within lo hi a (w.alloc o) := h.trans ((Grew.refl w).alloc o |>.within lo hi)
theorem Within.drew {lo hi : Nat} {a w : World} (h : Within lo hi a w) : Within lo hi a w.drew := ⟨h.os, h.tape, h.output, h.size, h.block⟩

/-- v reads as the numbers xs. -/
def NumsV (k : IntKind) (w : World) (v : Value) (xs : List Int) : Prop :=
  ∃ a b o c, v = .slice a xs.length c ∧ (xs.length ≤ c ∧ c ≤ 9223372036854775807) ∧ ∀ i, i < xs.length → a = some ⟨b, o, none⟩ ∧ w.cell? ⟨b, o + i, none⟩ = some (.int k (xs.getD i 0))
abbrev IntsV := NumsV .i64
theorem NumsV.grew {k : IntKind} {w w' : World} {v : Value} {xs : List Int} (h : NumsV k w v xs) (hg : Grew w w') : NumsV k w' v xs := by
  obtain ⟨a, b, o, c, e, hl, hc⟩ := h
  exact ⟨a, b, o, c, e, hl, fun i hi => ⟨(hc i hi).1, hg.cell (hc i hi).2⟩⟩
theorem NumsV.nil (k : IntKind) (w : World) (a : Option Addr) (c : Nat) (hc : c ≤ 9223372036854775807) : NumsV k w (.slice a 0 c) [] := ⟨a, 0, 0, c, rfl, ⟨Nat.zero_le _, hc⟩, fun _ h => absurd h (Nat.not_lt_zero _)⟩
theorem NumsV.shape {k : IntKind} {w : World} {v : Value} {xs : List Int} (h : NumsV k w v xs) : ∃ a b o c, v = .slice a xs.length c ∧ (xs.length ≤ c ∧ c ≤ 9223372036854775807) ∧ (0 < xs.length → a = some ⟨b, o, none⟩) ∧
    Hid (∀ i, i < xs.length → w.cell? ⟨b, o + i, none⟩ = some (.int k (xs.getD i 0))) := by
  obtain ⟨a, b, o, c, e, hl, hc⟩ := h
  exact ⟨a, b, o, c, e, hl, fun h0 => (hc 0 h0).1, Lib.hid fun i hi => (hc i hi).2⟩

theorem NumsV.at {k : IntKind} {w : World} {g n c : Nat} {xs : List Int} (h : NumsV k w (.slice (some ⟨g, 0, none⟩) n c) xs) (i : Nat) (hi : i < xs.length) : w.cell? ⟨g, i, none⟩ = some (.int k (xs.getD i 0)) := by
  obtain ⟨a, b, o, c', e, hl, hc⟩ := h
  obtain ⟨e1, e2⟩ := hc i hi
  simp only [Value.slice.injEq] at e
  rw [e1] at e
  simp only [Option.some.injEq, Addr.mk.injEq] at e
  obtain ⟨⟨rfl, rfl, _⟩, _, _⟩ := e
  rwa [Nat.zero_add] at e2
/-- v reads as the rows h. -/
def RowsV (w : World) (v : Value) (h : List (List Int)) : Prop :=
  ∃ a b o c, v = .slice a h.length c ∧ (h.length ≤ c ∧ c ≤ 9223372036854775807) ∧ ∀ r, r < h.length → a = some ⟨b, o, none⟩ ∧ ∃ u, w.cell? ⟨b, o + r, none⟩ = some u ∧ IntsV w u (h.getD r [])
theorem RowsV.grew {w w' : World} {v : Value} {h : List (List Int)} (hv : RowsV w v h) (hg : Grew w w') : RowsV w' v h := by
  obtain ⟨a, b, o, c, e, hl, hc⟩ := hv
  refine ⟨a, b, o, c, e, hl, fun i hi => ?_⟩
  obtain ⟨h1, u, h2, h3⟩ := hc i hi
  exact ⟨h1, u, hg.cell h2, h3.grew hg⟩
theorem RowsV.nil (w : World) (a : Option Addr) (c : Nat) (hc : c ≤ 9223372036854775807) : RowsV w (.slice a 0 c) [] := ⟨a, 0, 0, c, rfl, ⟨Nat.zero_le _, hc⟩, fun _ h => absurd h (Nat.not_lt_zero _)⟩
theorem RowsV.shape {w : World} {v : Value} {h : List (List Int)} (hv : RowsV w v h) : ∃ a b o c, v = .slice a h.length c ∧ (h.length ≤ c ∧ c ≤ 9223372036854775807) ∧ (0 < h.length → a = some ⟨b, o, none⟩) ∧
    Hid (∀ r, r < h.length → ∃ u, w.cell? ⟨b, o + r, none⟩ = some u ∧ IntsV w u (h.getD r [])) := by
  obtain ⟨a, b, o, c, e, hl, hc⟩ := hv
  exact ⟨a, b, o, c, e, hl, fun h0 => (hc 0 h0).1, Lib.hid fun i hi => (hc i hi).2⟩

/-- v is the call's own: in a block from lo up to less than hi, not frozen; it holds xs. -/
def IntsO (E lo hi : Nat) (w : World) (v : Value) (xs : List Int) : Prop := w.ownsRow lo E 1 v xs.length (xs.map (.int .i64)) ∧ ∀ g, v.ownBlock = some g → g < hi
theorem IntsO.mk {E lo hi : Nat} {w : World} {v : Value} {xs : List Int} (h : w.ownsRow lo E 1 v xs.length (xs.map (.int .i64))) (hh : w.heap.size ≤ hi) : IntsO E lo hi w v xs :=
  ⟨h, fun g hg => Nat.lt_of_lt_of_le (World.ownsRow.lt h g hg).2 hh⟩
theorem ownsRow_block {w w' : World} {base e size n : Nat} {v : Value} {xs : List Value} (h : w.ownsRow base e size v n xs) (hb : ∀ g, v.ownBlock = some g → w'.heap[g]? = w.heap[g]?) : w'.ownsRow base e size v n xs := by
  refine ⟨h.1, ?_⟩
  rcases h.2 with h2 | ⟨g, cap, cur, rfl, h3, h4, h5⟩
  · exact .inl h2
  · exact .inr ⟨g, cap, cur, rfl, h3, (hb g rfl).trans h4, h5⟩
theorem ownsRow_base {w : World} {base base' e size n : Nat} {v : Value} {xs : List Value} (h : w.ownsRow base e size v n xs) (hb : base' ≤ base) : w.ownsRow base' e size v n xs := by
  refine ⟨h.1, ?_⟩
  rcases h.2 with h2 | ⟨g, cap, cur, rfl, h3, h4, h5⟩
  · exact .inl h2
  · exact .inr ⟨g, cap, cur, rfl, Nat.le_trans hb h3, h4, h5⟩
theorem IntsO.within {E lo hi lo' hi' : Nat} {w w' : World} {v : Value} {xs : List Int} (h : IntsO E lo hi w v xs) (hg : Within lo' hi' w w') (hd : hi ≤ lo' ∨ hi' ≤ lo) : IntsO E lo hi w' v xs :=
  ⟨ownsRow_block h.1 fun g e => hg.block g (World.ownsRow.lt h.1 g e).2 (by have := h.2 g e; have := (World.ownsRow.lt h.1 g e).1; omega), h.2⟩
theorem IntsO.grew {E lo hi : Nat} {w w' : World} {v : Value} {xs : List Int} (h : IntsO E lo hi w v xs) (hg : Grew w w') : IntsO E lo hi w' v xs :=
  ⟨ownsRow_block h.1 fun g e => hg.block (World.ownsRow.lt h.1 g e).2, h.2⟩
theorem IntsO.wide {E lo hi lo' hi' : Nat} {w : World} {v : Value} {xs : List Int} (h : IntsO E lo hi w v xs) (hl : lo' ≤ lo) (hh : hi ≤ hi') : IntsO E lo' hi' w v xs :=
  ⟨ownsRow_base h.1 hl, fun g e => Nat.lt_of_lt_of_le (h.2 g e) hh⟩
theorem IntsO.shape {E lo hi : Nat} {w : World} {v : Value} {xs : List Int} (h : IntsO E lo hi w v xs) : (v = .slice none 0 0 ∧ xs = []) ∨ ∃ g c, v = .slice (some ⟨g, 0, none⟩) xs.length c ∧ lo ≤ g ∧ g < hi ∧ xs.length ≤ c ∧ c ≤ maxLen := by
  rcases h.1.2 with ⟨e, h0⟩ | ⟨g, cap, cur, rfl, h3, h4, h5, h6, h7⟩
  · exact .inl ⟨e, List.eq_nil_of_length_eq_zero h0⟩
  · exact .inr ⟨g, cap, rfl, h3, h.2 g rfl, h5, h6⟩
theorem IntsO.toV {E lo hi : Nat} {w : World} {v : Value} {xs : List Int} (h : IntsO E lo hi w v xs) : IntsV w v xs := by
  rcases h.shape with ⟨rfl, rfl⟩ | ⟨g, c, rfl, _, _, h5, h6⟩
  · exact NumsV.nil _ _ _ _ (by omega)
  · refine ⟨_, g, 0, c, rfl, ⟨h5, by unfold maxLen at h6; omega⟩, fun i hi => ⟨rfl, ?_⟩⟩
    rw [Nat.zero_add, World.ownsRow.cellAt h.1 i (by omega)]
    simp [hi]
theorem IntsO.len {E lo hi : Nat} {w : World} {v : Value} {xs : List Int} (h : IntsO E lo hi w v xs) : xs.length ≤ 9223372036854775807 := by
  rcases h.shape with ⟨rfl, rfl⟩ | ⟨g, c, rfl, _, _, h5, h6⟩
  · simp
  · unfold maxLen at h6; omega

/-- v is the call's own slice of rows, each one its own, no two of which share a block. -/
def RowsO (T E lo hi : Nat) (w : World) (v : Value) (h : List (List Int)) : Prop :=
  ∃ V : Nat → Value, w.ownsRow lo T 1 v h.length ((List.range h.length).map V) ∧ (∀ g, v.ownBlock = some g → g < hi) ∧
    (∀ r, r < h.length → IntsO E lo hi w (V r) (h.getD r [])) ∧ ∀ r s, r < s → s < h.length → ∀ g, (V r).ownBlock = some g → (V s).ownBlock ≠ some g
theorem RowsO.within {T E lo hi lo' hi' : Nat} {w w' : World} {v : Value} {h : List (List Int)} (hv : RowsO T E lo hi w v h) (hg : Within lo' hi' w w') (hd : hi ≤ lo' ∨ hi' ≤ lo) : RowsO T E lo hi w' v h := by
  obtain ⟨V, h1, h2, h3, h4⟩ := hv
  exact ⟨V, ownsRow_block h1 fun g e => hg.block g (World.ownsRow.lt h1 g e).2 (by have := h2 g e; have := (World.ownsRow.lt h1 g e).1; omega), h2, fun r hr => (h3 r hr).within hg hd, h4⟩
theorem RowsO.grew {T E lo hi : Nat} {w w' : World} {v : Value} {h : List (List Int)} (hv : RowsO T E lo hi w v h) (hg : Grew w w') : RowsO T E lo hi w' v h := by
  obtain ⟨V, h1, h2, h3, h4⟩ := hv
  exact ⟨V, ownsRow_block h1 fun g e => hg.block (World.ownsRow.lt h1 g e).2, h2, fun r hr => (h3 r hr).grew hg, h4⟩
theorem RowsO.wide {T E lo hi lo' hi' : Nat} {w : World} {v : Value} {h : List (List Int)} (hv : RowsO T E lo hi w v h) (hl : lo' ≤ lo) (hh : hi ≤ hi') : RowsO T E lo' hi' w v h := by
  obtain ⟨V, h1, h2, h3, h4⟩ := hv
  exact ⟨V, ownsRow_base h1 hl, fun g e => Nat.lt_of_lt_of_le (h2 g e) hh, fun r hr => (h3 r hr).wide hl hh, h4⟩
theorem RowsO.nil (T E lo hi : Nat) (w : World) : RowsO T E lo hi w (.slice none 0 0) [] :=
  ⟨fun _ => .slice none 0 0, World.ownsRow_nil _ _ _ _, fun g e => by simp [Value.ownBlock] at e, fun _ h => absurd h (Nat.not_lt_zero _), fun _ _ _ h => absurd h (Nat.not_lt_zero _)⟩
theorem RowsO.toV {T E lo hi : Nat} {w : World} {v : Value} {h : List (List Int)} (hv : RowsO T E lo hi w v h) : RowsV w v h := by
  obtain ⟨V, h1, h2, h3, h4⟩ := hv
  rcases h1.2 with ⟨rfl, h0⟩ | ⟨g, cap, cur, rfl, _, _, h5, h6, _⟩
  · have : h = [] := List.eq_nil_of_length_eq_zero h0
    subst this
    exact RowsV.nil _ _ _ (by omega)
  · refine ⟨_, g, 0, cap, rfl, ⟨h5, by unfold maxLen at h6; omega⟩, fun i hi => ⟨rfl, V i, ?_, (h3 i hi).toV⟩⟩
    rw [Nat.zero_add, World.ownsRow.cellAt h1 i (by omega)]
    simp [hi]
theorem RowsO.shape {T E lo hi : Nat} {w : World} {v : Value} {h : List (List Int)} (hv : RowsO T E lo hi w v h) : (v = .slice none 0 0 ∧ h = []) ∨ ∃ g c, v = .slice (some ⟨g, 0, none⟩) h.length c ∧ lo ≤ g ∧ g < hi ∧ h.length ≤ c ∧ c ≤ maxLen := by
  obtain ⟨V, h1, h2, h3, h4⟩ := hv
  rcases h1.2 with ⟨e, h0⟩ | ⟨g, cap, cur, rfl, h3, _, h5, h6, _⟩
  · exact .inl ⟨e, List.eq_nil_of_length_eq_zero h0⟩
  · exact .inr ⟨g, cap, rfl, h3, h2 g rfl, h5, h6⟩

theorem ret_bool {a b : Bool} (h : a = b) : Ending.returned (.bool a) = .returned (.bool b) := by rw [h]
theorem ret_int {a b : Int} (h : a = b) : Ending.returned (.int .i64 a) = .returned (.int .i64 b) := by rw [h]

theorem ret_slice {a : Option Addr} {n m c : Nat} (h : n = m) : Ending.returned (.slice a n c) = .returned (.slice a m c) := by rw [h]

/-! Lists. -/
theorem all_snoc {α : Type} (p : α → Bool) (xs : List α) (d : α) (k : Nat) (h : k < xs.length) : (xs.take (k + 1)).all p = ((xs.take k).all p && p (xs.getD k d)) := by
  rw [List.take_succ_eq_append_getElem h, List.all_append]; simp [h]
theorem all_false {α : Type} (p : α → Bool) (xs : List α) (d : α) (k : Nat) (h : k < xs.length) (hp : p (xs.getD k d) = false) : xs.all p = false := by
  rw [List.all_eq_false]
  exact ⟨xs[k], List.getElem_mem h, by simpa [h] using hp⟩
theorem all_take {α : Type} (p : α → Bool) (xs : List α) (k : Nat) (h : xs.length ≤ k) (hp : (xs.take k).all p = true) : xs.all p = true := by
  rwa [List.take_of_length_le h] at hp
end Go.Proofs.YtaeenedjmakelaaDoor

/- What a comparison leaves: a Bool, and draws. -/
namespace Go.Proofs.YtaeenedjmakelaaDoor
open Go.RowKit

def QuietBool (b : Bool) (w : World) (e : Ending) (w' : World) : Prop := e = .returned (.bool b) ∧ ∃ n, w' = w.drewN n
theorem take_eq_snoc {α : Type} {xs ys : List α} {k : Nat} (d : α) (h1 : k < xs.length) (h2 : k < ys.length) (h : xs.take k = ys.take k) (he : xs.getD k d = ys.getD k d) : xs.take (k + 1) = ys.take (k + 1) := by
  rw [List.take_succ_eq_append_getElem h1, List.take_succ_eq_append_getElem h2, h]
  simp [h1, h2] at he
  rw [he]
theorem quiet_grew {w wr : World} (h : ∃ n, wr = w.drewN n) : Grew w wr := by
  obtain ⟨n, rfl⟩ := h
  exact (Grew.refl w).drewN n
theorem quiet_step {w wr : World} (h : ∃ n, wr = w.drewN n) (m : Nat) : ∃ n, wr.drewN m = w.drewN n := by
  obtain ⟨n, rfl⟩ := h
  exact ⟨n + m, World.drewN_drewN _ _ _⟩

end Go.Proofs.YtaeenedjmakelaaDoor

/- Worlds that part in some blocks alone. -/
namespace Go.Proofs.YtaeenedjmakelaaDoor
open Go.RowKit

/-- Of the blocks that lay none but those of S has turned. -/
structure Only (S : Nat → Prop) (w w' : World) : Prop where
  os : w'.os = w.os
  tape : w'.tape = w.tape
  output : w'.output = w.output
  size : w.heap.size ≤ w'.heap.size
  block : ∀ k, k < w.heap.size → ¬ S k → w'.heap[k]? = w.heap[k]?
theorem Only.refl (S : Nat → Prop) (w : World) : Only S w w := ⟨rfl, rfl, rfl, Nat.le_refl _, fun _ _ _ => rfl⟩
theorem Only.trans {S T : Nat → Prop} {a b c : World} (h : Only S a b) (k : Only T b c) (hST : ∀ i, i < a.heap.size → T i → S i) : Only S a c :=
  ⟨k.os.trans h.os, k.tape.trans h.tape, k.output.trans h.output, Nat.le_trans h.size k.size, fun i hi ho => (k.block i (Nat.lt_of_lt_of_le hi h.size) (fun e => ho (hST i hi e))).trans (h.block i hi ho)⟩
theorem Only.mono {S T : Nat → Prop} {a b : World} (h : Only S a b) (hST : ∀ i, i < a.heap.size → S i → T i) : Only T a b := ⟨h.os, h.tape, h.output, h.size, fun i hi ho => h.block i hi fun e => ho (hST i hi e)⟩
theorem Grew.only {S : Nat → Prop} {a b : World} (h : Grew a b) : Only S a b := ⟨h.os, h.tape, h.output, h.size, fun _ hk _ => Below.block h _ hk⟩
theorem Within.only {lo hi : Nat} {S : Nat → Prop} {a b : World} (h : Within lo hi a b) (hS : ∀ k, lo ≤ k → k < hi → S k) : Only S a b :=
  ⟨h.os, h.tape, h.output, h.size, fun k hk ho => h.block k hk (by
    by_cases h1 : k < lo
    · exact .inl h1
    · by_cases h2 : hi ≤ k
      · exact .inr h2
      · exact absurd (hS k (by omega) (by omega)) ho)⟩
theorem Only.setCell {S : Nat → Prop} {a w : World} (h : Only S a w) {p : Addr} (hp : S p.block) (u : Value) : Only S a (w.setCell p u) :=
  h.trans (T := fun k => k = p.block) ⟨rfl, rfl, rfl, by simp [World.setCell], fun k _ ho => Below.heap_setCell _ _ _ _ ho⟩ fun i _ e => by subst e; exact hp
theorem Only.cell {S : Nat → Prop} {a b : World} (h : Only S a b) {p : Addr} {v : Value} (hc : a.cell? p = some v) (ho : ¬ S p.block) : b.cell? p = some v :=
  (World.cell?_of_block (w := a) (h.block p.block (World.block_lt_of_cell? _ _ hc) ho)).trans hc
theorem Only.frozen {S : Nat → Prop} {a b : World} (h : Only S a b) {p : Addr} {v : Value} (hc : a.cell? p = some v) (hf : a.frozen? p = false) (ho : ¬ S p.block) : b.frozen? p = false :=
  (World.frozen?_of_block (w := a) (h.block p.block (World.block_lt_of_cell? _ _ hc) ho)).trans hf
theorem Only.grew {S : Nat → Prop} {a b c : World} (h : Grew a b) (k : Only S b c) (hS : ∀ i, i < a.heap.size → ¬ S i) : Grew a c :=
  Below.trans h ⟨k.os, k.tape, k.output, k.size, fun i hi => k.block i (Nat.lt_of_lt_of_le hi h.size) (hS i hi)⟩
theorem IntsO.only {E lo hi : Nat} {S : Nat → Prop} {w w' : World} {v : Value} {xs : List Int} (h : IntsO E lo hi w v xs) (hg : Only S w w') (hd : ∀ k, lo ≤ k → k < hi → ¬ S k) : IntsO E lo hi w' v xs :=
  ⟨ownsRow_block h.1 fun g e => hg.block g (World.ownsRow.lt h.1 g e).2 (hd g (World.ownsRow.lt h.1 g e).1 (h.2 g e)), h.2⟩
end Go.Proofs.YtaeenedjmakelaaDoor

/- The builtin copy at elements of more cells than one. -/
namespace Go.Proofs.YtaeenedjmakelaaDoor
open Go.RowKit

theorem run_copy_rowK {P : Program} (w : World) (dT sT ty elem : TypeId) (g o dLen dCap : Nat) (a : Addr) (sLen sCap : Nat) (cur : Array Value) (t : TypeId) (cs : List Value) (k n : Nat)
    (hu : P.underlying dT = some (.slice elem)) (hs : (P.info? elem).map (·.size) = some k) (hg : w.heap[g]? = some (.cells cur t (0, 0))) (hmin : Nat.min sLen dLen = n) (hn : cs.length = n * k)
    (hsrc : ∀ j v, cs[j]? = some v → w.cell? (a.add j) = some v) (hfit : o + cs.length ≤ cur.size) (h1 : ∀ v ∈ cs, v.oneCell' = true) :
    (Builtin.copy_ #[dT, sT] ty #[.slice (some ⟨g, o, none⟩) dLen dCap, .slice (some a) sLen sCap]).run P w =
      .ok (goInt n) (w.setRow g (cur.toList.take o ++ cs ++ cur.toList.drop (o + cs.length)).toArray) := by
  have hl := run_loadCells_list (P := P) w a cs hsrc
  have hst := run_storeCells_at P g o t cs 0 cur w hg (by simpa using hfit) h1
  cases hq : P.info? elem with
  | none => simp [hq] at hs
  | some i =>
    have hi : i.size = k := by simpa [hq] using hs
    simp [Builtin.copy_, run_underlying hu, Builtin.lenOf, Builtin.firstCells, sizeOf, typeInfo, hq, hi, hmin, ← hn, hl, hst]
end Go.Proofs.YtaeenedjmakelaaDoor

/- Steps on the call's own rows: a row is appended, a number is set; what a walk reads of them. -/
namespace Go.Proofs.YtaeenedjmakelaaDoor
open Go.RowKit

theorem getD_append_l {α : Type} (l m : List α) (i : Nat) (d : α) (h : i < l.length) : (l ++ m).getD i d = l.getD i d := by
  rw [List.getD_eq_getElem?_getD, List.getD_eq_getElem?_getD, List.getElem?_append_left h]
theorem getD_append_r {α : Type} (l : List α) (x : α) (d : α) : (l ++ [x]).getD l.length d = x := by
  rw [List.getD_eq_getElem?_getD, List.getElem?_append_right (Nat.le_refl _), Nat.sub_self]; rfl
theorem grownBy_within {w w' : World} {row : Option Nat} {lo hi : Nat} (h : w.grownBy w' row) (hr : ∀ g, row = some g → lo ≤ g ∧ g < hi) : Within lo hi w w' :=
  ⟨h.os, h.tape, h.output, h.size, fun k hk ho => h.block k hk (fun e => by have := hr k e.symm; omega)⟩
theorem grownBy_none {w w' : World} (h : w.grownBy w' none) : Grew w w' := ⟨h.os, h.tape, h.output, h.size, fun k hk => h.block k hk (fun e => by cases e)⟩

/-- A slice literal of numbers. -/
theorem IntsO.lit (E lo : Nat) (w : World) (xs : List Int) (cs : Array Value) (h : cs.toList = xs.map (.int .i64)) (hlo : lo ≤ w.heap.size) (hl : xs.length ≤ maxLen) :
    IntsO E lo (w.heap.size + 1) (w.alloc (.cells cs E)) (.slice (some ⟨w.heap.size, 0, none⟩) xs.length xs.length) xs := by
  refine IntsO.mk ?_ (by simp)
  have hs : cs.size = xs.length * 1 := by rw [← Array.length_toList, h]; simp
  rw [← h]
  exact World.ownsRow_lit w cs xs.length hlo hl hs
theorem RowsO.lit0 (T E lo : Nat) (w : World) (hlo : lo ≤ w.heap.size) : RowsO T E lo (w.heap.size + 1) (w.alloc (.cells #[] T)) (.slice (some ⟨w.heap.size, 0, none⟩) 0 0) [] :=
  ⟨fun _ => .slice none 0 0, World.ownsRow_lit w #[] 0 hlo (Nat.zero_le _) rfl, fun g e => by simp [Value.ownBlock] at e; omega, fun _ h => absurd h (Nat.not_lt_zero _), fun _ _ _ h => absurd h (Nat.not_lt_zero _)⟩

/-- A number is appended to a slice of the call's own. -/
theorem IntsO.snoc {E lo hi : Nat} {w' : World} {v' : Value} {xs : List Int} {x : Int} (h : w'.ownsRow lo E 1 v' (xs.length + 1) (xs.map (.int .i64) ++ [.int .i64 x])) (hh : w'.heap.size ≤ hi) : IntsO E lo hi w' v' (xs ++ [x]) :=
  IntsO.mk (by simpa using h) hh

theorem ownsRow_int_block {T E lo lo' : Nat} (hTE : T ≠ E) {w : World} {v u : Value} {n m : Nat} {xs ys : List Value} (h : w.ownsRow lo T 1 v n xs) (k : w.ownsRow lo' E 1 u m ys) : ∀ g, u.ownBlock = some g → v.ownBlock ≠ some g := by
  intro g e1 e2
  rcases h.2 with ⟨rfl, _⟩ | ⟨g1, _, _, rfl, _, h4, _⟩
  · simp [Value.ownBlock] at e2
  rcases k.2 with ⟨rfl, _⟩ | ⟨g2, _, _, rfl, _, k4, _⟩
  · simp [Value.ownBlock] at e1
  simp only [Value.ownBlock, Option.some.injEq] at e1 e2
  subst e1; subst e2
  rw [h4] at k4
  simp only [Option.some.injEq, Obj.cells.injEq] at k4
  exact hTE k4.2.1

/-- A row of the call's own is appended to rows of the call's own. -/
theorem rows_snoc {T E lo mid hi : Nat} (hTE : T ≠ E) {w w' : World} {v v' u : Value} {H : List (List Int)} {V : Nat → Value} {xs : List Int} (hlo : lo ≤ mid)
    (h1 : w.ownsRow lo T 1 v H.length ((List.range H.length).map V)) (h3 : ∀ r, r < H.length → IntsO E lo mid w (V r) (H.getD r []))
    (h4 : ∀ r s, r < s → s < H.length → ∀ g, (V r).ownBlock = some g → (V s).ownBlock ≠ some g) (hx : IntsO E mid hi w u xs)
    (hg : w.grownBy w' v.ownBlock) (ho : w'.ownsRow lo T 1 v' (H.length + 1) ((List.range H.length).map V ++ [u])) : RowsO T E lo w'.heap.size w' v' (H ++ [xs]) := by
  have keep : ∀ {a b : Nat} {z : Value} {ys : List Int}, IntsO E a b w z ys → w'.ownsRow a E 1 z ys.length (ys.map (.int .i64)) := fun {a b z ys} hz =>
    ownsRow_block hz.1 fun g e => hg.block g (World.ownsRow.lt hz.1 g e).2 (fun e2 => ownsRow_int_block hTE h1 hz.1 g e e2.symm)
  refine ⟨fun r => if r < H.length then V r else u, ?_, fun g e => (World.ownsRow.lt ho g e).2, ?_, ?_⟩
  · rw [List.length_append, List.length_singleton, List.range_succ, List.map_append, List.map_singleton]
    have : (List.range H.length).map (fun r => if r < H.length then V r else u) = (List.range H.length).map V :=
      List.map_congr_left fun r hr => by rw [if_pos (List.mem_range.1 hr)]
    rw [this]
    simpa using ho
  · intro r hr
    rw [List.length_append, List.length_singleton] at hr
    by_cases hlt : r < H.length
    · simp only [hlt, if_true]
      rw [getD_append_l _ _ _ _ hlt]
      exact ⟨keep (h3 r hlt), fun g e => Nat.lt_of_lt_of_le (World.ownsRow.lt (h3 r hlt).1 g e).2 hg.size⟩
    · have : r = H.length := by omega
      subst this
      simp only [Nat.lt_irrefl, if_false]
      rw [getD_append_r]
      exact ⟨ownsRow_base (keep hx) hlo, fun g e => Nat.lt_of_lt_of_le (World.ownsRow.lt hx.1 g e).2 hg.size⟩
  · intro r s hrs hs g e1 e2
    rw [List.length_append, List.length_singleton] at hs
    have hr : r < H.length := by omega
    simp only [hr, if_true] at e1
    by_cases hlt : s < H.length
    · simp only [hlt, if_true] at e2
      exact h4 r s hrs hlt g e1 e2
    · simp only [hlt, if_false] at e2
      have a := (h3 r hr).2 g e1
      have b := (World.ownsRow.lt hx.1 g e2).1
      omega

/-- What a walk reads of row i. -/
theorem RowsO.at {T E lo hi : Nat} {w : World} {v : Value} {H : List (List Int)} (hv : RowsO T E lo hi w v H) {g c n : Nat} (hs : v = .slice (some ⟨g, 0, none⟩) n c) {i : Nat} (hil : i < H.length) :
    ∃ u, w.cell? ⟨g, i, none⟩ = some u ∧ IntsO E lo hi w u (H.getD i []) := by
  obtain ⟨V, h1, h2, h3, h4⟩ := hv
  subst hs
  refine ⟨V i, ?_, h3 i hil⟩
  have hn : n = H.length := by
    rcases h1.2 with ⟨e, _⟩ | ⟨_, _, _, e, _⟩
    · cases e
    · cases e; rfl
  subst hn
  rw [World.ownsRow.cellAt h1 i (by omega)]
  simp [hil]
theorem IntsO.at {E lo hi : Nat} {w : World} {v : Value} {xs : List Int} (h : IntsO E lo hi w v xs) {g c n : Nat} (hs : v = .slice (some ⟨g, 0, none⟩) n c) {i : Nat} (hil : i < xs.length) :
    w.cell? ⟨g, i, none⟩ = some (.int .i64 (xs.getD i 0)) ∧ w.frozen? ⟨g, i, none⟩ = false := by
  subst hs
  have hn : n = xs.length := by
    rcases h.1.2 with ⟨e, _⟩ | ⟨_, _, _, e, _⟩
    · cases e
    · cases e; rfl
  subst hn
  exact ⟨by rw [World.ownsRow.cellAt h.1 i (by omega)]; simp [hil], World.ownsRow.frozenAt h.1 i⟩
theorem IntsO.pos {E lo hi : Nat} {w : World} {v : Value} {xs : List Int} (h : IntsO E lo hi w v xs) (h0 : 0 < xs.length) : ∃ g c, v = .slice (some ⟨g, 0, none⟩) xs.length c ∧ lo ≤ g ∧ g < hi ∧ xs.length ≤ c ∧ c ≤ 9223372036854775807 := by
  rcases h.shape with ⟨rfl, rfl⟩ | ⟨g, c, rfl, a, b, d, e⟩
  · simp at h0
  · exact ⟨g, c, rfl, a, b, d, by simpa [maxLen] using e⟩
theorem RowsO.pos {T E lo hi : Nat} {w : World} {v : Value} {H : List (List Int)} (h : RowsO T E lo hi w v H) (h0 : 0 < H.length) : ∃ g c, v = .slice (some ⟨g, 0, none⟩) H.length c ∧ lo ≤ g ∧ g < hi ∧ H.length ≤ c ∧ c ≤ 9223372036854775807 := by
  rcases h.shape with ⟨rfl, rfl⟩ | ⟨g, c, rfl, a, b, d, e⟩
  · simp at h0
  · exact ⟨g, c, rfl, a, b, d, by simpa [maxLen] using e⟩

/-- A number of an own slice is set. -/
theorem IntsO.set {E lo hi : Nat} {w : World} {v : Value} {xs : List Int} (h : IntsO E lo hi w v xs) {g c n : Nat} (hs : v = .slice (some ⟨g, 0, none⟩) n c) (j : Nat) (x : Int) :
    IntsO E lo hi (w.setCell ⟨g, j, none⟩ (.int .i64 x)) v (xs.set j x) := by
  subst hs
  have hn : n = xs.length := by
    rcases h.1.2 with ⟨e, _⟩ | ⟨_, _, _, e, _⟩
    · cases e
    · cases e; rfl
  subst hn
  refine ⟨?_, h.2⟩
  have := (World.ownsRow.stored h.1 j (.int .i64 x)).1
  rw [List.length_set, List.map_set]
  exact this
/-- A number of an own row of own rows is set. -/
theorem RowsO.set {T E lo hi : Nat} (hTE : T ≠ E) {w : World} {v : Value} {H : List (List Int)} (hv : RowsO T E lo hi w v H) {gv cv nv : Nat} (hsv : v = .slice (some ⟨gv, 0, none⟩) nv cv) {i : Nat} (hi' : i < H.length) {g c n : Nat}
    (hu : w.cell? ⟨gv, i, none⟩ = some (.slice (some ⟨g, 0, none⟩) n c)) (j : Nat) (x : Int) :
    RowsO T E lo hi (w.setCell ⟨g, j, none⟩ (.int .i64 x)) v (H.set i ((H.getD i []).set j x)) := by
  obtain ⟨V, h1, h2, h3, h4⟩ := hv
  have eV : V i = .slice (some ⟨g, 0, none⟩) n c := by
    subst hsv
    have hn : nv = H.length := by
      rcases h1.2 with ⟨e, _⟩ | ⟨_, _, _, e, _⟩
      · cases e
      · cases e; rfl
    subst hn
    rw [World.ownsRow.cellAt h1 i (by omega)] at hu
    simpa [hi'] using hu
  have hsame : ∀ k, k ≠ g → (w.setCell ⟨g, j, none⟩ (.int .i64 x)).heap[k]? = w.heap[k]? := fun k hk => Below.heap_setCell _ _ _ _ hk
  have hb : (V i).ownBlock = some g := by rw [eV]; rfl
  refine ⟨V, ?_, h2, ?_, ?_⟩
  · rw [List.length_set]
    exact ownsRow_block h1 fun k e => hsame k fun e2 => ownsRow_int_block hTE h1 (h3 i hi').1 g hb (by rw [e, e2])
  · intro r hr
    rw [List.length_set] at hr
    by_cases e : r = i
    · subst e
      have := (h3 r hr).set eV j x
      rw [List.getD_eq_getElem?_getD (l := H.set _ _), List.getElem?_set_self hi', Option.getD_some]
      exact this
    · rw [List.getD_eq_getElem?_getD (l := H.set _ _), List.getElem?_set_ne (by omega), ← List.getD_eq_getElem?_getD]
      refine ⟨ownsRow_block (h3 r hr).1 fun k ek => hsame k fun e2 => ?_, (h3 r hr).2⟩
      subst e2
      rcases Nat.lt_or_gt_of_ne e with h | h
      · exact h4 r i h hi' _ ek hb
      · exact h4 i r h hr _ hb ek
  · intro r s hrs hs
    rw [List.length_set] at hs
    exact h4 r s hrs hs

theorem IntsO.one {E lo hi : Nat} {w : World} {v : Value} {xs : List Int} (h : IntsO E lo hi w v xs) : v.oneCell' = true := by
  rcases h.shape with ⟨rfl, _⟩ | ⟨g, c, rfl, _⟩ <;> rfl

/-- 'append(s, y)' at a slice of numbers of the call's own. -/
theorem wpList_append_int {P : Program} {w : World} {ops : Array Oper} {rest : List Oper} {o : Oper} {a : Act} {Q : Exit → Act → World → Prop} (hgd : o.guard = none) (s x : Operand) (t : TypeId)
    (ho : o.op = .call { callee := .builtin .append, args := #[s, x], argTypes := #[t, t] }) {E : TypeId} (ht : P.underlying t = some (.slice E))
    (hinfo : (P.info? E).map (fun i => (i.zero, i.size, i.bytes)) = some (some (.int .i64 0), 1, 8)) {lo hi : Nat} {v : Value} {xs : List Int} {y : Int} {nb : Nat} (hs : a.eval s = v) (hx : a.eval x = .slice (some ⟨nb, 0, none⟩) 1 1) (hnb : nb = w.heap.size)
    (hv : IntsO E lo hi w v xs) (hlen : xs.length + 1 ≤ 17592186044416) (hbase : lo ≤ w.heap.size)
    (h : ∀ g c w', IntsO E lo w'.heap.size w' (.slice (some ⟨g, 0, none⟩) (xs.length + 1) c) (xs ++ [y]) → Within lo hi w w' → w.heap.size < w'.heap.size →
      wpList P ops Q rest (a.put o.dst (.slice (some ⟨g, 0, none⟩) (xs.length + 1) c)) w') : wpList P ops Q (o :: rest) a (w.alloc (.cells #[.int .i64 y] E)) := by
  subst hnb
  obtain ⟨i, hi1, hi2, hi3, hi4⟩ := info_parts hinfo
  refine wpList_append_own _ hgd s x t ho lo E i (.int .i64 0) 1 8 ht hi1 hi2 hi3 hi4 rfl (by decide) v xs.length _ hs (hv.1.alloc _) ⟨w.heap.size, 0, none⟩ 1 1 [.int .i64 y] hx rfl (cell_one_new _ _ _) (by simp [Value.oneCell']) (by unfold maxLen; omega) (by omega) (by simp; omega) ?_
  intro v' w' hown hg _
  have hW : Within lo hi w w' := (((Grew.refl w).alloc _).within lo hi).trans (grownBy_within hg fun g e => ⟨(World.ownsRow.lt hv.1 g e).1, hv.2 g e⟩)
  have hS : w.heap.size < w'.heap.size := Nat.lt_of_lt_of_le (by simp) hg.size
  have hO := IntsO.snoc hown (Nat.le_refl _)
  obtain ⟨g, c, hv', _⟩ := hO.pos (by simp)
  have e : (xs ++ [y]).length = xs.length + 1 := by simp
  rw [e] at hv'
  subst hv'
  exact h g c w' hO hW hS

/-- 'append(s, u)' at rows of the call's own, u a row of its own that was made behind them. -/
theorem wpList_append_row {P : Program} {w : World} {ops : Array Oper} {rest : List Oper} {o : Oper} {a : Act} {Q : Exit → Act → World → Prop} (hgd : o.guard = none) (s x : Operand) (t : TypeId)
    (ho : o.op = .call { callee := .builtin .append, args := #[s, x], argTypes := #[t, t] }) {T E : TypeId} (hTE : T ≠ E) (ht : P.underlying t = some (.slice T))
    (hinfo : (P.info? T).map (fun i => (i.zero, i.size, i.bytes)) = some (some (.slice none 0 0), 1, 24)) {lo mid hi : Nat} {v u : Value} {H : List (List Int)} {xs : List Int} {nb : Nat} (hs : a.eval s = v) (hx : a.eval x = .slice (some ⟨nb, 0, none⟩) 1 1) (hnb : nb = w.heap.size)
    (hv : RowsO T E lo mid w v H) (hu : IntsO E mid hi w u xs) (hlen : H.length + 1 ≤ 5864062014805) (hbase : lo ≤ w.heap.size) (hlo : lo ≤ mid)
    (h : ∀ g c w', RowsO T E lo w'.heap.size w' (.slice (some ⟨g, 0, none⟩) (H.length + 1) c) (H ++ [xs]) → Within lo mid w w' → w.heap.size < w'.heap.size →
      wpList P ops Q rest (a.put o.dst (.slice (some ⟨g, 0, none⟩) (H.length + 1) c)) w') : wpList P ops Q (o :: rest) a (w.alloc (.cells #[u] T)) := by
  subst hnb
  obtain ⟨i, hi1, hi2, hi3, hi4⟩ := info_parts hinfo
  obtain ⟨V, h1, h2, h3, h4⟩ := hv
  refine wpList_append_own _ hgd s x t ho lo T i (.slice none 0 0) 1 24 ht hi1 hi2 hi3 hi4 rfl (by decide) v H.length _ hs (h1.alloc _) ⟨w.heap.size, 0, none⟩ 1 1 [u] hx rfl (cell_one_new _ _ _) (by simpa using hu.one) (by unfold maxLen; omega) (by omega) (by simp; omega) ?_
  intro v' w' hown hg _
  have hW : Within lo mid w w' := (((Grew.refl w).alloc _).within lo mid).trans (grownBy_within hg fun g e => ⟨(World.ownsRow.lt h1 g e).1, h2 g e⟩)
  have hS : w.heap.size < w'.heap.size := Nat.lt_of_lt_of_le (by simp) hg.size
  have ga : Grew w (w.alloc (.cells #[u] T)) := (Grew.refl w).alloc _
  have hO := rows_snoc hTE hlo (h1.alloc (.cells #[u] T)) (fun r hr => (h3 r hr).grew ga) h4 (hu.grew ga) hg hown
  obtain ⟨g, c, hv', _⟩ := hO.pos (by simp)
  have e : (H ++ [xs]).length = H.length + 1 := by simp
  rw [e] at hv'
  subst hv'
  exact h g c w' hO hW hS
end Go.Proofs.YtaeenedjmakelaaDoor

/- Slices that are made with zeros, and rows that are put into them. -/
namespace Go.Proofs.YtaeenedjmakelaaDoor
open Go.RowKit

theorem madeCells_list (v : Value) (n : Nat) : (madeCells #[v] (n * 1)).toList = List.replicate n v := by
  rw [Nat.mul_one]
  have : ∀ x, [v][x % 1]?.getD default = v := fun x => by rw [Nat.mod_one]; rfl
  simp [madeCells, this, List.map_const']

/-- 'make([]int, n)'. -/
theorem wpList_make_ints {P : Program} {w : World} {ops : Array Oper} {rest : List Oper} {o : Oper} {a : Act} {Q : Exit → Act → World → Prop} (hgd : o.guard = none) (l c : Operand) (t : TypeId) (ho : o.op = Op.makeSlice t l c)
    {E : TypeId} (ht : P.underlying t = some (.slice E)) (hinfo : (P.info? E).map (fun i => (i.zero, i.size, i.bytes)) = some (some (.int .i64 0), 1, 8)) {L C : Int} {n : Nat} (hl : a.eval l = .int .i64 L) (hc : a.eval c = .int .i64 C)
    (hL : L = (n : Int)) (hC : C = (n : Int)) (hn : n ≤ 17592186044416)
    (h : ∀ w', IntsO E w.heap.size w'.heap.size w' (.slice (some ⟨w.heap.size, 0, none⟩) n n) (List.replicate n 0) → Grew w w' → w.heap.size < w'.heap.size → wpList P ops Q rest (a.put o.dst (.slice (some ⟨w.heap.size, 0, none⟩) n n)) w') :
    wpList P ops Q (o :: rest) a w := by
  obtain ⟨i, hi1, hi2, hi3, hi4⟩ := info_parts hinfo
  refine wpList_make_full w hgd l c t ho w.heap.size E i (.int .i64 0) 1 ht hi1 hi2 hi3 .i64 .i64 L C n hl hc hL hC (by rw [hi4]; omega) (by unfold maxLen; omega) (Nat.le_refl _) ?_
  intro w' hown hg
  have e : (madeCells (Value.int .i64 0).cells (n * 1)).toList = (List.replicate n 0).map (Value.int .i64) := by
    rw [List.map_replicate]
    exact madeCells_list _ _
  rw [e] at hown
  have hO : IntsO E w.heap.size w'.heap.size w' (.slice (some ⟨w.heap.size, 0, none⟩) n n) (List.replicate n 0) := IntsO.mk (by simpa using hown) (Nat.le_refl _)
  exact h w' hO (grownBy_none hg) (World.ownsRow.lt hown w.heap.size rfl).2

/-- 'make([][]int, n)'. -/
theorem wpList_make_rows {P : Program} {w : World} {ops : Array Oper} {rest : List Oper} {o : Oper} {a : Act} {Q : Exit → Act → World → Prop} (hgd : o.guard = none) (l c : Operand) (t : TypeId) (ho : o.op = Op.makeSlice t l c)
    {T E : TypeId} (ht : P.underlying t = some (.slice T)) (hinfo : (P.info? T).map (fun i => (i.zero, i.size, i.bytes)) = some (some (.slice none 0 0), 1, 24)) {L C : Int} {n : Nat} (hl : a.eval l = .int .i64 L) (hc : a.eval c = .int .i64 C)
    (hL : L = (n : Int)) (hC : C = (n : Int)) (hn : n ≤ 5864062014805)
    (h : ∀ w', RowsO T E w.heap.size w'.heap.size w' (.slice (some ⟨w.heap.size, 0, none⟩) n n) (List.replicate n []) → Grew w w' → w.heap.size < w'.heap.size → wpList P ops Q rest (a.put o.dst (.slice (some ⟨w.heap.size, 0, none⟩) n n)) w') :
    wpList P ops Q (o :: rest) a w := by
  obtain ⟨i, hi1, hi2, hi3, hi4⟩ := info_parts hinfo
  refine wpList_make_full w hgd l c t ho w.heap.size T i (.slice none 0 0) 1 ht hi1 hi2 hi3 .i64 .i64 L C n hl hc hL hC (by rw [hi4]; omega) (by unfold maxLen; omega) (Nat.le_refl _) ?_
  intro w' hown hg
  have e : (madeCells (Value.slice none 0 0).cells (n * 1)).toList = (List.range (List.replicate n ([] : List Int)).length).map (fun _ => Value.slice none 0 0) := by
    rw [List.length_replicate, List.map_const', List.length_range]
    exact madeCells_list _ _
  rw [e] at hown
  have hb := (World.ownsRow.lt hown w.heap.size rfl).2
  refine h w' ⟨fun _ => .slice none 0 0, by simpa using hown, fun g e => by simp [Value.ownBlock] at e; omega, fun r hr => ?_, fun r s _ _ g e => by simp [Value.ownBlock] at e⟩ (grownBy_none hg) hb
  have : (List.replicate n ([] : List Int)).getD r [] = [] := by
    rw [List.length_replicate] at hr
    simp [hr]
  rw [this]
  exact ⟨World.ownsRow_nil _ _ _ _, fun g e => by simp [Value.ownBlock] at e⟩

/-- A row that was made behind them is put into rows of the call's own. -/
theorem RowsO.put {T E lo mid hi : Nat} (hTE : T ≠ E) {w : World} {v u : Value} {H : List (List Int)} {xs : List Int} (hv : RowsO T E lo mid w v H) {g c n : Nat} (hs : v = .slice (some ⟨g, 0, none⟩) n c) {i : Nat} (hi' : i < H.length)
    (hu : IntsO E mid hi w u xs) (h1 : lo ≤ mid) (h2 : mid ≤ hi) : RowsO T E lo hi (w.setCell ⟨g, i, none⟩ u) v (H.set i xs) := by
  obtain ⟨V, k1, k2, k3, k4⟩ := hv
  have hn : n = H.length := by
    subst hs
    rcases k1.2 with ⟨e, _⟩ | ⟨_, _, _, e, _⟩
    · cases e
    · cases e; rfl
  subst hn
  have hsame : ∀ k, k ≠ g → (w.setCell ⟨g, i, none⟩ u).heap[k]? = w.heap[k]? := fun k hk => Below.heap_setCell _ _ _ _ hk
  have hgv : v.ownBlock = some g := by rw [hs]; rfl
  have keep : ∀ {a b : Nat} {z : Value} {ys : List Int}, IntsO E a b w z ys → (w.setCell ⟨g, i, none⟩ u).ownsRow a E 1 z ys.length (ys.map (.int .i64)) := fun {a b z ys} hz =>
    ownsRow_block hz.1 fun k e => hsame k fun e2 => by
      subst e2
      exact ownsRow_int_block hTE k1 hz.1 _ e hgv
  refine ⟨fun r => if r = i then u else V r, ?_, fun k e => Nat.lt_of_lt_of_le (k2 k e) h2, ?_, ?_⟩
  · rw [List.length_set]
    subst hs
    have := (World.ownsRow.stored k1 i u).1
    have e : (List.range H.length).map (fun r => if r = i then u else V r) = ((List.range H.length).map V).set i u := by
      apply List.ext_getElem
      · simp
      · intro k q1 q2
        simp only [List.getElem_map, List.getElem_range, List.getElem_set]
        by_cases e : k = i
        · subst e; simp
        · rw [if_neg e, if_neg (fun h => e h.symm)]
    rw [e]
    exact this
  · intro r hr
    rw [List.length_set] at hr
    by_cases e : r = i
    · subst e
      simp only [if_true]
      rw [List.getD_eq_getElem?_getD, List.getElem?_set_self hr, Option.getD_some]
      exact ⟨ownsRow_base (keep hu) h1, hu.2⟩
    · simp only [e, if_false]
      rw [List.getD_eq_getElem?_getD, List.getElem?_set_ne (by omega), ← List.getD_eq_getElem?_getD]
      exact ⟨keep (k3 r hr), fun k ek => Nat.lt_of_lt_of_le ((k3 r hr).2 k ek) h2⟩
  · intro r s hrs hlen k e1 e2
    rw [List.length_set] at hlen
    have ub : ∀ k, u.ownBlock = some k → mid ≤ k := fun k e => (World.ownsRow.lt hu.1 k e).1
    by_cases er : r = i
    · have es : s ≠ i := by omega
      simp only [er, if_true] at e1
      simp only [es, if_false] at e2
      have := ub k e1
      have := (k3 s hlen).2 k e2
      omega
    · simp only [er, if_false] at e1
      by_cases es : s = i
      · simp only [es, if_true] at e2
        have := ub k e2
        have := (k3 r (by omega)).2 k e1
        omega
      · simp only [es, if_false] at e2
        exact k4 r s hrs hlen k e1 e2
theorem RowsO.frozenAt {T E lo hi : Nat} {w : World} {v : Value} {H : List (List Int)} (hv : RowsO T E lo hi w v H) {g c n : Nat} (hs : v = .slice (some ⟨g, 0, none⟩) n c) (i : Nat) : w.frozen? ⟨g, i, none⟩ = false := by
  obtain ⟨V, k1, _⟩ := hv
  subst hs
  have hn : n = H.length := by
    rcases k1.2 with ⟨e, _⟩ | ⟨_, _, _, e, _⟩
    · cases e
    · cases e; rfl
  subst hn
  exact World.ownsRow.frozenAt k1 i
end Go.Proofs.YtaeenedjmakelaaDoor

/- 'append(s, y)' where it is told which block the result lies in. -/
namespace Go.Proofs.YtaeenedjmakelaaDoor
open Go.RowKit

theorem IntsO.at1 {E lo hi : Nat} {w : World} {g n c : Nat} {xs : List Int} (h : IntsO E lo hi w (.slice (some ⟨g, 0, none⟩) n c) xs) : IntsO E g (g + 1) w (.slice (some ⟨g, 0, none⟩) n c) xs := by
  refine ⟨⟨h.1.1, ?_⟩, fun k e => by simp [Value.ownBlock] at e; omega⟩
  rcases h.1.2 with ⟨e, _⟩ | ⟨g1, cap, cur, e, hg, hh⟩
  · simp at e
  · simp only [Value.slice.injEq, Option.some.injEq, Addr.mk.injEq] at e
    obtain ⟨⟨rfl, _⟩, _, rfl⟩ := e
    exact .inr ⟨g, c, cur, by rw [‹n = _›], Nat.le_refl _, hh⟩

theorem wpList_append_int_at {P : Program} {w : World} {ops : Array Oper} {rest : List Oper} {o : Oper} {a : Act} {Q : Exit → Act → World → Prop} (hgd : o.guard = none) (s x : Operand) (t : TypeId)
    (ho : o.op = .call { callee := .builtin .append, args := #[s, x], argTypes := #[t, t] }) {E : TypeId} (ht : P.underlying t = some (.slice E))
    (hinfo : (P.info? E).map (fun i => (i.zero, i.size, i.bytes)) = some (some (.int .i64 0), 1, 8)) {g n c : Nat} {xs : List Int} {y : Int} {nb : Nat} (hs : a.eval s = .slice (some ⟨g, 0, none⟩) n c) (hx : a.eval x = .slice (some ⟨nb, 0, none⟩) 1 1) (hnb : nb = w.heap.size)
    (hv : IntsO E g (g + 1) w (.slice (some ⟨g, 0, none⟩) n c) xs) (hlen : xs.length + 1 ≤ 17592186044416) (hn : n = xs.length)
    (h : ∀ g' c' w', IntsO E g' (g' + 1) w' (.slice (some ⟨g', 0, none⟩) (xs.length + 1) c') (xs ++ [y]) → Within g (g + 1) w w' → (g' = g ∨ w.heap.size ≤ g') → g' < w'.heap.size →
      wpList P ops Q rest (a.put o.dst (.slice (some ⟨g', 0, none⟩) (xs.length + 1) c')) w') : wpList P ops Q (o :: rest) a (w.alloc (.cells #[.int .i64 y] E)) := by
  subst hnb
  subst hn
  obtain ⟨i, hi1, hi2, hi3, hi4⟩ := info_parts hinfo
  have hgs : g < w.heap.size := (World.ownsRow.lt hv.1 g rfl).2
  refine wpList_append_own_at _ hgd s x t ho g E i (.int .i64 0) 1 8 ht hi1 hi2 hi3 hi4 rfl (by decide) _ xs.length _ hs (hv.1.alloc _) ⟨w.heap.size, 0, none⟩ 1 1 [.int .i64 y] hx rfl (cell_one_new _ _ _) (by simp [Value.oneCell']) (by unfold maxLen; omega) (by omega) (by simp; omega) ?_
  intro v' w' hown hg _ hat
  have hW : Within g (g + 1) w w' := (((Grew.refl w).alloc _).within g (g + 1)).trans (grownBy_within hg fun k e => by simp [Value.ownBlock] at e; omega)
  have hO := IntsO.snoc hown (Nat.le_refl _)
  obtain ⟨g', c', hv', _⟩ := hO.pos (by simp)
  have e : (xs ++ [y]).length = xs.length + 1 := by simp
  rw [e] at hv'
  subst hv'
  have hg' := (World.ownsRow.lt hO.1 g' rfl).2
  refine h g' c' w' hO.at1 hW ?_ hg'
  rcases hat with h1 | h1
  · simp [Value.ownBlock] at h1; exact .inl h1
  · simp [Value.ownBlock] at h1; exact .inr (by omega)
end Go.Proofs.YtaeenedjmakelaaDoor

/- Slices of bools of the call's own. -/
namespace Go.Proofs.YtaeenedjmakelaaDoor
open Go.RowKit

def BoolsO (E lo hi : Nat) (w : World) (v : Value) (xs : List Bool) : Prop := w.ownsRow lo E 1 v xs.length (xs.map .bool) ∧ ∀ g, v.ownBlock = some g → g < hi
theorem BoolsO.within {E lo hi lo' hi' : Nat} {w w' : World} {v : Value} {xs : List Bool} (h : BoolsO E lo hi w v xs) (hg : Within lo' hi' w w') (hd : hi ≤ lo' ∨ hi' ≤ lo) : BoolsO E lo hi w' v xs :=
  ⟨ownsRow_block h.1 fun g e => hg.block g (World.ownsRow.lt h.1 g e).2 (by have := h.2 g e; have := (World.ownsRow.lt h.1 g e).1; omega), h.2⟩
theorem BoolsO.grew {E lo hi : Nat} {w w' : World} {v : Value} {xs : List Bool} (h : BoolsO E lo hi w v xs) (hg : Grew w w') : BoolsO E lo hi w' v xs :=
  ⟨ownsRow_block h.1 fun g e => hg.block (World.ownsRow.lt h.1 g e).2, h.2⟩
theorem BoolsO.wide {E lo hi lo' hi' : Nat} {w : World} {v : Value} {xs : List Bool} (h : BoolsO E lo hi w v xs) (hl : lo' ≤ lo) (hh : hi ≤ hi') : BoolsO E lo' hi' w v xs :=
  ⟨ownsRow_base h.1 hl, fun g e => Nat.lt_of_lt_of_le (h.2 g e) hh⟩
theorem BoolsO.at {E lo hi : Nat} {w : World} {v : Value} {xs : List Bool} (h : BoolsO E lo hi w v xs) {g c n : Nat} (hs : v = .slice (some ⟨g, 0, none⟩) n c) {i : Nat} (hil : i < xs.length) :
    w.cell? ⟨g, i, none⟩ = some (.bool (xs.getD i false)) ∧ w.frozen? ⟨g, i, none⟩ = false := by
  subst hs
  have hn : n = xs.length := by
    rcases h.1.2 with ⟨e, _⟩ | ⟨_, _, _, e, _⟩
    · cases e
    · cases e; rfl
  subst hn
  exact ⟨by rw [World.ownsRow.cellAt h.1 i (by omega)]; simp [hil], World.ownsRow.frozenAt h.1 i⟩
theorem BoolsO.set {E lo hi : Nat} {w : World} {v : Value} {xs : List Bool} (h : BoolsO E lo hi w v xs) {g c n : Nat} (hs : v = .slice (some ⟨g, 0, none⟩) n c) (j : Nat) (x : Bool) :
    BoolsO E lo hi (w.setCell ⟨g, j, none⟩ (.bool x)) v (xs.set j x) := by
  subst hs
  have hn : n = xs.length := by
    rcases h.1.2 with ⟨e, _⟩ | ⟨_, _, _, e, _⟩
    · cases e
    · cases e; rfl
  subst hn
  refine ⟨?_, h.2⟩
  have := (World.ownsRow.stored h.1 j (.bool x)).1
  rw [List.length_set, List.map_set]
  exact this
theorem BoolsO.blk {E lo hi : Nat} {w : World} {g n c : Nat} {xs : List Bool} (h : BoolsO E lo hi w (.slice (some ⟨g, 0, none⟩) n c) xs) : lo ≤ g ∧ g < hi := ⟨(World.ownsRow.lt h.1 g rfl).1, h.2 g rfl⟩
theorem IntsO.blk {E lo hi : Nat} {w : World} {g n c : Nat} {xs : List Int} (h : IntsO E lo hi w (.slice (some ⟨g, 0, none⟩) n c) xs) : lo ≤ g ∧ g < hi := ⟨(World.ownsRow.lt h.1 g rfl).1, h.2 g rfl⟩

theorem IntsO.blkLt {E lo hi : Nat} {w : World} {g n c : Nat} {xs : List Int} (h : IntsO E lo hi w (.slice (some ⟨g, 0, none⟩) n c) xs) : g < w.heap.size := (World.ownsRow.lt h.1 g rfl).2

theorem Tryd.infoBool : (Tryd.prog.info? 4).map (fun i => (i.zero, i.size, i.bytes)) = some (some (.bool false), 1, 1) := by kernel_rfl
/-- 'make([]bool, n)'. -/
theorem wpList_make_bools {P : Program} {w : World} {ops : Array Oper} {rest : List Oper} {o : Oper} {a : Act} {Q : Exit → Act → World → Prop} (hgd : o.guard = none) (l c : Operand) (t : TypeId) (ho : o.op = Op.makeSlice t l c)
    {E : TypeId} (ht : P.underlying t = some (.slice E)) (hinfo : (P.info? E).map (fun i => (i.zero, i.size, i.bytes)) = some (some (.bool false), 1, 1)) {L C : Int} {n : Nat} (hl : a.eval l = .int .i64 L) (hc : a.eval c = .int .i64 C)
    (hL : L = (n : Int)) (hC : C = (n : Int)) (hn : n ≤ 17592186044416)
    (h : ∀ w', BoolsO E w.heap.size w'.heap.size w' (.slice (some ⟨w.heap.size, 0, none⟩) n n) (List.replicate n false) → Grew w w' → w.heap.size < w'.heap.size → wpList P ops Q rest (a.put o.dst (.slice (some ⟨w.heap.size, 0, none⟩) n n)) w') :
    wpList P ops Q (o :: rest) a w := by
  obtain ⟨i, hi1, hi2, hi3, hi4⟩ := info_parts hinfo
  refine wpList_make_full w hgd l c t ho w.heap.size E i (.bool false) 1 ht hi1 hi2 hi3 .i64 .i64 L C n hl hc hL hC (by rw [hi4]; omega) (by unfold maxLen; omega) (Nat.le_refl _) ?_
  intro w' hown hg
  have e : (madeCells (Value.bool false).cells (n * 1)).toList = (List.replicate n false).map Value.bool := by
    rw [List.map_replicate]
    exact madeCells_list _ _
  rw [e] at hown
  have hs := (World.ownsRow.lt hown w.heap.size rfl).2
  have hO : BoolsO E w.heap.size w'.heap.size w' (.slice (some ⟨w.heap.size, 0, none⟩) n n) (List.replicate n false) :=
    ⟨by simpa using hown, fun g e => by simp [Value.ownBlock] at e; omega⟩
  exact h w' hO (grownBy_none hg) hs
theorem RowsO.sh {T E lo hi : Nat} {w : World} {v : Value} {h : List (List Int)} (hv : RowsO T E lo hi w v h) : ∃ a c, v = .slice a h.length c := by
  rcases hv.shape with ⟨rfl, rfl⟩ | ⟨g, c, rfl, _⟩ <;> exact ⟨_, _, rfl⟩
end Go.Proofs.YtaeenedjmakelaaDoor
