/- Slices of unsigned numbers of the call's own. -/
import Derived.Test.YtaeenedjmakelaaDoorBase
namespace Go.Proofs.YtaeenedjmakelaaDoor
open Go.RowKit

def UO (E lo hi : Nat) (w : World) (v : Value) (xs : List Int) : Prop := w.ownsRow lo E 1 v xs.length (xs.map (.int .u64)) ∧ ∀ g, v.ownBlock = some g → g < hi
theorem UO.within {E lo hi lo' hi' : Nat} {w w' : World} {v : Value} {xs : List Int} (h : UO E lo hi w v xs) (hg : Within lo' hi' w w') (hd : hi ≤ lo' ∨ hi' ≤ lo) : UO E lo hi w' v xs :=
  ⟨ownsRow_block h.1 fun g e => hg.block g (World.ownsRow.lt h.1 g e).2 (by have := h.2 g e; have := (World.ownsRow.lt h.1 g e).1; omega), h.2⟩
theorem UO.grew {E lo hi : Nat} {w w' : World} {v : Value} {xs : List Int} (h : UO E lo hi w v xs) (hg : Grew w w') : UO E lo hi w' v xs :=
  ⟨ownsRow_block h.1 fun g e => hg.block (World.ownsRow.lt h.1 g e).2, h.2⟩
theorem UO.wide {E lo hi lo' hi' : Nat} {w : World} {v : Value} {xs : List Int} (h : UO E lo hi w v xs) (hl : lo' ≤ lo) (hh : hi ≤ hi') : UO E lo' hi' w v xs :=
  ⟨ownsRow_base h.1 hl, fun g e => Nat.lt_of_lt_of_le (h.2 g e) hh⟩
theorem UO.at {E lo hi : Nat} {w : World} {v : Value} {xs : List Int} (h : UO E lo hi w v xs) {g c n : Nat} (hs : v = .slice (some ⟨g, 0, none⟩) n c) {i : Nat} (hil : i < xs.length) :
    w.cell? ⟨g, i, none⟩ = some (.int .u64 (xs.getD i 0)) ∧ w.frozen? ⟨g, i, none⟩ = false := by
  subst hs
  have hn : n = xs.length := by
    rcases h.1.2 with ⟨e, _⟩ | ⟨_, _, _, e, _⟩
    · cases e
    · cases e; rfl
  subst hn
  exact ⟨by rw [World.ownsRow.cellAt h.1 i (by omega)]; simp [hil], World.ownsRow.frozenAt h.1 i⟩
theorem UO.set {E lo hi : Nat} {w : World} {v : Value} {xs : List Int} (h : UO E lo hi w v xs) {g c n : Nat} (hs : v = .slice (some ⟨g, 0, none⟩) n c) (j : Nat) (x : Int) :
    UO E lo hi (w.setCell ⟨g, j, none⟩ (.int .u64 x)) v (xs.set j x) := by
  subst hs
  have hn : n = xs.length := by
    rcases h.1.2 with ⟨e, _⟩ | ⟨_, _, _, e, _⟩
    · cases e
    · cases e; rfl
  subst hn
  refine ⟨?_, h.2⟩
  have := (World.ownsRow.stored h.1 j (.int .u64 x)).1
  rw [List.length_set, List.map_set]
  exact this
theorem Tryd.infoU : (Tryd.prog.info? 47).map (fun i => (i.zero, i.size, i.bytes)) = some (some (.int .u64 0), 1, 8) := by kernel_rfl
/-- 'make([]uint, n)'. -/
theorem wpList_make_uints {P : Program} {w : World} {ops : Array Oper} {rest : List Oper} {o : Oper} {a : Act} {Q : Exit → Act → World → Prop} (hgd : o.guard = none) (l c : Operand) (t : TypeId) (ho : o.op = Op.makeSlice t l c)
    {E : TypeId} (ht : P.underlying t = some (.slice E)) (hinfo : (P.info? E).map (fun i => (i.zero, i.size, i.bytes)) = some (some (.int .u64 0), 1, 8)) {L C : Int} {n : Nat} (hl : a.eval l = .int .i64 L) (hc : a.eval c = .int .i64 C)
    (hL : L = (n : Int)) (hC : C = (n : Int)) (hn : n ≤ 17592186044416)
    (h : ∀ w', UO E w.heap.size w'.heap.size w' (.slice (some ⟨w.heap.size, 0, none⟩) n n) (List.replicate n 0) → Grew w w' → w.heap.size < w'.heap.size → wpList P ops Q rest (a.put o.dst (.slice (some ⟨w.heap.size, 0, none⟩) n n)) w') :
    wpList P ops Q (o :: rest) a w := by
  obtain ⟨i, hi1, hi2, hi3, hi4⟩ := info_parts hinfo
  refine wpList_make_full w hgd l c t ho w.heap.size E i (.int .u64 0) 1 ht hi1 hi2 hi3 .i64 .i64 L C n hl hc hL hC (by rw [hi4]; omega) (by unfold maxLen; omega) (Nat.le_refl _) ?_
  intro w' hown hg
  have e : (madeCells (Value.int .u64 0).cells (n * 1)).toList = (List.replicate n 0).map (Value.int .u64) := by
    rw [List.map_replicate]
    exact madeCells_list _ _
  rw [e] at hown
  have hs := (World.ownsRow.lt hown w.heap.size rfl).2
  have hO : UO E w.heap.size w'.heap.size w' (.slice (some ⟨w.heap.size, 0, none⟩) n n) (List.replicate n 0) :=
    ⟨by simpa using hown, fun g e => by simp [Value.ownBlock] at e; omega⟩
  exact h w' hO (grownBy_none hg) hs
end Go.Proofs.YtaeenedjmakelaaDoor
