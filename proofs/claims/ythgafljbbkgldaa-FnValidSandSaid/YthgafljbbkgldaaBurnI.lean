/- impl.Burns: its closures. -/
import Derived.Test.YthgafljbbkgldaaDelF
import Derived.Test.YthgafljbbkgldaaTop
import Derived.Test.YthgafljbbkgldaaTilt
namespace Go.Proofs.Ythgafljbbkgldaa
open Go.RowKit

theorem whereL_at {N : Nat} {P : Nat → Bool} {j : Nat} (hj : j < (whereL N P).length) : ∃ i, (whereL N P).getD j 0 = ((i : Nat) : Int) ∧ i < N ∧ P i = true := by
  have hm : (whereL N P).getD j 0 ∈ whereL N P := by
    rw [List.getD_eq_getElem?_getD, List.getElem?_eq_getElem hj]
    exact List.getElem_mem hj
  obtain ⟨x, hx⟩ : ∃ x, (whereL N P).getD j 0 = x := ⟨_, rfl⟩
  rw [hx] at hm ⊢
  clear hx hj
  induction N with
  | zero => simp [whereL] at hm
  | succ k ih =>
    rw [whereL_succ] at hm
    rcases List.mem_append.1 hm with h | h
    · obtain ⟨i, e, hi, h4⟩ := ih h
      exact ⟨i, e, by omega, h4⟩
    · split at h
      · next hb =>
        rw [List.mem_singleton] at h
        exact ⟨k, h, by omega, hb⟩
      · simp at h
theorem whereL_zero {N : Nat} {P : Nat → Bool} (h : (whereL N P).length = 0) : ∀ i, i < N → P i = false := by
  induction N with
  | zero => intro i hi; omega
  | succ k ih =>
    rw [whereL_succ, List.length_append] at h
    intro i hi
    by_cases hik : i < k
    · exact ih (by omega) i hik
    · obtain rfl : i = k := by omega
      cases hb : P i with
      | false => rfl
      | true => rw [if_pos hb] at h; simp at h
/-- A cell that can burn. -/
def mayB (n m : Nat) (x : List Int) (b : List Bool) (i : Nat) : Bool := !b.getD i false && decide ((degS n m (fun k => !b.getD k false) i : Int) ≤ x.getD i 0)
theorem mayB_iff {n m : Nat} {x : List Int} {b : List Bool} {i : Nat} : mayB n m x b i = true ↔ b.getD i false = false ∧ MayBurn n m x b i := by
  unfold mayB MayBurn
  rw [Bool.and_eq_true, decide_eq_true_eq]
  cases b.getD i false <;> simp
/-- How many have not burnt. -/
def leftB (b : List Bool) : Nat := (b.filter fun z => !z).length
theorem leftB_set : ∀ (b : List Bool) (i : Nat), leftB (b.set i true) ≤ leftB b ∧ (i < b.length → b.getD i false = false → leftB (b.set i true) < leftB b)
  | [], i => by simp [leftB]
  | z :: b, 0 => by cases z <;> simp [leftB]
  | z :: b, i + 1 => by
    have := leftB_set b i
    cases z <;> simp [leftB] at this ⊢ <;> omega
theorem leftB_le (b : List Bool) : leftB b ≤ b.length := List.length_filter_le _ _
theorem BoolsO.at1 {E lo hi : Nat} {w : World} {g n c : Nat} {xs : List Bool} (h : BoolsO E lo hi w (.slice (some ⟨g, 0, none⟩) n c) xs) : BoolsO E g (g + 1) w (.slice (some ⟨g, 0, none⟩) n c) xs := by
  refine ⟨⟨h.1.1, ?_⟩, fun k e => by simp [Value.ownBlock] at e; omega⟩
  rcases h.1.2 with ⟨e, _⟩ | ⟨g1, cap, cur, e, hg, hh⟩
  · simp at e
  · simp only [Value.slice.injEq, Option.some.injEq, Addr.mk.injEq] at e
    obtain ⟨⟨rfl, _⟩, _, rfl⟩ := e
    exact .inr ⟨g, c, cur, by rw [‹n = _›], Nat.le_refl _, hh⟩

/-- What lies in memory while sand burns: the rows behind the box A, the numbers x behind C, what has burnt behind D. -/
structure BurnMem (w wr : World) (v : Value) (A C D gN cN gB N : Nat) (x : List Int) (b : List Bool) : Prop where
  sbox : wr.cell? ⟨A, 0, none⟩ = some v
  nbox : wr.cell? ⟨C, 0, none⟩ = some (.slice (some ⟨gN, 0, none⟩) N cN)
  bbox : wr.cell? ⟨D, 0, none⟩ = some (.slice (some ⟨gB, 0, none⟩) N N)
  num : ∀ i, i < N → wr.cell? ⟨gN, i, none⟩ = some (.int .i64 (x.getD i 0))
  burnt : BoolsO 4 gB (gB + 1) wr (.slice (some ⟨gB, 0, none⟩) N N) b
  blen : b.length = N
  apart : gB ≠ A ∧ gB ≠ C ∧ gB ≠ D ∧ gB ≠ gN
  new : w.heap.size ≤ gB
  lt : A < wr.heap.size ∧ C < wr.heap.size ∧ D < wr.heap.size ∧ gN < wr.heap.size ∧ gB < wr.heap.size
  grew : Grew w wr
theorem BurnMem.later {w wr W : World} {v : Value} {A C D gN cN gB N : Nat} {x : List Int} {b : List Bool} (h : BurnMem w wr v A C D gN cN gB N x b) (hg : Grew wr W) : BurnMem w W v A C D gN cN gB N x b := by
  have := hg.size
  have := h.lt
  exact ⟨hg.cell h.sbox, hg.cell h.nbox, hg.cell h.bbox, fun i hi => hg.cell (h.num i hi), (h.burnt.grew hg).wide (Nat.le_refl _) (Nat.le_refl _), h.blen, h.apart, h.new, ⟨by omega, by omega, by omega, by omega, by omega⟩, h.grew.trans hg⟩
theorem BurnMem.at {w wr : World} {v : Value} {A C D gN cN gB N : Nat} {x : List Int} {b : List Bool} (h : BurnMem w wr v A C D gN cN gB N x b) {i : Nat} (hi : i < N) : wr.cell? ⟨gB, i, none⟩ = some (.bool (b.getD i false)) ∧ wr.frozen? ⟨gB, i, none⟩ = false := h.burnt.at rfl (by rw [h.blen]; exact hi)
theorem BurnMem.set {w wr : World} {v : Value} {A C D gN cN gB N : Nat} {x : List Int} {b : List Bool} (h : BurnMem w wr v A C D gN cN gB N x b) (i : Nat) : BurnMem w (wr.setCell ⟨gB, i, none⟩ (.bool true)) v A C D gN cN gB N x (b.set i true) := by
  have hw := one_within wr gB i (.bool true)
  have hs := hw.size
  have hl := h.lt
  have ha := h.apart
  refine ⟨hw.cell h.sbox (by show A < gB ∨ gB + 1 ≤ A; omega), hw.cell h.nbox (by show C < gB ∨ gB + 1 ≤ C; omega), hw.cell h.bbox (by show D < gB ∨ gB + 1 ≤ D; omega), fun j hj => hw.cell (h.num j hj) (by show gN < gB ∨ gB + 1 ≤ gN; omega), h.burnt.set rfl i true, by rw [List.length_set]; exact h.blen, ha, h.new, ⟨by omega, by omega, by omega, by omega, by omega⟩, Below.setCell h.grew h.new _⟩

theorem kept_deg (n m I : Nat) (b : List Bool) : keptN (fun k : Int => b.getD k.toNat false) (aroundL n m I) (aroundL n m I).length = degS n m (fun k => !b.getD k false) I := by
  unfold keptN degS
  rw [List.take_of_length_le (Nat.le_refl _)]

end Go.Proofs.Ythgafljbbkgldaa
