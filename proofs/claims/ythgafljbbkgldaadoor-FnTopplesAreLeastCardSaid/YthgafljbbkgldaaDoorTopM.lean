/- What lies in memory while sand topples: the numbers, behind a box, and how often each cell has toppled. -/
import Derived.Test.YthgafljbbkgldaaDoorWhereG
import Derived.Test.YthgafljbbkgldaaDoorBurnM
namespace Go.Proofs.YthgafljbbkgldaaDoor
open Go.RowKit

/-- Numbers y (block gN, behind the box B) and counts t (block gC), all made since the world w. -/
structure TopMem (w wr : World) (B gN cN gC cC N : Nat) (t y : List Int) : Prop where
  box : wr.cell? ⟨B, 0, none⟩ = some (.slice (some ⟨gN, 0, none⟩) N cN)
  num : IntsO 3 gN (gN + 1) wr (.slice (some ⟨gN, 0, none⟩) N cN) y
  cnt : IntsO 3 gC (gC + 1) wr (.slice (some ⟨gC, 0, none⟩) N cC) t
  ylen : y.length = N
  tlen : t.length = N
  apart : gN ≠ gC ∧ gN ≠ B ∧ gC ≠ B
  new : w.heap.size ≤ gN ∧ w.heap.size ≤ gC ∧ w.heap.size ≤ B
  lt : gN < wr.heap.size ∧ gC < wr.heap.size
  grew : Grew w wr
theorem TopMem.later {w wr W : World} {B gN cN gC cC N : Nat} {t y : List Int} (h : TopMem w wr B gN cN gC cC N t y) (hg : Grew wr W) : TopMem w W B gN cN gC cC N t y :=
  ⟨hg.cell h.box, (h.num.grew hg).wide (Nat.le_refl _) (Nat.le_refl _), (h.cnt.grew hg).wide (Nat.le_refl _) (Nat.le_refl _), h.ylen, h.tlen, h.apart, h.new, ⟨by have := hg.size; have := h.lt; omega, by have := hg.size; have := h.lt; omega⟩, h.grew.trans hg⟩
theorem one_within (w : World) (g j : Nat) (v : Value) : Within g (g + 1) w (w.setCell ⟨g, j, none⟩ v) := (Within.refl _ _ _).setCell (p := ⟨g, j, none⟩) (Nat.le_refl _) (Nat.lt_succ_self _) v
theorem apart_ranges {a b : Nat} (h : a ≠ b) : b + 1 ≤ a ∨ a + 1 ≤ b := by omega
theorem TopMem.setN {w wr : World} {B gN cN gC cC N : Nat} {t y : List Int} (h : TopMem w wr B gN cN gC cC N t y) (j : Nat) (x : Int) : TopMem w (wr.setCell ⟨gN, j, none⟩ (.int .i64 x)) B gN cN gC cC N t (y.set j x) := by
  have hs := (one_within wr gN j (.int .i64 x)).size
  refine ⟨(one_within wr gN j _).cell h.box (by show B < gN ∨ gN + 1 ≤ B; have := h.apart; omega), h.num.set rfl j x, h.cnt.within (one_within wr gN j _) (apart_ranges (fun e => h.apart.1 e)), by rw [List.length_set]; exact h.ylen, h.tlen, h.apart, h.new, ⟨by have := h.lt; omega, by have := h.lt; omega⟩, Below.setCell h.grew h.new.1 _⟩
theorem TopMem.setC {w wr : World} {B gN cN gC cC N : Nat} {t y : List Int} (h : TopMem w wr B gN cN gC cC N t y) (j : Nat) (x : Int) : TopMem w (wr.setCell ⟨gC, j, none⟩ (.int .i64 x)) B gN cN gC cC N (t.set j x) y := by
  have hs := (one_within wr gC j (.int .i64 x)).size
  refine ⟨(one_within wr gC j _).cell h.box (by show B < gC ∨ gC + 1 ≤ B; have := h.apart; omega), h.num.within (one_within wr gC j _) (apart_ranges (fun e => h.apart.1 e.symm)), h.cnt.set rfl j x, h.ylen, by rw [List.length_set]; exact h.tlen, h.apart, h.new, ⟨by have := h.lt; omega, by have := h.lt; omega⟩, Below.setCell h.grew h.new.2.1 _⟩
theorem TopMem.atN {w wr : World} {B gN cN gC cC N : Nat} {t y : List Int} (h : TopMem w wr B gN cN gC cC N t y) {i : Nat} (hi : i < N) : wr.cell? ⟨gN, i, none⟩ = some (.int .i64 (y.getD i 0)) ∧ wr.frozen? ⟨gN, i, none⟩ = false := h.num.at rfl (by rw [h.ylen]; exact hi)
theorem TopMem.atC {w wr : World} {B gN cN gC cC N : Nat} {t y : List Int} (h : TopMem w wr B gN cN gC cC N t y) {i : Nat} (hi : i < N) : wr.cell? ⟨gC, i, none⟩ = some (.int .i64 (t.getD i 0)) ∧ wr.frozen? ⟨gC, i, none⟩ = false := h.cnt.at rfl (by rw [h.tlen]; exact hi)

/-- A cell that can topple. -/
def hotB (y : List Int) (i : Nat) : Bool := decide (4 ≤ y.getD i 0)
theorem hot_mem {y : List Int} {N : Nat} {j : Nat} (hj : j < (whereL N (hotB y)).length) : ∃ i, (whereL N (hotB y)).getD j 0 = ((i : Nat) : Int) ∧ i < N ∧ 4 ≤ y.getD i 0 := by
  have hm : (whereL N (hotB y)).getD j 0 ∈ whereL N (hotB y) := by
    rw [List.getD_eq_getElem?_getD, List.getElem?_eq_getElem hj]
    exact List.getElem_mem hj
  obtain ⟨x, hx⟩ : ∃ x, (whereL N (hotB y)).getD j 0 = x := ⟨_, rfl⟩
  rw [hx] at hm ⊢
  clear hx hj
  induction N with
  | zero => simp [whereL] at hm
  | succ k ih =>
    rw [whereL_succ] at hm
    rcases List.mem_append.1 hm with h | h
    · obtain ⟨i, e, hi, h4⟩ := ih h
      exact ⟨i, e, by omega, h4⟩
    · split at h
      · next hb =>
        rw [List.mem_singleton] at h
        exact ⟨k, h, by omega, by simpa [hotB] using hb⟩
      · simp at h
theorem hot_none {y : List Int} {N : Nat} (h : (whereL N (hotB y)).length = 0) : ∀ i, i < N → y.getD i 0 < 4 := by
  induction N with
  | zero => intro i hi; omega
  | succ k ih =>
    rw [whereL_succ, List.length_append] at h
    intro i hi
    by_cases hik : i < k
    · exact ih (by omega) i hik
    · obtain rfl : i = k := by omega
      by_cases hb : hotB y i = true
      · rw [if_pos hb] at h; simp at h
      · rw [hotB, decide_eq_true_eq] at hb; omega

set_option maxRecDepth 100000 in
set_option maxHeartbeats 1000000 in
theorem hotClo_any (B g c N I : Nat) (y : List Int) (W : World) (hB : W.cell? ⟨B, 0, none⟩ = some (.slice (some ⟨g, 0, none⟩) N c)) (hI : I < N) (h1 : W.cell? ⟨g, I, none⟩ = some (.int .i64 (y.getD I 0))) :
    Calls Tryd.prog 79 #[.int .i64 I, .pointer (some ⟨B, 0, none⟩)] W fun e w' => e = .returned (.bool (hotB y I)) ∧ Grew W w' := by
  obtain ⟨x, ex⟩ : ∃ x, y.getD I 0 = x := ⟨_, rfl⟩
  have HS : Hid (hotB y I = decide (4 ≤ x)) := Lib.hid (by rw [hotB, ex])
  rw [ex] at h1
  have hI' : (I : Int) < (N : Int) := by omega
  clear ex
  go_enter Tryd.func79, Tryd.ntmps79
  go_wp2
  go_ret
  exact ⟨ret_bool (by rw [HS.out]), Grew.refl _⟩

/-- An order, told by its type. -/
def firstV : Value := .iface 47 (.agg #[])
def lastV : Value := .iface 51 (.agg #[])
/-- An order picks one of the cells. -/
def Picks (ov : Value) : Prop := ∀ (v : Value) (xs : List Int) (w : World), IntsV w v xs → 1 ≤ xs.length → Calls Tryd.prog 80 #[ov, v] w fun e w' => ∃ k, k < xs.length ∧ e = .returned (.int .i64 (xs.getD k 0)) ∧ w = w'
theorem Tryd.assertFirst (w : World) : (Instr.typeAssert (.iface 47 (.agg #[])) 70 51 true).run Tryd.prog w = .ok (.tuple #[.agg #[], .bool false]) w := by kernel_rfl
theorem Tryd.assertLast (w : World) : (Instr.typeAssert (.iface 51 (.agg #[])) 70 51 true).run Tryd.prog w = .ok (.tuple #[.agg #[], .bool true]) w := by kernel_rfl
set_option maxRecDepth 100000 in
set_option maxHeartbeats 1000000 in
theorem first_picks : Picks firstV := by
  intro v xs w hv h1
  obtain ⟨a, b, o, c, rfl, ⟨hlc, hcb⟩, ha, HC⟩ := hv.shape
  obtain rfl := ha h1
  have hc := HC.out 0 h1
  rw [Nat.add_zero] at hc
  have hA := Tryd.assertFirst
  unfold firstV
  clear hv ha
  go_enter Tryd.func80, Tryd.ntmps80
  go_wp2
  go_ret
  exact ⟨0, h1, rfl, rfl⟩
set_option maxRecDepth 100000 in
set_option maxHeartbeats 1000000 in
theorem last_picks : Picks lastV := by
  intro v xs w hv h1
  obtain ⟨a, b, o, c, rfl, ⟨hlc, hcb⟩, ha, HC⟩ := hv.shape
  obtain rfl := ha h1
  obtain ⟨k, hk⟩ : ∃ k, xs.length = k + 1 := ⟨xs.length - 1, by omega⟩
  have hc := HC.out k (by omega)
  have hA := Tryd.assertLast
  have w1 : IntKind.i64.wrap ((xs.length : Int) - 1) = (k : Int) := by rw [IntKind.wrap_i64]; omega
  have hkl : (k : Int) < (xs.length : Int) := by omega
  have HK := Lib.hid hk
  unfold lastV
  clear hv ha hk
  go_enter Tryd.func80, Tryd.ntmps80
  go_wp2
  go_ret
  exact ⟨k, by have := HK.out; omega, rfl, rfl⟩
end Go.Proofs.YthgafljbbkgldaaDoor
