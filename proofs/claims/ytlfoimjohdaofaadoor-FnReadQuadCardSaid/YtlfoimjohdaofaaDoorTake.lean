/- The contract of (*impl.quadReader).take. -/
import Derived.Test.YtlfoimjohdaofaaDoorSQuad
import Derived.Test.YtlfoimjohdaofaaDoorReadM
import Derived.Laws.ResultCell
namespace Go.Proofs.YtlfoimjohdaofaaDoor
open Go.RowKit

/-- A slice that reads as parts, in a block from lo on that is not B. -/
def PartsV (lo B : Nat) (w : World) (v : Value) (q : List (Nat × Nat × Nat × Nat)) : Prop := ∃ b o c, v = .slice (some ⟨b, o, none⟩) q.length c ∧ (q.length ≤ c ∧ c ≤ 9223372036854775807) ∧ (lo ≤ b ∧ b ≠ B) ∧ ∀ i, i < q.length * 4 → w.cell? ⟨b, o + i, none⟩ = (flatP q)[i]?
theorem PartsV.keep {lo B : Nat} {w w' : World} {v : Value} {q : List (Nat × Nat × Nat × Nat)} (h : PartsV lo B w v q) (hg : ∀ g o x, lo ≤ g → g ≠ B → w.cell? ⟨g, o, none⟩ = some x → w'.cell? ⟨g, o, none⟩ = some x) : PartsV lo B w' v q := by
  obtain ⟨b, o, c, e, hc, ha, HC⟩ := h
  refine ⟨b, o, c, e, hc, ha, fun i hi => ?_⟩
  have h1 := HC i hi
  have hl : i < (flatP q).length := by rw [flatP_len]; exact hi
  rw [List.getElem?_eq_getElem hl] at h1 ⊢
  exact hg _ _ _ ha.1 ha.2 h1
theorem PartsV.grew {lo B : Nat} {w w' : World} {v : Value} {q : List (Nat × Nat × Nat × Nat)} (h : PartsV lo B w v q) (hg : Grew w w') : PartsV lo B w' v q := h.keep fun _ _ _ _ _ hc => hg.cell hc
/-- What a reader by quarters holds: its grid, the parts that are left, the number so far. -/
def QR (B : Nat) (w : World) (hv lv : Value) (num : Int) : Prop := w.cell? ⟨B, 0, none⟩ = some hv ∧ w.cell? ⟨B, 1, none⟩ = some lv ∧ w.cell? ⟨B, 2, none⟩ = some (.int .i64 num) ∧ w.frozen? ⟨B, 0, none⟩ = false ∧ w.frozen? ⟨B, 1, none⟩ = false ∧ w.frozen? ⟨B, 2, none⟩ = false

theorem results_cell_row_tmp {P : Program} {fn : Func} {p u : Tmp} {ty : TypeId} (h : fn.results = #[.cell p ty, .tmp u]) (tmps : Array Value) (w : World) (g : Nat) (t : TypeId) (cs : Array Value) (fr : Nat × Nat) (d : TypeDesc)
    (hp : tmps.getD p undef = .pointer (some ⟨g, 0, none⟩)) (hg : w.heap[g]? = some (.cells cs t fr))
    (hu : P.underlying ty = some d) (hd : (match d with | .struct _ | .array _ _ => true | _ => false) = true) (hi : (P.info? ty).map (·.size) = some cs.size) :
    (results fn tmps).run P w = .ok (.tuple #[.agg cs, tmps.getD u undef]) w := by
  rw [results_cell_tmp h]
  have hp' : tmps[p]?.getD undef = .pointer (some ⟨g, 0, none⟩) := by simpa using hp
  simp [hp', asAddr, run_loadVar_row w g t ty cs fr d hg hu hd hi, Result.andThen]

set_option maxRecDepth 100000 in
set_option maxHeartbeats 4000000 in
theorem take_none (lo B : Nat) (w : World) (hv lv : Value) (num : Int) (hq : QR B w hv lv num) (hl : PartsV lo B w lv []) :
    Calls Tryd.prog 56 #[.pointer (some ⟨B, 0, none⟩)] w fun e w' => e = .returned (.tuple #[.agg #[.int .i64 0, .int .i64 0, .int .i64 0, .int .i64 0], .bool false]) ∧ Grew w w' := by
  obtain ⟨-, c1, -, -, -, -⟩ := hq
  obtain ⟨b, o, c, rfl, -, -, -⟩ := hl
  rw [List.length_nil] at c1
  have HG1 : Hid (Grew w (w.alloc (.cells #[.int .i64 0, .int .i64 0, .int .i64 0, .int .i64 0] 44))) := Lib.hid ((Grew.refl w).alloc _)
  have k1 := HG1.out.cell c1
  clear c1
  go_enter Tryd.func56, Tryd.ntmps56
  go_wp2_with (fail)
  refine bodyPost_ret (results_cell_row_tmp (P := Tryd.prog) (fn := Tryd.f56) (p := 2) (u := 3) (ty := 44) rfl _ _ w.heap.size 44 #[.int .i64 0, .int .i64 0, .int .i64 0, .int .i64 0] (0, 0) _ rfl (heap_alloc_new _ _) Tryd.underlying44 rfl (by kernel_rfl)) rfl ⟨rfl, HG1.out⟩

set_option maxRecDepth 100000 in
set_option maxHeartbeats 4000000 in
theorem take_some (lo B : Nat) (w : World) (hv lv : Value) (num : Int) (t b l r : Nat) (q : List (Nat × Nat × Nat × Nat)) (hq : QR B w hv lv num) (hl : PartsV lo B w lv ((t, b, l, r) :: q)) :
    Calls Tryd.prog 56 #[.pointer (some ⟨B, 0, none⟩)] w fun e w' => e = .returned (.tuple #[.agg #[.int .i64 t, .int .i64 b, .int .i64 l, .int .i64 r], .bool true]) ∧ ∃ lv', QR B w' hv lv' num ∧ PartsV lo B w' lv' q ∧ Within B (B + 1) w w' := by
  obtain ⟨c0, c1, c2, f0, f1, f2⟩ := hq
  obtain ⟨g, o, c, rfl, hc, ⟨hgl, hgB⟩, HC⟩ := hl
  have e0 : w.cell? ⟨g, o, none⟩ = some (.int .i64 t) := HC 0 (by simp only [List.length_cons]; omega)
  have e1 : w.cell? ⟨g, o + 1, none⟩ = some (.int .i64 b) := HC 1 (by simp only [List.length_cons]; omega)
  have e2 : w.cell? ⟨g, o + 2, none⟩ = some (.int .i64 l) := HC 2 (by simp only [List.length_cons]; omega)
  have e3 : w.cell? ⟨g, o + 3, none⟩ = some (.int .i64 r) := HC 3 (by simp only [List.length_cons]; omega)
  have HR : Hid (∀ i, i < q.length * 4 → w.cell? ⟨g, o + 4 + i, none⟩ = (flatP q)[i]?) := Lib.hid fun i hi => by
    have := HC (4 + i) (by simp; omega)
    rw [← Nat.add_assoc] at this
    rw [this]
    show (_ :: _ :: _ :: _ :: flatP q)[4 + i]? = _
    rw [Nat.add_comm 4 i]
    rfl
  obtain ⟨n, en⟩ : ∃ n, q.length + 1 = n := ⟨_, rfl⟩
  rw [List.length_cons, en] at c1 hc
  have hn0 : 0 < n := by omega
  have hn1 : ¬ ((n : Int) = 0) := by omega
  have hn2 : (1 : Int) ≤ n := by omega
  have hn3 : (n : Int) ≤ c := by omega
  obtain ⟨W1, hW1⟩ : ∃ W1, w.alloc (.cells #[.int .i64 0, .int .i64 0, .int .i64 0, .int .i64 0] 44) = W1 := ⟨_, rfl⟩
  have HG1 : Hid (Grew w W1) := by rw [← hW1]; exact Lib.hid ((Grew.refl w).alloc _)
  have k1 := HG1.out.cell c1
  have d0 := HG1.out.cell e0
  have d1 := HG1.out.cell e1
  have d2 := HG1.out.cell e2
  have d3 := HG1.out.cell e3
  have HG2 : Hid (Grew w (W1.alloc (.cells #[.int .i64 t, .int .i64 b, .int .i64 l, .int .i64 r] 44))) := Lib.hid (HG1.out.alloc _)
  have k2 := HG2.out.cell c1
  have hBw : B < w.heap.size := World.block_lt_of_cell? _ _ c1
  have fz2 := (Below.frozen HG2.out (p := ⟨B, 1, none⟩) hBw).trans f1
  rw [← hW1] at k1 d0 d1 d2 d3 k2 fz2
  have HF : Hid (∀ (o' c' : Nat) (C : Obj), (o' = o + 4 ∨ q.length = 0) → q.length ≤ c' → c' ≤ c → ∃ X, X = .slice (some ⟨g, o', none⟩) (n - 1) c' ∧ QR B (((w.setCell ⟨B, 1, none⟩ X).alloc C).alloc C) hv X num ∧ PartsV lo B (((w.setCell ⟨B, 1, none⟩ X).alloc C).alloc C) X q ∧ Within B (B + 1) w (((w.setCell ⟨B, 1, none⟩ X).alloc C).alloc C)) := Lib.hid fun o' c' C ho hc1 hc2 => by
    refine ⟨_, rfl, ?_⟩
    generalize hX : Value.slice (some ⟨g, o', none⟩) (n - 1) c' = X
    have hW0 : Within B (B + 1) w (w.setCell ⟨B, 1, none⟩ X) := (Within.refl _ _ _).setCell (p := ⟨B, 1, none⟩) (Nat.le_refl _) (Nat.lt_succ_self _) _
    have hG0 : Grew (w.setCell ⟨B, 1, none⟩ X) (((w.setCell ⟨B, 1, none⟩ X).alloc C).alloc C) := ((Grew.refl _).alloc _).alloc _
    have hBs : B < (w.setCell ⟨B, 1, none⟩ X).heap.size := by simpa using hBw
    refine ⟨⟨hG0.cell ?_, hG0.cell ?_, hG0.cell ?_, ?_, ?_, ?_⟩, ?_, (hW0.alloc _).alloc _⟩
    · exact (World.cell?_setCell_other _ _ _ _ (by simp)).trans c0
    · exact World.cell?_setCell_same _ _ _ c1
    · exact (World.cell?_setCell_other _ _ _ _ (by simp)).trans c2
    · exact (Below.frozen hG0 (p := ⟨B, 0, none⟩) hBs).trans (by rw [World.frozen?_setCell]; exact f0)
    · exact (Below.frozen hG0 (p := ⟨B, 1, none⟩) hBs).trans (by rw [World.frozen?_setCell]; exact f1)
    · exact (Below.frozen hG0 (p := ⟨B, 2, none⟩) hBs).trans (by rw [World.frozen?_setCell]; exact f2)
    · subst hX
      refine ⟨g, o', c', by rw [show n - 1 = q.length by omega], by omega, ⟨hgl, hgB⟩, fun i hi => ?_⟩
      obtain rfl : o' = o + 4 := by omega
      have h1 := HR.out i hi
      have hl : i < (flatP q).length := by rw [flatP_len]; exact hi
      rw [List.getElem?_eq_getElem hl] at h1 ⊢
      exact ((hW0.alloc C).alloc C).cell h1 (by show g < B ∨ B + 1 ≤ g; omega)
  have HEN := Lib.hid (And.intro en hc)
  clear c0 c1 c2 f0 f1 f2 e0 e1 e2 e3 HC hW1 HR
  go_enter Tryd.func56, Tryd.ntmps56
  go_wp2_with (fail)
  · have h1 := HEN.out
    obtain ⟨X, eX, hF⟩ := HF.out o 0 (.cells #[.int .i64 t, .int .i64 b, .int .i64 l, .int .i64 r] 44) (by omega) (by omega) (by omega)
    rw [← eX]
    refine bodyPost_ret (results_cell_row_tmp (P := Tryd.prog) (fn := Tryd.f56) (p := 2) (u := 3) (ty := 44) rfl _ _ w.heap.size 44 #[.int .i64 t, .int .i64 b, .int .i64 l, .int .i64 r] (0, 0) _ rfl ?_ Tryd.underlying44 rfl (by kernel_rfl)) rfl ⟨rfl, X, hF⟩
    have h1 := heap_alloc_new (w.setCell ⟨B, 1, none⟩ X) (.cells #[.int .i64 t, .int .i64 b, .int .i64 l, .int .i64 r] 44)
    rw [show (w.setCell ⟨B, 1, none⟩ X).heap.size = w.heap.size by simp] at h1
    exact (heap_alloc_old _ _ (by simp)).trans h1
  · have h1 := HEN.out
    obtain ⟨X, eX, hF⟩ := HF.out (o + 4) (c - 1) (.cells #[.int .i64 t, .int .i64 b, .int .i64 l, .int .i64 r] 44) (.inl rfl) (by omega) (by omega)
    rw [← eX]
    refine bodyPost_ret (results_cell_row_tmp (P := Tryd.prog) (fn := Tryd.f56) (p := 2) (u := 3) (ty := 44) rfl _ _ w.heap.size 44 #[.int .i64 t, .int .i64 b, .int .i64 l, .int .i64 r] (0, 0) _ rfl ?_ Tryd.underlying44 rfl (by kernel_rfl)) rfl ⟨rfl, X, hF⟩
    have h1 := heap_alloc_new (w.setCell ⟨B, 1, none⟩ X) (.cells #[.int .i64 t, .int .i64 b, .int .i64 l, .int .i64 r] 44)
    rw [show (w.setCell ⟨B, 1, none⟩ X).heap.size = w.heap.size by simp] at h1
    exact (heap_alloc_old _ _ (by simp)).trans h1
end Go.Proofs.YtlfoimjohdaofaaDoor
