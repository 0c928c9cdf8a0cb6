/- The contracts of impl.validCell and impl.nearestInside. -/
import Derived.Test.YtaeenedjmakelaaDoorTurns
import Derived.Test.YtaeenedjmakelaaDoorCode
import Derived.StillTailTactics
namespace Go.Proofs.YtaeenedjmakelaaDoor
open Go.RowKit

def vCell (h : List (List Int)) (i : Int) : Bool := vGrid h && decide (0 ≤ i) && decide (i < (h.length : Int) * (h.getD 0 []).length)

/-- The nearest number in 0 .. n-1. -/
def clamp (x : Int) (n : Nat) : Int := if (n : Int) - 1 < (if x < 0 then 0 else x) then (n : Int) - 1 else (if x < 0 then 0 else x)
def NearPost (x y : Int) (n m : Nat) (w : World) (e : Ending) (w' : World) : Prop := e = .returned (.agg #[.int .i64 (clamp x n), .int .i64 (clamp y m)]) ∧ Grew w w'

theorem near_heap {W : World} {g : Nat} {z0 z1 : Value} {T : TypeId} {p q p' q' : Int} (h : W.heap[g]? = some (.cells #[z0, z1] T (0, 0))) (hp : p' = p) (hq : q' = q) :
    ((W.setCell ⟨g, 0, none⟩ (.int .i64 p)).setCell ⟨g, 1, none⟩ (.int .i64 q)).heap[g]? = some (.cells #[.int .i64 p', .int .i64 q'] T (0, 0)) := by
  subst hp; subst hq
  rw [heap_setCell_same _ _ 1 _ _ _ (heap_setCell_same _ _ 0 _ _ _ h)]
  rfl
theorem near_grew {w W : World} {p q : Value} (h : Grew w W) : Grew w ((W.setCell ⟨w.heap.size + 1, 0, none⟩ p).setCell ⟨w.heap.size + 1, 1, none⟩ q) :=
  Below.setCell (Below.setCell h (p := ⟨w.heap.size + 1, 0, none⟩) (by show _ ≤ w.heap.size + 1; omega) _) (p := ⟨w.heap.size + 1, 1, none⟩) (by show _ ≤ w.heap.size + 1; omega) _

set_option maxRecDepth 100000 in
set_option maxHeartbeats 1000000 in
theorem nearestInside_any (v : Value) (rows : List (List Int)) (x y : Int) (w : World) (hv : RowsV w v rows) (hn : 1 ≤ rows.length) (hn5 : rows.length ≤ 5) (hm5 : (rows.getD 0 []).length ≤ 5) :
    Calls Tryd.prog 125 #[v, .agg #[.int .i64 x, .int .i64 y]] w (NearPost x y rows.length (rows.getD 0 []).length w) := by
  obtain ⟨a, b, o, c, rfl, ⟨hlc, hcb⟩, ha, HC⟩ := hv.shape
  obtain rfl := ha hn
  obtain ⟨u, hcu, hu⟩ := HC.out 0 hn
  rw [Nat.add_zero] at hcu
  obtain ⟨row, er⟩ : ∃ row, rows.getD 0 [] = row := ⟨_, rfl⟩
  rw [er] at hu hm5 ⊢
  obtain ⟨a1, b1, o1, c1, rfl, _, _, _⟩ := hu.shape
  have hi0 : (0 : Int) < rows.length := by omega
  have hbl : b < w.heap.size := World.block_lt_of_cell? _ _ hcu
  clear hu er ha hv
  go_enter Tryd.func125, Tryd.ntmps125
  go_wp2
  obtain ⟨W2, hW2⟩ : ∃ W2, (w.alloc (.cells #[.int .i64 x, .int .i64 y] 97)).alloc (.cells #[.int .i64 0, .int .i64 0] 97) = W2 := ⟨_, rfl⟩
  have hg2 : Grew w W2 := by rw [← hW2]; exact ((Grew.refl w).alloc _).alloc _
  have hcu2 := hg2.cell hcu
  have hx2 : W2.cell? ⟨w.heap.size, 0, none⟩ = some (.int .i64 x) := by rw [← hW2]; simp
  have hy2 : W2.cell? ⟨w.heap.size, 1, none⟩ = some (.int .i64 y) := by rw [← hW2]; simp
  have hB2 : W2.heap[w.heap.size + 1]? = some (.cells #[.int .i64 0, .int .i64 0] 97 (0, 0)) := by
    rw [← hW2]
    have := heap_alloc_new (w.alloc (.cells #[.int .i64 x, .int .i64 y] 97)) (.cells #[.int .i64 0, .int .i64 0] 97)
    simpa using this
  rw [hW2]
  have HB2 := Lib.hid (And.intro hB2 hg2)
  clear hW2 hB2 hg2 hcu hbl
  have hn0 : 0 < rows.length := by omega
  have w1 : IntKind.i64.wrap ((rows.length : Int) - 1) = (rows.length : Int) - 1 := IntWalk.i64_in _ (by omega)
  have w2 : IntKind.i64.wrap ((row.length : Int) - 1) = (row.length : Int) - 1 := IntWalk.i64_in _ (by omega)
  go_still_tail 17, (by kernel_rfl)
  change wpList _ _ _ _ _ W2.drew
  obtain ⟨W3, hW3⟩ : ∃ W3, W2.drew = W3 := ⟨_, rfl⟩
  have hB3 : W3.heap[w.heap.size + 1]? = some (.cells #[.int .i64 0, .int .i64 0] 97 (0, 0)) := by rw [← hW3]; exact HB2.out.1
  have hz0 : W3.cell? ⟨w.heap.size + 1, 0, none⟩ = some (.int .i64 0) := by simp [World.cell?, hB3]
  have hz1 : W3.cell? ⟨w.heap.size + 1, 1, none⟩ = some (.int .i64 0) := by simp [World.cell?, hB3]
  have hf0 : W3.frozen? ⟨w.heap.size + 1, 0, none⟩ = false := by simp [World.frozen?, hB3]
  have hf1 : W3.frozen? ⟨w.heap.size + 1, 1, none⟩ = false := by simp [World.frozen?, hB3]
  have HG3 : Hid (Grew w W3) := by rw [← hW3]; exact HB2.out.2.drew
  have HB3 := Lib.hid hB3
  rw [hW3]
  clear hW3 hB3 hcu2 hx2 hy2 HB2
  go_wp2
  all_goals
    refine bodyPost_ret (v := .agg #[.int .i64 (clamp x rows.length), .int .i64 (clamp y row.length)]) (results_cell_row (P := Tryd.prog) rfl _ _ (w.heap.size + 1) 97 _ (0, 0) _ rfl (near_heap HB3.out ?_ ?_) Tryd.underlying97 rfl (by kernel_rfl)) rfl ⟨rfl, near_grew HG3.out⟩
    · unfold clamp; repeat' split
      all_goals omega
    · unfold clamp; repeat' split
      all_goals omega
end Go.Proofs.YtaeenedjmakelaaDoor
