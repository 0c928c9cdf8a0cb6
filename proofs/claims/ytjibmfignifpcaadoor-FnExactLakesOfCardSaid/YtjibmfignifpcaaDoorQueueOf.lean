/- The queue in memory: a row of cells and their water; isEmpty and take. -/
import Derived.Test.YtjibmfignifpcaaDoorByWater
import Derived.Test.YtjibmfignifpcaaDoorBase
import Derived.Shelf.Abstract
namespace Go.Proofs.YtjibmfignifpcaaDoor
open Go.RowKit

def standV (e : Int × Int) : Value := .agg #[.int .i64 e.1, .int .i64 e.2]
/-- A slice of pairs: what can be read. -/
def PairsV (w : World) (v : Value) (q : List (Int × Int)) : Prop :=
  ∃ a b o c, v = .slice a q.length c ∧ (q.length ≤ c ∧ c ≤ 9223372036854775807) ∧ (0 < q.length → a = some ⟨b, o, none⟩) ∧
    ∀ j, j < q.length → w.cell? ⟨b, o + 2 * j, none⟩ = some (.int .i64 (q.getD j (0, 0)).1) ∧ w.cell? ⟨b, o + 2 * j + 1, none⟩ = some (.int .i64 (q.getD j (0, 0)).2)

set_option maxHeartbeats 1000000 in
theorem isEmpty_any (B : Nat) (a : Option Addr) (n c : Nat) (w : World) (h1 : w.cell? ⟨B, 1, none⟩ = some (.slice a n c)) :
    Calls Tryd.prog 56 #[.pointer (some ⟨B, 0, none⟩)] w fun e w' => e = .returned (.bool (decide (n = 0))) ∧ w' = w := by
  go_enter Tryd.func56, Tryd.ntmps56
  go_wp2
  go_ret
  exact ⟨ret_bool (by by_cases h : n = 0 <;> simp [h]), rfl⟩

set_option maxHeartbeats 1000000 in
theorem take_any (B b o n c : Nat) (x y : Int) (w : World) (hB : B < w.heap.size) (hb : b < w.heap.size) (h1 : w.cell? ⟨B, 1, none⟩ = some (.slice (some ⟨b, o, none⟩) (n + 1) (c + 1))) (hf1 : w.frozen? ⟨B, 1, none⟩ = false) (hc : n ≤ c) (hc63 : c + 1 ≤ 9223372036854775807)
    (hx : w.cell? ⟨b, o, none⟩ = some (.int .i64 x)) (hy : w.cell? ⟨b, o + 1, none⟩ = some (.int .i64 y)) :
    Calls Tryd.prog 57 #[.pointer (some ⟨B, 0, none⟩)] w fun e w' => e = .returned (.agg #[.int .i64 x, .int .i64 y]) ∧ ∃ o', (0 < c → o' = o + 2) ∧ (c = 0 → o' = o) ∧ Grew (w.setCell ⟨B, 1, none⟩ (.slice (some ⟨b, o', none⟩) n c)) w' := by
  by_cases hc0 : c = 0
  · subst hc0
    obtain rfl : n = 0 := by omega
    go_enter Tryd.func57, Tryd.ntmps57
    go_wp2
    refine bodyPost_ret (v := .agg #[.int .i64 x, .int .i64 y]) (by simp [results, Tryd.results57, go_sem]) rfl ⟨rfl, o, fun h => absurd h (Nat.lt_irrefl _), fun _ => rfl, ((Grew.refl _).alloc _).alloc _⟩
  · go_enter Tryd.func57, Tryd.ntmps57
    go_wp2
    refine bodyPost_ret (v := .agg #[.int .i64 x, .int .i64 y]) (by simp [results, Tryd.results57, go_sem]) rfl ⟨rfl, o + 2, fun _ => rfl, fun h => absurd h hc0, ((Grew.refl _).alloc _).alloc _⟩

end Go.Proofs.YtjibmfignifpcaaDoor
