/- The contract of FillByQueue's tell: a cell's water is laid down, and the cell waits. -/
import Derived.Test.YtjibmfignifpcaaDoorPut
namespace Go.Proofs.YtjibmfignifpcaaDoor
open Go.RowKit

/-- What tell leaves. -/
def TellPost (w : World) (B g g2 N c2 I : Nat) (x : Int) (q : List (Int × Int)) (xs : List Int) (e : Ending) (w' : World) : Prop :=
  e = .returned (.tuple #[]) ∧ ∃ k g', k ≤ q.length ∧ (∀ t, t < k → (q.getD t (0, 0)).2 < x) ∧ (∀ t, k ≤ t → t < q.length → x ≤ (q.getD t (0, 0)).2) ∧ QB w' B g' (q.take k ++ ((I : Int), x) :: q.drop k) ∧ (g' = g ∨ w.heap.size ≤ g') ∧
    IntsO 3 g2 (g2 + 1) w' (.slice (some ⟨g2, 0, none⟩) N c2) (xs.set I x) ∧ Only (fun i => i = B ∨ i = g ∨ i = g2) w w'

set_option maxHeartbeats 4000000 in
theorem tell_any (B Bw g g2 N c2 I : Nat) (x : Int) (q : List (Int × Int)) (xs : List Int) (w : World) (hQ : QB w B g q) (hlen : q.length ≤ 1000) (hs : ∀ s t, s ≤ t → t < q.length → (q.getD s (0, 0)).2 ≤ (q.getD t (0, 0)).2)
    (hO : IntsO 3 g2 (g2 + 1) w (.slice (some ⟨g2, 0, none⟩) N c2) xs) (hw : w.cell? ⟨Bw, 0, none⟩ = some (.slice (some ⟨g2, 0, none⟩) N c2)) (hI : I < N) (hd : g2 < B ∧ (g = B ∨ g2 < g)) :
    Calls Tryd.prog 53 #[.int .i64 I, .int .i64 x, .pointer (some ⟨Bw, 0, none⟩), .pointer (some ⟨B, 0, none⟩)] w (TellPost w B g g2 N c2 I x q xs) := by
  have hN : N = xs.length := by
    rcases hO.shape with ⟨e, _⟩ | ⟨g', c', e, _⟩
    · cases e
    · simp only [Value.slice.injEq] at e
      exact e.2.1
  obtain ⟨hcI, hfI⟩ := hO.at rfl (i := I) (by omega)
  have hlt := hQ.lt
  have hg2 := (World.ownsRow.lt hO.1 g2 rfl).2
  obtain ⟨w1, ew1⟩ : ∃ w1, w.setCell ⟨g2, I, none⟩ (.int .i64 x) = w1 := ⟨_, rfl⟩
  have hO1 : IntsO 3 g2 (g2 + 1) w1 (.slice (some ⟨g2, 0, none⟩) N c2) (xs.set I x) := by rw [← ew1]; exact hO.set rfl I x
  have hW1 : Only (fun i => i = g2) w w1 := by rw [← ew1]; exact (Only.refl (fun i => i = g2) w).setCell (p := ⟨g2, I, none⟩) rfl _
  have hQ1 : QB w1 B g q := hQ.only hW1 (show ¬ B = g2 by omega) (fun h => show ¬ g = g2 by rcases hd.2 with h1 | h1 <;> omega)
  have HP : Hid (Calls Tryd.prog 54 #[.pointer (some ⟨B, 0, none⟩), .agg #[.int .i64 I, .int .i64 x]] w1 (TellPost w B g g2 N c2 I x q xs)) := by
    refine Lib.hid ((put_any B g q I x w1 hQ1 hlen hs).mono ?_)
    rintro e w' ⟨rfl, k, g', h1, h2, h3, h4, h5, h6⟩
    refine ⟨rfl, k, g', h1, h2, h3, h4, ?_, hO1.only h6 (fun i h7 h8 => ?_), (hW1.mono (T := fun i => i = B ∨ i = g ∨ i = g2) fun _ _ h => .inr (.inr h)).trans h6 fun _ _ h => h.imp id .inl⟩
    · have := hW1.size
      rcases h5 with h | h
      · exact .inl h
      · exact .inr (by omega)
    · have e : i = g2 := by omega
      subst e
      rcases hd.2 with h9 | h9 <;> omega
  have hIi : (I : Int) < (N : Int) := by omega
  clear hQ hs hO hO1 hW1 hQ1 hlt hd hN
  unfold TellPost
  go_enter Tryd.func53, Tryd.ntmps53
  go_wp2_with (fail)
  refine HP.out.mono ?_
  rintro e w' ⟨rfl, hh⟩
  go_wp2
  go_end0
  exact ⟨rfl, hh⟩
end Go.Proofs.YtjibmfignifpcaaDoor
