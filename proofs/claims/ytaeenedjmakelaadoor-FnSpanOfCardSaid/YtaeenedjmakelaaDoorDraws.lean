/- The contracts of the draws that give one grid. -/
import Derived.Test.YtaeenedjmakelaaDoorSomeG
namespace Go.Proofs.YtaeenedjmakelaaDoor
open Go.RowKit

/-- A drawn grid in new memory. -/
def DrawnGrid (w : World) (e : Ending) (w' : World) : Prop := ∃ v H, e = .returned v ∧ RowsO 22 3 w.heap.size w'.heap.size w' v H ∧ Drawn H ∧ Grew w w'
theorem SomePost.drawn {w0 w1 : World} {p : Nat} {e : Ending} {w' : World} (h : SomePost w0 w1 w0.heap.size p e w') (hs : w0.heap.size ≤ w1.heap.size) : DrawnGrid w0 e w' := by
  obtain ⟨v, H, q, he, hO, hd, hr, _, _⟩ := h
  exact ⟨v, H, he, hO.wide hs (Nat.le_refl _), hd, hr.grew⟩




















set_option maxRecDepth 100000 in
set_option maxHeartbeats 1000000 in
theorem DrawMergesOf_any (v : Value) (bs : List Int) (w : World) (hv : NumsV .u8 w v bs) (hb : ∀ i, i < bs.length → 0 ≤ bs.getD i 0 ∧ bs.getD i 0 ≤ 255) :
    Calls Tryd.prog 27 #[v] w (DrawnGrid w) := by
  have HN := Lib.hid (newReader_any v bs w hv hb)
  clear hv hb
  go_enter Tryd.func27, Tryd.ntmps27
  go_wp2_with (fail)
  refine HN.out.mono ?_
  rintro e w1 ⟨rfl, hr⟩
  have HR := Lib.hid hr
  clear hr
  go_wp2_with (fail)
  refine (someGrid_any w w1 w.heap.size 0 HR.out (by omega)).mono ?_
  intro e w2 hs
  obtain ⟨v2, H, he, hO, hd, hg⟩ := hs.drawn HR.out.grew.size
  subst he
  have HF : Hid (DrawnGrid w (.returned v2) w2) := ⟨v2, H, rfl, hO, hd, hg⟩
  obtain ⟨a3, n3, c3, rfl⟩ : ∃ a n c, v2 = .slice a n c := by
    rcases hO.shape with ⟨rfl, _⟩ | ⟨g, c, rfl, _⟩ <;> exact ⟨_, _, _, rfl⟩
  clear hs hO hd hg
  go_wp2
  go_ret
  exact HF.out

set_option maxRecDepth 100000 in
set_option maxHeartbeats 1000000 in
theorem DrawSpanOf_any (v : Value) (bs : List Int) (w : World) (hv : NumsV .u8 w v bs) (hb : ∀ i, i < bs.length → 0 ≤ bs.getD i 0 ∧ bs.getD i 0 ≤ 255) :
    Calls Tryd.prog 36 #[v] w (DrawnGrid w) := by
  have HN := Lib.hid (newReader_any v bs w hv hb)
  clear hv hb
  go_enter Tryd.func36, Tryd.ntmps36
  go_wp2_with (fail)
  refine HN.out.mono ?_
  rintro e w1 ⟨rfl, hr⟩
  have HR := Lib.hid hr
  clear hr
  go_wp2_with (fail)
  refine (someGrid_any w w1 w.heap.size 0 HR.out (by omega)).mono ?_
  intro e w2 hs
  obtain ⟨v2, H, he, hO, hd, hg⟩ := hs.drawn HR.out.grew.size
  subst he
  have HF : Hid (DrawnGrid w (.returned v2) w2) := ⟨v2, H, rfl, hO, hd, hg⟩
  obtain ⟨a3, n3, c3, rfl⟩ : ∃ a n c, v2 = .slice a n c := by
    rcases hO.shape with ⟨rfl, _⟩ | ⟨g, c, rfl, _⟩ <;> exact ⟨_, _, _, rfl⟩
  clear hs hO hd hg
  go_wp2
  go_ret
  exact HF.out

end Go.Proofs.YtaeenedjmakelaaDoor
