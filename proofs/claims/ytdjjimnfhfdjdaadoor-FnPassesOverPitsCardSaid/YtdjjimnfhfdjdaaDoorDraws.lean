/- The contracts of the draws that give one grid. -/
import Derived.Test.YtdjjimnfhfdjdaaDoorSomeG
namespace Go.Proofs.YtdjjimnfhfdjdaaDoor
open Go.RowKit

/-- A drawn grid in new memory. -/
def DrawnGrid (w : World) (e : Ending) (w' : World) : Prop := ∃ v H, e = .returned v ∧ RowsO 25 3 w.heap.size w'.heap.size w' v H ∧ Drawn H ∧ Grew w w'
theorem SomePost.drawn {w0 w1 : World} {p : Nat} {e : Ending} {w' : World} (h : SomePost w0 w1 w0.heap.size p e w') (hs : w0.heap.size ≤ w1.heap.size) : DrawnGrid w0 e w' := by
  obtain ⟨v, H, q, he, hO, hd, hr, _, _⟩ := h
  exact ⟨v, H, he, hO.wide hs (Nat.le_refl _), hd, hr.grew⟩



set_option maxRecDepth 100000 in
set_option maxHeartbeats 1000000 in
theorem DrawPeaksOf_any (v : Value) (bs : List Int) (w : World) (hv : NumsV .u8 w v bs) (hb : ∀ i, i < bs.length → 0 ≤ bs.getD i 0 ∧ bs.getD i 0 ≤ 255) :
    Calls Tryd.prog 12 #[v] w (DrawnGrid w) := by
  have HN := Lib.hid (newReader_any v bs w hv hb)
  clear hv hb
  go_enter Tryd.func12, Tryd.ntmps12
  go_wp2_with (fail)
  refine HN.out.mono ?_
  rintro e w1 ⟨rfl, hr⟩
  have HR := Lib.hid hr
  clear hr
  go_wp2_with (fail)
  refine (someGrid_any w w1 w.heap.size 0 HR.out (by omega)).mono ?_
  intro e w2 hs
  obtain ⟨v2, H, he, hO, hd, hg⟩ := hs.drawn HR.out.grew.size
  subst he
  have HF : Hid (DrawnGrid w (.returned v2) w2) := ⟨v2, H, rfl, hO, hd, hg⟩
  obtain ⟨a3, n3, c3, rfl⟩ : ∃ a n c, v2 = .slice a n c := by
    rcases hO.shape with ⟨rfl, _⟩ | ⟨g, c, rfl, _⟩ <;> exact ⟨_, _, _, rfl⟩
  clear hs hO hd hg
  go_wp2
  go_ret
  exact HF.out

set_option maxRecDepth 100000 in
set_option maxHeartbeats 1000000 in
theorem DrawPitsOf_any (v : Value) (bs : List Int) (w : World) (hv : NumsV .u8 w v bs) (hb : ∀ i, i < bs.length → 0 ≤ bs.getD i 0 ∧ bs.getD i 0 ≤ 255) :
    Calls Tryd.prog 23 #[v] w (DrawnGrid w) := by
  have HN := Lib.hid (newReader_any v bs w hv hb)
  clear hv hb
  go_enter Tryd.func23, Tryd.ntmps23
  go_wp2_with (fail)
  refine HN.out.mono ?_
  rintro e w1 ⟨rfl, hr⟩
  have HR := Lib.hid hr
  clear hr
  go_wp2_with (fail)
  refine (someGrid_any w w1 w.heap.size 0 HR.out (by omega)).mono ?_
  intro e w2 hs
  obtain ⟨v2, H, he, hO, hd, hg⟩ := hs.drawn HR.out.grew.size
  subst he
  have HF : Hid (DrawnGrid w (.returned v2) w2) := ⟨v2, H, rfl, hO, hd, hg⟩
  obtain ⟨a3, n3, c3, rfl⟩ : ∃ a n c, v2 = .slice a n c := by
    rcases hO.shape with ⟨rfl, _⟩ | ⟨g, c, rfl, _⟩ <;> exact ⟨_, _, _, rfl⟩
  clear hs hO hd hg
  go_wp2
  go_ret
  exact HF.out






set_option maxRecDepth 100000 in
set_option maxHeartbeats 1000000 in
theorem DrawKeepsOf_any (v : Value) (bs : List Int) (w : World) (hv : NumsV .u8 w v bs) (hb : ∀ i, i < bs.length → 0 ≤ bs.getD i 0 ∧ bs.getD i 0 ≤ 255) :
    Calls Tryd.prog 32 #[v] w (DrawnGrid w) := by
  have HN := Lib.hid (newReader_any v bs w hv hb)
  clear hv hb
  go_enter Tryd.func32, Tryd.ntmps32
  go_wp2_with (fail)
  refine HN.out.mono ?_
  rintro e w1 ⟨rfl, hr⟩
  have HR := Lib.hid hr
  clear hr
  go_wp2_with (fail)
  refine (someGrid_any w w1 w.heap.size 0 HR.out (by omega)).mono ?_
  intro e w2 hs
  obtain ⟨v2, H, he, hO, hd, hg⟩ := hs.drawn HR.out.grew.size
  subst he
  have HF : Hid (DrawnGrid w (.returned v2) w2) := ⟨v2, H, rfl, hO, hd, hg⟩
  obtain ⟨a3, n3, c3, rfl⟩ : ∃ a n c, v2 = .slice a n c := by
    rcases hO.shape with ⟨rfl, _⟩ | ⟨g, c, rfl, _⟩ <;> exact ⟨_, _, _, rfl⟩
  clear hs hO hd hg
  go_wp2
  go_ret
  exact HF.out

set_option maxRecDepth 100000 in
set_option maxHeartbeats 1000000 in
theorem DrawStandsOf_any (v : Value) (bs : List Int) (w : World) (hv : NumsV .u8 w v bs) (hb : ∀ i, i < bs.length → 0 ≤ bs.getD i 0 ∧ bs.getD i 0 ≤ 255) :
    Calls Tryd.prog 35 #[v] w (DrawnGrid w) := by
  have HN := Lib.hid (newReader_any v bs w hv hb)
  clear hv hb
  go_enter Tryd.func35, Tryd.ntmps35
  go_wp2_with (fail)
  refine HN.out.mono ?_
  rintro e w1 ⟨rfl, hr⟩
  have HR := Lib.hid hr
  clear hr
  go_wp2_with (fail)
  refine (someGrid_any w w1 w.heap.size 0 HR.out (by omega)).mono ?_
  intro e w2 hs
  obtain ⟨v2, H, he, hO, hd, hg⟩ := hs.drawn HR.out.grew.size
  subst he
  have HF : Hid (DrawnGrid w (.returned v2) w2) := ⟨v2, H, rfl, hO, hd, hg⟩
  obtain ⟨a3, n3, c3, rfl⟩ : ∃ a n c, v2 = .slice a n c := by
    rcases hO.shape with ⟨rfl, _⟩ | ⟨g, c, rfl, _⟩ <;> exact ⟨_, _, _, rfl⟩
  clear hs hO hd hg
  go_wp2
  go_ret
  exact HF.out









end Go.Proofs.YtdjjimnfhfdjdaaDoor
