/- The contract of impl.lastOf, for any iterator of tables. -/
import Derived.Test.YtdhokofcgfolnaaDoorRange
import Derived.Shelf.RegionOpen
import Derived.Shelf.Abstract
import Derived.OwnWalkIn
import Derived.TacticsInMore
import Derived.LoopNIn
import Derived.LoopIn
namespace Go.Proofs.YtdhokofcgfolnaaDoor
open Go Go.RowKit Go.Shelf
attribute [local go_sem] Oper.semAt_some

set_option maxRecDepth 100000 in
set_option maxHeartbeats 2000000 in
theorem lastOf_any (nn gf T : Nat) (hnn : 2 ≤ nn) (lb : Array Value) (xs : Nat → List Int) (w : World)
    (eg : ∀ (args : Array Value) (w : World), (callFunc gf args).run Tryd.prog w = .ok (.enter gf args) w)
    (hseq : ∀ w1, Grew w w1 → w.heap.size < w1.heap.size → IterV Fence.wide (nn - 1) Tryd.prog gf lb (fun k => k = w.heap.size) xs T w1) :
    Calls Tryd.prog 49 #[.func (.func gf) #[] lb] w fun e w' => ∃ v, e = .returned v ∧ IntsAt w.heap.size w' v (xs T) ∧ Grew w w' := by
  refine (callsIn_wide (n := nn)).1 ?_
  refine callsIn_of_wp_marks Tryd.func49 rfl trivial ?_ rfl
  simp only [Tryd.ntmps49, List.size_toArray, List.length_cons, List.length_nil, Nat.reduceAdd, Nat.reduceSub, Array.replicate_succ, Array.replicate_zero, List.push_toArray, List.append_toArray, List.nil_append, List.cons_append]
  gi_wp2
  obtain ⟨w1, hw1⟩ : ∃ w1, w.alloc (.cells #[.slice none 0 0] 27) = w1 := ⟨_, rfl⟩
  have hg1 : Grew w w1 := by rw [← hw1]; exact (Grew.refl w).alloc _
  have hs1 : w1.heap.size = w.heap.size + 1 := by rw [← hw1]; simp
  have hc1 : w1.cell? ⟨w.heap.size, 0, none⟩ = some (.slice none 0 0) := by rw [← hw1]; simp
  have hf1 : w1.frozen? ⟨w.heap.size, 0, none⟩ = false := by rw [← hw1]; simp
  rw [hw1]
  refine range_law rfl (by omega) (gf := gf) (lb := lb) rfl trivial eg rfl (S := fun k => k = w.heap.size) (fun k hk => by subst hk; omega) (hseq w1 hg1 (by omega))
    (fun t W => Grew w W ∧ W.frozen? ⟨w.heap.size, 0, none⟩ = false ∧ ∃ u, W.cell? ⟨w.heap.size, 0, none⟩ = some u ∧ (0 < t → IntsAt w.heap.size W u (xs (t - 1))))
    (fun _ _ _ => False) ?_ (fun _ _ _ _ h _ => h) ⟨hg1, hf1, _, hc1, fun h => absurd h (Nat.lt_irrefl 0)⟩ ?_ ?_ ?_
  · rintro t A B ⟨h1, h2, u, h3, h4⟩ hs
    exact ⟨h1.softly hs (by omega), hs.frozen h3 h2, u, hs.cell h3, fun h => (h4 h).soft hs⟩
  · rintro l t v W hl ht ⟨h1, h2, u, h3, h4⟩ ⟨⟨g, c, rfl, hg⟩, hv⟩
    gi_wp2
    refine ⟨trivial, ?_⟩
    rintro W2 hs hrec
    have h2' := hs.frozen h3 h2
    have h3' := hs.cell h3
    have h1' : Grew w W2 := Grew.softly h1 hs (by omega)
    have HV : Hid (IntsAt w.heap.size W2 (.slice (some ⟨g, 0, none⟩) (xs t).length c) (xs t)) := Lib.hid ⟨⟨g, c, rfl, by omega⟩, hv.soft hs⟩
    have HW : Hid (Only (fun k => k = w.heap.size) W2 (W2.setCell ⟨w.heap.size, 0, none⟩ (.slice (some ⟨g, 0, none⟩) (xs t).length c)) ∧ Grew w W2 ∧ w.heap.size < g) := Lib.hid ⟨(Only.refl (fun k => k = w.heap.size) W2).setCell (p := ⟨w.heap.size, 0, none⟩) rfl _, h1', by omega⟩
    have HC : Hid ((W2.setCell ⟨w.heap.size, 0, none⟩ (.slice (some ⟨g, 0, none⟩) (xs t).length c)).cell? ⟨w.heap.size, 0, none⟩ = some (.slice (some ⟨g, 0, none⟩) (xs t).length c) ∧ (W2.setCell ⟨w.heap.size, 0, none⟩ (.slice (some ⟨g, 0, none⟩) (xs t).length c)).frozen? ⟨w.heap.size, 0, none⟩ = false) :=
      Lib.hid ⟨World.cell?_setCell_same' _ _ _ (by rw [h3']; rfl), by rw [World.frozen?_setCell]; exact h2'⟩
    clear h1 h2 h3 h4 hs hv h1'
    gi_wp2
    refine ⟨HW.out.1, Only.grew HW.out.2.1 HW.out.1 (fun i hi hk => by omega), HC.out.2, _, HC.out.1, fun _ => ?_⟩
    obtain ⟨⟨g', c', e', _⟩, h2⟩ := HV.out
    exact (IntsAt.only (lo := w.heap.size + 1) ⟨⟨g, c, rfl, HW.out.2.2⟩, h2⟩ HW.out.1 (fun k hk => by omega)).low (by omega)
  · rintro D W hD ⟨h1, h2, u, h3, h4⟩ hK
    have h5 := h4 (Nat.succ_pos _)
    gi_wp2
    refine ⟨by simp, .inl ⟨_, _, rfl, run_takeDeferred hK, ?_⟩⟩
    have hs := Soft.put hK rfl hD (.deferred none)
    exact ⟨_, results_tmp rfl _ _ _, u, rfl, h5.soft hs, h1.softly hs (by omega)⟩
  · exact fun _ _ _ _ _ _ h _ => h.elim
end Go.Proofs.YtdhokofcgfolnaaDoor
