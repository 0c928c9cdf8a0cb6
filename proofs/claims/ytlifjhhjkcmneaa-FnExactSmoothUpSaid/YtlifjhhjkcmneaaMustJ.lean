/- The contract of impl's mustJoin. -/
import Derived.Test.YtlifjhhjkcmneaaStackM
import Derived.Test.YtlifjhhjkcmneaaNeqF
import Derived.Test.YtlifjhhjkcmneaaMinF
namespace Go.Proofs.Ytlifjhhjkcmneaa
open Go.RowKit

/-- The block b holds two cells, and lies below the end. -/
def Kept (W : World) (b : Nat) (z0 z1 : Value) (T : TypeId) : Prop := (W.heap[b]? = some (.cells #[z0, z1] T (0, 0)) ∧ W.cell? ⟨b, 0, none⟩ = some z0 ∧ W.cell? ⟨b, 1, none⟩ = some z1 ∧ W.frozen? ⟨b, 0, none⟩ = false ∧ W.frozen? ⟨b, 1, none⟩ = false) ∧ b < W.heap.size ∧ (b ≠ W.heap.size ∧ W.heap.size ≠ b ∧ b ≠ W.heap.size + 1 ∧ W.heap.size + 1 ≠ b)
theorem Kept.mk {W : World} {b : Nat} {z0 z1 : Value} {T : TypeId} (hB : W.heap[b]? = some (.cells #[z0, z1] T (0, 0))) : Kept W b z0 z1 T := by
  have hl : b < W.heap.size := (Array.getElem?_eq_some_iff.1 hB).1
  exact ⟨⟨hB, by simp [World.cell?, hB], by simp [World.cell?, hB], by simp [World.frozen?, hB], by simp [World.frozen?, hB]⟩, hl, by omega, by omega, by omega, by omega⟩
theorem keep1 {W W' : World} {z0 z1 : Value} {T : TypeId} (h : Grew (W.alloc (.cells #[z0, z1] T)) W') : Kept W' W.heap.size z0 z1 T :=
  Kept.mk (by rw [h.block (by simp)]; exact heap_alloc_new W _)
theorem keepOld {W W' : World} {b : Nat} {z0 z1 : Value} {T : TypeId} (h : Grew W W') (k : Kept W b z0 z1 T) : Kept W' b z0 z1 T := Kept.mk (by rw [h.block k.2.1]; exact k.1.1)
theorem keep2 {W W' : World} {z0 z1 : Value} {T : TypeId} {X : Obj} (h : Grew ((W.alloc (.cells #[z0, z1] T)).alloc X) W') : Kept W' W.heap.size z0 z1 T := keep1 (((Grew.refl _).alloc X).trans h)

theorem keep3 {W W' : World} {z0 z1 : Value} {T : TypeId} {X : Obj} (h : Grew ((W.alloc X).alloc (.cells #[z0, z1] T)) W') : Kept W' (W.heap.size + 1) z0 z1 T := by
  have := keep1 h
  simpa using this

set_option maxRecDepth 100000 in
set_option maxHeartbeats 4000000 in
theorem mustJoin_any (s t u v : Nat) (w : World) (hs : s ≤ 1000) (ht : t ≤ 1000) (hu : u ≤ 1000) (hv : v ≤ 1000) (ht1 : 1 ≤ t) (hv1 : 1 ≤ v) :
    Calls Try.prog 56 #[frV ((s : Int), (t : Int)), frV ((u : Int), (v : Int))] w fun e w' => e = .returned (.bool (decide (mustJ ((s : Int), (t : Int)) ((u : Int), (v : Int))))) ∧ Grew w w' := by
  have HM1 := Lib.hid (fun W => mean_any s t W (by omega) (by omega) ht1)
  have HM2 := Lib.hid (fun W => mean_any u v W (by omega) (by omega) hv1)
  have hmj := mustJ_means s t u v ht1 hv1
  have hb1 := frL_bd s t
  have hb2 := frL_bd u v
  obtain ⟨X, eX⟩ : ∃ X, frL s t = X := ⟨_, rfl⟩
  obtain ⟨Y, eY⟩ : ∃ Y, frL u v = Y := ⟨_, rfl⟩
  rw [eX] at HM1 hmj hb1
  rw [eY] at HM2 hmj hb2
  obtain ⟨x1, x2⟩ := X
  obtain ⟨y1, y2⟩ := Y
  simp only at hb1 hb2 hmj
  have HCF := Lib.hid (fun W => compareFracs_any x1 x2 y1 y2 W (by omega) (by omega) (by omega) (by omega))
  obtain ⟨R, eR⟩ : ∃ R, cmpF (x1 * y2) (y1 * x2) = R := ⟨_, rfl⟩
  rw [eR] at HCF hmj
  have heq := fun W => eqlFr x1 x2 y1 y2 W
  obtain ⟨R0, eR0⟩ : ∃ R0, decide ((x1, x2) = (y1, y2)) = R0 := ⟨_, rfl⟩
  rw [eR0] at heq
  have HT : Hid (decide (mustJ ((s : Int), (t : Int)) ((u : Int), (v : Int))) = (R0 || decide (0 < R))) := Lib.hid (by
    rw [← eR0, Bool.eq_iff_iff]
    simp only [decide_eq_true_eq, Bool.or_eq_true]
    exact hmj)
  have hgd := fun op x y xs ys W => guardFr op x y xs ys W
  have HS0' : Hid (Grew w ((w.alloc (.cells #[.int .i64 s, .int .i64 t] 56)).alloc (.cells #[.int .i64 u, .int .i64 v] 56))) := ((Grew.refl w).alloc _).alloc _
  unfold frV at HM1 HM2 HCF ⊢
  clear eX eY eR eR0 hmj hb1 hb2
  go_enter Try.func56, Try.ntmps56
  go_wp2_with (fail)
  obtain ⟨w1, ew1⟩ : ∃ w1, (w.alloc (.cells #[.int .i64 s, .int .i64 t] 56)).alloc (.cells #[.int .i64 u, .int .i64 v] 56) = w1 := ⟨_, rfl⟩
  have HG1 : Hid (Grew w w1) := by rw [← ew1]; exact HS0'.out
  have hc1 : w1.cell? ⟨w.heap.size, 0, none⟩ = some (.int .i64 s) := by rw [← ew1]; simp
  have hc2 : w1.cell? ⟨w.heap.size, 1, none⟩ = some (.int .i64 t) := by rw [← ew1]; simp
  have hc3 : w1.cell? ⟨w.heap.size + 1, 0, none⟩ = some (.int .i64 u) := by rw [← ew1]; simp
  have hc4 : w1.cell? ⟨w.heap.size + 1, 1, none⟩ = some (.int .i64 v) := by rw [← ew1]; simp
  have HW1 := Lib.hid ew1
  rw [ew1]
  have HSG : Hid (∀ W, Grew w1 W → Grew w1 W ∧ W.cell? ⟨w.heap.size, 0, none⟩ = some (.int .i64 s) ∧ W.cell? ⟨w.heap.size, 1, none⟩ = some (.int .i64 t) ∧ W.cell? ⟨w.heap.size + 1, 0, none⟩ = some (.int .i64 u) ∧ W.cell? ⟨w.heap.size + 1, 1, none⟩ = some (.int .i64 v)) := fun W h => ⟨h, h.cell hc1, h.cell hc2, h.cell hc3, h.cell hc4⟩
  clear ew1 hc1 hc2 hc3 hc4
  go_region_held3 (fun W => Grew w1 W ∧ W.cell? ⟨w.heap.size, 0, none⟩ = some (.int .i64 s) ∧ W.cell? ⟨w.heap.size, 1, none⟩ = some (.int .i64 t) ∧ W.cell? ⟨w.heap.size + 1, 0, none⟩ = some (.int .i64 u) ∧ W.cell? ⟨w.heap.size + 1, 1, none⟩ = some (.int .i64 v))
    (first
      | assumption
      | exact HSG.out _ (Grew.refl _)
      | exact HSG.out _ (Grew.refl _).drew
      | (refine HSG.out _ ?_; repeat (first | assumption | exact HG5.out | exact HG6.out | exact Grew.refl _ | exact (Grew.refl _).drew | refine Grew.alloc ?_ _ | refine Grew.drew ?_ | (refine two_grewF (by omega) ?_))))
    (first
      | (go_at_call 59; refine (HM1.out _).mono ?_; rintro e5 w5 ⟨rfl, hg5⟩; (try have hg5 := Grew.trans ((Grew.refl _).drew) hg5); (try (have k51 := keep1 hg5; obtain ⟨⟨_, _, _, _, _⟩, _, _, _, _, _⟩ := id k51)); (try (have k53 := keep3 hg5; obtain ⟨⟨_, _, _, _, _⟩, _, _, _, _, _⟩ := id k53)); (try (have k52 := keep2 hg5; obtain ⟨⟨_, _, _, _, _⟩, _, _, _, _, _⟩ := id k52)); have h5c := HSG.out _ (Grew.trans (by repeat (first | assumption | exact HG5.out | exact Grew.refl _ | exact (Grew.refl _).drew | refine Grew.alloc ?_ _ | refine Grew.drew ?_)) hg5); have hz5 := h5c.1.size; have HG5 := Lib.hid h5c.1)
      | (go_at_call 59; refine (HM2.out _).mono ?_; rintro e6 w6 ⟨rfl, hg6⟩; (try have hg6 := Grew.trans ((Grew.refl _).drew) hg6); (try (have k61 := keep1 hg6; obtain ⟨⟨_, _, _, _, _⟩, _, _, _, _, _⟩ := id k61)); (try (have k62 := keep2 hg6; obtain ⟨⟨_, _, _, _, _⟩, _, _, _, _, _⟩ := id k62)); (try (have k63 := keepOld (Grew.trans (by first | exact Grew.refl _ | exact (Grew.refl _).alloc _ | exact ((Grew.refl _).alloc _).alloc _) hg6) k51; obtain ⟨⟨_, _, _, _, _⟩, _, _, _, _, _⟩ := id k63)); (try (have k64 := keepOld (Grew.trans (by first | exact Grew.refl _ | exact (Grew.refl _).alloc _ | exact ((Grew.refl _).alloc _).alloc _) hg6) k52; obtain ⟨⟨_, _, _, _, _⟩, _, _, _, _, _⟩ := id k64)); (try (have k65 := keepOld (Grew.trans (by first | exact Grew.refl _ | exact (Grew.refl _).alloc _ | exact ((Grew.refl _).alloc _).alloc _) hg6) k53; obtain ⟨⟨_, _, _, _, _⟩, _, _, _, _, _⟩ := id k65)); (try (have k66 := keep3 hg6; obtain ⟨⟨_, _, _, _, _⟩, _, _, _, _, _⟩ := id k66)); have h6c := HSG.out _ (Grew.trans (by repeat (first | assumption | exact HG5.out | exact Grew.refl _ | exact (Grew.refl _).drew | refine Grew.alloc ?_ _ | refine Grew.drew ?_)) hg6); have hz6 := h6c.1.size; have HG6 := Lib.hid h6c.1))
  all_goals
    first
      | (cases R0 with
          | true =>
            go_wp2
            go_ret
            exact ⟨ret_bool (by rw [HT.out]; rfl), HG1.out.trans (And.left (by assumption))⟩
          | false =>
            go_wp2_with (fail)
            refine (HCF.out _).mono ?_
            rintro e w9 ⟨rfl, hg9⟩
            have HG9 := Lib.hid (HG1.out.trans (Grew.trans (And.left (by assumption)) hg9))
            clear hg9
            go_wp2
            go_ret
            exact ⟨ret_bool (by rw [HT.out]; rfl), HG9.out⟩)

end Go.Proofs.Ytlifjhhjkcmneaa
