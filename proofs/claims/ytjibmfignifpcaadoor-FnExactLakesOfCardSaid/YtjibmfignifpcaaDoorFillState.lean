/- The state of impl.FillByQueue between its steps. -/
import Derived.Test.YtjibmfignifpcaaDoorQueueP
import Derived.Test.YtjibmfignifpcaaDoorCells
namespace Go.Proofs.YtjibmfignifpcaaDoor
open Go.RowKit

theorem pairwise_le {q : List (Int × Int)} (h : q.Pairwise fun a b => a.2 ≤ b.2) (s t : Nat) (hst : s ≤ t) (ht : t < q.length) : (q.getD s (0, 0)).2 ≤ (q.getD t (0, 0)).2 := by
  by_cases e : s = t
  · subst e; exact Int.le_refl _
  · have := List.pairwise_iff_getElem.1 h s t (by omega) ht (by omega)
    simpa [ht, show s < q.length by omega] using this
theorem take_le {q : List (Int × Int)} {k : Nat} {y : Int} (h : ∀ t, t < k → (q.getD t (0, 0)).2 < y) : ∀ x, x ∈ q.take k → x.2 ≤ y := by
  intro x hx
  obtain ⟨i, hi, rfl⟩ := List.getElem_of_mem hx
  simp only [List.length_take] at hi
  have := h i (by omega)
  simp only [List.getElem_take]
  simp [show i < q.length by omega] at this
  omega
theorem drop_ge {q : List (Int × Int)} {k : Nat} {y : Int} (h : ∀ t, k ≤ t → t < q.length → y ≤ (q.getD t (0, 0)).2) : ∀ x, x ∈ q.drop k → y ≤ x.2 := by
  intro x hx
  obtain ⟨i, hi, rfl⟩ := List.getElem_of_mem hx
  simp only [List.length_drop] at hi
  have := h (k + i) (by omega) (by omega)
  simp only [List.getElem_drop]
  simpa [show k + i < q.length by omega] using this
theorem ins_length (q : List (Int × Int)) (k : Nat) (e : Int × Int) : (q.take k ++ e :: q.drop k).length = q.length + 1 := by
  have : (q.take k ++ q.drop k).length = q.length := by rw [List.take_append_drop]
  simp only [List.length_append, List.length_cons] at this ⊢
  omega

/-- The heights p in g1, the water xs in g2 (which the box Bw holds), the queue q at B. -/
structure FState (w : World) (g1 c1 g2 c2 Bw B N : Nat) (p : List Int) (wr : World) (xs : List Int) (q : List (Int × Int)) (g : Nat) : Prop where
  hts : IntsO 3 w.heap.size g2 wr (.slice (some ⟨g1, 0, none⟩) N c1) p
  wat : IntsO 3 g2 (g2 + 1) wr (.slice (some ⟨g2, 0, none⟩) N c2) xs
  box : wr.cell? ⟨Bw, 0, none⟩ = some (.slice (some ⟨g2, 0, none⟩) N c2)
  que : QB wr B g q
  ord : g = B ∨ B < g
  grew : Grew w wr
  sta : w.heap.size ≤ g2 ∧ g2 < Bw ∧ Bw < B
section
variable {w wr w' : World} {g1 c1 g2 c2 Bw B N g : Nat} {p xs : List Int} {q : List (Int × Int)}
theorem FState.step (h : FState w g1 c1 g2 c2 Bw B N p wr xs q g) (hg : Grew wr w') : FState w g1 c1 g2 c2 Bw B N p w' xs q g :=
  ⟨h.hts.grew hg, h.wat.grew hg, hg.cell h.box, h.que.grew hg, h.ord, h.grew.trans hg, h.sta⟩
theorem FState.lens (h : FState w g1 c1 g2 c2 Bw B N p wr xs q g) : xs.length = N ∧ p.length = N := by
  have key : ∀ {lo hi : Nat} {W : World} {gg cc : Nat} {zs : List Int}, IntsO 3 lo hi W (.slice (some ⟨gg, 0, none⟩) N cc) zs → zs.length = N := fun {lo hi W gg cc zs} hO => by
    rcases hO.shape with ⟨e, _⟩ | ⟨g', c', e, _⟩
    · cases e
    · simp only [Value.slice.injEq] at e
      exact e.2.1.symm
  exact ⟨key h.wat, key h.hts⟩
/-- What tell leaves of the state. -/
theorem FState.tell (h : FState w g1 c1 g2 c2 Bw B N p wr xs q g) {I : Nat} {x : Int} {e : Ending} (hT : TellPost wr B g g2 N c2 I x q xs e w') :
    e = .returned (.tuple #[]) ∧ ∃ k g', (∀ z, z ∈ q.take k → z.2 ≤ x) ∧ (∀ z, z ∈ q.drop k → x ≤ z.2) ∧ FState w g1 c1 g2 c2 Bw B N p w' (xs.set I x) (q.take k ++ ((I : Int), x) :: q.drop k) g' ∧ (g' = g ∨ wr.heap.size ≤ g') ∧ Only (fun i => i = B ∨ i = g ∨ i = g2) wr w' := by
  obtain ⟨rfl, k, g', h1, h2, h3, h4, h5, h6, h7⟩ := hT
  obtain ⟨s1, s2, s3⟩ := h.sta
  have ho := h.ord
  have hB := h.que.lt.1
  refine ⟨rfl, k, g', take_le h2, drop_ge h3, ⟨h.hts.only h7 (fun i a b => ?_), h6, h7.cell h.box ?_, h4, ?_, Only.grew h.grew h7 (fun i a => ?_), h.sta⟩, h5, h7⟩
  · show ¬ (i = B ∨ i = g ∨ i = g2)
    omega
  · show ¬ (Bw = B ∨ Bw = g ∨ Bw = g2)
    omega
  · omega
  · show ¬ (i = B ∨ i = g ∨ i = g2)
    omega
theorem FState.call (h : FState w g1 c1 g2 c2 Bw B N p wr xs q g) {I : Nat} (x : Int) (hI : I < N) (hlen : q.length ≤ 1000) (hs : q.Pairwise fun a b => a.2 ≤ b.2) :
    Calls Tryd.prog 53 #[.int .i64 I, .int .i64 x, .pointer (some ⟨Bw, 0, none⟩), .pointer (some ⟨B, 0, none⟩)] wr fun e w' =>
      e = .returned (.tuple #[]) ∧ ∃ k g', (∀ z, z ∈ q.take k → z.2 ≤ x) ∧ (∀ z, z ∈ q.drop k → x ≤ z.2) ∧ FState w g1 c1 g2 c2 Bw B N p w' (xs.set I x) (q.take k ++ ((I : Int), x) :: q.drop k) g' ∧ (g' = g ∨ wr.heap.size ≤ g') ∧ Only (fun i => i = B ∨ i = g ∨ i = g2) wr w' := by
  obtain ⟨s1, s2, s3⟩ := h.sta
  have ho := h.ord
  exact (tell_any B Bw g g2 N c2 I x q xs wr h.que hlen (pairwise_le hs) h.wat h.box hI ⟨by omega, by omega⟩).mono fun e w' hT => h.tell hT
/-- Does it wait? -/
theorem FState.empty (h : FState w g1 c1 g2 c2 Bw B N p wr xs q g) : Calls Tryd.prog 56 #[.pointer (some ⟨B, 0, none⟩)] wr fun e w' => e = .returned (.bool (decide (q.length = 0))) ∧ w' = wr := by
  obtain ⟨a, c, h1, h2, h3, h4⟩ := h.que
  exact isEmpty_any B a q.length c wr h2
end
section
variable {w wr : World} {g1 c1 g2 c2 Bw B N g : Nat} {p xs : List Int} {e : Int × Int} {q : List (Int × Int)}
theorem FState.take (h : FState w g1 c1 g2 c2 Bw B N p wr xs (e :: q) g) : Calls Tryd.prog 57 #[.pointer (some ⟨B, 0, none⟩)] wr fun z w' => z = .returned (.agg #[.int .i64 e.1, .int .i64 e.2]) ∧ FState w g1 c1 g2 c2 Bw B N p w' xs q g := by
  obtain ⟨a, c, h1, h2, h3, hc, h4⟩ := h.que
  obtain ⟨s1, s2, s3⟩ := h.sta
  have ho := h.ord
  rcases h4 with ⟨_, h5, _, _⟩ | ⟨o, rfl, hP, hgB⟩
  · cases h5
  obtain ⟨c', rfl⟩ : ∃ c', c = c' + 1 := ⟨c - 1, by have := hP.cap; simp only [List.length_cons] at this; omega⟩
  have hcap := hP.cap
  simp only [List.length_cons] at hcap h2
  have hx := hP.cell 0 (by simp)
  simp only [Nat.mul_zero, Nat.add_zero, List.getD_cons_zero] at hx
  refine (take_any B g o q.length c' e.1 e.2 wr h.que.lt.1 hP.lt h2 h3 (by omega) hc hx.1 hx.2).mono ?_
  rintro z w' ⟨rfl, o', k1, k2, k3⟩
  have hO : Only (fun i => i = B) wr (wr.setCell ⟨B, 1, none⟩ (.slice (some ⟨g, o', none⟩) q.length c')) := (Only.refl (fun i => i = B) wr).setCell (p := ⟨B, 1, none⟩) rfl _
  refine ⟨rfl, FState.step ⟨h.hts.only hO (fun i a b => ?_), h.wat.only hO (fun i a b => ?_), hO.cell h.box ?_, ⟨some ⟨g, o', none⟩, c', ?_, ?_, ?_, by omega, .inr ⟨o', rfl, PairsO.block ?_ (hO.block g hP.lt hgB), hgB⟩⟩, ho, Only.grew h.grew hO (fun i a => ?_), h.sta⟩ k3⟩
  · show ¬ i = B
    omega
  · show ¬ i = B
    omega
  · show ¬ Bw = B
    omega
  · rw [World.cell?_setCell_other _ _ _ _ (by simp)]; exact h1
  · exact World.cell?_setCell_same _ _ _ h2
  · simpa using h3
  · by_cases h0 : c' = 0
    · subst h0
      obtain rfl := k2 rfl
      have : q = [] := List.eq_nil_of_length_eq_zero (by omega)
      subst this
      exact hP.none
    · obtain rfl := k1 (by omega)
      exact hP.tail
  · show ¬ i = B
    omega
end
end Go.Proofs.YtjibmfignifpcaaDoor
