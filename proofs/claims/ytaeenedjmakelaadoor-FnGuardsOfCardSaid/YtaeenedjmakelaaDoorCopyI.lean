/- 'copy(new, src)' of numbers into a slice that was made with zeros, as long. -/
import Derived.Test.YtaeenedjmakelaaDoorExact
import Derived.Laws.CopyOwn
namespace Go.Proofs.YtaeenedjmakelaaDoor
open Go.RowKit

theorem IntsO.whole {E lo hi : Nat} {w : World} {g n : Nat} {xs : List Int} (h : IntsO E lo hi w (.slice (some ⟨g, 0, none⟩) n n) xs) : w.heap[g]? = some (.cells (xs.map (.int .i64)).toArray E (0, 0)) := by
  have hl := h.1.1
  rcases h.1.2 with ⟨e, _⟩ | ⟨g1, cap, cur, e, _, hh, _, _, hs, ht⟩
  · simp at e
  · simp only [Value.slice.injEq, Option.some.injEq, Addr.mk.injEq] at e
    obtain ⟨⟨rfl, _⟩, e2, rfl⟩ := e
    rw [hh, ← ht, ← e2]
    simp only [Nat.mul_one] at hs ⊢
    rw [List.take_of_length_le (by rw [Array.length_toList, hs]; exact Nat.le_refl _)]
theorem IntsO.ofBlock {E lo hi : Nat} {w : World} {g n : Nat} {xs : List Int} (h : w.heap[g]? = some (.cells (xs.map (.int .i64)).toArray E (0, 0))) (hn : n = xs.length) (hlo : lo ≤ g) (hhi : g < hi) (hm : xs.length ≤ maxLen) : IntsO E lo hi w (.slice (some ⟨g, 0, none⟩) n n) xs := by
  subst hn
  refine ⟨⟨by simp, .inr ⟨g, _, _, rfl, hlo, h, Nat.le_refl _, hm, by simp, ?_⟩⟩, fun k e => by simp [Value.ownBlock] at e; omega⟩
  simp only [Nat.mul_one]
  rw [List.take_of_length_le (by simp)]

/-- 'copy(new, src)'. -/
theorem wpList_copy_ints {P : Program} {w : World} {ops : Array Oper} {rest : List Oper} {o : Oper} {a : Act} {Q : Exit → Act → World → Prop} (hgd : o.guard = none) (d s : Operand) (T : TypeId)
    (ho : o.op = .call { callee := .builtin .copy, args := #[d, s], argTypes := #[T, T] }) (E : TypeId) (hu : P.underlying T = some (.slice E)) (hinfo : (P.info? E).map (fun i => (i.zero, i.size, i.bytes)) = some (some (.int .i64 0), 1, 8))
    (g n : Nat) (v : Value) (hd : a.eval d = .slice (some ⟨g, 0, none⟩) n n) (hs : a.eval s = v) (xs ys : List Int) (hn : n = xs.length) (hys : ys.length = n) (lo hi : Nat) (w0 : World)
    (hO : IntsO E lo hi w (.slice (some ⟨g, 0, none⟩) n n) ys) (hv : IntsV w v xs) (hb : Grew w0 w) (hg : w0.heap.size ≤ g) (hm : xs.length ≤ maxLen)
    (h : ∀ w', IntsO E lo hi w' (.slice (some ⟨g, 0, none⟩) n n) xs → Grew w0 w' → w'.heap.size = w.heap.size → wpList P ops Q rest (a.put o.dst (goInt n)) w') :
    wpList P ops Q (o :: rest) a w := by
  obtain ⟨sa, sb, so, sc, rfl, _, hsrc⟩ := hv
  have hblk := hO.blk
  have hsz : (P.info? E).map (·.size) = some 1 := by
    obtain ⟨i, hi1, _, hi3, _⟩ := info_parts hinfo
    simp [hi1, hi3]
  subst hn
  by_cases h0 : xs.length = 0
  · refine wpList_copy_nothing hgd d s T T ho E hu hsz _ _ _ _ _ _ hd hs (by simp [h0]) ?_
    have e1 : xs = [] := List.eq_nil_of_length_eq_zero h0
    have e2 : ys = xs := by rw [e1]; exact List.eq_nil_of_length_eq_zero (by omega)
    have := h w (by rw [← e2]; rw [e2]; rw [e2] at hO; exact hO) hb rfl
    rwa [h0] at this
  · obtain rfl := (hsrc 0 (by omega)).1
    have hw := hO.whole
    have hcs : (xs.map (Value.int .i64)).length = Nat.min xs.length xs.length := by simp
    refine wpList_copy_own hgd d s T T ho E hu hsz g 0 _ _ ⟨sb, so, none⟩ _ _ hd hs _ E hw (xs.map (.int .i64)) hcs (fun j v hj => ?_) (by simp; omega) (fun v hv => by
      obtain ⟨x, _, rfl⟩ := List.mem_map.1 hv; rfl) ?_
    · rw [List.getElem?_map] at hj
      by_cases hlt : j < xs.length
      · have := (hsrc j hlt).2
        have e : (⟨sb, so, none⟩ : Addr).add j = ⟨sb, so + j, none⟩ := by
          unfold Addr.add
          split
          · next h => rw [h]; rfl
          · rfl
        rw [e, this]
        simp [hlt] at hj
        simp [hlt, hj]
      · simp [hlt] at hj
    · have e : ((ys.map (Value.int .i64)).toArray.toList.take 0 ++ (xs.map (Value.int .i64) ++ (ys.map (Value.int .i64)).toArray.toList.drop (0 + (xs.map (Value.int .i64)).length))).toArray = (xs.map (Value.int .i64)).toArray := by
        rw [List.drop_of_length_le (by simp; omega)]
        simp
      rw [e, List.length_map]
      refine h _ (IntsO.ofBlock ?_ rfl hblk.1 hblk.2 hm) (below_setRow hb hg _) (by simp [World.setRow])
      exact setRow_heap w g _ _ E _ hw
end Go.Proofs.YtaeenedjmakelaaDoor
