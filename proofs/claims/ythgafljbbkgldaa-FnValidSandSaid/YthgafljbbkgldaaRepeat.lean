/- The contracts of bits.Mul at 1 and of slices.Repeat of one number. -/
import Derived.Test.YthgafljbbkgldaaConcat
import Derived.Test.YthgafljbbkgldaaBase
import Derived.Laws.CopyOwn
import Derived.Deep.RegionLaw
namespace Go.Proofs.Ythgafljbbkgldaa
open Go.RowKit

theorem hi_zero : ∀ n : Nat, n < 26 → IntKind.u64.wrap
              (IntKind.u64.wrap
                  (IntKind.u64.wrap
                      (IntKind.u64.wrap
                          (bits BinOp.and IntKind.u64 1 4294967295 * bits BinOp.and IntKind.u64 (n : Int) 4294967295) /
                        4294967296) /
                    4294967296) +
                IntKind.u64.wrap
                    (bits BinOp.and IntKind.u64
                        (IntKind.u64.wrap
                          (IntKind.u64.wrap
                              (bits BinOp.and IntKind.u64 1 4294967295 * bits BinOp.and IntKind.u64 (n : Int) 4294967295) /
                            4294967296))
                        4294967295 +
                      IntKind.u64.wrap (bits BinOp.and IntKind.u64 1 4294967295 * ((n : Int) / 4294967296))) /
                  4294967296) = 0 := by decide +kernel

/-- k of n are written. -/
def repV (n k : Nat) (y : Int) : List Value := (List.replicate k y ++ List.replicate (n - k) 0).map (.int .i64)
theorem repV_len (n k : Nat) (y : Int) (h : k ≤ n) : (repV n k y).length = n := by simp [repV]; omega
theorem repV_splice (n k j : Nat) (y : Int) (_h : k + j ≤ n) : splice (repV n k y) k (List.replicate j (.int .i64 y)) = repV n (k + j) y := by
  have e1 : repV n k y = List.replicate k (.int .i64 y) ++ List.replicate (n - k) (.int .i64 0) := by simp [repV]
  have e2 : repV n (k + j) y = List.replicate k (.int .i64 y) ++ (List.replicate j (.int .i64 y) ++ List.replicate (n - (k + j)) (.int .i64 0)) := by simp [repV, ← List.replicate_append_replicate]
  rw [e1, e2, splice, List.length_replicate]
  rw [List.take_append_of_le_length (by simp), List.take_of_length_le (by simp)]
  congr 2
  rw [List.drop_append, List.drop_of_length_le (by simp)]
  simp
  omega
theorem repV_cell {n k : Nat} {y : Int} {w : World} {g : Nat} {t : TypeId} (h : w.heap[g]? = some (.cells (repV n k y).toArray t (0, 0))) (j : Nat) (hj : j < k) : w.cell? ⟨g, j, none⟩ = some (.int .i64 y) := by
  have e : (repV n k y)[j]? = some (.int .i64 y) := by rw [repV, List.getElem?_map, List.getElem?_append_left (by simpa using hj)]; simp [hj]
  simp [World.cell?, h, e]
theorem repV_owns {n : Nat} {y : Int} {w : World} {g lo : Nat} {t : TypeId} (h : w.heap[g]? = some (.cells (repV n n y).toArray t (0, 0))) (hlo : lo ≤ g) (hn : n ≤ 1000000) : IntsO t lo w.heap.size w (.slice (some ⟨g, 0, none⟩) n n) (List.replicate n y) := by
  refine IntsO.mk ⟨by simp, .inr ⟨g, n, _, by simp, hlo, h, by simp, by unfold maxLen; omega, ?_, ?_⟩⟩ (Nat.le_refl _)
  · simp [repV]
  · simp [repV]

theorem IntsO.full {E lo hi : Nat} {w : World} {g n : Nat} {xs : List Int} (h : IntsO E lo hi w (.slice (some ⟨g, 0, none⟩) n n) xs) : w.heap[g]? = some (.cells (xs.map (.int .i64)).toArray E (0, 0)) := by
  have hl := h.1.1
  rcases h.1.2 with ⟨e, _⟩ | ⟨g1, cap, cur, e, _, hh, _, _, hs, ht⟩
  · simp at e
  · simp only [Value.slice.injEq, Option.some.injEq, Addr.mk.injEq] at e
    obtain ⟨⟨rfl, _⟩, e2, rfl⟩ := e
    rw [hh, ← ht, ← e2]
    simp only [Nat.mul_one] at hs ⊢
    rw [List.take_of_length_le (by rw [Array.length_toList, hs]; exact Nat.le_refl _)]

theorem IntsO.rep0 {E lo hi : Nat} {w : World} {g n : Nat} (y : Int) (h : IntsO E lo hi w (.slice (some ⟨g, 0, none⟩) n n) (List.replicate n 0)) : w.heap[g]? = some (.cells (repV n 0 y).toArray E (0, 0)) := by
  have := h.full
  simpa [repV] using this
theorem one_src {w : World} {b o : Nat} {u : Value} (h : w.cell? ⟨b, o, none⟩ = some u) (j : Nat) (v : Value) (hj : [u][j]? = some v) : w.cell? ((⟨b, o, none⟩ : Addr).add j) = some v := by
  rcases j with _ | j
  · simp at hj
    subst hj
    simpa [Addr.add_lit] using h
  · simp at hj

/-- 'copy(new, []int{y})'. -/
theorem wpList_copy_one {P : Program} {w : World} {ops : Array Oper} {rest : List Oper} {o : Oper} {a : Act} {Q : Exit → Act → World → Prop} (hgd : o.guard = none) (d s : Operand) (T : TypeId)
    (ho : o.op = .call { callee := .builtin .copy, args := #[d, s], argTypes := #[T, T] }) (E : TypeId) (hu : P.underlying T = some (.slice E)) (hsz : (P.info? E).map (·.size) = some 1)
    {n b o' c g : Nat} {y : Int} (hd : a.eval d = .slice (some ⟨g, 0, none⟩) n n) (hs : a.eval s = .slice (some ⟨b, o', none⟩) 1 c) (hn : 1 ≤ n)
    (hg : w.heap[g]? = some (.cells (repV n 0 y).toArray E (0, 0))) (hc : w.cell? ⟨b, o', none⟩ = some (.int .i64 y)) (w0 : World) (hb : Grew w0 w) (hBg : w0.heap.size ≤ g)
    (h : ∀ w', Hid (w'.heap[g]? = some (.cells (repV n 1 y).toArray E (0, 0)) ∧ Grew w0 w') → wpList P ops Q rest (a.put o.dst (.int .i64 1)) w') : wpList P ops Q (o :: rest) a w := by
  have hmin : [Value.int .i64 y].length = Nat.min 1 n := (Nat.min_eq_left hn).symm
  refine wpList_copy_splice hgd d s T T ho E hu hsz _ _ n n 1 c hd hs g 0 (repV n 0 y) E hg [.int .i64 y] hmin (fun _ => ⟨rfl, _, rfl, one_src hc⟩) (by rw [repV_len _ _ _ (Nat.zero_le _)]; simpa using hn) (by simp [Value.oneCell']) w0.heap.size w0 hb hBg ?_
  intro w' h1 h2
  have e := repV_splice n 0 1 y (by omega)
  rw [Nat.zero_add] at e
  have h1' : w'.heap[g]? = some (.cells (splice (repV n 0 y) 0 (List.replicate 1 (.int .i64 y))).toArray E (0, 0)) := h1.out
  rw [e] at h1'
  exact h w' (Lib.hid ⟨h1', h2⟩)
/-- 'copy(new[j:], new[:j])'. -/
theorem step_copy_more {P : Program} {ops : Array Oper} {o : Oper} {a : Act} {w : World} {K : Act → World → Prop} {Q : Exit → Act → World → Prop} {X : Prop} (hgd : o.guard = none) (d s : Operand) (T : TypeId)
    (ho : o.op = .call { callee := .builtin .copy, args := #[d, s], argTypes := #[T, T] }) (E : TypeId) (hu : P.underlying T = some (.slice E)) (hsz : (P.info? E).map (·.size) = some 1)
    {n j g : Nat} {y : Int} (hd : a.eval d = .slice (some ⟨g, j, none⟩) (n - j) (n - j)) (hs : a.eval s = .slice (some ⟨g, 0, none⟩) j n) (hj : j < n)
    (hg : w.heap[g]? = some (.cells (repV n j y).toArray E (0, 0))) (w0 : World) (hb : Grew w0 w) (hBg : w0.heap.size ≤ g)
    (h : ∀ w', Hid (w'.heap[g]? = some (.cells (repV n (j + Nat.min j (n - j)) y).toArray E (0, 0)) ∧ Grew w0 w') → K (a.put o.dst (.int .i64 (Nat.min j (n - j)))) w') :
    if Region.wanted o (yielded ops a.tmps) = true then Oper.wp P o a w K Q else X := by
  have hle : Nat.min j (n - j) ≤ n - j := Nat.min_le_right _ _
  have hle2 : Nat.min j (n - j) ≤ j := Nat.min_le_left _ _
  refine step_copy_splice hgd d s T T ho E hu hsz _ _ (n - j) (n - j) j n hd hs g j (repV n j y) E hg (List.replicate (Nat.min j (n - j)) (.int .i64 y)) (by simp) (fun _ => ⟨rfl, _, rfl, fun k u hk => ?_⟩) (by rw [repV_len _ _ _ (by omega), List.length_replicate]; omega) (fun u hu => by rw [List.eq_of_mem_replicate hu]; rfl) w0.heap.size w0 hb hBg ?_
  · obtain ⟨h1, h2⟩ := List.getElem?_eq_some_iff.1 hk
    rw [List.length_replicate] at h1
    rw [List.getElem_replicate] at h2
    rw [Addr.add_lit, Nat.zero_add, ← h2]
    exact repV_cell hg k (by omega)
  · intro w' h1 h2
    have h1' := h1.out
    rw [repV_splice n j _ y (by omega)] at h1'
    have := h w' (Lib.hid ⟨h1', h2⟩)
    rw [List.length_replicate]
    exact this

end Go.Proofs.Ythgafljbbkgldaa
