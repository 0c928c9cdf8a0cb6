/- A slice of pairs of the call's own, from an even place of its block on: what it holds, what a walk reads of it, what copy and append leave. -/
import Derived.Test.YtjibmfignifpcaaDoorQueueOf
import Derived.Test.YtjibmfignifpcaaDoorBase
import Derived.Lib.AppendZerosOnto
import Derived.Lib.Overlaps
namespace Go.Proofs.YtjibmfignifpcaaDoor
open Go.RowKit

/-- The cells of pairs. -/
def flatP : List (Int × Int) → List Value
  | [] => []
  | e :: q => .int .i64 e.1 :: .int .i64 e.2 :: flatP q
theorem flatP_length : ∀ q : List (Int × Int), (flatP q).length = 2 * q.length
  | [] => rfl
  | e :: q => by simp only [flatP, List.length_cons, flatP_length q]; omega
theorem flatP_append : ∀ a b : List (Int × Int), flatP (a ++ b) = flatP a ++ flatP b
  | [], _ => rfl
  | e :: a, b => by simp [flatP, flatP_append a b]
theorem flatP_one : ∀ (q : List (Int × Int)) (v : Value), v ∈ flatP q → v.oneCell' = true
  | [], v, h => by cases h
  | e :: q, v, h => by
    simp only [flatP, List.mem_cons] at h
    rcases h with rfl | rfl | h
    · rfl
    · rfl
    · exact flatP_one q v h
theorem flatP_get : ∀ (q : List (Int × Int)) (j : Nat), j < q.length → (flatP q)[2 * j]? = some (.int .i64 (q.getD j (0, 0)).1) ∧ (flatP q)[2 * j + 1]? = some (.int .i64 (q.getD j (0, 0)).2)
  | [], j, h => by simp at h
  | e :: q, 0, _ => by simp [flatP]
  | e :: q, j + 1, h => by
    have := flatP_get q j (by simpa using h)
    have e1 : 2 * (j + 1) = 2 * j + 1 + 1 := by omega
    rw [e1]
    simpa [flatP] using this
theorem flatP_split (q : List (Int × Int)) (k : Nat) : flatP q = flatP (q.take k) ++ flatP (q.drop k) := by
  rw [← flatP_append, List.take_append_drop]

/-- The pairs q stand in the block g from its cell o on; there is room for c of them; the block isn't frozen. -/
def PairsO (w : World) (g o c : Nat) (t : TypeId) (q : List (Int × Int)) : Prop :=
  ∃ A Z : List Value, w.heap[g]? = some (.cells (A ++ (flatP q ++ Z)).toArray t (0, 0)) ∧ A.length = o ∧ q.length ≤ c ∧ 2 * c ≤ 2 * q.length + Z.length
theorem PairsO.block {w w' : World} {g o c : Nat} {t : TypeId} {q : List (Int × Int)} (h : PairsO w g o c t q) (hb : w'.heap[g]? = w.heap[g]?) : PairsO w' g o c t q := by
  obtain ⟨A, Z, h1, h2⟩ := h
  exact ⟨A, Z, hb.trans h1, h2⟩
theorem PairsO.lt {w : World} {g o c : Nat} {t : TypeId} {q : List (Int × Int)} (h : PairsO w g o c t q) : g < w.heap.size := by
  obtain ⟨A, Z, h1, h2⟩ := h
  exact (Array.getElem?_eq_some_iff.1 h1).1
theorem PairsO.grew {w w' : World} {g o c : Nat} {t : TypeId} {q : List (Int × Int)} (h : PairsO w g o c t q) (hg : Grew w w') : PairsO w' g o c t q := h.block (hg.block h.lt)
theorem PairsO.within {lo hi : Nat} {w w' : World} {g o c : Nat} {t : TypeId} {q : List (Int × Int)} (h : PairsO w g o c t q) (hg : Within lo hi w w') (ho : g < lo ∨ hi ≤ g) : PairsO w' g o c t q := h.block (hg.block g h.lt ho)
theorem PairsO.cells {w : World} {g o c : Nat} {t : TypeId} {q : List (Int × Int)} (h : PairsO w g o c t q) (j : Nat) (v : Value) (hj : (flatP q)[j]? = some v) : w.cell? ⟨g, o + j, none⟩ = some v := by
  obtain ⟨A, Z, h1, h2, h3⟩ := h
  have e : (A ++ (flatP q ++ Z))[o + j]? = some v := by
    rw [List.getElem?_append_right (by omega), show o + j - A.length = j by omega, List.getElem?_append_left (List.getElem?_eq_some_iff.1 hj).1]
    exact hj
  simp [World.cell?, h1, e]
theorem PairsO.cell {w : World} {g o c : Nat} {t : TypeId} {q : List (Int × Int)} (h : PairsO w g o c t q) (j : Nat) (hj : j < q.length) :
    w.cell? ⟨g, o + 2 * j, none⟩ = some (.int .i64 (q.getD j (0, 0)).1) ∧ w.cell? ⟨g, o + 2 * j + 1, none⟩ = some (.int .i64 (q.getD j (0, 0)).2) := by
  have h0 := flatP_get q j hj
  exact ⟨h.cells _ _ h0.1, by rw [Nat.add_assoc]; exact h.cells _ _ h0.2⟩
theorem PairsO.frozen {w : World} {g o c : Nat} {t : TypeId} {q : List (Int × Int)} (h : PairsO w g o c t q) (k : Nat) : w.frozen? ⟨g, k, none⟩ = false := by
  obtain ⟨A, Z, h1, h2⟩ := h
  simp [World.frozen?, h1]
theorem PairsO.shape {w : World} {g o c : Nat} {t : TypeId} {q : List (Int × Int)} (h : PairsO w g o c t q) : ∃ n, w.shape? g = some (t, n) ∧ o + 2 * c ≤ n := by
  obtain ⟨A, Z, h1, h2, h3, h4⟩ := h
  refine ⟨_, by simp only [World.shape?, h1]; rfl, ?_⟩
  have := flatP_length q
  simp only [List.size_toArray, List.length_append]
  omega
theorem PairsO.cap {w : World} {g o c : Nat} {t : TypeId} {q : List (Int × Int)} (h : PairsO w g o c t q) : q.length ≤ c := by
  obtain ⟨A, Z, h1, h2, h3, h4⟩ := h
  exact h3
theorem PairsO.tail {w : World} {g o c : Nat} {t : TypeId} {e : Int × Int} {q : List (Int × Int)} (h : PairsO w g o (c + 1) t (e :: q)) : PairsO w g (o + 2) c t q := by
  obtain ⟨A, Z, h1, h2, h3, h4⟩ := h
  refine ⟨A ++ [.int .i64 e.1, .int .i64 e.2], Z, ?_, by simp [h2], by simpa using h3, ?_⟩
  · rw [h1]; simp [flatP]
  · simp only [List.length_cons] at h4; omega
theorem PairsO.none {w : World} {g o c : Nat} {t : TypeId} {q : List (Int × Int)} (h : PairsO w g o c t q) : PairsO w g o 0 t [] := by
  obtain ⟨A, Z, h1, h2, h3, h4⟩ := h
  exact ⟨A, flatP q ++ Z, h1, h2, Nat.zero_le _, by simp⟩

theorem shift_list (A F1 F2 Z : List Value) (x y : Value) (a b : Nat) (ha : A.length + F1.length = a) (hb : F2.length = b) (hZ : 2 ≤ Z.length) :
    (((A ++ (F1 ++ F2 ++ Z)).take (a + 2) ++ F2 ++ (A ++ (F1 ++ F2 ++ Z)).drop (a + 2 + b)).take a ++ [x, y] ++ ((A ++ (F1 ++ F2 ++ Z)).take (a + 2) ++ F2 ++ (A ++ (F1 ++ F2 ++ Z)).drop (a + 2 + b)).drop (a + 2)) = A ++ (F1 ++ (x :: y :: F2) ++ Z.drop 2) := by
  subst ha; subst hb
  have e0 : A ++ (F1 ++ F2 ++ Z) = (A ++ F1) ++ (F2 ++ Z) := by simp
  obtain ⟨P, eP⟩ : ∃ P, A ++ F1 = P := ⟨_, rfl⟩
  have hl : A.length + F1.length = P.length := by rw [← eP, List.length_append]
  rw [e0, hl, eP]
  have e1 : (P ++ (F2 ++ Z)).take (P.length + 2) = P ++ (F2 ++ Z).take 2 := List.take_length_add_append 2
  have e2 : (P ++ (F2 ++ Z)).drop (P.length + 2 + F2.length) = Z.drop 2 := by
    rw [show P.length + 2 + F2.length = P.length + (F2.length + 2) by omega, List.drop_length_add_append, List.drop_length_add_append]
  rw [e1, e2]
  obtain ⟨M, eM⟩ : ∃ M, (F2 ++ Z).take 2 = M := ⟨_, rfl⟩
  have hM : M.length = 2 := by rw [← eM, List.length_take, List.length_append]; omega
  rw [eM]
  have e3 : (P ++ M ++ F2 ++ Z.drop 2).take P.length = P := by
    rw [List.append_assoc, List.append_assoc]; exact List.take_left
  have e4 : (P ++ M ++ F2 ++ Z.drop 2).drop (P.length + 2) = F2 ++ Z.drop 2 := by
    rw [List.append_assoc, List.append_assoc, List.drop_length_add_append, ← hM]; exact List.drop_left
  rw [e3, e4, ← eP]
  simp
theorem grow_list (F1 F2 Z : List Value) (x y : Value) (a b : Nat) (ha : F1.length = a) (hb : F2.length = b) :
    (((F1 ++ Z).take a ++ [x, y] ++ (F1 ++ Z).drop (a + 2)).take (a + 2) ++ F2 ++ ((F1 ++ Z).take a ++ [x, y] ++ (F1 ++ Z).drop (a + 2)).drop (a + 2 + b)) = F1 ++ (x :: y :: F2) ++ Z.drop (2 + b) := by
  subst ha; subst hb
  have e1 : (F1 ++ Z).take F1.length = F1 := List.take_left
  have e2 : (F1 ++ Z).drop (F1.length + 2) = Z.drop 2 := List.drop_length_add_append 2
  rw [e1, e2]
  have e3 : (F1 ++ [x, y] ++ Z.drop 2).take (F1.length + 2) = F1 ++ [x, y] := by
    rw [List.append_assoc, List.take_length_add_append]; rfl
  have e4 : (F1 ++ [x, y] ++ Z.drop 2).drop (F1.length + 2 + F2.length) = Z.drop (2 + F2.length) := by
    rw [List.append_assoc, Nat.add_assoc, List.drop_length_add_append, Nat.add_comm 2 F2.length]
    simp [Nat.add_comm]
  rw [e3, e4]
  simp

theorem within_setRow {w : World} {g : Nat} (cs : Array Value) : Within g (g + 1) w (w.setRow g cs) :=
  ⟨rfl, rfl, rfl, by simp, fun k _ ho => setRow_other w g k cs (by omega)⟩

/-- What 'append' leaves where there is room. -/
theorem run_append_room_rowK {P : Program} (w : World) (t tx ty e : TypeId) (i : TypeInfo) (ht : P.underlying t = some (.slice e)) (hi : P.info? e = some i) (g off sLen sCap : Nat) (x : Value) (n : Nat) (news : List Value) (hs : Src P i.size tx x n news w)
    (hroom : sLen + n ≤ sCap) (cur : Array Value) (tt : TypeId) (hg : w.heap[g]? = some (.cells cur tt (0, 0))) (hfit : off + sLen * i.size + news.length ≤ cur.size) :
    (Builtin.append_ #[t, tx] ty #[.slice (some ⟨g, off, none⟩) sLen sCap, x]).run P w = .ok (.slice (some ⟨g, off, none⟩) (sLen + n) sCap) (w.setRow g (cur.toList.take (off + sLen * i.size) ++ news ++ cur.toList.drop (off + sLen * i.size + news.length)).toArray) := by
  have hst := run_storeCells_at P g (off + sLen * i.size) tt news 0 cur w hg (by simpa using hfit) hs.one
  simp only [Nat.add_zero] at hst
  rcases hs.kind with ⟨e', hk⟩ | hk <;> simp [Builtin.append_, run_underlying ht, run_underlying hk, sizeOf, typeInfo, hi, hs.len, hroom, hs.cells, Addr.add_lit, hst]
end Go.Proofs.YtjibmfignifpcaaDoor
