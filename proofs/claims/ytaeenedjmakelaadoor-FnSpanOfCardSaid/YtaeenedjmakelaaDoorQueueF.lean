/- The queue: its order, its items, what FillByQueue keeps in it. -/
import Derived.Test.YtaeenedjmakelaaDoorTurns
import Derived.Test.YtaeenedjmakelaaDoorBase
import Derived.Shelf.Abstract
import Derived.Lib.AppendZerosOnto
import Derived.Lib.Overlaps
import Derived.Lib.SliceRun
import Derived.Laws.Externs
import Derived.Deep.RegionLaw
import Derived.Deep.RegionHeld3
import Derived.StillTailTactics
import Derived.Test.YtaeenedjmakelaaDoorCells
/- The contracts of cmp.Compare[int] and impl.byWater. -/
namespace Go.Proofs.YtaeenedjmakelaaDoor
open Go.RowKit

def cmpI (x y : Int) : Int := if x < y then -1 else if y < x then 1 else 0

set_option maxRecDepth 100000 in
set_option maxHeartbeats 400000 in
theorem isNaN_any (x : Int) (w : World) : Calls Tryd.prog 126 #[.int .i64 x] w fun e w' => e = .returned (.bool false) ∧ w = w' := by
  go_enter Tryd.func126, Tryd.ntmps126
  go_wp2
  go_ret
  exact ⟨ret_bool (by simp), rfl⟩
set_option maxRecDepth 100000 in
set_option maxHeartbeats 400000 in
theorem compare_any (x y : Int) (w : World) : Calls Tryd.prog 115 #[.int .i64 x, .int .i64 y] w fun e w' => e = .returned (.int .i64 (cmpI x y)) ∧ w = w' := by
  have HX := Lib.hid (isNaN_any x w)
  have HY := Lib.hid (isNaN_any y w)
  have HC : Hid (cmpI x y = if x < y then -1 else if y < x then 1 else 0) := Lib.hid rfl
  obtain ⟨R, eR⟩ : ∃ R, cmpI x y = R := ⟨_, rfl⟩
  rw [eR] at HC ⊢
  clear eR
  by_cases h1 : x < y
  · have HC2 : Hid (R = -1) := Lib.hid (by rw [HC.out, if_pos h1])
    clear HC
    go_enter Tryd.func115, Tryd.ntmps115
    go_wp2_with (fail)
    refine HX.out.mono ?_
    rintro e w1 ⟨rfl, rfl⟩
    go_wp2_with (fail)
    refine HY.out.mono ?_
    rintro e w1 ⟨rfl, rfl⟩
    go_wp2
    go_ret
    exact ⟨ret_int HC2.out.symm, rfl⟩
  · by_cases h2 : y < x
    · have HC2 : Hid (R = 1) := Lib.hid (by rw [HC.out, if_neg h1, if_pos h2])
      clear HC
      go_enter Tryd.func115, Tryd.ntmps115
      go_wp2_with (fail)
      refine HX.out.mono ?_
      rintro e w1 ⟨rfl, rfl⟩
      go_wp2_with (fail)
      refine HY.out.mono ?_
      rintro e w1 ⟨rfl, rfl⟩
      go_wp2
      go_ret
      exact ⟨ret_int HC2.out.symm, rfl⟩
    · have HC2 : Hid (R = 0) := Lib.hid (by rw [HC.out, if_neg h1, if_neg h2])
      clear HC
      go_enter Tryd.func115, Tryd.ntmps115
      go_wp2_with (fail)
      refine HX.out.mono ?_
      rintro e w1 ⟨rfl, rfl⟩
      go_wp2_with (fail)
      refine HY.out.mono ?_
      rintro e w1 ⟨rfl, rfl⟩
      go_wp2
      go_ret
      exact ⟨ret_int HC2.out.symm, rfl⟩
set_option maxRecDepth 100000 in
set_option maxHeartbeats 400000 in
theorem byWater_any (c1 w1 c2 w2 : Int) (w : World) : Calls Tryd.prog 120 #[.agg #[.int .i64 c1, .int .i64 w1], .agg #[.int .i64 c2, .int .i64 w2]] w fun e w' => e = .returned (.int .i64 (cmpI w1 w2)) ∧ Grew w w' := by
  have HC := Lib.hid fun W => compare_any w1 w2 W
  obtain ⟨R, eR⟩ : ∃ R, cmpI w1 w2 = R := ⟨_, rfl⟩
  rw [eR] at HC ⊢
  clear eR
  have hG : Hid (Grew w ((w.alloc (.cells #[.int .i64 c1, .int .i64 w1] 109)).alloc (.cells #[.int .i64 c2, .int .i64 w2] 109))) := Lib.hid (((Grew.refl w).alloc _).alloc _)
  go_enter Tryd.func120, Tryd.ntmps120
  go_wp2_with (fail)
  refine (HC.out _).mono ?_
  rintro e w3 ⟨rfl, rfl⟩
  go_wp2
  go_ret
  exact ⟨rfl, hG.out⟩
end Go.Proofs.YtaeenedjmakelaaDoor

/- The queue in memory: a row of cells and their water; isEmpty and take. -/
namespace Go.Proofs.YtaeenedjmakelaaDoor
open Go.RowKit

def standV (e : Int × Int) : Value := .agg #[.int .i64 e.1, .int .i64 e.2]
/-- A slice of pairs: what can be read. -/
def PairsV (w : World) (v : Value) (q : List (Int × Int)) : Prop :=
  ∃ a b o c, v = .slice a q.length c ∧ (q.length ≤ c ∧ c ≤ 9223372036854775807) ∧ (0 < q.length → a = some ⟨b, o, none⟩) ∧
    ∀ j, j < q.length → w.cell? ⟨b, o + 2 * j, none⟩ = some (.int .i64 (q.getD j (0, 0)).1) ∧ w.cell? ⟨b, o + 2 * j + 1, none⟩ = some (.int .i64 (q.getD j (0, 0)).2)

set_option maxRecDepth 100000 in
set_option maxHeartbeats 1000000 in
theorem isEmpty_any (B : Nat) (a : Option Addr) (n c : Nat) (w : World) (h1 : w.cell? ⟨B, 1, none⟩ = some (.slice a n c)) :
    Calls Tryd.prog 123 #[.pointer (some ⟨B, 0, none⟩)] w fun e w' => e = .returned (.bool (decide (n = 0))) ∧ w' = w := by
  go_enter Tryd.func123, Tryd.ntmps123
  go_wp2
  go_ret
  exact ⟨ret_bool (by by_cases h : n = 0 <;> simp [h]), rfl⟩

set_option maxRecDepth 100000 in
set_option maxHeartbeats 1000000 in
theorem take_any (B b o n c : Nat) (x y : Int) (w : World) (hB : B < w.heap.size) (hb : b < w.heap.size) (h1 : w.cell? ⟨B, 1, none⟩ = some (.slice (some ⟨b, o, none⟩) (n + 1) (c + 1))) (hf1 : w.frozen? ⟨B, 1, none⟩ = false) (hc : n ≤ c) (hc63 : c + 1 ≤ 9223372036854775807)
    (hx : w.cell? ⟨b, o, none⟩ = some (.int .i64 x)) (hy : w.cell? ⟨b, o + 1, none⟩ = some (.int .i64 y)) :
    Calls Tryd.prog 124 #[.pointer (some ⟨B, 0, none⟩)] w fun e w' => e = .returned (.agg #[.int .i64 x, .int .i64 y]) ∧ ∃ o', (0 < c → o' = o + 2) ∧ (c = 0 → o' = o) ∧ Grew (w.setCell ⟨B, 1, none⟩ (.slice (some ⟨b, o', none⟩) n c)) w' := by
  by_cases hc0 : c = 0
  · subst hc0
    obtain rfl : n = 0 := by omega
    go_enter Tryd.func124, Tryd.ntmps124
    go_wp2
    refine bodyPost_ret (v := .agg #[.int .i64 x, .int .i64 y]) (by simp [results, Tryd.results124, go_sem]) rfl ⟨rfl, o, fun h => absurd h (Nat.lt_irrefl _), fun _ => rfl, ((Grew.refl _).alloc _).alloc _⟩
  · go_enter Tryd.func124, Tryd.ntmps124
    go_wp2
    refine bodyPost_ret (v := .agg #[.int .i64 x, .int .i64 y]) (by simp [results, Tryd.results124, go_sem]) rfl ⟨rfl, o + 2, fun _ => rfl, fun h => absurd h hc0, ((Grew.refl _).alloc _).alloc _⟩

end Go.Proofs.YtaeenedjmakelaaDoor

/- The queue: pairs in memory, insert, binary search, put, tell. -/
/- A slice of pairs of the call's own, from an even place of its block on: what it holds, what a walk reads of it, what copy and append leave. -/
namespace Go.Proofs.YtaeenedjmakelaaDoor
open Go.RowKit

/-- The cells of pairs. -/
def flatP : List (Int × Int) → List Value
  | [] => []
  | e :: q => .int .i64 e.1 :: .int .i64 e.2 :: flatP q
theorem flatP_length : ∀ q : List (Int × Int), (flatP q).length = 2 * q.length
  | [] => rfl
  | e :: q => by simp only [flatP, List.length_cons, flatP_length q]; omega
theorem flatP_append : ∀ a b : List (Int × Int), flatP (a ++ b) = flatP a ++ flatP b
  | [], _ => rfl
  | e :: a, b => by simp [flatP, flatP_append a b]
theorem flatP_one : ∀ (q : List (Int × Int)) (v : Value), v ∈ flatP q → v.oneCell' = true
  | [], v, h => by cases h
  | e :: q, v, h => by
    simp only [flatP, List.mem_cons] at h
    rcases h with rfl | rfl | h
    · rfl
    · rfl
    · exact flatP_one q v h
theorem flatP_get : ∀ (q : List (Int × Int)) (j : Nat), j < q.length → (flatP q)[2 * j]? = some (.int .i64 (q.getD j (0, 0)).1) ∧ (flatP q)[2 * j + 1]? = some (.int .i64 (q.getD j (0, 0)).2)
  | [], j, h => by simp at h
  | e :: q, 0, _ => by simp [flatP]
  | e :: q, j + 1, h => by
    have := flatP_get q j (by simpa using h)
    have e1 : 2 * (j + 1) = 2 * j + 1 + 1 := by omega
    rw [e1]
    simpa [flatP] using this
theorem flatP_split (q : List (Int × Int)) (k : Nat) : flatP q = flatP (q.take k) ++ flatP (q.drop k) := by
  rw [← flatP_append, List.take_append_drop]

/-- The pairs q stand in the block g from its cell o on; there is room for c of them; the block isn't frozen. -/
def PairsO (w : World) (g o c : Nat) (t : TypeId) (q : List (Int × Int)) : Prop :=
  ∃ A Z : List Value, w.heap[g]? = some (.cells (A ++ (flatP q ++ Z)).toArray t (0, 0)) ∧ A.length = o ∧ q.length ≤ c ∧ 2 * c ≤ 2 * q.length + Z.length
theorem PairsO.block {w w' : World} {g o c : Nat} {t : TypeId} {q : List (Int × Int)} (h : PairsO w g o c t q) (hb : w'.heap[g]? = w.heap[g]?) : PairsO w' g o c t q := by
  obtain ⟨A, Z, h1, h2⟩ := h
  exact ⟨A, Z, hb.trans h1, h2⟩
theorem PairsO.lt {w : World} {g o c : Nat} {t : TypeId} {q : List (Int × Int)} (h : PairsO w g o c t q) : g < w.heap.size := by
  obtain ⟨A, Z, h1, h2⟩ := h
  exact (Array.getElem?_eq_some_iff.1 h1).1
theorem PairsO.grew {w w' : World} {g o c : Nat} {t : TypeId} {q : List (Int × Int)} (h : PairsO w g o c t q) (hg : Grew w w') : PairsO w' g o c t q := h.block (hg.block h.lt)
theorem PairsO.within {lo hi : Nat} {w w' : World} {g o c : Nat} {t : TypeId} {q : List (Int × Int)} (h : PairsO w g o c t q) (hg : Within lo hi w w') (ho : g < lo ∨ hi ≤ g) : PairsO w' g o c t q := h.block (hg.block g h.lt ho)
theorem PairsO.cells {w : World} {g o c : Nat} {t : TypeId} {q : List (Int × Int)} (h : PairsO w g o c t q) (j : Nat) (v : Value) (hj : (flatP q)[j]? = some v) : w.cell? ⟨g, o + j, none⟩ = some v := by
  obtain ⟨A, Z, h1, h2, h3⟩ := h
  have e : (A ++ (flatP q ++ Z))[o + j]? = some v := by
    rw [List.getElem?_append_right (by omega), show o + j - A.length = j by omega, List.getElem?_append_left (List.getElem?_eq_some_iff.1 hj).1]
    exact hj
  simp [World.cell?, h1, e]
theorem PairsO.cell {w : World} {g o c : Nat} {t : TypeId} {q : List (Int × Int)} (h : PairsO w g o c t q) (j : Nat) (hj : j < q.length) :
    w.cell? ⟨g, o + 2 * j, none⟩ = some (.int .i64 (q.getD j (0, 0)).1) ∧ w.cell? ⟨g, o + 2 * j + 1, none⟩ = some (.int .i64 (q.getD j (0, 0)).2) := by
  have h0 := flatP_get q j hj
  exact ⟨h.cells _ _ h0.1, by rw [Nat.add_assoc]; exact h.cells _ _ h0.2⟩
theorem PairsO.frozen {w : World} {g o c : Nat} {t : TypeId} {q : List (Int × Int)} (h : PairsO w g o c t q) (k : Nat) : w.frozen? ⟨g, k, none⟩ = false := by
  obtain ⟨A, Z, h1, h2⟩ := h
  simp [World.frozen?, h1]
theorem PairsO.shape {w : World} {g o c : Nat} {t : TypeId} {q : List (Int × Int)} (h : PairsO w g o c t q) : ∃ n, w.shape? g = some (t, n) ∧ o + 2 * c ≤ n := by
  obtain ⟨A, Z, h1, h2, h3, h4⟩ := h
  refine ⟨_, by simp only [World.shape?, h1]; rfl, ?_⟩
  have := flatP_length q
  simp only [List.size_toArray, List.length_append]
  omega
theorem PairsO.cap {w : World} {g o c : Nat} {t : TypeId} {q : List (Int × Int)} (h : PairsO w g o c t q) : q.length ≤ c := by
  obtain ⟨A, Z, h1, h2, h3, h4⟩ := h
  exact h3
theorem PairsO.tail {w : World} {g o c : Nat} {t : TypeId} {e : Int × Int} {q : List (Int × Int)} (h : PairsO w g o (c + 1) t (e :: q)) : PairsO w g (o + 2) c t q := by
  obtain ⟨A, Z, h1, h2, h3, h4⟩ := h
  refine ⟨A ++ [.int .i64 e.1, .int .i64 e.2], Z, ?_, by simp [h2], by simpa using h3, ?_⟩
  · rw [h1]; simp [flatP]
  · simp only [List.length_cons] at h4; omega
theorem PairsO.none {w : World} {g o c : Nat} {t : TypeId} {q : List (Int × Int)} (h : PairsO w g o c t q) : PairsO w g o 0 t [] := by
  obtain ⟨A, Z, h1, h2, h3, h4⟩ := h
  exact ⟨A, flatP q ++ Z, h1, h2, Nat.zero_le _, by simp⟩

theorem shift_list (A F1 F2 Z : List Value) (x y : Value) (a b : Nat) (ha : A.length + F1.length = a) (hb : F2.length = b) (hZ : 2 ≤ Z.length) :
    (((A ++ (F1 ++ F2 ++ Z)).take (a + 2) ++ F2 ++ (A ++ (F1 ++ F2 ++ Z)).drop (a + 2 + b)).take a ++ [x, y] ++ ((A ++ (F1 ++ F2 ++ Z)).take (a + 2) ++ F2 ++ (A ++ (F1 ++ F2 ++ Z)).drop (a + 2 + b)).drop (a + 2)) = A ++ (F1 ++ (x :: y :: F2) ++ Z.drop 2) := by
  subst ha; subst hb
  have e0 : A ++ (F1 ++ F2 ++ Z) = (A ++ F1) ++ (F2 ++ Z) := by simp
  obtain ⟨P, eP⟩ : ∃ P, A ++ F1 = P := ⟨_, rfl⟩
  have hl : A.length + F1.length = P.length := by rw [← eP, List.length_append]
  rw [e0, hl, eP]
  have e1 : (P ++ (F2 ++ Z)).take (P.length + 2) = P ++ (F2 ++ Z).take 2 := List.take_length_add_append 2
  have e2 : (P ++ (F2 ++ Z)).drop (P.length + 2 + F2.length) = Z.drop 2 := by
    rw [show P.length + 2 + F2.length = P.length + (F2.length + 2) by omega, List.drop_length_add_append, List.drop_length_add_append]
  rw [e1, e2]
  obtain ⟨M, eM⟩ : ∃ M, (F2 ++ Z).take 2 = M := ⟨_, rfl⟩
  have hM : M.length = 2 := by rw [← eM, List.length_take, List.length_append]; omega
  rw [eM]
  have e3 : (P ++ M ++ F2 ++ Z.drop 2).take P.length = P := by
    rw [List.append_assoc, List.append_assoc]; exact List.take_left
  have e4 : (P ++ M ++ F2 ++ Z.drop 2).drop (P.length + 2) = F2 ++ Z.drop 2 := by
    rw [List.append_assoc, List.append_assoc, List.drop_length_add_append, ← hM]; exact List.drop_left
  rw [e3, e4, ← eP]
  simp
theorem grow_list (F1 F2 Z : List Value) (x y : Value) (a b : Nat) (ha : F1.length = a) (hb : F2.length = b) :
    (((F1 ++ Z).take a ++ [x, y] ++ (F1 ++ Z).drop (a + 2)).take (a + 2) ++ F2 ++ ((F1 ++ Z).take a ++ [x, y] ++ (F1 ++ Z).drop (a + 2)).drop (a + 2 + b)) = F1 ++ (x :: y :: F2) ++ Z.drop (2 + b) := by
  subst ha; subst hb
  have e1 : (F1 ++ Z).take F1.length = F1 := List.take_left
  have e2 : (F1 ++ Z).drop (F1.length + 2) = Z.drop 2 := List.drop_length_add_append 2
  rw [e1, e2]
  have e3 : (F1 ++ [x, y] ++ Z.drop 2).take (F1.length + 2) = F1 ++ [x, y] := by
    rw [List.append_assoc, List.take_length_add_append]; rfl
  have e4 : (F1 ++ [x, y] ++ Z.drop 2).drop (F1.length + 2 + F2.length) = Z.drop (2 + F2.length) := by
    rw [List.append_assoc, Nat.add_assoc, List.drop_length_add_append, Nat.add_comm 2 F2.length]
    simp [Nat.add_comm]
  rw [e3, e4]
  simp

theorem within_setRow {w : World} {g : Nat} (cs : Array Value) : Within g (g + 1) w (w.setRow g cs) :=
  ⟨rfl, rfl, rfl, by simp, fun k _ ho => setRow_other w g k cs (by omega)⟩

/-- What 'append' leaves where there is room. -/
theorem run_append_room_rowK {P : Program} (w : World) (t tx ty e : TypeId) (i : TypeInfo) (ht : P.underlying t = some (.slice e)) (hi : P.info? e = some i) (g off sLen sCap : Nat) (x : Value) (n : Nat) (news : List Value) (hs : Src P i.size tx x n news w)
    (hroom : sLen + n ≤ sCap) (cur : Array Value) (tt : TypeId) (hg : w.heap[g]? = some (.cells cur tt (0, 0))) (hfit : off + sLen * i.size + news.length ≤ cur.size) :
    (Builtin.append_ #[t, tx] ty #[.slice (some ⟨g, off, none⟩) sLen sCap, x]).run P w = .ok (.slice (some ⟨g, off, none⟩) (sLen + n) sCap) (w.setRow g (cur.toList.take (off + sLen * i.size) ++ news ++ cur.toList.drop (off + sLen * i.size + news.length)).toArray) := by
  have hst := run_storeCells_at P g (off + sLen * i.size) tt news 0 cur w hg (by simpa using hfit) hs.one
  simp only [Nat.add_zero] at hst
  rcases hs.kind with ⟨e', hk⟩ | hk <;> simp [Builtin.append_, run_underlying ht, run_underlying hk, sizeOf, typeInfo, hi, hs.len, hroom, hs.cells, Addr.add_lit, hst]
end Go.Proofs.YtaeenedjmakelaaDoor

/- The contracts of slices.Insert at one pair: into the room that there is, at the end, and where there is none. -/
namespace Go.Proofs.YtaeenedjmakelaaDoor
open Go.RowKit

/-- A 'copy' whose run is known, as an operation of a region. -/
theorem wp_copyR {P : Program} (w : World) {o : Oper} {a : Act} {K : Act → World → Prop} {Q : Exit → Act → World → Prop} (d s : Operand) (t t' : TypeId)
    (ho : o.op = .call { callee := .builtin .copy, args := #[d, s], argTypes := #[t, t'] }) (v u : Value) (hd : a.eval d = v) (hs : a.eval s = u) {v' : Value} {w' : World}
    (hr : (Builtin.copy_ #[t, t'] o.type #[v, u]).run P w = .ok v' w') (h : K (a.put o.dst v') w') : o.wp P a w K Q := by
  unfold Oper.wp execOp
  simp only [ho, resolve, invoke, builtin, Sem.run_bind, Sem.run_pure, Result.andThen_ok, List.map_toArray, List.map_cons, List.map_nil, hd, hs, hr]
  exact h
theorem wpList_copyR {P : Program} (w : World) {ops : Array Oper} {rest : List Oper} {o : Oper} {a : Act} {Q : Exit → Act → World → Prop} (hgd : o.guard = none) (d s : Operand) (t t' : TypeId)
    (ho : o.op = .call { callee := .builtin .copy, args := #[d, s], argTypes := #[t, t'] }) (v u : Value) (hd : a.eval d = v) (hs : a.eval s = u) {v' : Value} {w' : World}
    (hr : (Builtin.copy_ #[t, t'] o.type #[v, u]).run P w = .ok v' w') (h : wpList P ops Q rest (a.put o.dst v') w') : wpList P ops Q (o :: rest) a w :=
  wpList_plain hgd fun _ hK => wp_copyR w d s t t' ho v u hd hs hr (hK _ _ h)
theorem step_copyR {P : Program} {ops : Array Oper} {o : Oper} {a : Act} {w : World} {K : Act → World → Prop} {Q : Exit → Act → World → Prop} {E : Prop}
    (hg : o.guard = none) (d x : Operand) (dT sT : TypeId) (hop : o.op = Op.call { callee := Callee.builtin Builtin.copy, args := #[d, x], argTypes := #[dT, sT] })
    (v u : Value) (hd : a.eval d = v) (hx : a.eval x = u) {v' : Value} {w' : World} (hr : (Builtin.copy_ #[dT, sT] o.type #[v, u]).run P w = .ok v' w') (hK : K (a.put o.dst v') w') :
    if Region.wanted o (yielded ops a.tmps) = true then Oper.wp P o a w K Q else E := by
  have hw : Region.wanted o (yielded ops a.tmps) = true := by simp [Region.wanted, hg]
  rw [if_pos hw]
  exact wp_copyR w d x dT sT hop v u hd hx hr hK

theorem infoPair : (Tryd.prog.info? 109).map (fun i => (i.zero, i.size, i.bytes)) = some (some (.agg #[.int .i64 0, .int .i64 0]), 2, 16) := by kernel_rfl

/-- The item that is put in, in a block of its own. -/
def ItemAt (w : World) (vb : Nat) (x y : Int) : Prop := w.heap[vb]? = some (.cells #[.int .i64 x, .int .i64 y] 109 (0, 0))
theorem ItemAt.cells {w : World} {vb : Nat} {x y : Int} (h : ItemAt w vb x y) (j : Nat) (v : Value) (hj : [Value.int .i64 x, .int .i64 y][j]? = some v) : w.cell? (Addr.add ⟨vb, 0, none⟩ j) = some v := by
  rw [Addr.add_lit, Nat.zero_add]
  have h' : w.heap[vb]? = _ := h
  rcases j with _ | _ | j
  · simpa [World.cell?, h'] using hj
  · simpa [World.cell?, h'] using hj
  · simp at hj

set_option maxRecDepth 100000 in
set_option maxHeartbeats 4000000 in
theorem insert_shift (g o c k n vb : Nat) (q : List (Int × Int)) (x y : Int) (w : World) (hP : PairsO w g o c 109 q) (hn : q.length = n) (hk : k < n) (hroom : n + 1 ≤ c) (hc63 : c ≤ 9223372036854775807) (hv : ItemAt w vb x y) (hne : vb ≠ g) :
    Calls Tryd.prog 132 #[.slice (some ⟨g, o, none⟩) n c, .int .i64 k, .slice (some ⟨vb, 0, none⟩) 1 1] w
      fun e w' => e = .returned (.slice (some ⟨g, o, none⟩) (n + 1) c) ∧ PairsO w' g o c 109 (q.take k ++ (x, y) :: q.drop k) ∧ Within g (g + 1) w w' := by
  obtain ⟨i, hi1, hi2, hi3, hi4⟩ := info_parts infoPair
  have hsz : (Tryd.prog.info? 109).map (·.size) = some 2 := by rw [hi1]; simp [hi3]
  obtain ⟨ns, hs1, hs2⟩ := hP.shape
  have hfz := hP.frozen
  have hcells := hP.cells
  obtain ⟨A, Z, h1, h2, h3, h4⟩ := hP
  have hl1 : (flatP (q.take k)).length = 2 * k := by rw [flatP_length, List.length_take]; omega
  have hl2 : (flatP (q.drop k)).length = 2 * (n - k) := by rw [flatP_length, List.length_drop, hn]
  have hZ : 2 ≤ Z.length := by omega
  have hov : ∀ lb cb, (callFunc 145 #[.slice (some ⟨vb, 0, none⟩) 1 1, .slice (some ⟨g, o + (k + 1) * 2, none⟩) lb cb]).run Tryd.prog w = .ok (.value (.bool false)) w := fun lb cb => by
    rw [run_callFunc_extern Tryd.func145 (by kernel_rfl) (by kernel_rfl) (by kernel_rfl) (e := Extern.SlicesOverlaps.overlaps #[104, 104] #[4]) (by kernel_rfl),
      Lib.run_overlaps_apart w 104 4 109 Tryd.underlying104 2 Tryd.sizeOf109 ⟨vb, 0, none⟩ ⟨g, o + (k + 1) * 2, none⟩ 1 1 lb cb hne 109 109 2 ns (by have h' : w.heap[vb]? = _ := hv; simp [World.shape?, h']) hs1 (by omega) (by have h' : w.heap[vb]? = _ := hv; simp [World.frozen?, h']) (by have h' : w.heap[vb]? = _ := hv; simp [World.frozen?, h'])]
    rfl
  have el : A ++ (flatP q ++ Z) = A ++ (flatP (q.take k) ++ flatP (q.drop k) ++ Z) := by rw [← flatP_split]
  rw [el] at h1
  obtain ⟨L0, eL0⟩ : ∃ L0, A ++ (flatP (q.take k) ++ flatP (q.drop k) ++ Z) = L0 := ⟨_, rfl⟩
  have hL0 : L0.length = o + (2 * k + 2 * (n - k) + Z.length) := by rw [← eL0]; simp only [List.length_append, hl1, hl2, h2]
  obtain ⟨F2, eF2⟩ : ∃ F2, flatP (q.drop k) = F2 := ⟨_, rfl⟩
  have hF2 : F2.length = 2 * (n - k) := by rw [← eF2]; exact hl2
  have hone : ∀ v ∈ F2, v.oneCell' = true := by rw [← eF2]; exact flatP_one _
  have hfin := shift_list A (flatP (q.take k)) F2 Z (.int .i64 x) (.int .i64 y) (o + k * 2) (2 * (n - k)) (by omega) hF2 hZ
  rw [eF2] at eL0 h1
  rw [eL0] at hfin h1
  obtain ⟨L1, eL1⟩ : ∃ L1, L0.take (o + k * 2 + 2) ++ F2 ++ L0.drop (o + k * 2 + 2 + 2 * (n - k)) = L1 := ⟨_, rfl⟩
  rw [eL1] at hfin
  have hL1 : L1.length = L0.length := by rw [← eL1]; simp only [List.length_append, List.length_take, List.length_drop, hF2]; omega
  have hsrc : ∀ j v, F2[j]? = some v → w.cell? ((⟨g, o + k * 2, none⟩ : Addr).add j) = some v := fun j v hj => by
    rw [Addr.add_lit, Nat.add_assoc]
    refine hcells _ v ?_
    rw [flatP_split q k, List.getElem?_append_right (by omega), eF2, hl1, show k * 2 + j - 2 * k = j by omega]
    exact hj
  have hcp1 : ∀ ty dc sc, (Builtin.copy_ #[104, 104] ty #[.slice (some ⟨g, o + (k + 1) * 2, none⟩) (n - k) dc, .slice (some ⟨g, o + k * 2, none⟩) (n + 1 - k) sc]).run Tryd.prog w.drew = .ok (goInt (n - k : Nat)) (w.drew.setRow g L1.toArray) := fun ty dc sc => by
    rw [run_copy_rowK w.drew _ _ ty 109 g (o + (k + 1) * 2) (n - k) dc ⟨g, o + k * 2, none⟩ (n + 1 - k) sc L0.toArray _ F2 2 (n - k) Tryd.underlying104 hsz h1 (by simp only [Nat.min_def]; split <;> omega) (by omega) hsrc (by simp only [List.size_toArray]; omega) hone]
    rw [hF2, ← eL1, show o + (k + 1) * 2 = o + k * 2 + 2 by omega]
  obtain ⟨W1, eW1⟩ : ∃ W1, w.drew.setRow g L1.toArray = W1 := ⟨_, rfl⟩
  have hW1 : W1.heap[g]? = some (.cells L1.toArray 109 (0, 0)) := by rw [← eW1]; exact setRow_heap w.drew g _ _ _ _ h1
  have hG1 : Within g (g + 1) w W1 := by rw [← eW1]; exact ((Within.refl _ _ w).drew).trans (within_setRow _)
  have hv1 : ItemAt W1 vb x y := by
    have := hG1.block vb (Array.getElem?_eq_some_iff.1 hv).1 (by omega)
    exact this.trans hv
  have hcp2 : ∀ ty dc, (Builtin.copy_ #[104, 104] ty #[.slice (some ⟨g, o + k * 2, none⟩) (n + 1 - k) dc, .slice (some ⟨vb, 0, none⟩) 1 1]).run Tryd.prog W1 = .ok (goInt (1 : Nat)) (W1.setRow g (L1.take (o + k * 2) ++ [Value.int .i64 x, Value.int .i64 y] ++ L1.drop (o + k * 2 + 2)).toArray) := fun ty dc => by
    rw [run_copy_rowK W1 _ _ ty 109 g (o + k * 2) (n + 1 - k) dc ⟨vb, 0, none⟩ 1 1 L1.toArray _ [.int .i64 x, .int .i64 y] 2 1 Tryd.underlying104 hsz hW1 (by simp only [Nat.min_def]; split <;> omega) (by simp) (fun j v hj => hv1.cells j v hj) (by simp only [List.size_toArray, List.length_cons, List.length_nil]; omega) (by simp [Value.oneCell'])]
    rfl
  rw [hfin] at hcp2
  have hF : Hid (PairsO (W1.setRow g (A ++ (flatP (q.take k) ++ Value.int .i64 x :: Value.int .i64 y :: F2 ++ Z.drop 2)).toArray) g o c 109 (q.take k ++ (x, y) :: q.drop k) ∧ Within g (g + 1) w (W1.setRow g (A ++ (flatP (q.take k) ++ Value.int .i64 x :: Value.int .i64 y :: F2 ++ Z.drop 2)).toArray)) := by
    refine Lib.hid ⟨⟨A, Z.drop 2, ?_, h2, ?_, ?_⟩, hG1.trans (within_setRow _)⟩
    · rw [setRow_heap W1 g _ _ _ _ hW1, flatP_append, ← eF2]; rfl
    · simp only [List.length_append, List.length_cons, List.length_take, List.length_drop, hn]; omega
    · simp only [List.length_append, List.length_cons, List.length_take, List.length_drop, hn]; omega
  obtain ⟨R, eR⟩ : ∃ R, W1.setRow g (A ++ (flatP (q.take k) ++ Value.int .i64 x :: Value.int .i64 y :: F2 ++ Z.drop 2)).toArray = R := ⟨_, rfl⟩
  rw [eR] at hF hcp2
  rw [eW1] at hcp1
  have hz2 : ¬ ((k : Int) = (n : Int)) := by omega
  have hw1 : IntKind.i64.wrap ((k : Int) + 1) = (k : Int) + 1 := by rw [IntKind.wrap_i64]; omega
  have hb1 : (0 : Int) ≤ (k : Int) + 1 := by omega
  have hin : k ≤ n := by omega
  have htn : ((k : Int) + 1).toNat = k + 1 := by omega
  have hb2 : ¬ (c = k + 1) := by omega
  have hb3 : (k : Int) ≤ (n : Int) + 1 := by omega
  have hb4 : ¬ (c = k) := by omega
  clear hi1 hi2 hi3 hi4 hsz hs1 hs2 hfz hcells h1 h2 h3 h4 hl1 hl2 hZ el eL0 hL0 eF2 hF2 hone hfin eL1 hL1 hsrc eW1 hW1 hG1 hv1 eR hv
  go_enter Tryd.func132, Tryd.ntmps132
  go_wp2_with (simp only [hov])
  go_region_law (refine step_copyR rfl _ _ 104 104 rfl _ _ (by simp [Act.eval, Act.put]) (by simp [Act.eval, Act.put]) (hcp1 _ _ _) ?_)
  go_wp2_with (at_builtin; refine wpList_copyR _ rfl _ _ 104 104 rfl _ _ rfl rfl (hcp2 _ _) ?_)
  go_ret
  exact ⟨rfl, hF.out⟩

/-- The item, as what is appended. -/
theorem itemSrc {w : World} {vb : Nat} {x y : Int} (h : ItemAt w vb x y) {z : Nat} (hz : z = 2) : Src Tryd.prog z 104 (.slice (some ⟨vb, 0, none⟩) 1 1) 1 [.int .i64 x, .int .i64 y] w := by
  subst hz
  exact Src.ofSlice w Tryd.underlying104 ⟨vb, 0, none⟩ 1 1 [.int .i64 x, .int .i64 y] rfl (fun j u hj => h.cells j u hj) (by simp [Value.oneCell'])
theorem ins_end (q : List (Int × Int)) (e : Int × Int) (k : Nat) (hk : q.length = k) : q.take k ++ e :: q.drop k = q ++ [e] := by
  subst hk; simp

set_option maxRecDepth 100000 in
set_option maxHeartbeats 4000000 in
theorem insert_end_room (g o c n vb : Nat) (q : List (Int × Int)) (x y : Int) (w : World) (hP : PairsO w g o c 109 q) (hn : q.length = n) (hroom : n + 1 ≤ c) (hc63 : c ≤ 9223372036854775807) (hv : ItemAt w vb x y) :
    Calls Tryd.prog 132 #[.slice (some ⟨g, o, none⟩) n c, .int .i64 n, .slice (some ⟨vb, 0, none⟩) 1 1] w
      fun e w' => e = .returned (.slice (some ⟨g, o, none⟩) (n + 1) c) ∧ PairsO w' g o c 109 (q.take n ++ (x, y) :: q.drop n) ∧ Within g (g + 1) w w' := by
  obtain ⟨i, hi1, hi2, hi3, hi4⟩ := info_parts infoPair
  obtain ⟨A, Z, h1, h2, h3, h4⟩ := hP
  have hl := flatP_length q
  rw [hn] at hl
  have hZ : 2 ≤ Z.length := by omega
  have hrun : ∀ ty, (Builtin.append_ #[104, 104] ty #[.slice (some ⟨g, o, none⟩) n c, .slice (some ⟨vb, 0, none⟩) 1 1]).run Tryd.prog w = _ := fun ty =>
    run_append_room_rowK w 104 104 ty 109 i Tryd.underlying104 hi1 g o n c _ 1 _ (itemSrc hv hi3) hroom _ _ h1 (by simp only [hi3, List.size_toArray, List.length_append, List.length_cons, List.length_nil]; omega)
  have hF : Hid (PairsO (w.setRow g ((A ++ (flatP q ++ Z)).toArray.toList.take (o + n * i.size) ++ [Value.int .i64 x, Value.int .i64 y] ++ (A ++ (flatP q ++ Z)).toArray.toList.drop (o + n * i.size + [Value.int .i64 x, .int .i64 y].length)).toArray) g o c 109 (q.take n ++ (x, y) :: q.drop n) ∧
      Within g (g + 1) w (w.setRow g ((A ++ (flatP q ++ Z)).toArray.toList.take (o + n * i.size) ++ [Value.int .i64 x, Value.int .i64 y] ++ (A ++ (flatP q ++ Z)).toArray.toList.drop (o + n * i.size + [Value.int .i64 x, .int .i64 y].length)).toArray)) := by
    refine Lib.hid ⟨⟨A, Z.drop 2, ?_, h2, ?_, ?_⟩, within_setRow _⟩
    · rw [setRow_heap w g _ _ _ _ h1, ins_end q _ n hn, flatP_append, hi3]
      have e0 : (A ++ (flatP q ++ Z)).toArray.toList = (A ++ flatP q) ++ Z := by simp
      have e1 : o + n * 2 = (A ++ flatP q).length := by rw [List.length_append, hl, h2]; omega
      have e2 : (A ++ flatP q ++ Z).take (A ++ flatP q).length = A ++ flatP q := List.take_left
      have e3 : (A ++ flatP q ++ Z).drop ((A ++ flatP q).length + 2) = Z.drop 2 := List.drop_length_add_append 2
      rw [e0, e1, e2]
      show some (Obj.cells (A ++ flatP q ++ [Value.int .i64 x, .int .i64 y] ++ (A ++ flatP q ++ Z).drop ((A ++ flatP q).length + 2)).toArray _ _) = _
      rw [e3]
      simp [flatP]
    · rw [ins_end q _ n hn]; simp only [List.length_append, List.length_cons, List.length_nil, hn]; omega
    · rw [ins_end q _ n hn]; simp only [List.length_append, List.length_cons, List.length_nil, List.length_drop, hn]; omega
  obtain ⟨R, eR⟩ : ∃ R, w.setRow g ((A ++ (flatP q ++ Z)).toArray.toList.take (o + n * i.size) ++ [Value.int .i64 x, Value.int .i64 y] ++ (A ++ (flatP q ++ Z)).toArray.toList.drop (o + n * i.size + [Value.int .i64 x, .int .i64 y].length)).toArray = R := ⟨_, rfl⟩
  rw [eR] at hrun hF
  clear hi1 hi2 hi3 hi4 h1 h2 h3 h4 hl hZ eR hv
  go_enter Tryd.func132, Tryd.ntmps132
  go_wp2_with (at_builtin; refine Lib.wpList_append_run _ rfl _ _ _ _ rfl _ _ rfl rfl _ _ (hrun _) ?_)
  go_ret
  exact ⟨rfl, hF.out⟩

/-- A new row of pairs. -/
theorem pairs_new (w : World) (o : Nat) (q : List (Int × Int)) (e : Int × Int) (z : Array Value) (hz : z.size = 2) (c m : Nat) (hc : q.length + 1 + m = c) :
    PairsO (w.drew.alloc (.cells ((flatP q ++ [Value.int .i64 e.1, Value.int .i64 e.2]).toArray ++ Builtin.zeroCells z m) o)) w.heap.size 0 c o (q ++ [e]) := by
  refine ⟨[], (Builtin.zeroCells z m).toList, ?_, rfl, by simp; omega, ?_⟩
  · have := heap_alloc_new w.drew (.cells ((flatP q ++ [Value.int .i64 e.1, Value.int .i64 e.2]).toArray ++ Builtin.zeroCells z m) o)
    rw [show w.heap.size = w.drew.heap.size from rfl, this, flatP_append]
    congr 2
    apply Array.ext'
    simp [flatP]
  · have hzz : (Builtin.zeroCells z m).toList.length = m * 2 := by rw [Array.length_toList, size_zeroCells, hz]
    rw [hzz, List.length_append, List.length_singleton]
    omega

set_option maxRecDepth 100000 in
set_option maxHeartbeats 4000000 in
theorem insert_end_grow (base : Option Addr) (n vb : Nat) (q : List (Int × Int)) (x y : Int) (w : World) (hP : (base = none ∧ n = 0) ∨ ∃ g o, base = some ⟨g, o, none⟩ ∧ PairsO w g o n 109 q) (hn : q.length = n) (hlen : n ≤ 1000) (hv : ItemAt w vb x y) :
    Calls Tryd.prog 132 #[.slice base n n, .int .i64 n, .slice (some ⟨vb, 0, none⟩) 1 1] w
      fun e w' => ∃ c, e = .returned (.slice (some ⟨w.heap.size, 0, none⟩) (n + 1) c) ∧ c ≤ 9223372036854775807 ∧ PairsO w' w.heap.size 0 c 109 (q.take n ++ (x, y) :: q.drop n) ∧ Grew w w' := by
  obtain ⟨i, hi1, hi2, hi3, hi4⟩ := info_parts infoPair
  have hl := flatP_length q
  rw [hn] at hl
  have hold : (Builtin.firstCells i.size n (.slice base n n)).run Tryd.prog w.drew = .ok (flatP q).toArray w.drew := by
    rcases hP with ⟨rfl, rfl⟩ | ⟨g, o, rfl, hP⟩
    · rw [List.length_eq_zero_iff.1 hn]
      exact run_firstCells_none w.drew i.size 0 0 0
    · refine run_firstCells_some w.drew i.size n ⟨g, o, none⟩ n n (flatP q) (by rw [hi3, hl]; omega) fun j v hj => ?_
      rw [Addr.add_lit]
      exact hP.cells j v hj
  have hrun : ∀ ty, (Builtin.append_ #[104, 104] ty #[.slice base n n, .slice (some ⟨vb, 0, none⟩) 1 1]).run Tryd.prog w = _ := fun ty =>
    run_append_grow_src w 104 104 ty 109 i _ Tryd.underlying104 hi1 hi2 base n n (flatP q) hold _ 1 _ (itemSrc hv hi3) (by omega) (by omega) (by rw [hi4]; exact growslice_fits (by omega) (by omega))
  have hcm := grownCap_le_maxLen w (n + 1) n 109 (by unfold maxLen; omega)
  have hcg := grownCap_ge w (n + 1) n 109
  obtain ⟨c, ec⟩ : ∃ c, grownCap w (n + 1) n 109 = c := ⟨_, rfl⟩
  rw [ec] at hrun hcm hcg
  have hF := Lib.hid (And.intro (pairs_new w 109 q (x, y) (Value.agg #[.int .i64 0, .int .i64 0]).cells rfl c (c - (n + 1)) (by omega)) ((((Grew.refl w).drew).alloc (.cells ((flatP q ++ [Value.int .i64 x, Value.int .i64 y]).toArray ++ Builtin.zeroCells (Value.agg #[.int .i64 0, .int .i64 0]).cells (c - (n + 1))) 109))))
  obtain ⟨R, eR⟩ : ∃ R, w.drew.alloc (.cells ((flatP q ++ [Value.int .i64 x, Value.int .i64 y]).toArray ++ Builtin.zeroCells (Value.agg #[.int .i64 0, .int .i64 0]).cells (c - (n + 1))) 109) = R := ⟨_, rfl⟩
  rw [eR] at hrun hF
  have hc63 : c ≤ 9223372036854775807 := by unfold maxLen at hcm; omega
  rw [ins_end q _ n hn]
  have hb : base = none ∨ ∃ g o, base = some ⟨g, o, none⟩ := hP.imp (fun h => h.1) fun ⟨g, o, h, _⟩ => ⟨g, o, h⟩
  have hb0 : base = none → n = 0 := fun h => by
    rcases hP with ⟨_, h0⟩ | ⟨g, o, h1, _⟩
    · exact h0
    · rw [h] at h1; cases h1
  clear hi1 hi2 hi3 hi4 hl hold eR hv hcm hcg ec hP
  go_enter Tryd.func132, Tryd.ntmps132
  rcases hb with rfl | ⟨g, o, rfl⟩
  · obtain rfl := hb0 rfl
    go_wp2_with (at_builtin; refine Lib.wpList_append_run _ rfl _ _ _ _ rfl _ _ rfl rfl _ _ (hrun _) ?_)
    go_ret
    exact ⟨c, rfl, hc63, hF.out⟩
  · go_wp2_with (at_builtin; refine Lib.wpList_append_run _ rfl _ _ _ _ rfl _ _ rfl rfl _ _ (hrun _) ?_)
    all_goals
      go_ret
      exact ⟨c, rfl, hc63, hF.out⟩

set_option maxRecDepth 100000 in
set_option maxHeartbeats 4000000 in
theorem insert_grow (g o k n vb : Nat) (q : List (Int × Int)) (x y : Int) (w : World) (hP : PairsO w g o n 109 q) (hn : q.length = n) (hk : k < n) (hlen : n ≤ 1000) (hv : ItemAt w vb x y) :
    Calls Tryd.prog 132 #[.slice (some ⟨g, o, none⟩) n n, .int .i64 k, .slice (some ⟨vb, 0, none⟩) 1 1] w
      fun e w' => ∃ c, e = .returned (.slice (some ⟨w.heap.size, 0, none⟩) (n + 1) c) ∧ c ≤ 9223372036854775807 ∧ PairsO w' w.heap.size 0 c 109 (q.take k ++ (x, y) :: q.drop k) ∧ Grew w w' := by
  obtain ⟨i, hi1, hi2, hi3, hi4⟩ := info_parts infoPair
  have hsz : (Tryd.prog.info? 109).map (·.size) = some 2 := by rw [hi1]; simp [hi3]
  have hl1 : (flatP (q.take k)).length = 2 * k := by rw [flatP_length, List.length_take]; omega
  have hl2 : (flatP (q.drop k)).length = 2 * (n - k) := by rw [flatP_length, List.length_drop, hn]
  have hcells := hP.cells
  have hold : (Builtin.firstCells i.size k (.slice (some ⟨g, o, none⟩) k n)).run Tryd.prog w.drew = .ok (flatP (q.take k)).toArray w.drew := by
    refine run_firstCells_some w.drew i.size k ⟨g, o, none⟩ k n (flatP (q.take k)) (by rw [hi3, hl1]; omega) fun j v hj => ?_
    rw [Addr.add_lit]
    refine hcells j v ?_
    rw [flatP_split q k, List.getElem?_append_left (List.getElem?_eq_some_iff.1 hj).1]
    exact hj
  have hkk : (n : Int) + 1 - (k : Int) = ((n + 1 - k : Nat) : Int) := by omega
  have hrz := fun ty => Lib.run_append_grow_zeros w 104 3 ty 109 i _ .i64 .i64 Tryd.underlying104 Tryd.underlying3 hi1 hi2 (some ⟨g, o, none⟩) k n (flatP (q.take k)) hold (n + 1 - k) (by omega) (by omega) (by omega) (by omega) (by rw [hi4]; omega) (by rw [hi4]; exact growslice_fits (by omega) (by omega))
  rw [← hkk] at hrz
  rw [show k + (n + 1 - k) = n + 1 by omega] at hrz
  have hcm := grownCap_le_maxLen w (n + 1) n 109 (by unfold maxLen; omega)
  have hcg := grownCap_ge w (n + 1) n 109
  obtain ⟨c, ec⟩ : ∃ c, grownCap w (n + 1) n 109 = c := ⟨_, rfl⟩
  rw [ec] at hrz hcm hcg
  have hc63 : c ≤ 9223372036854775807 := by unfold maxLen at hcm; omega
  obtain ⟨F1, eF1⟩ : ∃ F1, flatP (q.take k) = F1 := ⟨_, rfl⟩
  obtain ⟨F2, eF2⟩ : ∃ F2, flatP (q.drop k) = F2 := ⟨_, rfl⟩
  have hone : ∀ v ∈ F2, v.oneCell' = true := by rw [← eF2]; exact flatP_one _
  have hsrc : ∀ j v, F2[j]? = some v → w.cell? ((⟨g, o + k * 2, none⟩ : Addr).add j) = some v := fun j v hj => by
    rw [Addr.add_lit, Nat.add_assoc]
    refine hcells _ v ?_
    rw [flatP_split q k, List.getElem?_append_right (by omega), eF2, hl1, show k * 2 + j - 2 * k = j by omega]
    exact hj
  rw [eF1] at hl1 hrz
  rw [eF2] at hl2
  obtain ⟨Z, eZ⟩ : ∃ Z, (Builtin.zeroCells (Value.agg #[.int .i64 0, .int .i64 0]).cells (n + 1 - k)).toList ++ (Builtin.zeroCells (Value.agg #[.int .i64 0, .int .i64 0]).cells (c - (n + 1))).toList = Z := ⟨_, rfl⟩
  have hZ : Z.length = 2 * (n + 1 - k) + 2 * (c - (n + 1)) := by
    rw [← eZ, List.length_append, Array.length_toList, Array.length_toList, size_zeroCells, size_zeroCells]
    show (n + 1 - k) * 2 + (c - (n + 1)) * 2 = _
    omega
  have er : F1.toArray ++ Builtin.zeroCells (Value.agg #[.int .i64 0, .int .i64 0]).cells (n + 1 - k) ++ Builtin.zeroCells (Value.agg #[.int .i64 0, .int .i64 0]).cells (c - (n + 1)) = (F1 ++ Z).toArray := by
    apply Array.ext'
    rw [← eZ]
    simp
  rw [er] at hrz
  obtain ⟨W1, eW1⟩ : ∃ W1, w.drew.alloc (.cells (F1 ++ Z).toArray 109) = W1 := ⟨_, rfl⟩
  have hW1 : W1.heap[w.heap.size]? = some (.cells (F1 ++ Z).toArray 109 (0, 0)) := by rw [← eW1]; exact heap_alloc_new w.drew _
  have hg1 : Grew w W1 := by rw [← eW1]; exact ((Grew.refl w).drew).alloc _
  rw [eW1] at hrz
  have hv1 : ItemAt W1 vb x y := (hg1.block (Array.getElem?_eq_some_iff.1 hv).1).trans hv
  have hfin := grow_list F1 F2 Z (.int .i64 x) (.int .i64 y) (k * 2) (2 * (n - k)) (by omega) hl2
  obtain ⟨L1, eL1⟩ : ∃ L1, (F1 ++ Z).take (k * 2) ++ [Value.int .i64 x, Value.int .i64 y] ++ (F1 ++ Z).drop (k * 2 + 2) = L1 := ⟨_, rfl⟩
  rw [eL1] at hfin
  have hL1 : L1.length = 2 * k + Z.length := by rw [← eL1]; simp only [List.length_append, List.length_take, List.length_drop, List.length_cons, List.length_nil, hl1]; omega
  have hcpA : ∀ ty dc, (Builtin.copy_ #[104, 104] ty #[.slice (some ⟨w.heap.size, k * 2, none⟩) (n + 1 - k) dc, .slice (some ⟨vb, 0, none⟩) 1 1]).run Tryd.prog W1 = .ok (goInt (1 : Nat)) (W1.setRow w.heap.size L1.toArray) := fun ty dc => by
    rw [run_copy_rowK W1 _ _ ty 109 w.heap.size (k * 2) (n + 1 - k) dc ⟨vb, 0, none⟩ 1 1 (F1 ++ Z).toArray _ [.int .i64 x, .int .i64 y] 2 1 Tryd.underlying104 hsz hW1 (by simp only [Nat.min_def]; split <;> omega) (by simp) (fun j v hj => hv1.cells j v hj) (by simp only [List.size_toArray, List.length_append, List.length_cons, List.length_nil]; omega) (by simp [Value.oneCell'])]
    rw [← eL1]
    rfl
  obtain ⟨W2, eW2⟩ : ∃ W2, W1.setRow w.heap.size L1.toArray = W2 := ⟨_, rfl⟩
  have hW2 : W2.heap[w.heap.size]? = some (.cells L1.toArray 109 (0, 0)) := by rw [← eW2]; exact setRow_heap W1 w.heap.size _ _ _ _ hW1
  have hg2 : Grew w W2 := by rw [← eW2]; exact Within.grew hg1 (within_setRow _) (Nat.le_refl _)
  rw [eW2] at hcpA
  have hcpB : ∀ ty dc sc, (Builtin.copy_ #[104, 104] ty #[.slice (some ⟨w.heap.size, (k + 1) * 2, none⟩) (n - k) dc, .slice (some ⟨g, o + k * 2, none⟩) (n - k) sc]).run Tryd.prog W2.drew = .ok (goInt (n - k : Nat)) (W2.drew.setRow w.heap.size (L1.take (k * 2 + 2) ++ F2 ++ L1.drop (k * 2 + 2 + 2 * (n - k))).toArray) := fun ty dc sc => by
    rw [run_copy_rowK W2.drew _ _ ty 109 w.heap.size ((k + 1) * 2) (n - k) dc ⟨g, o + k * 2, none⟩ (n - k) sc L1.toArray _ F2 2 (n - k) Tryd.underlying104 hsz hW2 (by simp only [Nat.min_def]; split <;> omega) (by omega) (fun j v hj => (hg2.drew).cell (hsrc j v hj)) (by simp only [List.size_toArray]; omega) hone]
    rw [hl2, show (k + 1) * 2 = k * 2 + 2 by omega]
  rw [hfin] at hcpB
  have hF : Hid (PairsO (W2.drew.setRow w.heap.size (F1 ++ (Value.int .i64 x :: Value.int .i64 y :: F2) ++ Z.drop (2 + 2 * (n - k))).toArray) w.heap.size 0 c 109 (q.take k ++ (x, y) :: q.drop k) ∧ Grew w (W2.drew.setRow w.heap.size (F1 ++ (Value.int .i64 x :: Value.int .i64 y :: F2) ++ Z.drop (2 + 2 * (n - k))).toArray)) := by
    refine Lib.hid ⟨⟨[], Z.drop (2 + 2 * (n - k)), ?_, rfl, ?_, ?_⟩, Within.grew hg2.drew (within_setRow _) (Nat.le_refl _)⟩
    · rw [setRow_heap W2.drew w.heap.size _ _ _ _ hW2, flatP_append, ← eF2, ← eF1]; rfl
    · simp only [List.length_append, List.length_cons, List.length_take, List.length_drop, hn]; omega
    · simp only [List.length_append, List.length_cons, List.length_take, List.length_drop, hn]; omega
  obtain ⟨R, eR⟩ : ∃ R, W2.drew.setRow w.heap.size (F1 ++ (Value.int .i64 x :: Value.int .i64 y :: F2) ++ Z.drop (2 + 2 * (n - k))).toArray = R := ⟨_, rfl⟩
  rw [eR] at hF hcpB
  have hz2 : ¬ ((k : Int) = (n : Int)) := by omega
  have hw1 : IntKind.i64.wrap ((k : Int) + 1) = (k : Int) + 1 := by rw [IntKind.wrap_i64]; omega
  have hb1 : (0 : Int) ≤ (k : Int) + 1 := by omega
  have hin : k ≤ n := by omega
  have htn : ((k : Int) + 1).toNat = k + 1 := by omega
  have hGi : ¬ (c = k) := by omega
  have hGim : ¬ (c = k + 1) := by omega
  have hci : ¬ (n = k) := by omega
  have hb3 : (k : Int) ≤ (n : Int) := by omega
  clear hi1 hi2 hi3 hi4 hsz hl1 hl2 hcells hold hkk ec eF1 eF2 hone hsrc eZ hZ er eW1 hW1 hg1 hv1 hfin eL1 hL1 eW2 hW2 hg2 eR hv hP hcm
  go_enter Tryd.func132, Tryd.ntmps132
  go_wp2_with (first
    | (at_builtin; refine Lib.wpList_append_run _ rfl _ _ _ _ rfl _ _ rfl rfl _ _ (hrz _) ?_)
    | (at_builtin; refine wpList_copyR _ rfl _ _ 104 104 rfl _ _ rfl rfl (hcpA _ _) ?_))
  go_region_law (refine step_copyR rfl _ _ 104 104 rfl _ _ (by simp [Act.eval, Act.put]) (by simp [Act.eval, Act.put]) (hcpB _ _ _) ?_)
  go_wp2
  go_ret
  exact ⟨c, rfl, hc63, hF.out⟩
end Go.Proofs.YtaeenedjmakelaaDoor

/- The walk of slices.BinarySearchFunc at pairs. -/
namespace Go.Proofs.YtaeenedjmakelaaDoor
open Go.RowKit

theorem half_lt {lo hi : Nat} (h : lo < hi) : lo ≤ (lo + hi) / 2 ∧ (lo + hi) / 2 < hi := by omega

set_option maxRecDepth 100000 in
set_option maxHeartbeats 20000000 in
theorem bsearch_any (a : Option Addr) (b o c : Nat) (q : List (Int × Int)) (x y : Int) (fk : Nat) (lb : Array Value) (eg : ∀ (args : Array Value) (w : World), (callFunc fk args).run Tryd.prog w = .ok (.enter fk args) w) (w : World)
    (hC : ∀ (c1 w1 c2 w2 : Int) (W : World), Calls Tryd.prog fk (#[.agg #[.int .i64 c1, .int .i64 w1], .agg #[.int .i64 c2, .int .i64 w2]] ++ lb) W fun e w' => e = .returned (.int .i64 (cmpI w1 w2)) ∧ Grew W w')
    (hlen : q.length ≤ 1000) (hcap : q.length ≤ c ∧ c ≤ 9223372036854775807) (ha : 0 < q.length → a = some ⟨b, o, none⟩)
    (hq : ∀ j, j < q.length → w.cell? ⟨b, o + j * 2, none⟩ = some (.int .i64 (q.getD j (0, 0)).1) ∧ w.cell? ⟨b, o + j * 2 + 1, none⟩ = some (.int .i64 (q.getD j (0, 0)).2))
    (hs : ∀ s t, s ≤ t → t < q.length → (q.getD s (0, 0)).2 ≤ (q.getD t (0, 0)).2) :
    Calls Tryd.prog 131 #[.slice a q.length c, .agg #[.int .i64 x, .int .i64 y], .func (.func fk) #[] lb] w
      fun e w' => ∃ (k : Nat) (bb : Bool), e = .returned (.tuple #[.int .i64 (k : Int), .bool bb]) ∧ k ≤ q.length ∧ (∀ t, t < k → (q.getD t (0, 0)).2 < y) ∧ (∀ t, k ≤ t → t < q.length → y ≤ (q.getD t (0, 0)).2) ∧ Grew w w' := by
  obtain ⟨n, en⟩ : ∃ n, q.length = n := ⟨_, rfl⟩
  rw [en] at hlen hcap ha hq hs ⊢
  have HC := Lib.hid hC
  have HA := Lib.hid ha
  have HQ := Lib.hid hq
  have HS := Lib.hid hs
  clear hC ha hq hs en
  obtain ⟨hc1, hc2⟩ := hcap
  go_enter Tryd.func131, Tryd.ntmps131
  go_wp2
  have H0 : Hid (Grew w (w.alloc (.cells #[.int .i64 x, .int .i64 y] 109)) ∧ (w.alloc (.cells #[.int .i64 x, .int .i64 y] 109)).cell? ⟨w.heap.size, 0, none⟩ = some (.int .i64 x) ∧ (w.alloc (.cells #[.int .i64 x, .int .i64 y] 109)).cell? ⟨w.heap.size, 1, none⟩ = some (.int .i64 y)) :=
    Lib.hid ⟨(Grew.refl w).alloc _, by simp, by simp⟩
  go_loopg [9, 10] n (fun kx s9 s10 wr => ∃ lo hi : Nat, s9 = .int .i64 lo ∧ s10 = .int .i64 hi ∧ lo ≤ hi ∧ hi ≤ n ∧ hi - lo ≤ kx ∧
    Hid (Grew w wr ∧ wr.cell? ⟨w.heap.size, 0, none⟩ = some (.int .i64 x) ∧ wr.cell? ⟨w.heap.size, 1, none⟩ = some (.int .i64 y) ∧ (∀ t, t < lo → (q.getD t (0, 0)).2 < y) ∧ (∀ t, hi ≤ t → t < n → y ≤ (q.getD t (0, 0)).2)))
  case atStart => exact ⟨0, n, rfl, rfl, Nat.zero_le _, Nat.le_refl _, by omega, H0.out.1, H0.out.2.1, H0.out.2.2, fun t ht => absurd ht (Nat.not_lt_zero _), fun t h1 h2 => by omega⟩
  case round =>
    clear H0
    obtain ⟨lo, hi, rfl, rfl, hlh, hin, hg, HI⟩ := hrel
    have hcx := HI.out.2.1
    have hcy := HI.out.2.2.1
    by_cases hlt : lo < hi
    · obtain ⟨hh1, hh2⟩ := half_lt hlt
      obtain ⟨he1, he2⟩ := HQ.out ((lo + hi) / 2) (by omega)
      have he1 := HI.out.1.cell he1
      have he2 := HI.out.1.cell he2
      obtain rfl := HA.out (by omega)
      obtain ⟨u, eu⟩ : ∃ u, (q.getD ((lo + hi) / 2) (0, 0)).1 = u := ⟨_, rfl⟩
      obtain ⟨v, ev⟩ : ∃ v, (q.getD ((lo + hi) / 2) (0, 0)).2 = v := ⟨_, rfl⟩
      rw [eu] at he1
      rw [ev] at he2
      have HV := Lib.hid ev
      have HCV := Lib.hid fun W => HC.out u v x y W
      have hcm : cmpI v y < 0 ↔ v < y := by
        unfold cmpI
        by_cases h1 : v < y
        · simp [h1]
        · by_cases h2 : y < v <;> simp [h1, h2]
      obtain ⟨R, eR⟩ : ∃ R, cmpI v y = R := ⟨_, rfl⟩
      rw [eR] at HCV hcm
      clear eu ev eR

      have HFW : Hid (∀ W, Grew wr W → Grew w W ∧ W.cell? ⟨w.heap.size, 0, none⟩ = some (.int .i64 x) ∧ W.cell? ⟨w.heap.size, 1, none⟩ = some (.int .i64 y)) := Lib.hid fun W hW => ⟨HI.out.1.trans hW, hW.cell HI.out.2.1, hW.cell HI.out.2.2.1⟩
      by_cases hvy : v < y
      · have hR : R < 0 := hcm.2 hvy
        have HLO : Hid (∀ t, t < (lo + hi) / 2 + 1 → (q.getD t (0, 0)).2 < y) := Lib.hid fun t ht => by
          have := HS.out t ((lo + hi) / 2) (by omega) (by omega)
          rw [HV.out] at this
          omega
        go_wp2
        go_region_with (go_at_fn fk; refine (HCV.out _).mono ?_; rintro e w' ⟨rfl, hgw⟩; have HGW : Hid (Grew wr w') := Lib.hid (by first | exact hgw | exact ((Grew.refl wr).drewN _).trans hgw | exact ((Grew.refl wr).drew).trans hgw); clear hgw)
        all_goals
          go_wp2
          go_roundg (hi - ((lo + hi) / 2 + 1))
          case measure => omega
          case rel =>
            obtain ⟨f1, f2, f3⟩ := HFW.out _ HGW.out
            exact ⟨(lo + hi) / 2 + 1, hi, by rw [show ((lo : Int) + (hi : Int)) / 2 + 1 = (((lo + hi) / 2 + 1 : Nat) : Int) by omega], rfl, by omega, hin, Nat.le_refl _, f1, f2, f3, HLO.out, HI.out.2.2.2.2⟩
      · have hR : ¬ R < 0 := fun h => hvy (hcm.1 h)
        have HHI : Hid (∀ t, (lo + hi) / 2 ≤ t → t < n → y ≤ (q.getD t (0, 0)).2) := Lib.hid fun t ht htn => by
          have := HS.out ((lo + hi) / 2) t ht htn
          rw [HV.out] at this
          omega
        go_wp2
        go_region_with (go_at_fn fk; refine (HCV.out _).mono ?_; rintro e w' ⟨rfl, hgw⟩; have HGW : Hid (Grew wr w') := Lib.hid (by first | exact hgw | exact ((Grew.refl wr).drewN _).trans hgw | exact ((Grew.refl wr).drew).trans hgw); clear hgw)
        all_goals
          go_wp2
          go_roundg ((lo + hi) / 2 - lo)
          case measure => omega
          case rel =>
            obtain ⟨f1, f2, f3⟩ := HFW.out _ HGW.out
            exact ⟨lo, (lo + hi) / 2, rfl, by rw [show ((lo : Int) + (hi : Int)) / 2 = (((lo + hi) / 2 : Nat) : Int) by omega], by omega, by omega, Nat.le_refl _, f1, f2, f3, HI.out.2.2.2.1, HHI.out⟩
    · obtain rfl : hi = lo := by omega
      have HF : Hid (∀ W, Grew wr W → (∀ t, t < hi → (q.getD t (0, 0)).2 < y) ∧ (∀ t, hi ≤ t → t < n → y ≤ (q.getD t (0, 0)).2) ∧ Grew w W) := Lib.hid fun W hW => ⟨HI.out.2.2.2.1, HI.out.2.2.2.2, HI.out.1.trans hW⟩
      by_cases hn : hi < n
      · obtain ⟨he1, he2⟩ := HQ.out hi hn
        have he1 := HI.out.1.cell he1
        have he2 := HI.out.1.cell he2
        obtain rfl := HA.out (by omega)
        obtain ⟨u, eu⟩ : ∃ u, (q.getD hi (0, 0)).1 = u := ⟨_, rfl⟩
        obtain ⟨v, ev⟩ : ∃ v, (q.getD hi (0, 0)).2 = v := ⟨_, rfl⟩
        rw [eu] at he1
        rw [ev] at he2
        have HCV := Lib.hid fun W => HC.out u v x y W
        obtain ⟨R, eR⟩ : ∃ R, cmpI v y = R := ⟨_, rfl⟩
        rw [eR] at HCV
        clear eu ev eR
        have hd : decide ((hi : Int) < (n : Int)) = true := decide_eq_true (by omega)
        have HKP : Hid (∀ W W' : World, (Grew wr W ∧ W.cell? ⟨b, o + hi * 2, none⟩ = some (.int .i64 u) ∧ W.cell? ⟨b, o + hi * 2 + 1, none⟩ = some (.int .i64 v) ∧ W.cell? ⟨w.heap.size, 0, none⟩ = some (.int .i64 x) ∧ W.cell? ⟨w.heap.size, 1, none⟩ = some (.int .i64 y)) → Grew W W' →
            (Grew wr W' ∧ W'.cell? ⟨b, o + hi * 2, none⟩ = some (.int .i64 u) ∧ W'.cell? ⟨b, o + hi * 2 + 1, none⟩ = some (.int .i64 v) ∧ W'.cell? ⟨w.heap.size, 0, none⟩ = some (.int .i64 x) ∧ W'.cell? ⟨w.heap.size, 1, none⟩ = some (.int .i64 y))) :=
          Lib.hid fun W W' h g => ⟨h.1.trans g, g.cell h.2.1, g.cell h.2.2.1, g.cell h.2.2.2.1, g.cell h.2.2.2.2⟩
        have HS0 : Hid (Grew wr wr.drew ∧ wr.drew.cell? ⟨b, o + hi * 2, none⟩ = some (.int .i64 u) ∧ wr.drew.cell? ⟨b, o + hi * 2 + 1, none⟩ = some (.int .i64 v) ∧ wr.drew.cell? ⟨w.heap.size, 0, none⟩ = some (.int .i64 x) ∧ wr.drew.cell? ⟨w.heap.size, 1, none⟩ = some (.int .i64 y)) :=
          Lib.hid (HKP.out wr wr.drew ⟨Grew.refl _, he1, he2, hcx, hcy⟩ ((Grew.refl _).drew))
        go_wp2
        go_region_held3 (fun W => Grew wr W ∧ W.cell? ⟨b, o + hi * 2, none⟩ = some (.int .i64 u) ∧ W.cell? ⟨b, o + hi * 2 + 1, none⟩ = some (.int .i64 v) ∧ W.cell? ⟨w.heap.size, 0, none⟩ = some (.int .i64 x) ∧ W.cell? ⟨w.heap.size, 1, none⟩ = some (.int .i64 y))
          (first
            | exact HS0.out
            | assumption
            | exact HKP.out _ _ (by assumption) hgw
            | exact HKP.out _ _ (by assumption) ((Grew.refl _).drew))
          (first
            | (go_at_fn fk; refine (HCV.out _).mono ?_; rintro e w' ⟨rfl, hgw⟩))
        all_goals
          have HGF := Lib.hid (And.left (by assumption : Grew wr _ ∧ _))
          go_wp2
          go_ret2
          exact ⟨hi, _, rfl, hin, HF.out _ HGF.out⟩
      · have hd : decide ((hi : Int) < (n : Int)) = false := decide_eq_false (by omega)
        go_wp2
        go_quiet (fail)
        go_wp2
        go_ret2
        exact ⟨hi, _, rfl, hin, HF.out _ ((Grew.refl _).drewN _)⟩
end Go.Proofs.YtaeenedjmakelaaDoor

/- The contracts of slices.Insert at what a queue holds, and of the queue's put. -/
namespace Go.Proofs.YtaeenedjmakelaaDoor
open Go.RowKit

/-- What waits at B: nothing yet (then g is B), or the pairs q in the block g. -/
def WaitV (w : World) (B g : Nat) (a : Option Addr) (c : Nat) (q : List (Int × Int)) : Prop :=
  c ≤ 9223372036854775807 ∧ ((a = none ∧ q = [] ∧ c = 0 ∧ g = B) ∨ ∃ o, a = some ⟨g, o, none⟩ ∧ PairsO w g o c 109 q ∧ g ≠ B)
theorem WaitV.lt {w : World} {B g : Nat} {a : Option Addr} {c : Nat} {q : List (Int × Int)} (h : WaitV w B g a c q) (hB : B < w.heap.size) : g < w.heap.size := by
  rcases h.2 with ⟨_, _, _, rfl⟩ | ⟨o, _, h, _⟩
  · exact hB
  · exact h.lt
theorem WaitV.cap {w : World} {B g : Nat} {a : Option Addr} {c : Nat} {q : List (Int × Int)} (h : WaitV w B g a c q) : q.length ≤ c := by
  rcases h.2 with ⟨_, rfl, _, _⟩ | ⟨o, _, h, _⟩
  · exact Nat.zero_le _
  · exact h.cap
theorem WaitV.only {S : Nat → Prop} {w w' : World} {B g : Nat} {a : Option Addr} {c : Nat} {q : List (Int × Int)} (h : WaitV w B g a c q) (hO : Only S w w') (hS : g ≠ B → ¬ S g) : WaitV w' B g a c q := by
  refine ⟨h.1, h.2.imp id ?_⟩
  rintro ⟨o, h1, h2, h3⟩
  exact ⟨o, h1, h2.block (hO.block g h2.lt (hS h3)), h3⟩
theorem WaitV.grew {w w' : World} {B g : Nat} {a : Option Addr} {c : Nat} {q : List (Int × Int)} (h : WaitV w B g a c q) (hg : Grew w w') : WaitV w' B g a c q :=
  h.only (S := fun _ => False) hg.only fun _ e => e

theorem insert_any (B g : Nat) (a : Option Addr) (c k n vb : Nat) (q : List (Int × Int)) (x y : Int) (w : World) (hQ : WaitV w B g a c q) (hB : B < w.heap.size) (hn : q.length = n) (hk : k ≤ n) (hlen : n ≤ 1000) (hv : ItemAt w vb x y) (hne : vb ≠ g) :
    Calls Tryd.prog 132 #[.slice a n c, .int .i64 k, .slice (some ⟨vb, 0, none⟩) 1 1] w
      fun e w' => ∃ g' a' c', e = .returned (.slice a' (n + 1) c') ∧ WaitV w' B g' a' c' (q.take k ++ (x, y) :: q.drop k) ∧ g' ≠ B ∧ (g' = g ∨ w.heap.size ≤ g') ∧ Only (fun i => i = g ∧ g ≠ B) w w' := by
  obtain ⟨hc63, hQ⟩ := hQ
  rcases hQ with ⟨rfl, rfl, rfl, rfl⟩ | ⟨o, rfl, hP, hgB⟩
  · obtain rfl : n = 0 := by simpa using hn.symm
    obtain rfl : k = 0 := by omega
    refine (insert_end_grow none 0 vb [] x y w (.inl ⟨rfl, rfl⟩) rfl (by omega) hv).mono ?_
    rintro e w' ⟨c, rfl, hc, hP, hg⟩
    exact ⟨w.heap.size, _, c, rfl, ⟨hc, .inr ⟨0, rfl, hP, by omega⟩⟩, by omega, .inr (Nat.le_refl _), hg.only⟩
  · have hcap := hP.cap
    rw [hn] at hcap
    by_cases hr : n + 1 ≤ c
    · by_cases hkn : k < n
      · refine (insert_shift g o c k n vb q x y w hP hn hkn hr hc63 hv hne).mono ?_
        rintro e w' ⟨rfl, hP', hW⟩
        exact ⟨g, _, c, rfl, ⟨hc63, .inr ⟨o, rfl, hP', hgB⟩⟩, hgB, .inl rfl, hW.only fun i h1 h2 => ⟨by omega, hgB⟩⟩
      · obtain rfl : k = n := by omega
        refine (insert_end_room g o c k vb q x y w hP hn hr hc63 hv).mono ?_
        rintro e w' ⟨rfl, hP', hW⟩
        exact ⟨g, _, c, rfl, ⟨hc63, .inr ⟨o, rfl, hP', hgB⟩⟩, hgB, .inl rfl, hW.only fun i h1 h2 => ⟨by omega, hgB⟩⟩
    · obtain rfl : c = n := by omega
      by_cases hkn : k < c
      · refine (insert_grow g o k c vb q x y w hP hn hkn hlen hv).mono ?_
        rintro e w' ⟨c', rfl, hc, hP', hg⟩
        exact ⟨w.heap.size, _, c', rfl, ⟨hc, .inr ⟨0, rfl, hP', by omega⟩⟩, by omega, .inr (Nat.le_refl _), hg.only⟩
      · obtain rfl : k = c := by omega
        refine (insert_end_grow (some ⟨g, o, none⟩) k vb q x y w (.inr ⟨g, o, rfl, hP⟩) hn hlen hv).mono ?_
        rintro e w' ⟨c', rfl, hc, hP', hg⟩
        exact ⟨w.heap.size, _, c', rfl, ⟨hc, .inr ⟨0, rfl, hP', by omega⟩⟩, by omega, .inr (Nat.le_refl _), hg.only⟩

/-- The queue at B: its order is by water, and q waits. -/
def QB (w : World) (B g : Nat) (q : List (Int × Int)) : Prop :=
  ∃ a c, w.cell? ⟨B, 0, none⟩ = some (.func (.func 120) #[] #[]) ∧ w.cell? ⟨B, 1, none⟩ = some (.slice a q.length c) ∧ w.frozen? ⟨B, 1, none⟩ = false ∧ WaitV w B g a c q
theorem QB.only {S : Nat → Prop} {w w' : World} {B g : Nat} {q : List (Int × Int)} (h : QB w B g q) (hO : Only S w w') (hB : ¬ S B) (hS : g ≠ B → ¬ S g) : QB w' B g q := by
  obtain ⟨a, c, h1, h2, h3, h4⟩ := h
  exact ⟨a, c, hO.cell h1 hB, hO.cell h2 hB, hO.frozen h2 h3 hB, h4.only hO hS⟩
theorem QB.grew {w w' : World} {B g : Nat} {q : List (Int × Int)} (h : QB w B g q) (hg : Grew w w') : QB w' B g q := h.only (S := fun _ => False) hg.only (fun e => e) fun _ e => e
theorem QB.lt {w : World} {B g : Nat} {q : List (Int × Int)} (h : QB w B g q) : B < w.heap.size ∧ g < w.heap.size := by
  obtain ⟨a, c, h1, h2, h3, h4⟩ := h
  have hB := World.block_lt_of_cell? _ _ h1
  exact ⟨hB, h4.lt hB⟩

/-- What put leaves. -/
def PutPost (w : World) (B g : Nat) (q : List (Int × Int)) (x y : Int) (e : Ending) (w' : World) : Prop :=
  e = .returned (.tuple #[]) ∧ ∃ k g', k ≤ q.length ∧ (∀ t, t < k → (q.getD t (0, 0)).2 < y) ∧ (∀ t, k ≤ t → t < q.length → y ≤ (q.getD t (0, 0)).2) ∧ QB w' B g' (q.take k ++ (x, y) :: q.drop k) ∧ (g' = g ∨ w.heap.size ≤ g') ∧ Only (fun i => i = B ∨ i = g) w w'

set_option maxRecDepth 100000 in
set_option maxHeartbeats 4000000 in
theorem put_any (B g : Nat) (q : List (Int × Int)) (x y : Int) (w : World) (hQ : QB w B g q) (hlen : q.length ≤ 1000) (hs : ∀ s t, s ≤ t → t < q.length → (q.getD s (0, 0)).2 ≤ (q.getD t (0, 0)).2) :
    Calls Tryd.prog 122 #[.pointer (some ⟨B, 0, none⟩), .agg #[.int .i64 x, .int .i64 y]] w (PutPost w B g q x y) := by
  have hlt := hQ.lt
  obtain ⟨a, c, hc0, hc1, hf1, hW⟩ := hQ
  obtain ⟨n, en⟩ : ∃ n, q.length = n := ⟨_, rfl⟩
  have hcap := hW.cap
  have hc63 := hW.1
  rw [en] at hc1 hcap
  have hBV : B ≠ w.heap.size := by omega
  obtain ⟨w1, ew1⟩ : ∃ w1, w.alloc (.cells #[.int .i64 x, .int .i64 y] 109) = w1 := ⟨_, rfl⟩
  have hg1 : Grew w w1 := by rw [← ew1]; exact (Grew.refl w).alloc _
  have hv0 : w1.cell? ⟨w.heap.size, 0, none⟩ = some (.int .i64 x) := by rw [← ew1]; simp
  have hv1 : w1.cell? ⟨w.heap.size, 1, none⟩ = some (.int .i64 y) := by rw [← ew1]; simp
  have HKP : Hid (∀ W W' : World, (Grew w1 W ∧ W.cell? ⟨B, 0, none⟩ = some (.func (.func 120) #[] #[]) ∧ W.cell? ⟨B, 1, none⟩ = some (.slice a n c) ∧ W.cell? ⟨w.heap.size, 0, none⟩ = some (.int .i64 x) ∧ W.cell? ⟨w.heap.size, 1, none⟩ = some (.int .i64 y)) → Grew W W' →
      (Grew w1 W' ∧ W'.cell? ⟨B, 0, none⟩ = some (.func (.func 120) #[] #[]) ∧ W'.cell? ⟨B, 1, none⟩ = some (.slice a n c) ∧ W'.cell? ⟨w.heap.size, 0, none⟩ = some (.int .i64 x) ∧ W'.cell? ⟨w.heap.size, 1, none⟩ = some (.int .i64 y))) :=
    Lib.hid fun W W' h g => ⟨h.1.trans g, g.cell h.2.1, g.cell h.2.2.1, g.cell h.2.2.2.1, g.cell h.2.2.2.2⟩
  have HS0 : Hid (Grew w1 w1.drew ∧ w1.drew.cell? ⟨B, 0, none⟩ = some (.func (.func 120) #[] #[]) ∧ w1.drew.cell? ⟨B, 1, none⟩ = some (.slice a n c) ∧ w1.drew.cell? ⟨w.heap.size, 0, none⟩ = some (.int .i64 x) ∧ w1.drew.cell? ⟨w.heap.size, 1, none⟩ = some (.int .i64 y)) :=
    Lib.hid (HKP.out w1 w1.drew ⟨Grew.refl _, hg1.cell hc0, hg1.cell hc1, hv0, hv1⟩ ((Grew.refl _).drew))
  have HBS : Hid (∀ W, Grew w1 W → Calls Tryd.prog 131 #[.slice a n c, .agg #[.int .i64 x, .int .i64 y], .func (.func 120) #[] #[]] W
      fun e w' => ∃ (k : Nat) (bb : Bool), e = .returned (.tuple #[.int .i64 (k : Int), .bool bb]) ∧ k ≤ n ∧ Hid ((∀ t, t < k → (q.getD t (0, 0)).2 < y) ∧ (∀ t, k ≤ t → t < q.length → y ≤ (q.getD t (0, 0)).2)) ∧ Grew W w') := by
    refine Lib.hid fun W hgW => ?_
    have hWW := hW.grew (hg1.trans hgW)
    have key : ∀ b o, (0 < q.length → a = some ⟨b, o, none⟩) → (∀ j, j < q.length → W.cell? ⟨b, o + j * 2, none⟩ = some (.int .i64 (q.getD j (0, 0)).1) ∧ W.cell? ⟨b, o + j * 2 + 1, none⟩ = some (.int .i64 (q.getD j (0, 0)).2)) → Calls Tryd.prog 131 #[.slice a n c, .agg #[.int .i64 x, .int .i64 y], .func (.func 120) #[] #[]] W
        fun e w' => ∃ (k : Nat) (bb : Bool), e = .returned (.tuple #[.int .i64 (k : Int), .bool bb]) ∧ k ≤ n ∧ Hid ((∀ t, t < k → (q.getD t (0, 0)).2 < y) ∧ (∀ t, k ≤ t → t < q.length → y ≤ (q.getD t (0, 0)).2)) ∧ Grew W w' := fun b o h1 h2 => by
      have := bsearch_any a b o c q x y 120 #[] (enters_of Tryd.func120 (by kernel_rfl) rfl) W (fun c1 w1 c2 w2 W => byWater_any c1 w1 c2 w2 W) hlen ⟨by omega, hc63⟩ h1 h2 hs
      rw [en] at this
      refine this.mono ?_
      rintro e w' ⟨k, bb, rfl, hk, h3, h4, h5⟩
      exact ⟨k, bb, rfl, hk, Lib.hid ⟨h3, by rw [en]; exact h4⟩, h5⟩
    rcases hWW.2 with ⟨_, rfl, _, _⟩ | ⟨o, rfl, hP, _⟩
    · exact key 0 0 (fun h => absurd h (Nat.lt_irrefl _)) (fun j h => absurd h (Nat.not_lt_zero _))
    · refine key g o (fun _ => rfl) fun j hj => ?_
      have := hP.cell j hj
      rw [show j * 2 = 2 * j by omega]
      exact this
  have HIN : Hid (∀ (W : World) (k : Nat), Grew w1 W → k ≤ n → Calls Tryd.prog 132 #[.slice a n c, .int .i64 k, .slice (some ⟨W.heap.size, 0, none⟩) 1 1] (W.alloc (.cells #[.int .i64 x, .int .i64 y] 109))
      fun e w' => ∃ a' c', e = .returned (.slice a' (n + 1) c') ∧ w'.cell? ⟨B, 1, none⟩ = some (.slice a n c) ∧ w'.frozen? ⟨B, 1, none⟩ = false ∧
        Hid (∃ g', QB (w'.setCell ⟨B, 1, none⟩ (.slice a' (n + 1) c')) B g' (q.take k ++ (x, y) :: q.drop k) ∧ (g' = g ∨ w.heap.size ≤ g') ∧ Only (fun i => i = B ∨ i = g) w (w'.setCell ⟨B, 1, none⟩ (.slice a' (n + 1) c')))) := by
    refine Lib.hid fun W k hgW hk => ?_
    have hgA : Grew w (W.alloc (.cells #[.int .i64 x, .int .i64 y] 109)) := (hg1.trans hgW).alloc _
    have hsz := (hg1.trans hgW).size
    refine (insert_any B g a c k n W.heap.size q x y _ (hW.grew hgA) (Nat.lt_of_lt_of_le hlt.1 hgA.size) en hk (by omega) (heap_alloc_new W _) (by omega)).mono ?_
    rintro e w' ⟨g', a', c', rfl, hW', hgB, hg', hO⟩
    have hnB : ¬ (B = g ∧ g ≠ B) := fun h => h.2 h.1.symm
    have k0 := hO.cell (hgA.cell hc0) hnB
    have k1 := hO.cell (hgA.cell hc1) hnB
    have kf := hO.frozen (hgA.cell hc1) ((Grew.only (S := fun _ => False) hgA).frozen hc1 hf1 (fun e => e)) hnB
    refine ⟨a', c', rfl, k1, kf, Lib.hid ⟨g', ⟨a', c', ?_, ?_, ?_, ?_⟩, ?_, ?_⟩⟩
    · rw [World.cell?_setCell_other _ _ _ _ (by simp)]; exact k0
    · rw [World.cell?_setCell_same _ _ _ k1]
      simp only [List.length_append, List.length_cons, List.length_take, List.length_drop]
      congr 2
      omega
    · simpa using kf
    · exact hW'.only (S := fun i => i = B) ((Only.refl (fun i => i = B) w').setCell (p := ⟨B, 1, none⟩) rfl _) (fun h => h)
    · have := hgA.size
      rcases hg' with h | h
      · exact .inl h
      · exact .inr (by omega)
    · exact ((hgA.only (S := fun i => i = B ∨ i = g)).trans hO fun i _ h => .inr h.1).setCell (.inl rfl) _
  have hsz1 : w1.heap.size = w.heap.size + 1 := by rw [← ew1]; simp
  have HFR : Hid (∀ W, Grew w1 W → W.frozen? ⟨B, 1, none⟩ = false ∧ B < W.heap.size ∧ w.heap.size < W.heap.size) := Lib.hid fun W hgW => ⟨(Grew.only (S := fun _ => False) (hg1.trans hgW)).frozen hc1 hf1 (fun e => e), by have := hgW.size; omega, by have := hgW.size; omega⟩
  have HEN := Lib.hid en
  clear hW hcap hlen hs hc0 hc1 hf1 hlt hv0 hv1 hg1 en hsz1
  unfold PutPost
  go_enter Tryd.func122, Tryd.ntmps122
  go_wp2_with (fail)
  go_region_held3 (fun W => Grew w1 W ∧ W.cell? ⟨B, 0, none⟩ = some (.func (.func 120) #[] #[]) ∧ W.cell? ⟨B, 1, none⟩ = some (.slice a n c) ∧ W.cell? ⟨w.heap.size, 0, none⟩ = some (.int .i64 x) ∧ W.cell? ⟨w.heap.size, 1, none⟩ = some (.int .i64 y))
    (first
      | exact HS0.out
      | assumption
      | exact HKP.out _ _ (by assumption) hgw
      | exact HKP.out _ _ (by assumption) ((Grew.refl _).drew))
    (first
      | (go_at_call 131; refine (HBS.out _ (And.left (by assumption))).mono ?_; rintro e w2 ⟨k, bb, rfl, hk, hkk, hgw⟩))
  have HS2 : Hid (Grew w1 w2 ∧ w2.cell? ⟨B, 0, none⟩ = some (.func (.func 120) #[] #[]) ∧ w2.cell? ⟨B, 1, none⟩ = some (.slice a n c) ∧ w2.cell? ⟨w.heap.size, 0, none⟩ = some (.int .i64 x) ∧ w2.cell? ⟨w.heap.size, 1, none⟩ = some (.int .i64 y)) := Lib.hid (by assumption)
  obtain ⟨hf2, hB2, hV2⟩ := HFR.out w2 HS2.out.1
  have hc2 := HS2.out.2.2.1
  have hx2 := HS2.out.2.2.2.1
  have hy2 := HS2.out.2.2.2.2
  have HI2 := Lib.hid (HIN.out w2.drew k HS2.out.1.drew hk)
  clear HKP HS0 HBS HIN HFR
  go_wp2
  go_region_with (go_at_call 132; refine HI2.out.mono ?_; rintro e w4 ⟨a', c', rfl, hc4, hf4, hQ4⟩)
  all_goals
    go_wp2
    go_end0
    obtain ⟨g', q1, q2, q3⟩ := hQ4.out
    exact ⟨rfl, k, g', by rw [HEN.out]; exact hk, hkk.out.1, hkk.out.2, q1, q2, q3⟩
end Go.Proofs.YtaeenedjmakelaaDoor

/- The contract of FillByQueue's tell: a cell's water is laid down, and the cell waits. -/
namespace Go.Proofs.YtaeenedjmakelaaDoor
open Go.RowKit

/-- What tell leaves. -/
def TellPost (w : World) (B g g2 N c2 I : Nat) (x : Int) (q : List (Int × Int)) (xs : List Int) (e : Ending) (w' : World) : Prop :=
  e = .returned (.tuple #[]) ∧ ∃ k g', k ≤ q.length ∧ (∀ t, t < k → (q.getD t (0, 0)).2 < x) ∧ (∀ t, k ≤ t → t < q.length → x ≤ (q.getD t (0, 0)).2) ∧ QB w' B g' (q.take k ++ ((I : Int), x) :: q.drop k) ∧ (g' = g ∨ w.heap.size ≤ g') ∧
    IntsO 3 g2 (g2 + 1) w' (.slice (some ⟨g2, 0, none⟩) N c2) (xs.set I x) ∧ Only (fun i => i = B ∨ i = g ∨ i = g2) w w'

set_option maxRecDepth 100000 in
set_option maxHeartbeats 4000000 in
theorem tell_any (B Bw g g2 N c2 I : Nat) (x : Int) (q : List (Int × Int)) (xs : List Int) (w : World) (hQ : QB w B g q) (hlen : q.length ≤ 1000) (hs : ∀ s t, s ≤ t → t < q.length → (q.getD s (0, 0)).2 ≤ (q.getD t (0, 0)).2)
    (hO : IntsO 3 g2 (g2 + 1) w (.slice (some ⟨g2, 0, none⟩) N c2) xs) (hw : w.cell? ⟨Bw, 0, none⟩ = some (.slice (some ⟨g2, 0, none⟩) N c2)) (hI : I < N) (hd : g2 < B ∧ (g = B ∨ g2 < g)) :
    Calls Tryd.prog 121 #[.int .i64 I, .int .i64 x, .pointer (some ⟨Bw, 0, none⟩), .pointer (some ⟨B, 0, none⟩)] w (TellPost w B g g2 N c2 I x q xs) := by
  have hN : N = xs.length := by
    rcases hO.shape with ⟨e, _⟩ | ⟨g', c', e, _⟩
    · cases e
    · simp only [Value.slice.injEq] at e
      exact e.2.1
  obtain ⟨hcI, hfI⟩ := hO.at rfl (i := I) (by omega)
  have hlt := hQ.lt
  have hg2 := (World.ownsRow.lt hO.1 g2 rfl).2
  obtain ⟨w1, ew1⟩ : ∃ w1, w.setCell ⟨g2, I, none⟩ (.int .i64 x) = w1 := ⟨_, rfl⟩
  have hO1 : IntsO 3 g2 (g2 + 1) w1 (.slice (some ⟨g2, 0, none⟩) N c2) (xs.set I x) := by rw [← ew1]; exact hO.set rfl I x
  have hW1 : Only (fun i => i = g2) w w1 := by rw [← ew1]; exact (Only.refl (fun i => i = g2) w).setCell (p := ⟨g2, I, none⟩) rfl _
  have hQ1 : QB w1 B g q := hQ.only hW1 (show ¬ B = g2 by omega) (fun h => show ¬ g = g2 by rcases hd.2 with h1 | h1 <;> omega)
  have HP : Hid (Calls Tryd.prog 122 #[.pointer (some ⟨B, 0, none⟩), .agg #[.int .i64 I, .int .i64 x]] w1 (TellPost w B g g2 N c2 I x q xs)) := by
    refine Lib.hid ((put_any B g q I x w1 hQ1 hlen hs).mono ?_)
    rintro e w' ⟨rfl, k, g', h1, h2, h3, h4, h5, h6⟩
    refine ⟨rfl, k, g', h1, h2, h3, h4, ?_, hO1.only h6 (fun i h7 h8 => ?_), (hW1.mono (T := fun i => i = B ∨ i = g ∨ i = g2) fun _ _ h => .inr (.inr h)).trans h6 fun _ _ h => h.imp id .inl⟩
    · have := hW1.size
      rcases h5 with h | h
      · exact .inl h
      · exact .inr (by omega)
    · have e : i = g2 := by omega
      subst e
      rcases hd.2 with h9 | h9 <;> omega
  have hIi : (I : Int) < (N : Int) := by omega
  clear hQ hs hO hO1 hW1 hQ1 hlt hd hN
  unfold TellPost
  go_enter Tryd.func121, Tryd.ntmps121
  go_wp2_with (fail)
  refine HP.out.mono ?_
  rintro e w' ⟨rfl, hh⟩
  go_wp2
  go_end0
  exact ⟨rfl, hh⟩
end Go.Proofs.YtaeenedjmakelaaDoor

/- The state of impl.FillByQueue between its steps. -/
namespace Go.Proofs.YtaeenedjmakelaaDoor
open Go.RowKit

theorem pairwise_le {q : List (Int × Int)} (h : q.Pairwise fun a b => a.2 ≤ b.2) (s t : Nat) (hst : s ≤ t) (ht : t < q.length) : (q.getD s (0, 0)).2 ≤ (q.getD t (0, 0)).2 := by
  by_cases e : s = t
  · subst e; exact Int.le_refl _
  · have := List.pairwise_iff_getElem.1 h s t (by omega) ht (by omega)
    simpa [ht, show s < q.length by omega] using this
theorem take_le {q : List (Int × Int)} {k : Nat} {y : Int} (h : ∀ t, t < k → (q.getD t (0, 0)).2 < y) : ∀ x, x ∈ q.take k → x.2 ≤ y := by
  intro x hx
  obtain ⟨i, hi, rfl⟩ := List.getElem_of_mem hx
  simp only [List.length_take] at hi
  have := h i (by omega)
  simp only [List.getElem_take]
  simp [show i < q.length by omega] at this
  omega
theorem drop_ge {q : List (Int × Int)} {k : Nat} {y : Int} (h : ∀ t, k ≤ t → t < q.length → y ≤ (q.getD t (0, 0)).2) : ∀ x, x ∈ q.drop k → y ≤ x.2 := by
  intro x hx
  obtain ⟨i, hi, rfl⟩ := List.getElem_of_mem hx
  simp only [List.length_drop] at hi
  have := h (k + i) (by omega) (by omega)
  simp only [List.getElem_drop]
  simpa [show k + i < q.length by omega] using this
theorem ins_length (q : List (Int × Int)) (k : Nat) (e : Int × Int) : (q.take k ++ e :: q.drop k).length = q.length + 1 := by
  have : (q.take k ++ q.drop k).length = q.length := by rw [List.take_append_drop]
  simp only [List.length_append, List.length_cons] at this ⊢
  omega

/-- The heights p in g1, the water xs in g2 (which the box Bw holds), the queue q at B. -/
structure FState (w : World) (g1 c1 g2 c2 Bw B N : Nat) (p : List Int) (wr : World) (xs : List Int) (q : List (Int × Int)) (g : Nat) : Prop where
  hts : IntsO 3 w.heap.size g2 wr (.slice (some ⟨g1, 0, none⟩) N c1) p
  wat : IntsO 3 g2 (g2 + 1) wr (.slice (some ⟨g2, 0, none⟩) N c2) xs
  box : wr.cell? ⟨Bw, 0, none⟩ = some (.slice (some ⟨g2, 0, none⟩) N c2)
  que : QB wr B g q
  ord : g = B ∨ B < g
  grew : Grew w wr
  sta : w.heap.size ≤ g2 ∧ g2 < Bw ∧ Bw < B
section
variable {w wr w' : World} {g1 c1 g2 c2 Bw B N g : Nat} {p xs : List Int} {q : List (Int × Int)}
theorem FState.step (h : FState w g1 c1 g2 c2 Bw B N p wr xs q g) (hg : Grew wr w') : FState w g1 c1 g2 c2 Bw B N p w' xs q g :=
  ⟨h.hts.grew hg, h.wat.grew hg, hg.cell h.box, h.que.grew hg, h.ord, h.grew.trans hg, h.sta⟩
theorem FState.lens (h : FState w g1 c1 g2 c2 Bw B N p wr xs q g) : xs.length = N ∧ p.length = N := by
  have key : ∀ {lo hi : Nat} {W : World} {gg cc : Nat} {zs : List Int}, IntsO 3 lo hi W (.slice (some ⟨gg, 0, none⟩) N cc) zs → zs.length = N := fun {lo hi W gg cc zs} hO => by
    rcases hO.shape with ⟨e, _⟩ | ⟨g', c', e, _⟩
    · cases e
    · simp only [Value.slice.injEq] at e
      exact e.2.1.symm
  exact ⟨key h.wat, key h.hts⟩
/-- What tell leaves of the state. -/
theorem FState.tell (h : FState w g1 c1 g2 c2 Bw B N p wr xs q g) {I : Nat} {x : Int} {e : Ending} (hT : TellPost wr B g g2 N c2 I x q xs e w') :
    e = .returned (.tuple #[]) ∧ ∃ k g', (∀ z, z ∈ q.take k → z.2 ≤ x) ∧ (∀ z, z ∈ q.drop k → x ≤ z.2) ∧ FState w g1 c1 g2 c2 Bw B N p w' (xs.set I x) (q.take k ++ ((I : Int), x) :: q.drop k) g' ∧ (g' = g ∨ wr.heap.size ≤ g') ∧ Only (fun i => i = B ∨ i = g ∨ i = g2) wr w' := by
  obtain ⟨rfl, k, g', h1, h2, h3, h4, h5, h6, h7⟩ := hT
  obtain ⟨s1, s2, s3⟩ := h.sta
  have ho := h.ord
  have hB := h.que.lt.1
  refine ⟨rfl, k, g', take_le h2, drop_ge h3, ⟨h.hts.only h7 (fun i a b => ?_), h6, h7.cell h.box ?_, h4, ?_, Only.grew h.grew h7 (fun i a => ?_), h.sta⟩, h5, h7⟩
  · show ¬ (i = B ∨ i = g ∨ i = g2)
    omega
  · show ¬ (Bw = B ∨ Bw = g ∨ Bw = g2)
    omega
  · omega
  · show ¬ (i = B ∨ i = g ∨ i = g2)
    omega
theorem FState.call (h : FState w g1 c1 g2 c2 Bw B N p wr xs q g) {I : Nat} (x : Int) (hI : I < N) (hlen : q.length ≤ 1000) (hs : q.Pairwise fun a b => a.2 ≤ b.2) :
    Calls Tryd.prog 121 #[.int .i64 I, .int .i64 x, .pointer (some ⟨Bw, 0, none⟩), .pointer (some ⟨B, 0, none⟩)] wr fun e w' =>
      e = .returned (.tuple #[]) ∧ ∃ k g', (∀ z, z ∈ q.take k → z.2 ≤ x) ∧ (∀ z, z ∈ q.drop k → x ≤ z.2) ∧ FState w g1 c1 g2 c2 Bw B N p w' (xs.set I x) (q.take k ++ ((I : Int), x) :: q.drop k) g' ∧ (g' = g ∨ wr.heap.size ≤ g') ∧ Only (fun i => i = B ∨ i = g ∨ i = g2) wr w' := by
  obtain ⟨s1, s2, s3⟩ := h.sta
  have ho := h.ord
  exact (tell_any B Bw g g2 N c2 I x q xs wr h.que hlen (pairwise_le hs) h.wat h.box hI ⟨by omega, by omega⟩).mono fun e w' hT => h.tell hT
/-- Does it wait? -/
theorem FState.empty (h : FState w g1 c1 g2 c2 Bw B N p wr xs q g) : Calls Tryd.prog 123 #[.pointer (some ⟨B, 0, none⟩)] wr fun e w' => e = .returned (.bool (decide (q.length = 0))) ∧ w' = wr := by
  obtain ⟨a, c, h1, h2, h3, h4⟩ := h.que
  exact isEmpty_any B a q.length c wr h2
end
section
variable {w wr : World} {g1 c1 g2 c2 Bw B N g : Nat} {p xs : List Int} {e : Int × Int} {q : List (Int × Int)}
theorem FState.take (h : FState w g1 c1 g2 c2 Bw B N p wr xs (e :: q) g) : Calls Tryd.prog 124 #[.pointer (some ⟨B, 0, none⟩)] wr fun z w' => z = .returned (.agg #[.int .i64 e.1, .int .i64 e.2]) ∧ FState w g1 c1 g2 c2 Bw B N p w' xs q g := by
  obtain ⟨a, c, h1, h2, h3, hc, h4⟩ := h.que
  obtain ⟨s1, s2, s3⟩ := h.sta
  have ho := h.ord
  rcases h4 with ⟨_, h5, _, _⟩ | ⟨o, rfl, hP, hgB⟩
  · cases h5
  obtain ⟨c', rfl⟩ : ∃ c', c = c' + 1 := ⟨c - 1, by have := hP.cap; simp only [List.length_cons] at this; omega⟩
  have hcap := hP.cap
  simp only [List.length_cons] at hcap h2
  have hx := hP.cell 0 (by simp)
  simp only [Nat.mul_zero, Nat.add_zero, List.getD_cons_zero] at hx
  refine (take_any B g o q.length c' e.1 e.2 wr h.que.lt.1 hP.lt h2 h3 (by omega) hc hx.1 hx.2).mono ?_
  rintro z w' ⟨rfl, o', k1, k2, k3⟩
  have hO : Only (fun i => i = B) wr (wr.setCell ⟨B, 1, none⟩ (.slice (some ⟨g, o', none⟩) q.length c')) := (Only.refl (fun i => i = B) wr).setCell (p := ⟨B, 1, none⟩) rfl _
  refine ⟨rfl, FState.step ⟨h.hts.only hO (fun i a b => ?_), h.wat.only hO (fun i a b => ?_), hO.cell h.box ?_, ⟨some ⟨g, o', none⟩, c', ?_, ?_, ?_, by omega, .inr ⟨o', rfl, PairsO.block ?_ (hO.block g hP.lt hgB), hgB⟩⟩, ho, Only.grew h.grew hO (fun i a => ?_), h.sta⟩ k3⟩
  · show ¬ i = B
    omega
  · show ¬ i = B
    omega
  · show ¬ Bw = B
    omega
  · rw [World.cell?_setCell_other _ _ _ _ (by simp)]; exact h1
  · exact World.cell?_setCell_same _ _ _ h2
  · simpa using h3
  · by_cases h0 : c' = 0
    · subst h0
      obtain rfl := k2 rfl
      have : q = [] := List.eq_nil_of_length_eq_zero (by omega)
      subst this
      exact hP.none
    · obtain rfl := k1 (by omega)
      exact hP.tail
  · show ¬ i = B
    omega
end
end Go.Proofs.YtaeenedjmakelaaDoor
