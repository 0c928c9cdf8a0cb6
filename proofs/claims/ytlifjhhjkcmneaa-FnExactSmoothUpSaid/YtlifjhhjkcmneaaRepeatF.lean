/- slices.Repeat of one fraction: copies of rows whose elements are two cells. -/
import Derived.Test.YtlifjhhjkcmneaaRepeat
import Derived.Test.YtlifjhhjkcmneaaBlk
import Derived.Test.YtlifjhhjkcmneaaLeast
namespace Go.Proofs.Ytlifjhhjkcmneaa
open Go.RowKit

theorem flatF_rep (n : Nat) : flatF (List.replicate n (0, 0)) = List.replicate (n * 2) (.int .i64 0) := by
  induction n with
  | zero => rfl
  | succ n ih =>
    rw [List.replicate_succ, show (n + 1) * 2 = n * 2 + 1 + 1 by omega, List.replicate_succ, List.replicate_succ, ← ih]
    rfl
theorem madeF (n : Nat) : (madeCells #[Value.int .i64 0, .int .i64 0] (n * 2)).toList = flatF (List.replicate n (0, 0)) := by
  rw [flatF_rep]
  have : ∀ x, (#[Value.int .i64 0, .int .i64 0])[x % (#[Value.int .i64 0, .int .i64 0]).size]! = .int .i64 0 := fun x => by
    have h : x % 2 < 2 := Nat.mod_lt _ (by decide)
    show (#[Value.int .i64 0, .int .i64 0])[x % 2]! = .int .i64 0
    rcases (show x % 2 = 0 ∨ x % 2 = 1 by omega) with e | e <;> rw [e] <;> rfl
  simp only [madeCells, Array.toList_map, Array.toList_range]
  refine List.ext_getElem (by simp) fun i h1 h2 => ?_
  simp only [List.getElem_map, List.getElem_replicate]
  exact this _

/-- k of n are written. -/
def repF (n k : Nat) (y : Int × Int) : List Value := flatF (List.replicate k y ++ List.replicate (n - k) (0, 0))
theorem repF_len (n k : Nat) (y : Int × Int) (h : k ≤ n) : (repF n k y).length = n * 2 := by rw [repF, flatF_len]; simp; omega
theorem repF_splice (n k j : Nat) (y : Int × Int) (h : k + j ≤ n) : splice (repF n k y) (k * 2) (flatF (List.replicate j y)) = repF n (k + j) y := by
  have e1 : repF n k y = flatF (List.replicate k y) ++ (flatF (List.replicate j (0, 0)) ++ flatF (List.replicate (n - (k + j)) (0, 0))) := by
    rw [repF, flatF_append, ← flatF_append (List.replicate j (0, 0)), List.replicate_append_replicate, show j + (n - (k + j)) = n - k by omega]
  have e2 : repF n (k + j) y = flatF (List.replicate k y) ++ (flatF (List.replicate j y) ++ flatF (List.replicate (n - (k + j)) (0, 0))) := by
    rw [repF, flatF_append, ← List.replicate_append_replicate, flatF_append, List.append_assoc]
  have l1 : (flatF (List.replicate k y)).length = k * 2 := by rw [flatF_len]; simp
  have l2 : (flatF (List.replicate j (0, 0))).length = j * 2 := by rw [flatF_len]; simp
  have l3 : (flatF (List.replicate j y)).length = j * 2 := by rw [flatF_len]; simp
  rw [e1, e2, splice, l3, List.take_append_of_le_length (by omega), List.take_of_length_le (by omega)]
  congr 2
  rw [← List.append_assoc, List.drop_append_of_le_length (by rw [List.length_append]; omega), List.drop_of_length_le (by rw [List.length_append]; omega), List.nil_append]
theorem repF_cell {n k : Nat} {y : Int × Int} {w : World} {g : Nat} {t : TypeId} (h : w.heap[g]? = some (.cells (repF n k y).toArray t (0, 0))) (j : Nat) (hj : j < k * 2) :
    w.cell? ⟨g, j, none⟩ = (flatF (List.replicate k y))[j]? := by
  have e : (repF n k y)[j]? = (flatF (List.replicate k y))[j]? := by rw [repF, flatF_append, List.getElem?_append_left (by rw [flatF_len]; simpa using hj)]
  simp [World.cell?, h, e]
theorem repF_take (k j : Nat) (y : Int × Int) (h : j ≤ k) (i : Nat) (hi : i < j * 2) : (flatF (List.replicate k y))[i]? = (flatF (List.replicate j y))[i]? := by
  obtain ⟨d, rfl⟩ := Nat.exists_eq_add_of_le h
  rw [← List.replicate_append_replicate, flatF_append, List.getElem?_append_left (by rw [flatF_len]; simpa using hi)]
theorem repF_owns {n : Nat} {y : Int × Int} {w : World} {g lo : Nat} {t : TypeId} (h : w.heap[g]? = some (.cells (repF n n y).toArray t (0, 0))) (hlo : lo ≤ g) (hn : n ≤ 1000000) : FrO t lo w.heap.size w (.slice (some ⟨g, 0, none⟩) n n) (List.replicate n y) := by
  have e : repF n n y = flatF (List.replicate n y) := by simp [repF]
  rw [e] at h
  refine FrO.mk ⟨by rw [flatF_len], .inr ⟨g, n, _, by simp, hlo, h, by simp, by unfold maxLen; omega, ?_, ?_⟩⟩ (Nat.le_refl _)
  · simp [flatF_len]
  · have := flatF_len (List.replicate n y)
    rw [List.length_replicate] at this
    simp only [List.length_replicate]
    rw [List.take_of_length_le (by omega)]
theorem FrO.full {E lo hi : Nat} {w : World} {g n : Nat} {q : List (Int × Int)} (h : FrO E lo hi w (.slice (some ⟨g, 0, none⟩) n n) q) : w.heap[g]? = some (.cells (flatF q).toArray E (0, 0)) := by
  have hl := h.1.1
  rcases h.1.2 with ⟨e, _⟩ | ⟨g1, cap, cur, e, _, hh, _, _, hs, ht⟩
  · simp at e
  · simp only [Value.slice.injEq, Option.some.injEq, Addr.mk.injEq] at e
    obtain ⟨⟨rfl, _⟩, e2, rfl⟩ := e
    rw [hh, ← ht, ← e2]
    rw [List.take_of_length_le (by rw [Array.length_toList, hs]; exact Nat.le_refl _)]

/-- 'make([]T, n)', T two numbers. -/
theorem wpList_make_fr {P : Program} {w : World} {ops : Array Oper} {rest : List Oper} {o : Oper} {a : Act} {Q : Exit → Act → World → Prop} (hgd : o.guard = none) (l c : Operand) (t : TypeId) (ho : o.op = Op.makeSlice t l c)
    {E : TypeId} (ht : P.underlying t = some (.slice E)) (hinfo : (P.info? E).map (fun i => (i.zero, i.size, i.bytes)) = some (some (.agg #[.int .i64 0, .int .i64 0]), 2, 16)) {L C : Int} {n : Nat} (hl : a.eval l = .int .i64 L) (hc : a.eval c = .int .i64 C)
    (hL : L = (n : Int)) (hC : C = (n : Int)) (hn : n ≤ 1000000)
    (h : ∀ w', FrO E w.heap.size w'.heap.size w' (.slice (some ⟨w.heap.size, 0, none⟩) n n) (List.replicate n (0, 0)) → Grew w w' → w.heap.size < w'.heap.size → wpList P ops Q rest (a.put o.dst (.slice (some ⟨w.heap.size, 0, none⟩) n n)) w') :
    wpList P ops Q (o :: rest) a w := by
  obtain ⟨i, hi1, hi2, hi3, hi4⟩ := info_parts hinfo
  refine wpList_make_full w hgd l c t ho w.heap.size E i (.agg #[.int .i64 0, .int .i64 0]) 2 ht hi1 hi2 hi3 .i64 .i64 L C n hl hc hL hC (by rw [hi4]; omega) (by unfold maxLen; omega) (Nat.le_refl _) ?_
  intro w' hown hg
  have e : (madeCells (Value.agg #[.int .i64 0, .int .i64 0]).cells (n * 2)).toList = flatF (List.replicate n (0, 0)) := madeF n
  rw [e] at hown
  have hO : FrO E w.heap.size w'.heap.size w' (.slice (some ⟨w.heap.size, 0, none⟩) n n) (List.replicate n (0, 0)) := FrO.mk (by simpa using hown) (Nat.le_refl _)
  exact h w' hO (grownBy_none hg) (World.ownsRow.lt hown w.heap.size rfl).2

/-- copy, the elements of s cells each. -/
theorem run_copy_rowS (P : Program) (w : World) (dT sT ty elem : TypeId) (g o dLen dCap : Nat) (a : Addr) (sLen sCap s m : Nat) (cur : Array Value) (t : TypeId) (cs : List Value)
    (hu : P.underlying dT = some (.slice elem)) (hs : (P.info? elem).map (·.size) = some s)
    (hg : w.heap[g]? = some (.cells cur t (0, 0))) (hm : Nat.min sLen dLen = m) (hn : cs.length = m * s)
    (hsrc : ∀ j v, cs[j]? = some v → w.cell? (a.add j) = some v) (hfit : o + cs.length ≤ cur.size) (h1 : ∀ v ∈ cs, v.oneCell' = true) :
    (Builtin.copy_ #[dT, sT] ty #[.slice (some ⟨g, o, none⟩) dLen dCap, .slice (some a) sLen sCap]).run P w =
      .ok (goInt m) (w.setRow g (cur.toList.take o ++ cs ++ cur.toList.drop (o + cs.length)).toArray) := by
  have hl := run_loadCells_list (P := P) w a cs hsrc
  have hst := run_storeCells_at P g o t cs 0 cur w hg (by simpa using hfit) h1
  cases hq : P.info? elem with
  | none => simp [hq] at hs
  | some i =>
    have hi : i.size = s := by simpa [hq] using hs
    rw [hn] at hl hst
    simp [Builtin.copy_, run_underlying hu, Builtin.lenOf, Builtin.firstCells, sizeOf, typeInfo, hq, hi, hm, hn, hl, hst]
theorem wpList_copy_rowS {P : Program} {w : World} {ops : Array Oper} {rest : List Oper} {o : Oper} {a : Act} {Q : Exit → Act → World → Prop} (hgd : o.guard = none) (d s : Operand) (dT sT : TypeId)
    (ho : o.op = .call { callee := .builtin .copy, args := #[d, s], argTypes := #[dT, sT] }) (elem : TypeId) (hu : P.underlying dT = some (.slice elem)) (z : Nat) (hsz : (P.info? elem).map (·.size) = some z)
    (g off dLen dCap : Nat) (ad : Addr) (sLen sCap : Nat) (hd : a.eval d = .slice (some ⟨g, off, none⟩) dLen dCap) (hs : a.eval s = .slice (some ad) sLen sCap)
    (cur : List Value) (t : TypeId) (hg : w.heap[g]? = some (.cells cur.toArray t (0, 0))) (cs : List Value) (m : Nat) (hm : Nat.min sLen dLen = m) (hn : cs.length = m * z)
    (hsrc : ∀ j v, cs[j]? = some v → w.cell? (ad.add j) = some v) (hfit : off + cs.length ≤ cur.length) (h1 : ∀ v ∈ cs, v.oneCell' = true) (w0 : World) (hb : Grew w0 w) (hBg : w0.heap.size ≤ g)
    (h : ∀ w', Hid (w'.heap[g]? = some (.cells (splice cur off cs).toArray t (0, 0))) → Grew w0 w' → wpList P ops Q rest (a.put o.dst (goInt m)) w') : wpList P ops Q (o :: rest) a w := by
  refine wpList_plain hgd fun K hK => ?_
  have hrun := run_copy_rowS P w dT sT o.type elem g off dLen dCap ad sLen sCap z m cur.toArray t cs hu hsz hg hm hn hsrc (by simpa using hfit) h1
  unfold Oper.wp
  simp [execOp, ho, resolve, invoke, builtin, hd, hs, hrun, Result.andThen]
  exact hK _ _ (h _ (show _ = _ by simpa [splice] using setRow_heap w g _ _ t _ hg) (below_setRow hb hBg _))
theorem step_copy_rowS {P : Program} {ops : Array Oper} {o : Oper} {a : Act} {w : World} {K : Act → World → Prop} {Q : Exit → Act → World → Prop} {X : Prop} (hgd : o.guard = none) (d s : Operand) (dT sT : TypeId)
    (ho : o.op = .call { callee := .builtin .copy, args := #[d, s], argTypes := #[dT, sT] }) (elem : TypeId) (hu : P.underlying dT = some (.slice elem)) (z : Nat) (hsz : (P.info? elem).map (·.size) = some z)
    (g off dLen dCap : Nat) (ad : Addr) (sLen sCap : Nat) (hd : a.eval d = .slice (some ⟨g, off, none⟩) dLen dCap) (hs : a.eval s = .slice (some ad) sLen sCap)
    (cur : List Value) (t : TypeId) (hg : w.heap[g]? = some (.cells cur.toArray t (0, 0))) (cs : List Value) (m : Nat) (hm : Nat.min sLen dLen = m) (hn : cs.length = m * z)
    (hsrc : ∀ j v, cs[j]? = some v → w.cell? (ad.add j) = some v) (hfit : off + cs.length ≤ cur.length) (h1 : ∀ v ∈ cs, v.oneCell' = true) (w0 : World) (hb : Grew w0 w) (hBg : w0.heap.size ≤ g)
    (h : ∀ w', Hid (w'.heap[g]? = some (.cells (splice cur off cs).toArray t (0, 0))) → Grew w0 w' → K (a.put o.dst (goInt m)) w') :
    if Region.wanted o (yielded ops a.tmps) = true then Oper.wp P o a w K Q else X := by
  rw [if_pos (show Region.wanted o (yielded ops a.tmps) = true by simp [Region.wanted, hgd])]
  have hrun := run_copy_rowS P w dT sT o.type elem g off dLen dCap ad sLen sCap z m cur.toArray t cs hu hsz hg hm hn hsrc (by simpa using hfit) h1
  unfold Oper.wp
  simp [execOp, ho, resolve, invoke, builtin, hd, hs, hrun, Result.andThen]
  exact h _ (show _ = _ by simpa [splice] using setRow_heap w g _ _ t _ hg) (below_setRow hb hBg _)

/-- 'copy(new, []T{y})'. -/
theorem wpList_copy_oneF {P : Program} {w : World} {ops : Array Oper} {rest : List Oper} {o : Oper} {a : Act} {Q : Exit → Act → World → Prop} (hgd : o.guard = none) (d s : Operand) (T : TypeId)
    (ho : o.op = .call { callee := .builtin .copy, args := #[d, s], argTypes := #[T, T] }) (E : TypeId) (hu : P.underlying T = some (.slice E)) (hsz : (P.info? E).map (·.size) = some 2)
    {n b o' c g : Nat} {y : Int × Int} (hd : a.eval d = .slice (some ⟨g, 0, none⟩) n n) (hs : a.eval s = .slice (some ⟨b, o', none⟩) 1 c) (hn : 1 ≤ n)
    (hg : w.heap[g]? = some (.cells (repF n 0 y).toArray E (0, 0))) (hc : w.cell? ⟨b, o', none⟩ = some (.int .i64 y.1) ∧ w.cell? ⟨b, o' + 1, none⟩ = some (.int .i64 y.2)) (w0 : World) (hb : Grew w0 w) (hBg : w0.heap.size ≤ g)
    (h : ∀ w', Hid (w'.heap[g]? = some (.cells (repF n 1 y).toArray E (0, 0)) ∧ Grew w0 w') → wpList P ops Q rest (a.put o.dst (.int .i64 1)) w') : wpList P ops Q (o :: rest) a w := by
  refine wpList_copy_rowS hgd d s T T ho E hu 2 hsz g 0 n n ⟨b, o', none⟩ 1 c hd hs (repF n 0 y) E hg (flatF (List.replicate 1 y)) 1 (Nat.min_eq_left hn) (by rw [flatF_len]; rfl) ?_ (by rw [repF_len _ _ _ (Nat.zero_le _), flatF_len]; simp; omega) (flatF_one _) w0 hb hBg ?_
  · intro j v hj
    rw [Addr.add_lit]
    have : j < 2 := by
      have := (List.getElem?_eq_some_iff.1 hj).1
      rw [flatF_len] at this
      simpa using this
    rcases (show j = 0 ∨ j = 1 by omega) with rfl | rfl
    · simp [flatF] at hj; rw [← hj]; exact hc.1
    · simp [flatF] at hj; rw [← hj]; exact hc.2
  · intro w' h1 h2
    have e := repF_splice n 0 1 y (by omega)
    rw [Nat.zero_add, Nat.zero_mul] at e
    have h1' : w'.heap[g]? = some (.cells (splice (repF n 0 y) 0 (flatF (List.replicate 1 y))).toArray E (0, 0)) := h1.out
    rw [e] at h1'
    exact h w' (Lib.hid ⟨h1', h2⟩)
/-- 'copy(new[j:], new[:j])'. -/
theorem step_copy_moreF {P : Program} {ops : Array Oper} {o : Oper} {a : Act} {w : World} {K : Act → World → Prop} {Q : Exit → Act → World → Prop} {X : Prop} (hgd : o.guard = none) (d s : Operand) (T : TypeId)
    (ho : o.op = .call { callee := .builtin .copy, args := #[d, s], argTypes := #[T, T] }) (E : TypeId) (hu : P.underlying T = some (.slice E)) (hsz : (P.info? E).map (·.size) = some 2)
    {n j g : Nat} {y : Int × Int} (hd : a.eval d = .slice (some ⟨g, j * 2, none⟩) (n - j) (n - j)) (hs : a.eval s = .slice (some ⟨g, 0, none⟩) j n) (hj : j < n)
    (hg : w.heap[g]? = some (.cells (repF n j y).toArray E (0, 0))) (w0 : World) (hb : Grew w0 w) (hBg : w0.heap.size ≤ g)
    (h : ∀ w', Hid (w'.heap[g]? = some (.cells (repF n (j + Nat.min j (n - j)) y).toArray E (0, 0)) ∧ Grew w0 w') → K (a.put o.dst (.int .i64 (Nat.min j (n - j)))) w') :
    if Region.wanted o (yielded ops a.tmps) = true then Oper.wp P o a w K Q else X := by
  have hle : Nat.min j (n - j) ≤ n - j := Nat.min_le_right _ _
  have hle2 : Nat.min j (n - j) ≤ j := Nat.min_le_left _ _
  refine step_copy_rowS hgd d s T T ho E hu 2 hsz g (j * 2) (n - j) (n - j) ⟨g, 0, none⟩ j n hd hs (repF n j y) E hg (flatF (List.replicate (Nat.min j (n - j)) y)) _ rfl (by rw [flatF_len]; simp) ?_ (by rw [repF_len _ _ _ (by omega), flatF_len, List.length_replicate]; omega) (flatF_one _) w0 hb hBg ?_
  · intro k u hk
    have hkl := (List.getElem?_eq_some_iff.1 hk).1
    rw [flatF_len, List.length_replicate] at hkl
    rw [Addr.add_lit, Nat.zero_add, repF_cell hg k (by omega), repF_take j _ y hle2 k hkl]
    exact hk
  · intro w' h1 h2
    have h1' := h1.out
    rw [repF_splice n j _ y (by omega)] at h1'
    exact h w' (Lib.hid ⟨h1', h2⟩)

set_option maxRecDepth 100000 in
set_option maxHeartbeats 2000000 in
/-- 'slices.Repeat([]Frac{y}, n)'. -/
theorem slicesRepeatF_any (b o c : Nat) (y : Int × Int) (n : Nat) (w : World) (hc : w.cell? ⟨b, o, none⟩ = some (.int .i64 y.1) ∧ w.cell? ⟨b, o + 1, none⟩ = some (.int .i64 y.2)) (hn1 : 1 ≤ n) (hn : n ≤ 25) :
    Calls Try.prog 58 #[.slice (some ⟨b, o, none⟩) 1 c, .int .i64 n] w fun e w' => ∃ g, e = .returned (.slice (some ⟨g, 0, none⟩) n n) ∧ FrO 29 w.heap.size w'.heap.size w' (.slice (some ⟨g, 0, none⟩) n n) (List.replicate n y) ∧ Grew w w' := by
  have HC := Lib.hid hc
  have HI := Lib.hid Try.infoFrac
  have hsz : (Try.prog.info? 29).map (·.size) = some 2 := by
    obtain ⟨i, hi1, _, hi3, _⟩ := info_parts Try.infoFrac
    rw [hi1]; simp [hi3]
  have HZ := Lib.hid hsz
  have h1 : ¬ (n : Int) < 0 := by omega
  have h0 : 0 < n := hn1
  have hw1 : IntKind.u64.wrap (n : Int) = n := by rw [IntKind.wrap_u64]; omega
  have hb1 : ¬ (9223372036854775807 : Int) < n := by omega
  clear hc hsz
  go_enter Try.func58, Try.ntmps58
  go_wp2_with (fail)
  refine (bitsMul_any n w hn).mono ?_
  rintro e w1 ⟨rfl, rfl⟩
  go_wp2_with (first
    | (at_make; refine wpList_make_fr rfl (.tmp 29) (.tmp 29) 25 rfl Try.underlying25 HI.out rfl rfl rfl rfl (by omega) ?_; intro w2 hO2 hg2 hs2; have HW2 : Hid (w2.heap[w.heap.size]? = some (.cells (repF n 0 y).toArray 29 (0, 0)) ∧ Grew w w2) := Lib.hid (And.intro (by have := hO2.full; simpa [repF] using this) hg2); clear hO2 hg2)
    | (refine wpList_copy_oneF rfl (.tmp 31) (.tmp 32) 25 rfl 29 Try.underlying25 HZ.out rfl rfl hn1 HW2.out.1 ⟨HW2.out.2.cell HC.out.1, HW2.out.2.cell HC.out.2⟩ w HW2.out.2 (Nat.le_refl _) ?_; intro w3 HW3; clear HW2))
  go_loopw [8] (fun k wr => ∃ j : Nat, 1 ≤ j ∧ j ≤ n ∧ k = .int .i64 j ∧ Hid (wr.heap[w.heap.size]? = some (.cells (repF n j y).toArray 29 (0, 0)) ∧ Grew w wr)) (fun k _ => n - (intOf k).toNat)
  case atStart => exact ⟨1, Nat.le_refl _, hn1, rfl, HW3⟩
  case round =>
    obtain ⟨j, hj1, hjn, rfl, HI2⟩ := hrel
    clear HW3
    by_cases hlt : j < n
    · have hz : n - j ≠ 0 := by omega
      have hnj : ¬ n = j := by omega
      have HJ : Hid (j + Nat.min j (n - j) ≤ n ∧ 1 ≤ Nat.min j (n - j)) := Lib.hid ⟨by have := Nat.min_le_right j (n - j); simp only [Nat.min_def] at *; split <;> omega, by simp only [Nat.min_def]; split <;> omega⟩
      obtain ⟨q, eq⟩ : ∃ q, Nat.min j (n - j) = q := ⟨_, rfl⟩
      have HQ := Lib.hid eq
      have hq1 : j + q ≤ n ∧ 1 ≤ q := by rw [← eq]; exact HJ.out
      have hwq : IntKind.i64.wrap ((j : Int) + (q : Int)) = (j : Int) + (q : Int) := by rw [IntKind.wrap_i64]; omega
      clear eq HJ
      go_wp2
      go_region_law (refine step_copy_moreF rfl (.tmp 41) (.tmp 44) 25 rfl 29 Try.underlying25 HZ.out (by simp [Act.eval, Act.put]) (by simp [Act.eval, Act.put]) hlt HI2.out.1 w HI2.out.2.drew (Nat.le_refl _) ?_; rw [HQ.out]; intro w4 HW4)
      go_simp
      go_roundw
      case rel => exact ⟨.int .i64 ((j : Int) + q), _, _, _, _, _, _, _, _, _, _, _, _, _, ⟨j + q, by omega, by omega, by go_num, HW4⟩, rfl⟩
      case measure => simp [intOf]; omega
    · go_wp2
      go_ret
      obtain rfl : j = n := by omega
      exact ⟨w.heap.size, rfl, repF_owns HI2.out.1 (Nat.le_refl _) (by omega), HI2.out.2⟩
end Go.Proofs.Ytlifjhhjkcmneaa
