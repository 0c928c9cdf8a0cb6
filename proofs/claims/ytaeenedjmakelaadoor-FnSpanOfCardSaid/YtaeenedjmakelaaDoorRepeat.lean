/- The contracts of bits.Mul at 1 and of slices.Repeat of one number. -/
import Derived.Test.YtaeenedjmakelaaDoorConcat
import Derived.Test.YtaeenedjmakelaaDoorBase
import Derived.Laws.CopyOwn
import Derived.Deep.RegionLaw
namespace Go.Proofs.YtaeenedjmakelaaDoor
open Go.RowKit

theorem hi_zero : ∀ n : Nat, n < 26 → IntKind.u64.wrap
              (IntKind.u64.wrap
                  (IntKind.u64.wrap
                      (IntKind.u64.wrap
                          (bits BinOp.and IntKind.u64 1 4294967295 * bits BinOp.and IntKind.u64 (n : Int) 4294967295) /
                        4294967296) /
                    4294967296) +
                IntKind.u64.wrap
                    (bits BinOp.and IntKind.u64
                        (IntKind.u64.wrap
                          (IntKind.u64.wrap
                              (bits BinOp.and IntKind.u64 1 4294967295 * bits BinOp.and IntKind.u64 (n : Int) 4294967295) /
                            4294967296))
                        4294967295 +
                      IntKind.u64.wrap (bits BinOp.and IntKind.u64 1 4294967295 * ((n : Int) / 4294967296))) /
                  4294967296) = 0 := by decide +kernel

set_option maxRecDepth 100000 in
set_option maxHeartbeats 2000000 in
theorem bitsMul_any (n : Nat) (w : World) (hn : n ≤ 25) :
    Calls Tryd.prog 130 #[.int .u64 1, .int .u64 n] w fun e w' => e = .returned (.tuple #[.int .u64 0, .int .u64 n]) ∧ w = w' := by
  have hz := hi_zero n (by omega)
  go_enter Tryd.func130, Tryd.ntmps130
  go_wp2
  go_ret2
  exact ⟨rfl, rfl⟩

/-- k of n are written. -/
def repV (n k : Nat) (y : Int) : List Value := (List.replicate k y ++ List.replicate (n - k) 0).map (.int .i64)
theorem repV_len (n k : Nat) (y : Int) (h : k ≤ n) : (repV n k y).length = n := by simp [repV]; omega
theorem repV_splice (n k j : Nat) (y : Int) (_h : k + j ≤ n) : splice (repV n k y) k (List.replicate j (.int .i64 y)) = repV n (k + j) y := by
  have e1 : repV n k y = List.replicate k (.int .i64 y) ++ List.replicate (n - k) (.int .i64 0) := by simp [repV]
  have e2 : repV n (k + j) y = List.replicate k (.int .i64 y) ++ (List.replicate j (.int .i64 y) ++ List.replicate (n - (k + j)) (.int .i64 0)) := by simp [repV, ← List.replicate_append_replicate]
  rw [e1, e2, splice, List.length_replicate]
  rw [List.take_append_of_le_length (by simp), List.take_of_length_le (by simp)]
  congr 2
  rw [List.drop_append, List.drop_of_length_le (by simp)]
  simp
  omega
theorem repV_cell {n k : Nat} {y : Int} {w : World} {g : Nat} {t : TypeId} (h : w.heap[g]? = some (.cells (repV n k y).toArray t (0, 0))) (j : Nat) (hj : j < k) : w.cell? ⟨g, j, none⟩ = some (.int .i64 y) := by
  have e : (repV n k y)[j]? = some (.int .i64 y) := by rw [repV, List.getElem?_map, List.getElem?_append_left (by simpa using hj)]; simp [hj]
  simp [World.cell?, h, e]
theorem repV_owns {n : Nat} {y : Int} {w : World} {g lo : Nat} {t : TypeId} (h : w.heap[g]? = some (.cells (repV n n y).toArray t (0, 0))) (hlo : lo ≤ g) (hn : n ≤ 1000000) : IntsO t lo w.heap.size w (.slice (some ⟨g, 0, none⟩) n n) (List.replicate n y) := by
  refine IntsO.mk ⟨by simp, .inr ⟨g, n, _, by simp, hlo, h, by simp, by unfold maxLen; omega, ?_, ?_⟩⟩ (Nat.le_refl _)
  · simp [repV]
  · simp [repV]

theorem IntsO.full {E lo hi : Nat} {w : World} {g n : Nat} {xs : List Int} (h : IntsO E lo hi w (.slice (some ⟨g, 0, none⟩) n n) xs) : w.heap[g]? = some (.cells (xs.map (.int .i64)).toArray E (0, 0)) := by
  have hl := h.1.1
  rcases h.1.2 with ⟨e, _⟩ | ⟨g1, cap, cur, e, _, hh, _, _, hs, ht⟩
  · simp at e
  · simp only [Value.slice.injEq, Option.some.injEq, Addr.mk.injEq] at e
    obtain ⟨⟨rfl, _⟩, e2, rfl⟩ := e
    rw [hh, ← ht, ← e2]
    simp only [Nat.mul_one] at hs ⊢
    rw [List.take_of_length_le (by rw [Array.length_toList, hs]; exact Nat.le_refl _)]

theorem IntsO.rep0 {E lo hi : Nat} {w : World} {g n : Nat} (y : Int) (h : IntsO E lo hi w (.slice (some ⟨g, 0, none⟩) n n) (List.replicate n 0)) : w.heap[g]? = some (.cells (repV n 0 y).toArray E (0, 0)) := by
  have := h.full
  simpa [repV] using this
theorem one_src {w : World} {b o : Nat} {u : Value} (h : w.cell? ⟨b, o, none⟩ = some u) (j : Nat) (v : Value) (hj : [u][j]? = some v) : w.cell? ((⟨b, o, none⟩ : Addr).add j) = some v := by
  rcases j with _ | j
  · simp at hj
    subst hj
    simpa [Addr.add_lit] using h
  · simp at hj

/-- 'copy(new, []int{y})'. -/
theorem wpList_copy_one {P : Program} {w : World} {ops : Array Oper} {rest : List Oper} {o : Oper} {a : Act} {Q : Exit → Act → World → Prop} (hgd : o.guard = none) (d s : Operand) (T : TypeId)
    (ho : o.op = .call { callee := .builtin .copy, args := #[d, s], argTypes := #[T, T] }) (E : TypeId) (hu : P.underlying T = some (.slice E)) (hsz : (P.info? E).map (·.size) = some 1)
    {n b o' c g : Nat} {y : Int} (hd : a.eval d = .slice (some ⟨g, 0, none⟩) n n) (hs : a.eval s = .slice (some ⟨b, o', none⟩) 1 c) (hn : 1 ≤ n)
    (hg : w.heap[g]? = some (.cells (repV n 0 y).toArray E (0, 0))) (hc : w.cell? ⟨b, o', none⟩ = some (.int .i64 y)) (w0 : World) (hb : Grew w0 w) (hBg : w0.heap.size ≤ g)
    (h : ∀ w', Hid (w'.heap[g]? = some (.cells (repV n 1 y).toArray E (0, 0)) ∧ Grew w0 w') → wpList P ops Q rest (a.put o.dst (.int .i64 1)) w') : wpList P ops Q (o :: rest) a w := by
  have hmin : [Value.int .i64 y].length = Nat.min 1 n := (Nat.min_eq_left hn).symm
  refine wpList_copy_splice hgd d s T T ho E hu hsz _ _ n n 1 c hd hs g 0 (repV n 0 y) E hg [.int .i64 y] hmin (fun _ => ⟨rfl, _, rfl, one_src hc⟩) (by rw [repV_len _ _ _ (Nat.zero_le _)]; simpa using hn) (by simp [Value.oneCell']) w0.heap.size w0 hb hBg ?_
  intro w' h1 h2
  have e := repV_splice n 0 1 y (by omega)
  rw [Nat.zero_add] at e
  have h1' : w'.heap[g]? = some (.cells (splice (repV n 0 y) 0 (List.replicate 1 (.int .i64 y))).toArray E (0, 0)) := h1.out
  rw [e] at h1'
  exact h w' (Lib.hid ⟨h1', h2⟩)
/-- 'copy(new[j:], new[:j])'. -/
theorem step_copy_more {P : Program} {ops : Array Oper} {o : Oper} {a : Act} {w : World} {K : Act → World → Prop} {Q : Exit → Act → World → Prop} {X : Prop} (hgd : o.guard = none) (d s : Operand) (T : TypeId)
    (ho : o.op = .call { callee := .builtin .copy, args := #[d, s], argTypes := #[T, T] }) (E : TypeId) (hu : P.underlying T = some (.slice E)) (hsz : (P.info? E).map (·.size) = some 1)
    {n j g : Nat} {y : Int} (hd : a.eval d = .slice (some ⟨g, j, none⟩) (n - j) (n - j)) (hs : a.eval s = .slice (some ⟨g, 0, none⟩) j n) (hj : j < n)
    (hg : w.heap[g]? = some (.cells (repV n j y).toArray E (0, 0))) (w0 : World) (hb : Grew w0 w) (hBg : w0.heap.size ≤ g)
    (h : ∀ w', Hid (w'.heap[g]? = some (.cells (repV n (j + Nat.min j (n - j)) y).toArray E (0, 0)) ∧ Grew w0 w') → K (a.put o.dst (.int .i64 (Nat.min j (n - j)))) w') :
    if Region.wanted o (yielded ops a.tmps) = true then Oper.wp P o a w K Q else X := by
  have hle : Nat.min j (n - j) ≤ n - j := Nat.min_le_right _ _
  have hle2 : Nat.min j (n - j) ≤ j := Nat.min_le_left _ _
  refine step_copy_splice hgd d s T T ho E hu hsz _ _ (n - j) (n - j) j n hd hs g j (repV n j y) E hg (List.replicate (Nat.min j (n - j)) (.int .i64 y)) (by simp) (fun _ => ⟨rfl, _, rfl, fun k u hk => ?_⟩) (by rw [repV_len _ _ _ (by omega), List.length_replicate]; omega) (fun u hu => by rw [List.eq_of_mem_replicate hu]; rfl) w0.heap.size w0 hb hBg ?_
  · obtain ⟨h1, h2⟩ := List.getElem?_eq_some_iff.1 hk
    rw [List.length_replicate] at h1
    rw [List.getElem_replicate] at h2
    rw [Addr.add_lit, Nat.zero_add, ← h2]
    exact repV_cell hg k (by omega)
  · intro w' h1 h2
    have h1' := h1.out
    rw [repV_splice n j _ y (by omega)] at h1'
    have := h w' (Lib.hid ⟨h1', h2⟩)
    rw [List.length_replicate]
    exact this

set_option maxRecDepth 100000 in
set_option maxHeartbeats 2000000 in
/-- 'slices.Repeat([]int{y}, n)'. -/
theorem slicesRepeat_any (b o c : Nat) (y : Int) (n : Nat) (w : World) (hc : w.cell? ⟨b, o, none⟩ = some (.int .i64 y)) (hn1 : 1 ≤ n) (hn : n ≤ 25) :
    Calls Tryd.prog 119 #[.slice (some ⟨b, o, none⟩) 1 c, .int .i64 n] w (FlatPost w (List.replicate n y)) := by
  have HC := Lib.hid hc
  have HI := Lib.hid Tryd.infoI
  have hsz : (Tryd.prog.info? 3).map (·.size) = some 1 := by
    obtain ⟨i, hi1, _, hi3, _⟩ := info_parts Tryd.infoI
    rw [hi1]; simp [hi3]
  have HZ := Lib.hid hsz
  have h1 : ¬ (n : Int) < 0 := by omega
  have h0 : 0 < n := hn1
  have hw1 : IntKind.u64.wrap (n : Int) = n := by rw [IntKind.wrap_u64]; omega
  have hb1 : ¬ (9223372036854775807 : Int) < n := by omega
  clear hc hsz
  go_enter Tryd.func119, Tryd.ntmps119
  go_wp2_with (fail)
  refine (bitsMul_any n w hn).mono ?_
  rintro e w1 ⟨rfl, rfl⟩
  go_wp2_with (first
    | (at_make; refine wpList_make_ints rfl (.tmp 29) (.tmp 29) 22 rfl Tryd.underlying22 HI.out rfl rfl rfl rfl (by omega) ?_; intro w2 hO2 hg2 hs2; have HW2 := Lib.hid (And.intro (hO2.rep0 y) hg2); clear hO2 hg2)
    | (refine wpList_copy_one rfl (.tmp 31) (.tmp 32) 22 rfl 3 Tryd.underlying22 HZ.out rfl rfl hn1 HW2.out.1 (HW2.out.2.cell HC.out) w HW2.out.2 (Nat.le_refl _) ?_; intro w3 HW3; clear HW2))
  go_loopw [8] (fun k wr => ∃ j : Nat, 1 ≤ j ∧ j ≤ n ∧ k = .int .i64 j ∧ Hid (wr.heap[w.heap.size]? = some (.cells (repV n j y).toArray 3 (0, 0)) ∧ Grew w wr)) (fun k _ => n - (intOf k).toNat)
  case atStart => exact ⟨1, Nat.le_refl _, hn1, rfl, HW3⟩
  case round =>
    obtain ⟨j, hj1, hjn, rfl, HI2⟩ := hrel
    clear HW3
    by_cases hlt : j < n
    · have hz : n - j ≠ 0 := by omega
      have hnj : ¬ n = j := by omega
      have HJ : Hid (j + Nat.min j (n - j) ≤ n ∧ 1 ≤ Nat.min j (n - j)) := Lib.hid ⟨by have := Nat.min_le_right j (n - j); simp only [Nat.min_def] at *; split <;> omega, by simp only [Nat.min_def]; split <;> omega⟩
      obtain ⟨q, eq⟩ : ∃ q, Nat.min j (n - j) = q := ⟨_, rfl⟩
      have HQ := Lib.hid eq
      have hq1 : j + q ≤ n ∧ 1 ≤ q := by rw [← eq]; exact HJ.out
      have hwq : IntKind.i64.wrap ((j : Int) + (q : Int)) = (j : Int) + (q : Int) := by rw [IntKind.wrap_i64]; omega
      clear eq HJ
      go_wp2
      go_region_law (refine step_copy_more rfl (.tmp 41) (.tmp 44) 22 rfl 3 Tryd.underlying22 HZ.out (by simp [Act.eval, Act.put]) (by simp [Act.eval, Act.put]) hlt HI2.out.1 w HI2.out.2.drew (Nat.le_refl _) ?_; rw [HQ.out]; intro w4 HW4)
      go_simp
      go_roundw
      case rel => exact ⟨.int .i64 ((j : Int) + q), _, _, _, _, _, _, _, _, _, _, _, _, _, ⟨j + q, by omega, by omega, by go_num, HW4⟩, rfl⟩
      case measure => simp [intOf]; omega
    · go_wp2
      go_ret
      obtain rfl : j = n := by omega
      refine ⟨w.heap.size, j, by simp, ?_, HI2.out.2⟩
      have := repV_owns HI2.out.1 (Nat.le_refl _) (by omega)
      simpa using this
end Go.Proofs.YtaeenedjmakelaaDoor
