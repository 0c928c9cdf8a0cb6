/- Slices of structs of two numbers: what is read, owned, appended to. -/
import Derived.Test.YtkeeonjbkfgeeaaAppendInts
import Derived.Test.YtkeeonjbkfgeeaaExact
namespace Go.Proofs.Ytkeeonjbkfgeeaa
open Go.RowKit

/-- The cells of pairs. -/
def flatF (q : List (Int × Int)) : List Value := q.flatMap fun e => [.int .i64 e.1, .int .i64 e.2]
theorem flatF_len (q : List (Int × Int)) : (flatF q).length = q.length * 2 := by
  induction q with
  | nil => rfl
  | cons e q ih => simp only [flatF, List.flatMap_cons, List.length_append, List.length_cons, List.length_nil] at ih ⊢; omega
theorem flatF_append (a b : List (Int × Int)) : flatF (a ++ b) = flatF a ++ flatF b := by simp [flatF]
theorem flatF_one (q : List (Int × Int)) : ∀ v ∈ flatF q, v.oneCell' = true := by
  intro v hv
  simp only [flatF, List.mem_flatMap] at hv
  obtain ⟨e, _, he⟩ := hv
  simp at he
  rcases he with rfl | rfl <;> rfl
theorem flatF_get : ∀ (q : List (Int × Int)) (j : Nat), j < q.length → (flatF q)[j * 2]? = some (.int .i64 (q.getD j (0, 0)).1) ∧ (flatF q)[j * 2 + 1]? = some (.int .i64 (q.getD j (0, 0)).2)
  | [], j, h => by simp at h
  | e :: q, 0, _ => by simp [flatF]
  | e :: q, j + 1, h => by
    have := flatF_get q j (by simpa using h)
    have e1 : (j + 1) * 2 = j * 2 + 1 + 1 := by omega
    rw [e1]
    simpa [flatF] using this
theorem flatF_take (q : List (Int × Int)) (m : Nat) : flatF (q.take m) = (flatF q).take (m * 2) := by
  induction q generalizing m with
  | nil => simp [flatF]
  | cons e q ih =>
    cases m with
    | zero => simp [flatF]
    | succ m =>
      have := ih m
      simp only [flatF] at this ⊢
      rw [List.take_succ_cons, List.flatMap_cons, this, List.flatMap_cons]
      rw [show (m + 1) * 2 = m * 2 + 1 + 1 by omega]
      rfl
def frV (e : Int × Int) : Value := .agg #[.int .i64 e.1, .int .i64 e.2]

/-- v reads as the pairs q. -/
def FrV (w : World) (v : Value) (q : List (Int × Int)) : Prop :=
  ∃ a b o c, v = .slice a q.length c ∧ (q.length ≤ c ∧ c ≤ 9223372036854775807) ∧
    ∀ j, j < q.length → a = some ⟨b, o, none⟩ ∧ w.cell? ⟨b, o + j * 2, none⟩ = some (.int .i64 (q.getD j (0, 0)).1) ∧ w.cell? ⟨b, o + j * 2 + 1, none⟩ = some (.int .i64 (q.getD j (0, 0)).2)
theorem FrV.grew {w w' : World} {v : Value} {q : List (Int × Int)} (h : FrV w v q) (hg : Grew w w') : FrV w' v q := by
  obtain ⟨a, b, o, c, e, hl, hc⟩ := h
  exact ⟨a, b, o, c, e, hl, fun i hi => ⟨(hc i hi).1, hg.cell (hc i hi).2.1, hg.cell (hc i hi).2.2⟩⟩
theorem FrV.shape {w : World} {v : Value} {q : List (Int × Int)} (h : FrV w v q) : ∃ a b o c, v = .slice a q.length c ∧ (q.length ≤ c ∧ c ≤ 9223372036854775807) ∧ (0 < q.length → a = some ⟨b, o, none⟩) ∧
    Hid (∀ j, j < q.length → w.cell? ⟨b, o + j * 2, none⟩ = some (.int .i64 (q.getD j (0, 0)).1) ∧ w.cell? ⟨b, o + j * 2 + 1, none⟩ = some (.int .i64 (q.getD j (0, 0)).2)) := by
  obtain ⟨a, b, o, c, e, hl, hc⟩ := h
  exact ⟨a, b, o, c, e, hl, fun h0 => (hc 0 h0).1, Lib.hid fun i hi => (hc i hi).2⟩
/-- v is the call's own slice of pairs. -/
def FrO (E lo hi : Nat) (w : World) (v : Value) (q : List (Int × Int)) : Prop := w.ownsRow lo E 2 v q.length (flatF q) ∧ ∀ g, v.ownBlock = some g → g < hi
theorem FrO.mk {E lo hi : Nat} {w : World} {v : Value} {q : List (Int × Int)} (h : w.ownsRow lo E 2 v q.length (flatF q)) (hh : w.heap.size ≤ hi) : FrO E lo hi w v q :=
  ⟨h, fun g hg => Nat.lt_of_lt_of_le (World.ownsRow.lt h g hg).2 hh⟩
theorem FrO.within {E lo hi lo' hi' : Nat} {w w' : World} {v : Value} {q : List (Int × Int)} (h : FrO E lo hi w v q) (hg : Within lo' hi' w w') (hd : hi ≤ lo' ∨ hi' ≤ lo) : FrO E lo hi w' v q :=
  ⟨ownsRow_block h.1 fun g e => hg.block g (World.ownsRow.lt h.1 g e).2 (by have := h.2 g e; have := (World.ownsRow.lt h.1 g e).1; omega), h.2⟩
theorem FrO.grew {E lo hi : Nat} {w w' : World} {v : Value} {q : List (Int × Int)} (h : FrO E lo hi w v q) (hg : Grew w w') : FrO E lo hi w' v q :=
  ⟨ownsRow_block h.1 fun g e => hg.block (World.ownsRow.lt h.1 g e).2, h.2⟩
theorem FrO.wide {E lo hi lo' hi' : Nat} {w : World} {v : Value} {q : List (Int × Int)} (h : FrO E lo hi w v q) (hl : lo' ≤ lo) (hh : hi ≤ hi') : FrO E lo' hi' w v q :=
  ⟨ownsRow_base h.1 hl, fun g e => Nat.lt_of_lt_of_le (h.2 g e) hh⟩
theorem FrO.nil (E lo hi : Nat) (w : World) : FrO E lo hi w (.slice none 0 0) [] := ⟨World.ownsRow_nil _ _ _ _, fun g e => by simp [Value.ownBlock] at e⟩
theorem FrO.shape {E lo hi : Nat} {w : World} {v : Value} {q : List (Int × Int)} (h : FrO E lo hi w v q) : (v = .slice none 0 0 ∧ q = []) ∨ ∃ g c, v = .slice (some ⟨g, 0, none⟩) q.length c ∧ lo ≤ g ∧ g < hi ∧ q.length ≤ c ∧ c ≤ maxLen := by
  rcases h.1.2 with ⟨e, h0⟩ | ⟨g, cap, cur, rfl, h3, h4, h5, h6, h7⟩
  · exact .inl ⟨e, List.eq_nil_of_length_eq_zero h0⟩
  · exact .inr ⟨g, cap, rfl, h3, h.2 g rfl, h5, h6⟩
theorem FrO.sh {E lo hi : Nat} {w : World} {v : Value} {q : List (Int × Int)} (h : FrO E lo hi w v q) : ∃ a c, v = .slice a q.length c := by
  rcases h.shape with ⟨rfl, rfl⟩ | ⟨g, c, rfl, _⟩
  · exact ⟨_, _, rfl⟩
  · exact ⟨_, _, rfl⟩
theorem FrO.pos {E lo hi : Nat} {w : World} {v : Value} {q : List (Int × Int)} (h : FrO E lo hi w v q) (h0 : 0 < q.length) : ∃ g c, v = .slice (some ⟨g, 0, none⟩) q.length c ∧ lo ≤ g ∧ g < hi ∧ q.length ≤ c ∧ c ≤ 9223372036854775807 := by
  rcases h.shape with ⟨rfl, rfl⟩ | ⟨g, c, rfl, h1, h2, h3, h4⟩
  · simp at h0
  · exact ⟨g, c, rfl, h1, h2, h3, by unfold maxLen at h4; omega⟩
theorem FrO.at {E lo hi : Nat} {w : World} {v : Value} {q : List (Int × Int)} (h : FrO E lo hi w v q) {g c n : Nat} (hs : v = .slice (some ⟨g, 0, none⟩) n c) {i : Nat} (hi' : i < q.length) :
    w.cell? ⟨g, i * 2, none⟩ = some (.int .i64 (q.getD i (0, 0)).1) ∧ w.cell? ⟨g, i * 2 + 1, none⟩ = some (.int .i64 (q.getD i (0, 0)).2) ∧ ∀ k, w.frozen? ⟨g, k, none⟩ = false := by
  have hl := flatF_len q
  have hf := flatF_get q i hi'
  obtain rfl : n = q.length := by
    rcases h.shape with ⟨_, e0⟩ | ⟨g', c', e, _⟩
    · rw [e0] at hi'; simp at hi'
    · rw [hs] at e
      simp only [Value.slice.injEq] at e
      exact e.2.1
  obtain ⟨h1, h2⟩ := h
  rw [hs] at h1
  refine ⟨?_, ?_, fun k => ?_⟩
  · rw [World.ownsRow.cellAt h1 (i * 2) (show i * 2 < q.length * 2 by omega)]
    exact hf.1
  · rw [World.ownsRow.cellAt h1 (i * 2 + 1) (show i * 2 + 1 < q.length * 2 by omega)]
    exact hf.2
  · rcases h1.2 with ⟨e, _⟩ | ⟨g', cap, cur, e, _, hh, _⟩
    · simp at e
    · simp only [Value.slice.injEq, Option.some.injEq, Addr.mk.injEq] at e
      obtain ⟨⟨rfl, _⟩, _, _⟩ := e
      simp [World.frozen?, hh]
theorem FrO.toV {E lo hi : Nat} {w : World} {v : Value} {q : List (Int × Int)} (h : FrO E lo hi w v q) : FrV w v q := by
  rcases h.shape with ⟨rfl, rfl⟩ | ⟨g, c, rfl, _, _, h5, h6⟩
  · exact ⟨none, 0, 0, 0, rfl, ⟨Nat.zero_le _, by omega⟩, fun i hi => absurd hi (Nat.not_lt_zero _)⟩
  · refine ⟨_, g, 0, c, rfl, ⟨h5, by unfold maxLen at h6; omega⟩, fun i hi => ⟨rfl, ?_, ?_⟩⟩
    · rw [Nat.zero_add]; exact (h.at rfl hi).1
    · rw [Nat.zero_add]; exact (h.at rfl hi).2.1
theorem FrO.lit (E lo : Nat) (w : World) (q : List (Int × Int)) (cs : Array Value) (h : cs.toList = flatF q) (hlo : lo ≤ w.heap.size) (hl : q.length ≤ maxLen) :
    FrO E lo (w.heap.size + 1) (w.alloc (.cells cs E)) (.slice (some ⟨w.heap.size, 0, none⟩) q.length q.length) q := by
  have hs : cs.size = q.length * 2 := by rw [← Array.length_toList, h, flatF_len]
  have := World.ownsRow_lit (e := E) (base := lo) w cs q.length hlo hl hs
  rw [h] at this
  exact ⟨this, fun g e => by simp [Value.ownBlock] at e; omega⟩

/-- 'append(s, f)' at a slice of pairs of the call's own. -/
theorem wpList_append_fr {P : Program} {w : World} {ops : Array Oper} {rest : List Oper} {o : Oper} {a : Act} {Q : Exit → Act → World → Prop} (hgd : o.guard = none) (s x : Operand) (t : TypeId)
    (ho : o.op = .call { callee := .builtin .append, args := #[s, x], argTypes := #[t, t] }) {E : TypeId} (ht : P.underlying t = some (.slice E))
    (hinfo : (P.info? E).map (fun i => (i.zero, i.size, i.bytes)) = some (some (.agg #[.int .i64 0, .int .i64 0]), 2, 16)) {lo hi : Nat} {v : Value} {q : List (Int × Int)} {e1 e2 : Int} {nb : Nat} (hs : a.eval s = v) (hx : a.eval x = .slice (some ⟨nb, 0, none⟩) 1 1) (hnb : nb = w.heap.size)
    (hv : FrO E lo hi w v q) (hlen : q.length + 1 ≤ 1000000) (hbase : lo ≤ w.heap.size)
    (h : ∀ g c w', FrO E lo w'.heap.size w' (.slice (some ⟨g, 0, none⟩) (q.length + 1) c) (q ++ [(e1, e2)]) → Within lo hi w w' → w.heap.size < w'.heap.size →
      wpList P ops Q rest (a.put o.dst (.slice (some ⟨g, 0, none⟩) (q.length + 1) c)) w') : wpList P ops Q (o :: rest) a (w.alloc (.cells #[.int .i64 e1, .int .i64 e2] E)) := by
  subst hnb
  obtain ⟨i, hi1, hi2, hi3, hi4⟩ := info_parts hinfo
  refine wpList_append_own _ hgd s x t ho lo E i (.agg #[.int .i64 0, .int .i64 0]) 2 16 ht hi1 hi2 hi3 hi4 (by decide) (by decide) v q.length _ hs (hv.1.alloc _) ⟨w.heap.size, 0, none⟩ 1 1 [.int .i64 e1, .int .i64 e2] hx rfl ?_ (by simp [Value.oneCell']) (by unfold maxLen; omega) (by omega) (by simp; omega) ?_
  · intro j u hu
    have hj : j < 2 := by
      have := (List.getElem?_eq_some_iff.1 hu).1
      simpa using this
    rw [Addr.add_lit]
    have : j = 0 ∨ j = 1 := by omega
    rcases this with rfl | rfl
    · simp at hu ⊢; exact hu
    · simp at hu ⊢; exact hu
  · intro v' w' hown hg _
    have hW : Within lo hi w w' := (((Grew.refl w).alloc _).within lo hi).trans (grownBy_within hg fun g e => ⟨(World.ownsRow.lt hv.1 g e).1, hv.2 g e⟩)
    have hS : w.heap.size < w'.heap.size := Nat.lt_of_lt_of_le (by simp) hg.size
    have hO : FrO E lo w'.heap.size w' v' (q ++ [(e1, e2)]) := FrO.mk (by rw [flatF_append, List.length_append]; exact hown) (Nat.le_refl _)
    obtain ⟨g, c, hv', _⟩ := hO.pos (by simp)
    have e : (q ++ [(e1, e2)]).length = q.length + 1 := by simp
    rw [e] at hv'
    subst hv'
    exact h g c w' hO hW hS
/-- 'append(s, row...)' at a slice of pairs of the call's own. -/
theorem wpList_append_frs {P : Program} {w : World} {ops : Array Oper} {rest : List Oper} {o : Oper} {a : Act} {Q : Exit → Act → World → Prop} (hgd : o.guard = none) (s x : Operand) (t : TypeId)
    (ho : o.op = .call { callee := .builtin .append, args := #[s, x], argTypes := #[t, t] }) {E : TypeId} (ht : P.underlying t = some (.slice E))
    (hinfo : (P.info? E).map (fun i => (i.zero, i.size, i.bytes)) = some (some (.agg #[.int .i64 0, .int .i64 0]), 2, 16)) {lo hi : Nat} {v : Value} {q r : List (Int × Int)} {b o' n c : Nat} (hs : a.eval s = v) (hx : a.eval x = .slice (some ⟨b, o', none⟩) n c) (hn : n = r.length)
    (hcells : ∀ j, j < r.length → w.cell? ⟨b, o' + j * 2, none⟩ = some (.int .i64 (r.getD j (0, 0)).1) ∧ w.cell? ⟨b, o' + j * 2 + 1, none⟩ = some (.int .i64 (r.getD j (0, 0)).2))
    (hv : FrO E lo hi w v q) (hlen : q.length + r.length ≤ 1000000) (hbase : lo ≤ w.heap.size)
    (h : ∀ a' c' w', FrO E lo w'.heap.size w' (.slice a' (q.length + r.length) c') (q ++ r) → Within lo hi w w' →
      wpList P ops Q rest (a.put o.dst (.slice a' (q.length + r.length) c')) w') : wpList P ops Q (o :: rest) a w := by
  subst hn
  obtain ⟨i, hi1, hi2, hi3, hi4⟩ := info_parts hinfo
  refine wpList_append_own _ hgd s x t ho lo E i (.agg #[.int .i64 0, .int .i64 0]) 2 16 ht hi1 hi2 hi3 hi4 (by decide) (by decide) v q.length _ hs hv.1 ⟨b, o', none⟩ r.length c (flatF r) hx (flatF_len r) ?_ (flatF_one r) (by unfold maxLen; omega) (by omega) hbase ?_
  · intro j u hu
    have hj : j < r.length * 2 := by rw [← flatF_len]; exact (List.getElem?_eq_some_iff.1 hu).1
    rw [Addr.add_lit]
    have hc := hcells (j / 2) (by omega)
    have hf := flatF_get r (j / 2) (by omega)
    rcases (show j = j / 2 * 2 ∨ j = j / 2 * 2 + 1 by omega) with e | e
    · rw [e] at hu
      rw [hf.1] at hu
      rw [e, show (j / 2 * 2) / 2 * 2 = j / 2 * 2 by omega] at *
      rw [hc.1]; exact hu
    · rw [e] at hu
      rw [hf.2] at hu
      have e2 : o' + j = o' + j / 2 * 2 + 1 := by omega
      rw [e2, hc.2]; exact hu
  · intro v' w' hown hg _
    have hW : Within lo hi w w' := grownBy_within hg fun g e => ⟨(World.ownsRow.lt hv.1 g e).1, hv.2 g e⟩
    have hO : FrO E lo w'.heap.size w' v' (q ++ r) := FrO.mk (by rw [flatF_append, List.length_append]; exact hown) (Nat.le_refl _)
    obtain ⟨a', c', hv'⟩ := hO.sh
    have e : (q ++ r).length = q.length + r.length := by simp
    rw [e] at hv'
    subst hv'
    exact h a' c' w' hO hW
/-- An own slice cut at its end. -/
theorem FrO.init {E lo hi : Nat} {w : World} {a : Option Addr} {n c : Nat} {q : List (Int × Int)} (h : FrO E lo hi w (.slice a n c) q) (m : Nat) (hm : m ≤ q.length) : FrO E lo hi w (.slice a m c) (q.take m) := by
  have hl : (q.take m).length = m := by simp; omega
  have ho : ∀ g, (Value.slice a m c).ownBlock = some g → (Value.slice a n c).ownBlock = some g := fun g e => by
    cases a with
    | none => simp [Value.ownBlock] at e
    | some x => exact e
  refine ⟨⟨by rw [flatF_len], ?_⟩, fun g e => h.2 g (ho g e)⟩
  rw [hl]
  rcases h.1.2 with ⟨e, h0⟩ | ⟨g, cap, cur, e, h3, h4, h5, h6, h7, h8⟩
  · simp only [Value.slice.injEq] at e
    obtain ⟨rfl, _, rfl⟩ := e
    have : m = 0 := by omega
    subst this
    exact .inl ⟨rfl, rfl⟩
  · simp only [Value.slice.injEq] at e
    obtain ⟨rfl, _, rfl⟩ := e
    refine .inr ⟨g, c, cur, rfl, h3, h4, by omega, h6, h7, ?_⟩
    rw [flatF_take, ← h8, List.take_take, Nat.min_eq_left (by omega)]
end Go.Proofs.Ytkeeonjbkfgeeaa
