/- A range over an iterator that hands out, in each round, a number and a slice of numbers which it lays itself; the rounds may read the slices, and what they hold stays. -/
import Derived.RangeFuncNested
import Derived.RangeFuncBound
import Derived.RangeFuncLeaves
import Derived.Test.YtdhokofcgfolnaaDoorBase
namespace Go.Proofs.YtdhokofcgfolnaaDoor
open Go Go.RowKit

/-- No cells have turned, nor any block ahead of B. -/
structure Soft (B : Nat) (w w' : World) : Prop where
  os : w'.os = w.os
  tape : w'.tape = w.tape
  output : w'.output = w.output
  size : w.heap.size ≤ w'.heap.size
  block : ∀ k o, w.heap[k]? = some o → (k < B ∨ o.isCells = true) → w'.heap[k]? = some o
theorem Soft.refl (B : Nat) (w : World) : Soft B w w := ⟨rfl, rfl, rfl, Nat.le_refl _, fun _ _ h _ => h⟩
theorem Soft.trans {B : Nat} {a b c : World} (h : Soft B a b) (k : Soft B b c) : Soft B a c :=
  ⟨k.os.trans h.os, k.tape.trans h.tape, k.output.trans h.output, Nat.le_trans h.size k.size, fun i o hi ho => k.block i o (h.block i o hi ho) ho⟩
theorem Soft.less {B B' : Nat} {a b : World} (h : Soft B a b) (hB : B' ≤ B) : Soft B' a b :=
  ⟨h.os, h.tape, h.output, h.size, fun i o hi ho => h.block i o hi (ho.elim (fun h => .inl (Nat.lt_of_lt_of_le h hB)) .inr)⟩
theorem some_lt {w : World} {k : Nat} {o : Obj} (h : w.heap[k]? = some o) : k < w.heap.size := (Array.getElem?_eq_some_iff.1 h).1
theorem Grew.soft {a b : World} (h : Grew a b) (B : Nat) : Soft B a b :=
  ⟨h.os, h.tape, h.output, Grew.size h, fun _ _ hk _ => (Grew.block h (some_lt hk)).trans hk⟩
theorem Soft.put {B : Nat} {w : World} {l : Nat} {o : Obj} (h : w.heap[l]? = some o) (ho : o.isCells = false) (hl : B ≤ l) (o' : Obj) : Soft B w (w.putObj l o') :=
  ⟨rfl, rfl, rfl, by simp, fun k u hk hu => by
    by_cases e : k = l
    · subst e
      rw [h] at hk
      cases hk
      rcases hu with h1 | h1
      · omega
      · rw [ho] at h1; cases h1
    · exact (World.putObj_heap_other e).trans hk⟩
theorem cells_of_cell {w : World} {p : Addr} {v : Value} (h : w.cell? p = some v) : ∃ o : Obj, w.heap[p.block]? = some o ∧ o.isCells = true := by
  unfold World.cell? at h
  cases ho : w.heap[p.block]? with
  | none => simp [ho] at h
  | some o => exact ⟨o, rfl, by cases o <;> simp_all [Obj.isCells]⟩
theorem Soft.at {B : Nat} {a b : World} (h : Soft B a b) {p : Addr} {v : Value} (hc : a.cell? p = some v) : b.heap[p.block]? = a.heap[p.block]? := by
  obtain ⟨o, h1, h2⟩ := cells_of_cell hc
  rw [h.block _ _ h1 (.inr h2), h1]
theorem Soft.cell {B : Nat} {a b : World} (h : Soft B a b) {p : Addr} {v : Value} (hc : a.cell? p = some v) : b.cell? p = some v :=
  (World.cell?_of_block (w := a) (h.at hc)).trans hc
theorem Soft.frozen {B : Nat} {a b : World} (h : Soft B a b) {p : Addr} {v : Value} (hc : a.cell? p = some v) (hf : a.frozen? p = false) : b.frozen? p = false :=
  (World.frozen?_of_block (w := a) (h.at hc)).trans hf
theorem NumsV.soft {B : Nat} {k : IntKind} {w w' : World} {v : Value} {xs : List Int} (h : NumsV k w v xs) (hg : Soft B w w') : NumsV k w' v xs := by
  obtain ⟨a, b, o, c, e, hl, hc⟩ := h
  exact ⟨a, b, o, c, e, hl, fun i hi => ⟨(hc i hi).1, hg.cell (hc i hi).2⟩⟩
theorem RowsV.soft {B : Nat} {w w' : World} {v : Value} {h : List (List Int)} (hv : RowsV w v h) (hg : Soft B w w') : RowsV w' v h := by
  obtain ⟨a, b, o, c, e, hl, hc⟩ := hv
  refine ⟨a, b, o, c, e, hl, fun i hi => ?_⟩
  obtain ⟨h1, u, h2, h3⟩ := hc i hi
  exact ⟨h1, u, hg.cell h2, h3.soft hg⟩
/-- What lay when a was lies behind a soft step as behind none. -/
theorem Within.soft {lo hi B : Nat} {a b c : World} (h : Within lo hi a b) (k : Soft B b c) (hB : a.heap.size ≤ B) : Within lo hi a c :=
  ⟨k.os.trans h.os, k.tape.trans h.tape, k.output.trans h.output, Nat.le_trans h.size k.size, fun i hi ho => by
    have hb : i < b.heap.size := Nat.lt_of_lt_of_le hi h.size
    have e := k.block i b.heap[i] (Array.getElem?_eq_getElem hb) (.inl (Nat.lt_of_lt_of_le hi hB))
    rw [e, ← h.block i hi ho, Array.getElem?_eq_getElem hb]⟩
theorem Grew.softly {B : Nat} {a b c : World} (h : Grew a b) (k : Soft B b c) (hB : a.heap.size ≤ B) : Grew a c :=
  Within.grew (Grew.refl a) ((h.within a.heap.size a.heap.size).soft k hB) (Nat.le_refl _)

/-- The slice v lies in a block from lo on and holds xs. -/
def IntsAt (lo : Nat) (w : World) (v : Value) (xs : List Int) : Prop := (∃ g c, v = .slice (some ⟨g, 0, none⟩) xs.length c ∧ lo ≤ g) ∧ IntsV w v xs
theorem IntsAt.soft {lo B : Nat} {w w' : World} {v : Value} {xs : List Int} (h : IntsAt lo w v xs) (hg : Soft B w w') : IntsAt lo w' v xs := ⟨h.1, h.2.soft hg⟩
theorem IntsAt.grew {lo : Nat} {w w' : World} {v : Value} {xs : List Int} (h : IntsAt lo w v xs) (hg : Grew w w') : IntsAt lo w' v xs := ⟨h.1, h.2.grew hg⟩
theorem IntsAt.low {lo lo' : Nat} {w : World} {v : Value} {xs : List Int} (h : IntsAt lo w v xs) (hl : lo' ≤ lo) : IntsAt lo' w v xs :=
  ⟨by obtain ⟨g, c, e, h1⟩ := h.1; exact ⟨g, c, e, Nat.le_trans hl h1⟩, h.2⟩
/-- What is written ahead of lo leaves it. -/
theorem IntsAt.only {lo : Nat} {S : Nat → Prop} {w w' : World} {v : Value} {xs : List Int} (h : IntsAt lo w v xs) (hg : Only S w w') (hS : ∀ k, S k → k < lo) : IntsAt lo w' v xs := by
  obtain ⟨⟨g, c, rfl, h1⟩, h2⟩ := h
  refine ⟨⟨g, c, rfl, h1⟩, some ⟨g, 0, none⟩, g, 0, c, rfl, ?_, fun i hi => ⟨rfl, ?_⟩⟩
  · obtain ⟨_, _, _, _, e, hl, _⟩ := h2
    simp only [Value.slice.injEq] at e
    obtain ⟨_, _, rfl⟩ := e
    exact hl
  · rw [Nat.zero_add]
    exact hg.cell (h2.at i hi) (fun hs => by have : g < lo := hS _ hs; omega)
/-- What lay when a was lies behind a soft step as behind none. -/
theorem Only.soft {S : Nat → Prop} {B : Nat} {a b c : World} (h : Only S a b) (k : Soft B b c) (hB : a.heap.size ≤ B) : Only S a c :=
  ⟨k.os.trans h.os, k.tape.trans h.tape, k.output.trans h.output, Nat.le_trans h.size k.size, fun i hi ho => by
    have hb : i < b.heap.size := Nat.lt_of_lt_of_le hi h.size
    have e := k.block i b.heap[i] (Array.getElem?_eq_getElem hb) (.inl (Nat.lt_of_lt_of_le hi hB))
    rw [e, ← h.block i hi ho, Array.getElem?_eq_getElem hb]⟩

/-- The iterator hands out xs 0 .. xs T, each with its number, unless a round says 'no more'. -/
def IterV (F : Fence) (n : Nat) (P : Program) (g : Nat) (lb : Array Value) (S : Nat → Prop) (xs : Nat → List Int) (T : Nat) (w : World) : Prop :=
  ∀ (l : Nat) (J Jx : Nat → World → Prop) (W : World), Grew w W → w.heap.size ≤ l → l < W.heap.size →
    (∀ t A B, J t A → Soft W.heap.size A B → J t B) → (∀ t A B, Jx t A → Soft W.heap.size A B → Jx t B) →
    (∀ t v W1, t ≤ T → J t W1 → IntsAt W.heap.size W1 v (xs t) → YieldAt F (n - 1) P l #[.int .i64 t, v] W1 fun e W' =>
      Only (fun k => S k ∨ (w.heap.size ≤ k ∧ k < W.heap.size)) W1 W' ∧ ((e = .returned (.bool true) ∧ J (t + 1) W') ∨ (e = .returned (.bool false) ∧ Jx t W'))) →
    J 0 W →
    CallsIn F n P g (#[.func (.yield l) #[] #[]] ++ lb) W fun e W' => (∃ v, e = .returned v) ∧ (J (T + 1) W' ∨ ∃ t, t ≤ T ∧ Jx t W')

/-- How a round may be left. -/
def rPost (S : Nat → Prop) (I : Nat → World → Prop) (Ix : Code → Nat → World → Prop) (t : Nat) (W : World) : Exit → Act → World → Prop
  | .normal, _, W' => Only S W W' ∧ I (t + 1) W'
  | .ret, _, W' => Only S W W' ∧ Ix .ret t W'
  | .exit id, _, W' => Only S W W' ∧ Ix (.exit id) t W'
  | .goto c, _, W' => Only S W W' ∧ Ix (.goto c) t W'
  | .panic _, _, _ => False
  | .outgrown, _, _ => False

theorem range_law {F : Fence} {n : Nat} {P : Program} {g : Operand} {ps : Array Tmp} {assign body : Code} {Q : Exit → Act → World → Prop} {a : Act} {w : World}
    (hro : F.round = none) (h1 : 1 ≤ n) {gf : Nat} {lb : Array Value} (hg : a.eval g = .func (.func gf) #[] lb) (hFg : F.fn gf) (eg : ∀ args w, (callFunc gf args).run P w = .ok (.enter gf args) w)
    (hps : ps.size = 2) {S : Nat → Prop} (hS : ∀ k, S k → k < w.heap.size) {xs : Nat → List Int} {T : Nat} (hseq : IterV F (n - 1) P gf lb S xs T w)
    (I : Nat → World → Prop) (Ix : Code → Nat → World → Prop)
    (hI : ∀ t A B, I t A → Soft w.heap.size A B → I t B) (hIx : ∀ c t A B, Ix c t A → Soft w.heap.size A B → Ix c t B) (h0 : I 0 w)
    (hround : ∀ l t v W, w.heap.size ≤ l → t ≤ T → I t W → IntsAt w.heap.size W v (xs t) →
      assign.wpIn (F.inRound l) (n - 1 - 1) P (Exit.then (fun a₁ W1 => W1 = W ∧ ∀ W2, Soft w.heap.size W W2 → (∃ r, W2.heap[l]? = some (.loop r)) → body.wpIn (F.inRound l) (n - 1 - 1) P (rPost S I Ix t W2) a₁ W2) (fun _ _ _ => False))
        { tmps := (ps.zip #[.int .i64 t, v]).foldl (fun t (p, v) => t.setIfInBounds p v) a.tmps, defers := [] } W)
    (hdone : ∀ D W, w.heap.size ≤ D → I (T + 1) W → W.heap[D]? = some (.deferred (some [])) → Q .normal { a with defers := { target := .collected D, args := #[] } :: a.defers } W)
    (hstop : ∀ D c t W, w.heap.size ≤ D → t ≤ T → Ix c t W → W.heap[D]? = some (.deferred (some [])) → c.wpIn F n P Q { a with defers := { target := .collected D, args := #[] } :: a.defers } W) :
    (Code.rangeFunc g ps assign body).wpIn F n P Q a w := by
  refine wpIn_rangeFunc fun fn hfn => ?_
  rw [hro]
  obtain ⟨rec, hrec⟩ : ∃ rec : LoopState → Option Code → Loop, rec = fun st pe => { state := st, pending := pe, fn, tmps := a.tmps, params := ps, assign, body, defers := w.heap.size } := ⟨_, rfl⟩
  obtain ⟨w1, hw1⟩ : ∃ w1, w.alloc (.deferred (some [])) = w1 := ⟨_, rfl⟩
  obtain ⟨w2, hw2⟩ : ∃ w2, w1.alloc (.loop (rec .ready none)) = w2 := ⟨_, rfl⟩
  have hs1 : w1.heap.size = w.heap.size + 1 := by rw [← hw1]; simp
  have hs2 : w2.heap.size = w.heap.size + 2 := by rw [← hw2]; simp [hs1]
  have g1 : Grew w w1 := by rw [← hw1]; exact (Grew.refl w).alloc _
  have g12 : Grew w1 w2 := by rw [← hw2]; exact (Grew.refl w1).alloc _
  have g2 := g1.trans g12
  have hD2 : w2.heap[w.heap.size]? = some (.deferred (some [])) := by
    rw [Grew.block g12 (by omega), ← hw1]; exact World.alloc_heap_new w _
  have hL2 : w2.heap[w.heap.size + 1]? = some (.loop (rec .ready none)) := by
    have := World.alloc_heap_new w1 (.loop (rec .ready none)); rwa [hw2, hs1] at this
  have abide : ∀ {A B : World} {k : Nat} {o : Obj}, k < w2.heap.size → A.heap[k]? = some o → Soft w2.heap.size A B → B.heap[k]? = some o := fun hk h s => s.block _ _ h (.inl hk)
  refine ⟨w.heap.size + 1, [{ target := .collected w.heap.size, args := #[] }], w2, { target := .fn (.func gf) lb, args := #[.func (.yield (w.heap.size + 1)) #[] #[]] }, w2, gf,
    #[.func (.yield (w.heap.size + 1)) #[] #[]] ++ lb, w2, ?_, ?_, ?_, ?_, fun _ => h1, ?_⟩
  · rw [← hw2, ← hw1, hrec]; exact run_enterLoop_outer _ _ _ _ _
  · simp only [resolve, hg]
    simp [go_sem]
  · intro f' hf'; simp [Target.leads] at hf'; subst hf'; exact hFg
  · simp [invoke, go_sem, eg]
  · refine (hseq (w.heap.size + 1)
      (fun t W => I t W ∧ W.heap[w.heap.size + 1]? = some (.loop (rec .ready none)) ∧ W.heap[w.heap.size]? = some (.deferred (some [])))
      (fun t W => ∃ c, Ix c t W ∧ W.heap[w.heap.size + 1]? = some (.loop (rec .done (some c))) ∧ W.heap[w.heap.size]? = some (.deferred (some [])))
      w2 g2 (by omega) (by omega)
      (fun t A B h s => ⟨hI t A B h.1 (s.less (by omega)), abide (by omega) h.2.1 s, abide (by omega) h.2.2 s⟩)
      (fun t A B ⟨c, h, hl, hd⟩ s => ⟨c, hIx c t A B h (s.less (by omega)), abide (by omega) hl s, abide (by omega) hd s⟩)
      ?_ ⟨hI _ _ _ h0 (g2.soft _), hL2, hD2⟩).mono ?_
    · rintro t v W ht ⟨hi, hl, hd⟩ hv
      have hy := run_yield (P := P) (args := #[.int .i64 t, v]) hl (by rw [hrec]; exact hps.symm)
      rw [hrec] at hy
      refine ⟨fn, _, assign, body, hy, roundIn_of_wpIn hfn (wpIn_mono (hround (w.heap.size + 1) t v W (by omega) ht hi (hv.low (by omega))) ?_)⟩
      rintro e a1 W' hp
      cases e with
      | normal =>
        obtain ⟨rfl, hb⟩ := hp
        have hlt := some_lt hl
        obtain ⟨Wb, hWb⟩ : ∃ Wb, W'.putObj (w.heap.size + 1) (.loop { rec .ready none with state := .busy }) = Wb := ⟨_, rfl⟩
        have sb : Soft w.heap.size W' Wb := by rw [← hWb]; exact Soft.put hl rfl (by omega) _
        have hlb : Wb.heap[w.heap.size + 1]? = some (.loop { rec .ready none with state := .busy }) := by rw [← hWb]; exact World.putObj_heap_same hlt
        have hdb : Wb.heap[w.heap.size]? = some (.deferred (some [])) := by rw [← hWb]; exact (World.putObj_heap_other (by omega)).trans hd
        have wb : Only (fun k => S k ∨ (w.heap.size ≤ k ∧ k < w2.heap.size)) W' Wb := by
          rw [← hWb]
          exact ⟨rfl, rfl, rfl, by simp, fun k _ ho => World.putObj_heap_other (fun e => ho (.inr (by omega)))⟩
        refine ⟨Wb, by rw [← hWb]; exact run_beginRound hl (by rw [hrec]), wpIn_mono (hb Wb sb ⟨_, hlb⟩) ?_⟩
        have fin : ∀ (jump : Option Code) (W3 : World), Only S Wb W3 →
            ∃ W4, (Instr.endRound (w.heap.size + 1) jump).run P W3 = .ok (.bool jump.isNone) W4 ∧ Soft w.heap.size W3 W4 ∧ Only (fun k => S k ∨ (w.heap.size ≤ k ∧ k < w2.heap.size)) W' W4 ∧
              W4.heap[w.heap.size + 1]? = some (.loop (rec (if jump.isNone then .ready else .done) jump)) ∧ W4.heap[w.heap.size]? = some (.deferred (some [])) := fun jump W3 hk => by
          have hl3 : W3.heap[w.heap.size + 1]? = some (.loop { rec .ready none with state := .busy }) := (hk.block _ (some_lt hlb) (fun h => by have := hS _ h; omega)).trans hlb
          have hd3 : W3.heap[w.heap.size]? = some (.deferred (some [])) := (hk.block _ (some_lt hdb) (fun h => by have := hS _ h; omega)).trans hdb
          have hr := run_endRound (P := P) jump hl3
          rw [hrec] at hr hl3 ⊢
          refine ⟨_, hr, Soft.put hl3 rfl (by omega) _, (wb.trans hk (fun _ _ h => .inl h)).trans (T := fun k => S k ∨ (w.heap.size ≤ k ∧ k < w2.heap.size)) ⟨rfl, rfl, rfl, by simp, fun k _ ho => World.putObj_heap_other (fun e => ho (.inr (by omega)))⟩ (fun _ _ h => h), World.putObj_heap_same (some_lt hl3), (World.putObj_heap_other (by omega)).trans hd3⟩
        rintro e2 a2 W3 hp3
        cases e2 with
        | normal =>
          obtain ⟨hw3, hi3⟩ := hp3
          obtain ⟨W4, hr, s4, hw4, hl4, hd4⟩ := fin none W3 hw3
          exact ⟨_, W4, hr, hw4, .inl ⟨rfl, hI _ _ _ hi3 s4, hl4, hd4⟩⟩
        | ret =>
          obtain ⟨hw3, hi3⟩ := hp3
          obtain ⟨W4, hr, s4, hw4, hl4, hd4⟩ := fin (some .ret) W3 hw3
          exact ⟨_, W4, hr, hw4, .inr ⟨rfl, .ret, hIx _ _ _ _ hi3 s4, hl4, hd4⟩⟩
        | exit id =>
          obtain ⟨hw3, hi3⟩ := hp3
          obtain ⟨W4, hr, s4, hw4, hl4, hd4⟩ := fin (some (.exit id)) W3 hw3
          exact ⟨_, W4, hr, hw4, .inr ⟨rfl, .exit id, hIx _ _ _ _ hi3 s4, hl4, hd4⟩⟩
        | goto c =>
          obtain ⟨hw3, hi3⟩ := hp3
          obtain ⟨W4, hr, s4, hw4, hl4, hd4⟩ := fin (some (.goto c)) W3 hw3
          exact ⟨_, W4, hr, hw4, .inr ⟨rfl, .goto c, hIx _ _ _ _ hi3 s4, hl4, hd4⟩⟩
        | panic ch => exact hp3.elim
        | outgrown => exact hp3.elim
      | ret => exact hp.elim
      | exit id => exact hp.elim
      | goto c => exact hp.elim
      | panic ch => exact hp.elim
      | outgrown => exact hp.elim
    · rintro e W2 ⟨⟨v, rfl⟩, (⟨hi, hl, hd⟩ | ⟨t, ht, c, hi, hl, hd⟩)⟩
      · have hr := run_endLoop (P := P) hl (by rw [hrec]; simp)
        rw [hrec] at hr hl
        exact ⟨none, _, hr, hdone _ _ (Nat.le_refl _) (hI _ _ _ hi (Soft.put hl rfl (by omega) _)) ((World.putObj_heap_other (by omega)).trans hd)⟩
      · have hr := run_endLoop (P := P) hl (by rw [hrec]; simp)
        rw [hrec] at hr hl
        exact ⟨some c, _, hr, hstop _ c t _ (Nat.le_refl _) ht (hIx _ _ _ _ hi (Soft.put hl rfl (by omega) _)) ((World.putObj_heap_other (by omega)).trans hd)⟩

end Go.Proofs.YtdhokofcgfolnaaDoor
