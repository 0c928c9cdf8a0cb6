/- The contracts of impl.span.halves and impl.part.quarters. -/
import Derived.Test.YtlfoimjohdaofaaDoorParts
import Derived.Test.YtlfoimjohdaofaaDoorQuadM
namespace Go.Proofs.YtlfoimjohdaofaaDoor
open Go.RowKit

/-- The cells of parts: rows from, rows to, columns from, columns to. -/
def flatP (q : List (Nat × Nat × Nat × Nat)) : List Value := q.flatMap fun e => [.int .i64 (e.1 : Int), .int .i64 (e.2.1 : Int), .int .i64 (e.2.2.1 : Int), .int .i64 (e.2.2.2 : Int)]
theorem flatP_len (q : List (Nat × Nat × Nat × Nat)) : (flatP q).length = q.length * 4 := by
  induction q with
  | nil => rfl
  | cons e q ih => simp only [flatP, List.flatMap_cons, List.length_append, List.length_cons, List.length_nil] at ih ⊢; omega
theorem flatP_append (a b : List (Nat × Nat × Nat × Nat)) : flatP (a ++ b) = flatP a ++ flatP b := by simp [flatP]
def PartsO (E lo hi : Nat) (w : World) (v : Value) (q : List (Nat × Nat × Nat × Nat)) : Prop := w.ownsRow lo E 4 v q.length (flatP q) ∧ ∀ g, v.ownBlock = some g → g < hi
theorem PartsO.grew {E lo hi : Nat} {w w' : World} {v : Value} {q : List (Nat × Nat × Nat × Nat)} (h : PartsO E lo hi w v q) (hg : Grew w w') : PartsO E lo hi w' v q :=
  ⟨ownsRow_block h.1 fun g e => hg.block (World.ownsRow.lt h.1 g e).2, h.2⟩
theorem PartsO.wide {E lo hi lo' hi' : Nat} {w : World} {v : Value} {q : List (Nat × Nat × Nat × Nat)} (h : PartsO E lo hi w v q) (hl : lo' ≤ lo) (hh : hi ≤ hi') : PartsO E lo' hi' w v q :=
  ⟨ownsRow_base h.1 hl, fun g e => Nat.lt_of_lt_of_le (h.2 g e) hh⟩
theorem PartsO.nil (E lo hi : Nat) (w : World) : PartsO E lo hi w (.slice none 0 0) [] := ⟨World.ownsRow_nil _ _ _ _, fun g e => by simp [Value.ownBlock] at e⟩
theorem PartsO.pos {E lo hi : Nat} {w : World} {v : Value} {q : List (Nat × Nat × Nat × Nat)} (h : PartsO E lo hi w v q) (h0 : 0 < q.length) : ∃ g c, v = .slice (some ⟨g, 0, none⟩) q.length c ∧ lo ≤ g ∧ g < hi := by
  rcases h.1.2 with ⟨_, e⟩ | ⟨g, cap, cur, rfl, h3, _⟩
  · omega
  · exact ⟨g, cap, rfl, h3, h.2 g rfl⟩
theorem PartsO.at {E lo hi : Nat} {w : World} {q : List (Nat × Nat × Nat × Nat)} {g c n : Nat} (h : PartsO E lo hi w (.slice (some ⟨g, 0, none⟩) n c) q) (i : Nat) (hi' : i < q.length * 4) : w.cell? ⟨g, i, none⟩ = (flatP q)[i]? := by
  obtain ⟨h1, _⟩ := h
  have hn : n = q.length := by
    rcases h1.2 with ⟨e, _⟩ | ⟨_, _, _, e, _⟩
    · cases e
    · cases e; rfl
  subst hn
  exact World.ownsRow.cellAt h1 i (by omega)
/-- 'append(s, p)' at a slice of parts of the call's own. -/
theorem wpList_append_part {P : Program} {w : World} {ops : Array Oper} {rest : List Oper} {o : Oper} {a : Act} {Q : Exit → Act → World → Prop} (hgd : o.guard = none) (s x : Operand) (t : TypeId)
    (ho : o.op = .call { callee := .builtin .append, args := #[s, x], argTypes := #[t, t] }) {E : TypeId} (ht : P.underlying t = some (.slice E))
    (hinfo : (P.info? E).map (fun i => (i.zero, i.size, i.bytes)) = some (some (.agg #[.int .i64 0, .int .i64 0, .int .i64 0, .int .i64 0]), 4, 32)) {lo hi : Nat} {v : Value} {q : List (Nat × Nat × Nat × Nat)} (e : Nat × Nat × Nat × Nat) {nb : Nat} (hs : a.eval s = v) (hx : a.eval x = .slice (some ⟨nb, 0, none⟩) 1 1) (hnb : nb = w.heap.size)
    (hv : PartsO E lo hi w v q) (hlen : q.length + 1 ≤ 1000000) (hbase : lo ≤ w.heap.size)
    (h : ∀ g c w', PartsO E lo w'.heap.size w' (.slice (some ⟨g, 0, none⟩) (q.length + 1) c) (q ++ [e]) → Within lo hi w w' → w.heap.size < w'.heap.size →
      wpList P ops Q rest (a.put o.dst (.slice (some ⟨g, 0, none⟩) (q.length + 1) c)) w') : wpList P ops Q (o :: rest) a (w.alloc (.cells #[.int .i64 (e.1 : Int), .int .i64 (e.2.1 : Int), .int .i64 (e.2.2.1 : Int), .int .i64 (e.2.2.2 : Int)] E)) := by
  subst hnb
  obtain ⟨i, hi1, hi2, hi3, hi4⟩ := info_parts hinfo
  refine wpList_append_own _ hgd s x t ho lo E i (.agg #[.int .i64 0, .int .i64 0, .int .i64 0, .int .i64 0]) 4 32 ht hi1 hi2 hi3 hi4 (by decide) (by decide) v q.length _ hs (hv.1.alloc _) ⟨w.heap.size, 0, none⟩ 1 1 [.int .i64 (e.1 : Int), .int .i64 (e.2.1 : Int), .int .i64 (e.2.2.1 : Int), .int .i64 (e.2.2.2 : Int)] hx rfl ?_ (by simp [Value.oneCell']) (by unfold maxLen; omega) (by omega) (by simp; omega) ?_
  · intro j u hu
    have hj : j < 4 := by
      have := (List.getElem?_eq_some_iff.1 hu).1
      simpa using this
    rw [Addr.add_lit]
    have : j = 0 ∨ j = 1 ∨ j = 2 ∨ j = 3 := by omega
    rcases this with rfl | rfl | rfl | rfl
    all_goals (simp at hu ⊢; exact hu)
  · intro v' w' hown hg _
    have hW : Within lo hi w w' := (((Grew.refl w).alloc _).within lo hi).trans (grownBy_within hg fun g e => ⟨(World.ownsRow.lt hv.1 g e).1, hv.2 g e⟩)
    have hS : w.heap.size < w'.heap.size := Nat.lt_of_lt_of_le (by simp) hg.size
    have hO : PartsO E lo w'.heap.size w' v' (q ++ [e]) := ⟨by rw [flatP_append, List.length_append]; exact hown, fun g e => (World.ownsRow.lt hown g e).2⟩
    obtain ⟨g, c, hv', _⟩ := hO.pos (by simp)
    have el : (q ++ [e]).length = q.length + 1 := by simp
    rw [el] at hv'
    subst hv'
    exact h g c w' hO hW hS

theorem four_heap {W : World} {g : Nat} {z0 z1 z2 z3 : Value} {T : TypeId} {p0 p1 p2 p3 : Int} (h : W.heap[g]? = some (.cells #[z0, z1, z2, z3] T (0, 0))) :
    ((((W.setCell ⟨g, 0, none⟩ (.int .i64 p0)).setCell ⟨g, 1, none⟩ (.int .i64 p1)).setCell ⟨g, 2, none⟩ (.int .i64 p2)).setCell ⟨g, 3, none⟩ (.int .i64 p3)).heap[g]? = some (.cells #[.int .i64 p0, .int .i64 p1, .int .i64 p2, .int .i64 p3] T (0, 0)) := by
  rw [heap_setCell_same _ _ 3 _ _ _ (heap_setCell_same _ _ 2 _ _ _ (heap_setCell_same _ _ 1 _ _ _ (heap_setCell_same _ _ 0 _ _ _ h)))]
  rfl
theorem four_grew {w W : World} {B : Nat} {p0 p1 p2 p3 : Value} (h : Grew w W) (hB : w.heap.size ≤ B) : Grew w ((((W.setCell ⟨B, 0, none⟩ p0).setCell ⟨B, 1, none⟩ p1).setCell ⟨B, 2, none⟩ p2).setCell ⟨B, 3, none⟩ p3) :=
  Below.setCell (Below.setCell (Below.setCell (Below.setCell h (p := ⟨B, 0, none⟩) hB _) (p := ⟨B, 1, none⟩) hB _) (p := ⟨B, 2, none⟩) hB _) (p := ⟨B, 3, none⟩) hB _
def HalvesPost (f e : Nat) (w : World) (x : Ending) (w' : World) : Prop := x = .returned (.agg #[.int .i64 f, .int .i64 (midQ f e), .int .i64 (midQ f e), .int .i64 e]) ∧ Grew w w'

set_option maxRecDepth 100000 in
set_option maxHeartbeats 2000000 in
theorem halves_any (f e : Nat) (w : World) (hfe : f ≤ e) (he : e ≤ 100) :
    Calls Tryd.prog 54 #[.agg #[.int .i64 f, .int .i64 e]] w (HalvesPost f e w) := by
  obtain ⟨M, eM⟩ : ∃ M, midQ f e = M := ⟨_, rfl⟩
  obtain ⟨d, ed⟩ : ∃ d, (e - f) / 2 = d := ⟨_, rfl⟩
  have hM : (e : Int) - (d : Int) = (M : Int) := by rw [← eM, ← ed]; unfold midQ; omega
  have t1 : ((e : Int) - (f : Int)).tdiv 2 = (d : Int) := by rw [Int.tdiv_eq_ediv_of_nonneg (by omega), ← ed]; omega
  have t2 : ((e : Int) - (f : Int)) / 2 = (d : Int) := by rw [← ed]; omega
  have t3 : IntKind.i64.wrap ((e : Int) - (d : Int)) = (M : Int) := by rw [hM]; exact IntWalk.i64_in _ (by omega)
  have t4 : IntKind.i64.wrap (d : Int) = (d : Int) := IntWalk.i64_in _ (by omega)
  have HM := Lib.hid eM
  clear hM eM ed
  go_enter Tryd.func54, Tryd.ntmps54
  go_wp2
  obtain ⟨W1, hW1⟩ : ∃ W1, (w.alloc (.cells #[.int .i64 f, .int .i64 e] 42)).alloc (.cells #[.int .i64 0, .int .i64 0, .int .i64 0, .int .i64 0] 90) = W1 := ⟨_, rfl⟩
  have HG1 : Hid (Grew w W1) := by rw [← hW1]; exact ((Grew.refl w).alloc _).alloc _
  have c0 : W1.drew.cell? ⟨w.heap.size, 0, none⟩ = some (.int .i64 f) := by rw [← hW1]; simp
  have c1 : W1.drew.cell? ⟨w.heap.size, 1, none⟩ = some (.int .i64 e) := by rw [← hW1]; simp
  have HB1 : Hid (W1.heap[w.heap.size + 1]? = some (.cells #[.int .i64 0, .int .i64 0, .int .i64 0, .int .i64 0] 90 (0, 0))) := by
    rw [← hW1]
    exact heap_alloc2_new w _ _
  have HSZ : Hid (w.heap.size + 1 < W1.heap.size) := by rw [← hW1]; exact Lib.hid (by simp)
  rw [hW1]
  clear hW1
  refine wp_region_noPanic ?_
  refine wp_region_held_drew (S := fun W => (W.cell? ⟨w.heap.size, 0, none⟩ = some (.int .i64 f) ∧ W.cell? ⟨w.heap.size, 1, none⟩ = some (.int .i64 e)) ∧ Grew W1 W) (by kernel_rfl) (by exact ⟨⟨c0, c1⟩, (Grew.refl W1).drew⟩) (fun hHeld => ?_)
  refine wpAnyH_take (i := 0) (oi := { dst := some 4, op := Op.fieldAddr 42 (Operand.tmp 1) 1, type := 0, pos := _, after := #[], guard := none }) (v := ?_) rfl (by kernel_rfl) (by kernel_rfl) (by kernel_rfl) (fun _ _ _ h => h) (Or.inl ⟨by rfl, ?hy⟩) (by assumption) ?_
  case hy => (intro w hSw; (try dsimp only at hSw); go_simp; try with_reducible rfl)
  try simp only [Act.put, List.setIfInBounds_toArray, List.set_cons_zero, List.set_cons_succ]
  refine wpAnyH_take (i := 1) (oi := { dst := some 5, op := Op.load 3 (Operand.tmp 4), type := 3, pos := _, after := #[{ on := 0, ground := Ground.data }], guard := none }) (v := ?_) rfl (by kernel_rfl) (by kernel_rfl) (by kernel_rfl) (fun _ _ _ h => h) (Or.inl ⟨by rfl, ?hy⟩) (by assumption) ?_
  case hy => (intro w hSw; (try dsimp only at hSw); go_simp; try with_reducible rfl)
  try simp only [Act.put, List.setIfInBounds_toArray, List.set_cons_zero, List.set_cons_succ]
  refine wpAnyH_take (i := 2) (oi := { dst := some 6, op := Op.load 42 (Operand.tmp 1), type := 42, pos := _, after := #[], guard := none }) (v := ?_) rfl (by kernel_rfl) (by kernel_rfl) (by kernel_rfl) (fun _ _ _ h => h) (Or.inl ⟨by rfl, ?hy⟩) (by assumption) ?_
  case hy => (intro w hSw; (try dsimp only at hSw); go_simp; try with_reducible rfl)
  try simp only [Act.put, List.setIfInBounds_toArray, List.set_cons_zero, List.set_cons_succ]
  refine wpAnyH_ready (rs := [3]) (by kernel_rfl) (by simp) ?_
  refine AllReadyH.cons (i := 3) (o := { dst := some 7, op := Op.call { callee := Callee.value (Operand.func 63), args := #[Operand.tmp 6], argTypes := #[42] }, type := 3, pos := _, after := #[{ on := 2, ground := Ground.data }], guard := none }) rfl (fun KK hKK => ?_) (AllReadyH.nil)
  go_simp
  go_at_call 63
  refine (spanLen_any _ _ _ (by omega) (by omega) (by omega)).mono ?_
  rintro e3 w3 ⟨rfl, hg3⟩
  have HG3 := Lib.hid hg3
  clear hg3
  refine hKK.out _ _ (by exact ⟨⟨HG3.out.cell hHeld.1.1, HG3.out.cell hHeld.1.2⟩, hHeld.2.trans HG3.out⟩) (fun hHeld => ?_)
  clear hKK KK
  try simp only [Act.put, List.setIfInBounds_toArray, List.set_cons_zero, List.set_cons_succ]
  refine wpAnyH_take (i := 4) (oi := { dst := some 8, op := Op.binOp BinOp.quo 3 (Operand.tmp 7) (Operand.const (Value.int IntKind.i64 2)) 3, type := 3, pos := _, after := #[{ on := 3, ground := Ground.data }], guard := none }) (v := ?_) rfl (by kernel_rfl) (by kernel_rfl) (by kernel_rfl) (fun _ _ _ h => h) (Or.inl ⟨by rfl, ?hy⟩) (by assumption) ?_
  case hy => (intro w hSw; (try dsimp only at hSw); go_simp; try with_reducible rfl)
  try simp only [Act.put, List.setIfInBounds_toArray, List.set_cons_zero, List.set_cons_succ]
  refine wpAnyH_take (i := 5) (oi := { dst := some 9, op := Op.binOp BinOp.sub 3 (Operand.tmp 5) (Operand.tmp 8) 3, type := 3, pos := _, after := #[{ on := 1, ground := Ground.data }, { on := 4, ground := Ground.data }], guard := none }) (v := ?_) rfl (by kernel_rfl) (by kernel_rfl) (by kernel_rfl) (fun _ _ _ h => h) (Or.inl ⟨by rfl, ?hy⟩) (by assumption) ?_
  case hy => (intro w hSw; (try dsimp only at hSw); go_simp; try with_reducible rfl)
  try simp only [Act.put, List.setIfInBounds_toArray, List.set_cons_zero, List.set_cons_succ]
  refine wpAnyH_take (i := 6) (oi := { dst := some 3, op := Op.assign (Operand.tmp 9), type := 3, pos := _, after := #[{ on := 5, ground := Ground.data }, { on := 3, ground := Ground.chain }, { on := 0, ground := Ground.phase }, { on := 1, ground := Ground.phase }, { on := 2, ground := Ground.phase }, { on := 3, ground := Ground.phase }, { on := 4, ground := Ground.phase }, { on := 5, ground := Ground.phase }], guard := none }) (v := ?_) rfl (by kernel_rfl) (by kernel_rfl) (by kernel_rfl) (fun _ _ _ h => h) (Or.inl ⟨by rfl, ?hy⟩) (by assumption) ?_
  case hy => (intro w hSw; (try dsimp only at hSw); go_simp; try with_reducible rfl)
  try simp only [Act.put, List.setIfInBounds_toArray, List.set_cons_zero, List.set_cons_succ]
  refine wpAnyH_done (by kernel_rfl) ?_ _
  refine NoPanic.normal ?_
  have HG3 := Lib.hid hHeld.2
  have hB3 : w3.heap[w.heap.size + 1]? = some (.cells #[.int .i64 0, .int .i64 0, .int .i64 0, .int .i64 0] 90 (0, 0)) := (HG3.out.block HSZ.out).trans HB1.out
  have d0 := hHeld.1.1
  have d1 := hHeld.1.2
  have hz0 : w3.cell? ⟨w.heap.size + 1, 0, none⟩ = some (.int .i64 0) := by simp [World.cell?, hB3]
  have hz1 : w3.cell? ⟨w.heap.size + 1, 1, none⟩ = some (.int .i64 0) := by simp [World.cell?, hB3]
  have hz2 : w3.cell? ⟨w.heap.size + 1, 2, none⟩ = some (.int .i64 0) := by simp [World.cell?, hB3]
  have hz3 : w3.cell? ⟨w.heap.size + 1, 3, none⟩ = some (.int .i64 0) := by simp [World.cell?, hB3]
  have hf0 : w3.frozen? ⟨w.heap.size + 1, 0, none⟩ = false := by simp [World.frozen?, hB3]
  have hf1 : w3.frozen? ⟨w.heap.size + 1, 1, none⟩ = false := by simp [World.frozen?, hB3]
  have hf2 : w3.frozen? ⟨w.heap.size + 1, 2, none⟩ = false := by simp [World.frozen?, hB3]
  have hf3 : w3.frozen? ⟨w.heap.size + 1, 3, none⟩ = false := by simp [World.frozen?, hB3]
  have HB3 := Lib.hid hB3
  clear hHeld hB3 c0 c1 t1 t2 t3 t4
  go_wp2
  refine bodyPost_ret (v := .agg #[.int .i64 f, .int .i64 M, .int .i64 M, .int .i64 e]) (results_cell_row (P := Tryd.prog) rfl _ _ (w.heap.size + 1) 90 _ (0, 0) _ rfl (four_heap HB3.out) Tryd.underlying90 rfl (by kernel_rfl)) rfl ⟨by rw [HM.out], four_grew (HG1.out.trans HG3.out) (by omega)⟩

/-- The four quarters of a part, in their order. -/
def quartL (t l b r : Nat) : List (Nat × Nat × Nat × Nat) := [(t, midQ t b, l, midQ l r), (t, midQ t b, midQ l r, r), (midQ t b, b, l, midQ l r), (midQ t b, b, midQ l r, r)]
def QuartersPost (t l b r : Nat) (w : World) (e : Ending) (w' : World) : Prop := ∃ v, e = .returned v ∧ PartsO 44 w.heap.size w'.heap.size w' v (quartL t l b r) ∧ Grew w w'
theorem Tryd.infoPart : (Tryd.prog.info? 44).map (fun i => (i.zero, i.size, i.bytes)) = some (some (.agg #[.int .i64 0, .int .i64 0, .int .i64 0, .int .i64 0]), 4, 32) := by kernel_rfl
set_option maxRecDepth 100000 in
set_option maxHeartbeats 4000000 in
theorem quarters_any (t l b r : Nat) (w : World) (htb : t ≤ b) (hb : b ≤ 100) (hlr : l ≤ r) (hr : r ≤ 100) :
    Calls Tryd.prog 42 #[.agg #[.int .i64 t, .int .i64 b, .int .i64 l, .int .i64 r]] w (QuartersPost t l b r w) := by
  have HR := Lib.hid (fun W => halves_any t b W htb hb)
  have HC := Lib.hid (fun W => halves_any l r W hlr hr)
  unfold HalvesPost at HR HC
  unfold QuartersPost quartL
  obtain ⟨M, eM⟩ : ∃ M, midQ t b = M := ⟨_, rfl⟩
  obtain ⟨K, eK⟩ : ∃ K, midQ l r = K := ⟨_, rfl⟩
  rw [eM] at HR
  rw [eK] at HC
  rw [eM, eK]
  clear eM eK
  have i0 : ∀ W : World, (Instr.index 90 (.agg #[.int .i64 t, .int .i64 M, .int .i64 M, .int .i64 b]) (.int .i64 0)).run Tryd.prog W = .ok (.agg #[.int .i64 t, .int .i64 M]) W := fun _ => by kernel_rfl
  have i1 : ∀ W : World, (Instr.index 90 (.agg #[.int .i64 t, .int .i64 M, .int .i64 M, .int .i64 b]) (.int .i64 1)).run Tryd.prog W = .ok (.agg #[.int .i64 M, .int .i64 b]) W := fun _ => by kernel_rfl
  have j0 : ∀ W : World, (Instr.index 90 (.agg #[.int .i64 l, .int .i64 K, .int .i64 K, .int .i64 r]) (.int .i64 0)).run Tryd.prog W = .ok (.agg #[.int .i64 l, .int .i64 K]) W := fun _ => by kernel_rfl
  have j1 : ∀ W : World, (Instr.index 90 (.agg #[.int .i64 l, .int .i64 K, .int .i64 K, .int .i64 r]) (.int .i64 1)).run Tryd.prog W = .ok (.agg #[.int .i64 K, .int .i64 r]) W := fun _ => by kernel_rfl
  go_enter Tryd.func42, Tryd.ntmps42
  go_wp2_with (fail)
  obtain ⟨W1, hW1⟩ : ∃ W1, w.alloc (.cells #[.int .i64 t, .int .i64 b, .int .i64 l, .int .i64 r] 44) = W1 := ⟨_, rfl⟩
  have HG1 : Hid (Grew w W1) := by rw [← hW1]; exact (Grew.refl w).alloc _
  have HB2 : Hid (∀ W, Grew W1 W → W.cell? ⟨w.heap.size, 2, none⟩ = some (.int .i64 l) ∧ W.cell? ⟨w.heap.size, 3, none⟩ = some (.int .i64 r)) := Lib.hid fun W hW => ⟨hW.cell (by rw [← hW1]; simp), hW.cell (by rw [← hW1]; simp)⟩
  rw [hW1]
  clear hW1
  refine (HR.out _).mono ?_
  rintro e w2 ⟨rfl, hg2⟩
  have HGC2 := Lib.hid hg2
  clear hg2
  go_wp2_with (fail)
  refine wp_loop_rounds 3 ?_
  rw [rounds_succ]
  have HGA0 : Hid (Grew W1 (w2.alloc (.cells #[.int .i64 t, .int .i64 M] 42))) := Lib.hid (HGC2.out.alloc _)
  have HB50 : Hid (∀ W, Grew (w2.alloc (.cells #[.int .i64 t, .int .i64 M] 42)) W → W.cell? ⟨w2.heap.size, 0, none⟩ = some (.int .i64 t) ∧ W.cell? ⟨w2.heap.size, 1, none⟩ = some (.int .i64 M)) := Lib.hid fun W hW => ⟨hW.cell (by simp), hW.cell (by simp)⟩
  have c2 := (HB2.out _ HGA0.out).1
  have c3 := (HB2.out _ HGA0.out).2
  go_wp2_with (fail)
  clear c2 c3
  refine (HC.out _).mono ?_
  rintro e3 w3 ⟨rfl, hg3⟩
  have HG3 := Lib.hid hg3
  clear hg3
  have HGC3 : Hid (Grew W1 w3) := Lib.hid (HGA0.out.trans HG3.out)
  have HGD3 : Hid (Grew (w2.alloc (.cells #[.int .i64 t, .int .i64 M] 42)) w3) := Lib.hid HG3.out
  go_wp2_with (fail)
  refine wp_loop_rounds 3 ?_
  rw [rounds_succ]
  obtain ⟨LO, eLO⟩ : ∃ LO, w3.heap.size + 1 = LO := ⟨_, rfl⟩
  have HLO := Lib.hid eLO
  clear eLO
  have HLO2 : Hid (W1.heap.size ≤ LO) := Lib.hid (by rw [← HLO.out]; have := HGC3.out.size; omega)
  have HLO3 : Hid (w2.heap.size < LO) := Lib.hid (by rw [← HLO.out]; have := HGD3.out.size; simp at this; omega)
  have b0 := (HB50.out _ (HGD3.out.alloc (.cells #[.int .i64 l, .int .i64 K] 42))).1
  have b1 := (HB50.out _ (HGD3.out.alloc (.cells #[.int .i64 l, .int .i64 K] 42))).2
  have HSZ4 : Hid (LO ≤ w3.heap.size + 1) := Lib.hid (by rw [← HLO.out]; exact Nat.le_refl _)
  go_wp2_with (at_builtin; refine wpList_append_part (lo := LO) (hi := LO) (q := []) (e := ((t, M, l, K) : Nat × Nat × Nat × Nat)) rfl (.tmp 20) (.tmp 24) 67 rfl Tryd.underlying67 Tryd.infoPart rfl rfl (by simp) (PartsO.nil _ LO LO _) (by simp) (by simpa using HSZ4.out) ?_; intro g4 c4 w4 hO4 hW4 hS4)
  have HO4 := Lib.hid hO4
  have HGC4 : Hid (Grew W1 w4) := Lib.hid (Within.grew (HGC3.out.alloc _) hW4 HLO2.out)
  have HGD4 : Hid (Grew (w2.alloc (.cells #[.int .i64 t, .int .i64 M] 42)) w4) := Lib.hid (Within.grew (HGD3.out.alloc _) hW4 (by have := HLO3.out; simp; omega))
  have HS4 : Hid (LO ≤ w4.heap.size) := Lib.hid (by have := HSZ4.out; simp at hS4; omega)
  clear hO4 hW4 hS4 b0 b1
  rw [rounds_succ]
  have b0 := (HB50.out _ (HGD4.out.alloc (.cells #[.int .i64 K, .int .i64 r] 42))).1
  have b1 := (HB50.out _ (HGD4.out.alloc (.cells #[.int .i64 K, .int .i64 r] 42))).2
  have HSZ5 : Hid (LO ≤ w4.heap.size + 1) := Lib.hid (by have := HS4.out; omega)
  go_wp2_with (at_builtin; refine wpList_append_part (lo := LO) (hi := w4.heap.size) (q := [(t, M, l, K)]) (e := ((t, M, K, r) : Nat × Nat × Nat × Nat)) rfl (.tmp 20) (.tmp 24) 67 rfl Tryd.underlying67 Tryd.infoPart rfl rfl (by simp) (HO4.out.grew ((Grew.refl _).alloc _)) (by simp) (by simpa using HSZ5.out) ?_; intro g5 c5 w5 hO5 hW5 hS5)
  have HO5 := Lib.hid hO5
  have HGC5 : Hid (Grew W1 w5) := Lib.hid (Within.grew (HGC4.out.alloc _) hW5 HLO2.out)
  have HGD5 : Hid (Grew (w2.alloc (.cells #[.int .i64 t, .int .i64 M] 42)) w5) := Lib.hid (Within.grew (HGD4.out.alloc _) hW5 (by have := HLO3.out; simp; omega))
  have HS5 : Hid (LO ≤ w5.heap.size) := Lib.hid (by have := HSZ5.out; simp at hS5; omega)
  clear hO5 hW5 hS5 b0 b1
  rw [rounds_succ]
  go_wp2_with (fail)
  rw [rounds_succ]
  have HGA1 : Hid (Grew W1 (w5.alloc (.cells #[.int .i64 M, .int .i64 b] 42))) := Lib.hid (HGC5.out.alloc _)
  have HB51 : Hid (∀ W, Grew (w5.alloc (.cells #[.int .i64 M, .int .i64 b] 42)) W → W.cell? ⟨w5.heap.size, 0, none⟩ = some (.int .i64 M) ∧ W.cell? ⟨w5.heap.size, 1, none⟩ = some (.int .i64 b)) := Lib.hid fun W hW => ⟨hW.cell (by simp), hW.cell (by simp)⟩
  have c2 := (HB2.out _ HGA1.out).1
  have c3 := (HB2.out _ HGA1.out).2
  go_wp2_with (fail)
  clear c2 c3
  refine (HC.out _).mono ?_
  rintro e6 w6 ⟨rfl, hg6⟩
  have HG6 := Lib.hid hg6
  clear hg6
  have HGC6 : Hid (Grew W1 w6) := Lib.hid (HGA1.out.trans HG6.out)
  have HGD6 : Hid (Grew (w5.alloc (.cells #[.int .i64 M, .int .i64 b] 42)) w6) := Lib.hid HG6.out
  go_wp2_with (fail)
  refine wp_loop_rounds 3 ?_
  rw [rounds_succ]
  have HSX : Hid (LO ≤ w6.heap.size) := Lib.hid (by have := HS5.out; have := HG6.out.size; simp at this; omega)
  have b0 := (HB51.out _ (HGD6.out.alloc (.cells #[.int .i64 l, .int .i64 K] 42))).1
  have b1 := (HB51.out _ (HGD6.out.alloc (.cells #[.int .i64 l, .int .i64 K] 42))).2
  have HSZ7 : Hid (LO ≤ w6.heap.size + 1) := Lib.hid (by have := HSX.out; omega)
  go_wp2_with (at_builtin; refine wpList_append_part (lo := LO) (hi := w5.heap.size) (q := [(t, M, l, K), (t, M, K, r)]) (e := ((M, b, l, K) : Nat × Nat × Nat × Nat)) rfl (.tmp 20) (.tmp 24) 67 rfl Tryd.underlying67 Tryd.infoPart rfl rfl (by simp) (HO5.out.grew (((Grew.refl _).alloc _ |>.trans HG6.out).alloc _)) (by simp) (by simpa using HSZ7.out) ?_; intro g7 c7 w7 hO7 hW7 hS7)
  have HO7 := Lib.hid hO7
  have HGC7 : Hid (Grew W1 w7) := Lib.hid (Within.grew (HGC6.out.alloc _) hW7 HLO2.out)
  have HBB := Lib.hid (show w7.cell? ⟨w5.heap.size, 0, none⟩ = some (.int .i64 M) ∧ w7.cell? ⟨w5.heap.size, 1, none⟩ = some (.int .i64 b) from ⟨hW7.cell b0 (.inr (Nat.le_refl _)), hW7.cell b1 (.inr (Nat.le_refl _))⟩)
  have HS7 : Hid (LO ≤ w7.heap.size) := Lib.hid (by have := HSZ7.out; simp at hS7; omega)
  clear hO7 hW7 hS7 b0 b1
  rw [rounds_succ]
  have b0 := ((Grew.refl _).alloc (.cells #[.int .i64 K, .int .i64 r] 42)).cell HBB.out.1
  have b1 := ((Grew.refl _).alloc (.cells #[.int .i64 K, .int .i64 r] 42)).cell HBB.out.2
  have HSZ8 : Hid (LO ≤ w7.heap.size + 1) := Lib.hid (by have := HS7.out; omega)
  go_wp2_with (at_builtin; refine wpList_append_part (lo := LO) (hi := w7.heap.size) (q := [(t, M, l, K), (t, M, K, r), (M, b, l, K)]) (e := ((M, b, K, r) : Nat × Nat × Nat × Nat)) rfl (.tmp 20) (.tmp 24) 67 rfl Tryd.underlying67 Tryd.infoPart rfl rfl (by simp) (HO7.out.grew ((Grew.refl _).alloc _)) (by simp) (by simpa using HSZ8.out) ?_; intro g8 c8 w8 hO8 hW8 hS8)
  have HO8 := Lib.hid hO8
  have HGC8 : Hid (Grew W1 w8) := Lib.hid (Within.grew (HGC7.out.alloc _) hW8 HLO2.out)
  have HS8 : Hid (LO ≤ w8.heap.size) := Lib.hid (by have := HSZ8.out; simp at hS8; omega)
  clear hO8 hW8 hS8 b0 b1
  rw [rounds_succ]
  go_wp2_with (fail)
  rw [rounds_succ]
  go_wp2
  go_ret
  exact ⟨_, rfl, HO8.out.wide (by have := HLO2.out; have := HG1.out.size; omega) (Nat.le_refl _), HG1.out.trans HGC8.out⟩
end Go.Proofs.YtlfoimjohdaofaaDoor
