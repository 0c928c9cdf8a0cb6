/- The contracts of impl.spansIn, impl.span.length, impl.part.cells and impl.GreatestPart. -/
import Derived.Test.YtkeeonjbkfgeeaaSumIn
import Derived.Test.YtkeeonjbkfgeeaaGreatM
import Derived.Test.YtkeeonjbkfgeeaaFr
import Derived.Lib.MinMax
namespace Go.Proofs.Ytkeeonjbkfgeeaa
open Go.RowKit

/-- All spans that end before e, and the first f of those that end at e. -/
def spansTo (e f : Nat) : List (Int × Int) := ((List.range e).flatMap fun i => (List.range i).map fun (j : Nat) => ((j : Int), (i : Int))) ++ (List.range f).map fun (j : Nat) => ((j : Int), (e : Int))
def spansL (n : Nat) : List (Int × Int) := spansTo (n + 1) 0
theorem spansTo_zero : spansTo 0 0 = [] := rfl
theorem spansTo_next (e f : Nat) : spansTo e f ++ [((f : Int), (e : Int))] = spansTo e (f + 1) := by
  unfold spansTo
  rw [List.append_assoc, List.range_succ, List.map_append, List.map_singleton]
theorem spansTo_end (e : Nat) : spansTo e e = spansTo (e + 1) 0 := by
  unfold spansTo
  rw [List.range_succ, List.flatMap_append]
  simp
theorem spansTo_len : ∀ e f, (spansTo e f).length ≤ e * e + f
  | 0, f => by simp [spansTo]
  | e + 1, f => by
    have h1 := spansTo_len e e
    rw [spansTo_end] at h1
    have h2 : (spansTo (e + 1) f).length = (spansTo (e + 1) 0).length + f := by simp [spansTo]
    rw [h2]
    have : (e + 1) * (e + 1) = e * e + e + e + 1 := by rw [Nat.succ_mul, Nat.mul_succ]; omega
    omega
theorem spans_mem (n : Nat) (x : Int × Int) : x ∈ spansL n ↔ ∃ f e : Nat, f < e ∧ e ≤ n ∧ x = ((f : Int), (e : Int)) := by
  unfold spansL spansTo
  simp only [List.range_zero, List.map_nil, List.append_nil, List.mem_flatMap, List.mem_range, List.mem_map]
  constructor
  · rintro ⟨e, he, f, hf, rfl⟩
    exact ⟨f, e, hf, by omega, rfl⟩
  · rintro ⟨f, e, hf, he, rfl⟩
    exact ⟨e, by omega, f, hf, rfl⟩

set_option maxRecDepth 100000 in
set_option maxHeartbeats 2000000 in
theorem spansIn_any (n : Nat) (w : World) (hn5 : n ≤ 5) :
    Calls Try.prog 49 #[.int .i64 n] w fun e w' => ∃ v, e = .returned v ∧ FrO 51 w.heap.size w'.heap.size w' v (spansL n) ∧ Grew w w' := by
  obtain ⟨n1, en1⟩ : ∃ n1, n + 1 = n1 := ⟨_, rfl⟩
  have HN := Lib.hid en1
  have hn6 : n1 ≤ 6 := by omega
  have hw : IntKind.i64.wrap ((n : Int) + 1) = (n1 : Int) := by rw [← en1]; exact IntWalk.i64_in _ (by omega)
  clear en1
  go_enter Try.func49, Try.ntmps49
  go_wp2
  go_loopg [3, 8] n1 (fun gk v i wr => ∃ (e : Nat) (a : Option Addr) (L c' : Nat), v = .slice a L c' ∧ i = .int .i64 (e : Int) ∧ e ≤ n1 ∧ n1 ≤ gk + e ∧ Hid (L = (spansTo e 0).length) ∧ Hid (FrO 51 w.heap.size wr.heap.size wr v (spansTo e 0) ∧ Grew w wr))
  case atStart => exact ⟨0, none, 0, 0, rfl, rfl, Nat.zero_le _, Nat.le_refl _, rfl, FrO.nil _ _ _ _, Grew.refl _⟩
  case round =>
    obtain ⟨e, a, L, c', rfl, rfl, he1, he2, HL, HI⟩ := hrel
    clear hw
    by_cases hlt : e < n1
    · obtain ⟨wo, rfl⟩ : ∃ wo : World, wo = wr := ⟨_, rfl⟩
      obtain ⟨gn, rfl⟩ : ∃ gn : Nat, gn = gk := ⟨_, rfl⟩
      have hei : (e : Int) < n1 := by omega
      have hsl := Lib.hid (fun f => spansTo_len e f)
      have hee : Hid (e * e ≤ 36) := Lib.hid (Nat.mul_le_mul (show e ≤ 6 by omega) (show e ≤ 6 by omega))
      go_wp2
      go_loopg [3, 12] e (fun gk v i wi => ∃ (f : Nat) (a : Option Addr) (L c' : Nat), v = .slice a L c' ∧ i = .int .i64 (f : Int) ∧ f ≤ e ∧ e ≤ gk + f ∧ Hid (L = (spansTo e f).length) ∧ Hid (FrO 51 w.heap.size wi.heap.size wi v (spansTo e f) ∧ Grew w wi))
      case atStart => exact ⟨0, a, L, c', rfl, rfl, Nat.zero_le _, Nat.le_refl _, HL, HI⟩
      case round =>
        obtain ⟨f, a2, L2, c2, rfl, rfl, hf1, hf2, HL2, HX⟩ := hrel
        by_cases hltf : f < e
        · have hfi : (f : Int) < e := by omega
          obtain ⟨Q, eQ⟩ : ∃ Q, spansTo e f = Q := ⟨_, rfl⟩
          have HQ := Lib.hid eQ
          have HQN := Lib.hid (spansTo_next e f)
          have HLE := Lib.hid (hsl.out f)
          rw [eQ] at HX HL2 HQN HLE
          clear eQ
          have HQS := Lib.hid HX.out.2.size
          go_wp2_with (at_builtin; refine wpList_append_fr (q := Q) (e1 := (f : Int)) (e2 := (e : Int)) (lo := w.heap.size) (v := .slice a2 L2 c2) rfl (.tmp 15) (.tmp 19) 56 rfl Try.underlying56 (by kernel_rfl) rfl rfl (by simp) HX.out.1 (by have := HLE.out; have := hee.out; omega) HQS.out ?_; intro g5 c5 w5 hO5 hW5 hS5)
          have HF : Hid (FrO 51 w.heap.size w5.heap.size w5 (.slice (some ⟨g5, 0, none⟩) (Q.length + 1) c5) (spansTo e (f + 1)) ∧ Grew w w5) := by
            rw [HQN.out] at hO5
            exact ⟨hO5, hW5.grew HX.out.2 (Nat.le_refl _)⟩
          have HLN : Hid (Q.length + 1 = (spansTo e (f + 1)).length) := by rw [← HQN.out]; simp [Hid]
          clear hO5 hW5
          go_wp2
          go_roundg (gk - 1)
          case measure => omega
          case rel => exact ⟨f + 1, some ⟨g5, 0, none⟩, Q.length + 1, c5, rfl, by go_num, by omega, by omega, HLN.out, HF.out⟩
        · obtain rfl : f = e := by omega
          have hn' : ¬ (f : Int) < f := by omega
          rw [spansTo_end] at HX HL2
          go_wp2
          go_roundg (gn - 1)
          case measure => omega
          case rel => exact ⟨f + 1, a2, L2, c2, rfl, by go_num, by omega, by omega, HL2, HX⟩
    · obtain rfl : e = n1 := by omega
      have HF : Hid (FrO 51 w.heap.size wr.heap.size wr (.slice a L c') (spansL n) ∧ Grew w wr) := by
        unfold spansL
        rw [HN.out]
        exact HI.out
      go_wp2
      go_ret
      exact ⟨_, rfl, HF.out⟩

set_option maxRecDepth 100000 in
theorem spanLen_any (f e : Int) (w : World) (h0 : 0 ≤ f) (h1 : f ≤ e) (h2 : e ≤ 1000) :
    Calls Try.prog 66 #[.agg #[.int .i64 f, .int .i64 e]] w fun e' w' => e' = .returned (.int .i64 (e - f)) ∧ Grew w w' := by
  go_enter Try.func66, Try.ntmps66
  go_wp2
  go_ret
  exact ⟨rfl, (Grew.refl w).alloc _⟩
set_option maxRecDepth 100000 in
set_option maxHeartbeats 2000000 in
theorem partCells_any (t b l r : Int) (w : World) (h0 : 0 ≤ t) (h1 : t ≤ b) (h2 : b ≤ 100) (k0 : 0 ≤ l) (k1 : l ≤ r) (k2 : r ≤ 100) :
    Calls Try.prog 50 #[.agg #[.int .i64 t, .int .i64 b, .int .i64 l, .int .i64 r]] w fun e w' => e = .returned (.int .i64 ((b - t) * (r - l))) ∧ Grew w w' := by
  have hm0 : 0 ≤ (b - t) * (r - l) := Int.mul_nonneg (by omega) (by omega)
  have hm1 : (b - t) * (r - l) ≤ 100 * 100 := Int.mul_le_mul (by omega) (by omega) (by omega) (by omega)
  have hw1 : IntKind.i64.wrap ((b - t) * (r - l)) = (b - t) * (r - l) := IntWalk.i64_in _ (by omega)
  clear hm0 hm1
  go_enter Try.func50, Try.ntmps50
  go_wp2
  obtain ⟨W1, hW1⟩ : ∃ W1, w.alloc (.cells #[.int .i64 t, .int .i64 b, .int .i64 l, .int .i64 r] 53) = W1 := ⟨_, rfl⟩
  have HG1 : Hid (Grew w W1) := by rw [← hW1]; exact (Grew.refl w).alloc _
  have c0 : W1.drew.cell? ⟨w.heap.size, 0, none⟩ = some (.int .i64 t) := by rw [← hW1]; simp
  have c1 : W1.drew.cell? ⟨w.heap.size, 1, none⟩ = some (.int .i64 b) := by rw [← hW1]; simp
  have c2 : W1.drew.cell? ⟨w.heap.size, 2, none⟩ = some (.int .i64 l) := by rw [← hW1]; simp
  have c3 : W1.drew.cell? ⟨w.heap.size, 3, none⟩ = some (.int .i64 r) := by rw [← hW1]; simp
  rw [hW1]
  clear hW1
  refine wp_region_noPanic ?_
  refine wp_region_held_drew (S := fun W => (W.cell? ⟨w.heap.size, 0, none⟩ = some (.int .i64 t) ∧ W.cell? ⟨w.heap.size, 1, none⟩ = some (.int .i64 b) ∧ W.cell? ⟨w.heap.size, 2, none⟩ = some (.int .i64 l) ∧ W.cell? ⟨w.heap.size, 3, none⟩ = some (.int .i64 r)) ∧ Grew w W) (by kernel_rfl) (by exact ⟨⟨c0, c1, c2, c3⟩, HG1.out.drew⟩) (fun hHeld => ?_)
  refine wpAnyH_take (i := 0) (oi := { dst := some 3, op := Op.fieldAddr 53 (Operand.tmp 1) 0, type := 0, pos := _, after := #[], guard := none }) (v := ?_) rfl (by kernel_rfl) (by kernel_rfl) (by kernel_rfl) (fun _ _ _ h => h) (Or.inl ⟨by rfl, ?hy⟩) (by assumption) ?_
  case hy => (intro w hSw; (try dsimp only at hSw); go_simp; try with_reducible rfl)
  try simp only [Act.put, List.setIfInBounds_toArray, List.set_cons_zero, List.set_cons_succ]
  refine wpAnyH_take (i := 1) (oi := { dst := some 4, op := Op.load 51 (Operand.tmp 3), type := 51, pos := _, after := #[{ on := 0, ground := Ground.data }], guard := none }) (v := ?_) rfl (by kernel_rfl) (by kernel_rfl) (by kernel_rfl) (fun _ _ _ h => h) (Or.inl ⟨by rfl, ?hy⟩) (by assumption) ?_
  case hy => (intro w hSw; (try dsimp only at hSw); go_simp; try with_reducible rfl)
  try simp only [Act.put, List.setIfInBounds_toArray, List.set_cons_zero, List.set_cons_succ]
  refine wpAnyH_take (i := 3) (oi := { dst := some 6, op := Op.fieldAddr 53 (Operand.tmp 1) 1, type := 0, pos := _, after := #[], guard := none }) (v := ?_) rfl (by kernel_rfl) (by kernel_rfl) (by kernel_rfl) (fun _ _ _ h => h) (Or.inl ⟨by rfl, ?hy⟩) (by assumption) ?_
  case hy => (intro w hSw; (try dsimp only at hSw); go_simp; try with_reducible rfl)
  try simp only [Act.put, List.setIfInBounds_toArray, List.set_cons_zero, List.set_cons_succ]
  refine wpAnyH_take (i := 4) (oi := { dst := some 7, op := Op.load 51 (Operand.tmp 6), type := 51, pos := _, after := #[{ on := 3, ground := Ground.data }], guard := none }) (v := ?_) rfl (by kernel_rfl) (by kernel_rfl) (by kernel_rfl) (fun _ _ _ h => h) (Or.inl ⟨by rfl, ?hy⟩) (by assumption) ?_
  case hy => (intro w hSw; (try dsimp only at hSw); go_simp; try with_reducible rfl)
  try simp only [Act.put, List.setIfInBounds_toArray, List.set_cons_zero, List.set_cons_succ]
  refine wpAnyH_ready (rs := [2]) (by kernel_rfl) (by simp) ?_
  refine AllReadyH.cons (i := 2) (o := { dst := some 5, op := Op.call { callee := Callee.value (Operand.func 66), args := #[Operand.tmp 4], argTypes := #[51] }, type := 3, pos := _, after := #[{ on := 1, ground := Ground.data }], guard := none }) rfl (fun KK hKK => ?_) (AllReadyH.nil)
  go_simp
  go_at_call 66
  refine (spanLen_any _ _ _ (by omega) (by omega) (by omega)).mono ?_
  rintro e w3 ⟨rfl, hg3⟩
  have HG3 := Lib.hid hg3
  clear hg3
  refine hKK.out _ _ (by exact ⟨⟨HG3.out.cell hHeld.1.1, HG3.out.cell hHeld.1.2.1, HG3.out.cell hHeld.1.2.2.1, HG3.out.cell hHeld.1.2.2.2⟩, hHeld.2.trans HG3.out⟩) (fun hHeld => ?_)
  clear hKK KK
  try simp only [Act.put, List.setIfInBounds_toArray, List.set_cons_zero, List.set_cons_succ]
  refine wpAnyH_ready (rs := [5]) (by kernel_rfl) (by simp) ?_
  refine AllReadyH.cons (i := 5) (o := { dst := some 8, op := Op.call { callee := Callee.value (Operand.func 66), args := #[Operand.tmp 7], argTypes := #[51] }, type := 3, pos := _, after := #[{ on := 4, ground := Ground.data }, { on := 2, ground := Ground.chain }], guard := none }) rfl (fun KK hKK => ?_) (AllReadyH.nil)
  go_simp
  go_at_call 66
  refine (spanLen_any _ _ _ (by omega) (by omega) (by omega)).mono ?_
  rintro e w3 ⟨rfl, hg3⟩
  have HG3 := Lib.hid hg3
  clear hg3
  refine hKK.out _ _ (by exact ⟨⟨HG3.out.cell hHeld.1.1, HG3.out.cell hHeld.1.2.1, HG3.out.cell hHeld.1.2.2.1, HG3.out.cell hHeld.1.2.2.2⟩, hHeld.2.trans HG3.out⟩) (fun hHeld => ?_)
  clear hKK KK
  try simp only [Act.put, List.setIfInBounds_toArray, List.set_cons_zero, List.set_cons_succ]
  refine wpAnyH_take (i := 6) (oi := { dst := some 9, op := Op.binOp BinOp.mul 3 (Operand.tmp 5) (Operand.tmp 8) 3, type := 3, pos := _, after := #[{ on := 2, ground := Ground.data }, { on := 5, ground := Ground.data }], guard := none }) (v := ?_) rfl (by kernel_rfl) (by kernel_rfl) (by kernel_rfl) (fun _ _ _ h => h) (Or.inl ⟨by rfl, ?hy⟩) (by assumption) ?_
  case hy => (intro w hSw; (try dsimp only at hSw); go_simp; try with_reducible rfl)
  try simp only [Act.put, List.setIfInBounds_toArray, List.set_cons_zero, List.set_cons_succ]
  refine wpAnyH_take (i := 7) (oi := { dst := some 2, op := Op.assign (Operand.tmp 9), type := 3, pos := _, after := #[{ on := 6, ground := Ground.data }, { on := 5, ground := Ground.chain }, { on := 0, ground := Ground.phase }, { on := 1, ground := Ground.phase }, { on := 2, ground := Ground.phase }, { on := 3, ground := Ground.phase }, { on := 4, ground := Ground.phase }, { on := 5, ground := Ground.phase }, { on := 6, ground := Ground.phase }], guard := none }) (v := ?_) rfl (by kernel_rfl) (by kernel_rfl) (by kernel_rfl) (fun _ _ _ h => h) (Or.inl ⟨by rfl, ?hy⟩) (by assumption) ?_
  case hy => (intro w hSw; (try dsimp only at hSw); go_simp; try with_reducible rfl)
  try simp only [Act.put, List.setIfInBounds_toArray, List.set_cons_zero, List.set_cons_succ]
  refine wpAnyH_done (by kernel_rfl) ?_ _
  refine NoPanic.normal ?_
  go_wp2
  go_ret
  exact ⟨rfl, hHeld.2⟩

theorem spans_is (n : Nat) : IsSpans n (spansL n) := fun x => spans_mem n x
/-- The greatest sum of a part, each number less s. -/
def greatX (h : List (List Int)) (s : Int) : Int := if vGrid h = true then if 0 ≤ s ∧ s ≤ 12 then greatL h s h.length (h.getD 0 []).length else -1 else -1
set_option maxRecDepth 100000 in
set_option maxHeartbeats 8000000 in
theorem GreatestPart_any (v : Value) (h : List (List Int)) (s : Int) (w : World) (hv : RowsV w v h) :
    Calls Try.prog 23 #[v, .int .i64 s] w fun e w' => e = .returned (.int .i64 (greatX h s)) ∧ Grew w w' := by
  have HK := Lib.hid (ValidGrid_any v h w hv)
  unfold greatX
  cases hp : vGrid h with
  | false =>
    rw [hp] at HK
    obtain ⟨sa, sb, so, sc, rfl, _, _, _⟩ := hv.shape
    clear hp hv
    go_enter Try.func23, Try.ntmps23
    go_wp2_with (fail)
    refine HK.out.mono ?_
    rintro e w1 ⟨rfl, rfl⟩
    go_wp2
    go_ret
    exact ⟨ret_int (by simp), Grew.refl _⟩
  | true =>
    rw [hp] at HK
    rw [if_pos rfl]
    by_cases h0 : 0 ≤ s
    · by_cases h12 : s ≤ 12
      · rw [if_pos ⟨h0, h12⟩]
        have HP := Lib.hid hp
        have G := Grid.of hp
        obtain ⟨m, em⟩ : ∃ m, (h.getD 0 []).length = m := ⟨_, rfl⟩
        rw [em] at G ⊢
        obtain ⟨n, en⟩ : ∃ n, h.length = n := ⟨_, rfl⟩
        have hh1 := G.n1
        have hh5 := G.n5
        have hm1 := G.m1
        have hm5 := G.m5
        have HG := Lib.hid (And.intro G (And.intro en em))
        have HV := Lib.hid hv
        obtain ⟨sa, sb, so, sc, rfl, ⟨hlc, hcb⟩, ha, HC⟩ := hv.shape
        obtain rfl := ha hh1
        obtain ⟨u0, hc0, hu0⟩ := HC.out 0 hh1
        rw [Nat.add_zero] at hc0
        obtain ⟨a0, b0, o0, c0, rfl, _, _, _⟩ := hu0.shape
        rw [em] at hc0
        rw [en] at HV HK hh1 hh5 hlc ⊢
        have HC0 := Lib.hid hc0
        have hi0 : (0 : Int) < n := by omega
        have hn0 : 0 < n := hh1
        have HAS := Lib.hid (spans_is n)
        have HBS := Lib.hid (spans_is m)
        obtain ⟨A, eA⟩ : ∃ A, spansL n = A := ⟨_, rfl⟩
        obtain ⟨B, eB⟩ : ∃ B, spansL m = B := ⟨_, rfl⟩
        have HSA : Hid (∀ W, Calls Try.prog 49 #[.int .i64 n] W (fun e w' => ∃ v, e = .returned v ∧ FrO 51 W.heap.size w'.heap.size w' v A ∧ Grew W w')) := by rw [← eA]; exact Lib.hid fun W => spansIn_any n W hh5
        have HSB0 : Hid (∀ W, Calls Try.prog 49 #[.int .i64 m] W (fun e w' => ∃ v, e = .returned v ∧ FrO 51 W.heap.size w'.heap.size w' v B ∧ Grew W w')) := by rw [← eB]; exact Lib.hid fun W => spansIn_any m W hm5
        rw [eA] at HAS
        rw [eB] at HBS
        have hAp : 0 < A.length := by
          have : ((0 : Int), (1 : Int)) ∈ A := (HAS.out _).2 ⟨0, 1, by omega, hh1, rfl⟩
          exact List.length_pos_of_mem this
        have hBp : 0 < B.length := by
          have : ((0 : Int), (1 : Int)) ∈ B := (HBS.out _).2 ⟨0, 1, by omega, hm1, rfl⟩
          exact List.length_pos_of_mem this
        clear hp hv ha HC hu0 G em en hc0 eA eB
        go_enter Try.func23, Try.ntmps23
        go_wp2_with (fail)
        refine HK.out.mono ?_
        rintro e w1 ⟨rfl, rfl⟩
        go_wp2_with (fail)
        refine (SumsOf_any _ h w HV.out).mono ?_
        rintro e w1 ⟨v1, rfl, hO1, hg1⟩
        unfold sumsX at hO1
        rw [if_pos HP.out, HG.out.2.2] at hO1
        have H1 := Lib.hid (And.intro hO1.toV hg1)
        obtain ⟨a1, c1, rfl⟩ := hO1.sh
        obtain ⟨L1, eL1⟩ : ∃ L1, (sumsL h m).length = L1 := ⟨_, rfl⟩
        rw [eL1] at H1 ⊢
        clear hO1 hg1 eL1
        go_wp2_with (fail)
        refine (HSA.out _).mono ?_
        rintro e w2 ⟨v2, rfl, hO2, hg2⟩
        obtain ⟨gA, cA, rfl, _, _, _, _⟩ := hO2.pos hAp
        have H2 := Lib.hid (And.intro hO2 (And.intro (H1.out.1.grew hg2) (H1.out.2.trans hg2)))
        clear hO2 hg2
        go_wp2
        go_loopw [6, 29] (fun g i wr => ∃ (k : Nat) (gx : Int), k ≤ A.length ∧ i = .int .i64 k ∧ g = .int .i64 gx ∧ Hid (Bst (SeenR h s A B k) gx) ∧ Hid (0 ≤ gx ∧ gx ≤ 300) ∧ Hid (Grew w2 wr)) (fun _ i _ => A.length - (intOf i).toNat)
        case atStart => exact ⟨0, 0, Nat.zero_le _, rfl, rfl, seenR_zero h s A B, ⟨by omega, by omega⟩, Grew.refl _⟩
        case round =>
          obtain ⟨k, gx, hk, rfl, rfl, HB, HBD, HI⟩ := hrel
          by_cases hlt : k < A.length
          · obtain ⟨wo, rfl⟩ : ∃ wo : World, wo = wr := ⟨_, rfl⟩
            obtain ⟨t, b, htb, hbn, eX⟩ := HAS.out.at k hlt
            have hcx := (H2.out.1.grew HI.out).at rfl hlt
            rw [eX] at hcx
            obtain ⟨hx1, hx2, _⟩ := hcx
            have HBC : Hid (Bst (fun v => SeenR h s A B k v ∨ SeenC h s B ((t : Int), (b : Int)) 0 v) gx) := seenC_zero HB.out
            have HX := Lib.hid eX
            have hki : (k : Int) < A.length := by omega
            have hcb := (H2.out.2.2.trans HI.out).cell HC0.out
            have hcb' := ((Grew.refl wo).alloc (.cells #[.int .i64 t, .int .i64 b] 51)).cell hcb
            clear eX hcb
            go_wp2_with (fail)
            refine (HSB0.out _).mono ?_
            rintro e w4 ⟨v4, rfl, hO4, hg4⟩
            obtain ⟨gB, cB, rfl, _, _, _, _⟩ := hO4.pos hBp
            have hr1 : w4.cell? ⟨wo.heap.size, 0, none⟩ = some (.int .i64 t) := hg4.cell (by simp)
            have hr2 : w4.cell? ⟨wo.heap.size, 1, none⟩ = some (.int .i64 b) := hg4.cell (by simp)
            have H4 := Lib.hid (And.intro hO4 (And.intro (HI.out.trans (((Grew.refl wo).alloc _).trans hg4)) (And.intro hr1 hr2)))
            clear hO4 hg4 hr1 hr2 hx1 hx2 hcb'
            go_wp2
            go_loopw [6, 39] (fun g i wi => ∃ (q : Nat) (gx : Int), q ≤ B.length ∧ i = .int .i64 q ∧ g = .int .i64 gx ∧ Hid (Bst (fun v => SeenR h s A B k v ∨ SeenC h s B ((t : Int), (b : Int)) q v) gx) ∧ Hid (0 ≤ gx ∧ gx ≤ 300) ∧ Hid (Grew w4 wi)) (fun _ i _ => B.length - (intOf i).toNat)
            case atStart => exact ⟨0, gx, Nat.zero_le _, rfl, rfl, HBC.out, HBD.out, Grew.refl _⟩
            case round =>
              obtain ⟨q, gx, hq, rfl, rfl, HBC, HBD, HJ⟩ := hrel
              by_cases hqt : q < B.length
              · obtain ⟨wi, rfl⟩ : ∃ wi : World, wi = wr := ⟨_, rfl⟩
                obtain ⟨l, r, hlr, hrm, eY⟩ := HBS.out.at q hqt
                have hcy := (H4.out.1.grew HJ.out).at rfl hqt
                rw [eY] at hcy
                obtain ⟨hy1, hy2, _⟩ := hcy
                have hr1 := HJ.out.cell H4.out.2.2.1
                have hr2 := HJ.out.cell H4.out.2.2.2
                have hs1 := ((Grew.refl wi).alloc (.cells #[.int .i64 l, .int .i64 r] 51)).cell hr1
                have hs2 := ((Grew.refl wi).alloc (.cells #[.int .i64 l, .int .i64 r] 51)).cell hr2
                have hnb := seenC_next hqt HBC.out
                rw [eY] at hnb
                have hvl := valS_is h s t l b r (by omega) (by omega)
                have hvb := valS_bd HG.out.1 s ⟨h0, h12⟩ t l b r (by have := HG.out.2.1; omega) hrm
                rw [show valP h s ((t : Int), (b : Int)) ((l : Int), (r : Int)) = valS h s t l b r by simp [valP]] at hnb
                have hpb := partS_bd HG.out.1 t l b r (by have := HG.out.2.1; omega) hrm
                have hcc0 : (0 : Int) ≤ ((b : Int) - t) * ((r : Int) - l) := Int.mul_nonneg (by omega) (by omega)
                have hcc1 : ((b : Int) - t) * ((r : Int) - l) ≤ 5 * 5 := Int.mul_le_mul (by omega) (by omega) (by omega) (by omega)
                have hsc0 : (0 : Int) ≤ s * (((b : Int) - t) * ((r : Int) - l)) := Int.mul_nonneg h0 hcc0
                have hsc1 : s * (((b : Int) - t) * ((r : Int) - l)) ≤ 12 * 25 := Int.mul_le_mul h12 (by omega) hcc0 (by omega)
                have HSB : Hid (∀ W, Grew wi W → Calls Try.prog 46 #[.agg #[.int .i64 t, .int .i64 b, .int .i64 l, .int .i64 r], .slice a1 L1 c1] W fun e w' => e = .returned (.int .i64 (partS h t l b r)) ∧ Grew W w') := Lib.hid fun W hW => sumBy_any _ h m t l b r W HG.out.1 (H2.out.2.1.grew (H4.out.2.1.trans (HJ.out.trans hW))) (by omega) (by have := HG.out.2.1; omega) (by omega) hrm
                have HPC : Hid (∀ W, Calls Try.prog 50 #[.agg #[.int .i64 t, .int .i64 b, .int .i64 l, .int .i64 r]] W fun e w' => e = .returned (.int .i64 (((b : Int) - t) * ((r : Int) - l))) ∧ Grew W w') := Lib.hid fun W => partCells_any t b l r W (by omega) (by omega) (by omega) (by omega) (by omega) (by omega)
                obtain ⟨cc, ecc⟩ : ∃ cc, ((b : Int) - t) * ((r : Int) - l) = cc := ⟨_, rfl⟩
                obtain ⟨ps, eps⟩ : ∃ ps, partS h t l b r = ps := ⟨_, rfl⟩
                obtain ⟨val, eval⟩ : ∃ val, valS h s t l b r = val := ⟨_, rfl⟩
                rw [ecc] at hvl hsc0 hsc1 HPC
                rw [eps] at hvl HSB hpb
                rw [eval] at hvl hnb hvb
                obtain ⟨sc2, esc2⟩ : ∃ sc2, s * cc = sc2 := ⟨_, rfl⟩
                rw [esc2] at hvl hsc0 hsc1
                have wa : IntKind.i64.wrap (s * cc) = sc2 := by rw [esc2]; exact IntWalk.i64_in _ (by omega)
                have wb : IntKind.i64.wrap (ps - sc2) = ps - sc2 := IntWalk.i64_in _ (by omega)
                have HVL := Lib.hid hvl
                have HNB : Hid (Bst (fun v => SeenR h s A B k v ∨ SeenC h s B ((t : Int), (b : Int)) (q + 1) v) (max gx (ps - sc2))) := by rw [hvl]; exact hnb
                have HBD2 : Hid (0 ≤ max gx (ps - sc2) ∧ max gx (ps - sc2) ≤ 300) := Lib.hid (by have := HBD.out; omega)
                have hqi : (q : Int) < B.length := by omega
                clear ecc eps eval esc2 hnb hvl eY hvb hpb hcc0 hcc1 hsc0 hsc1 HBD
                go_wp2
                obtain ⟨W2, hW2⟩ : ∃ W2, (wi.alloc (.cells #[.int .i64 l, .int .i64 r] 51)).alloc (.cells #[.int .i64 t, .int .i64 b, .int .i64 l, .int .i64 r] 53) = W2 := ⟨_, rfl⟩
                have HS2 : Hid ((W2.drew.cell? ⟨wi.heap.size + 1, 0, none⟩ = some (.int .i64 t) ∧ W2.drew.cell? ⟨wi.heap.size + 1, 1, none⟩ = some (.int .i64 b) ∧ W2.drew.cell? ⟨wi.heap.size + 1, 2, none⟩ = some (.int .i64 l) ∧ W2.drew.cell? ⟨wi.heap.size + 1, 3, none⟩ = some (.int .i64 r)) ∧ Grew wi W2.drew) := by
                  rw [← hW2]
                  refine ⟨⟨?_, ?_, ?_, ?_⟩, (((Grew.refl wi).alloc _).alloc _).drew⟩ <;> simp
                rw [hW2]
                clear hW2 hy1 hy2 hr1 hr2 hs1 hs2
                refine wp_region_noPanic ?_
                refine wp_region_held_drew (S := fun W => (W.cell? ⟨wi.heap.size + 1, 0, none⟩ = some (.int .i64 t) ∧ W.cell? ⟨wi.heap.size + 1, 1, none⟩ = some (.int .i64 b) ∧ W.cell? ⟨wi.heap.size + 1, 2, none⟩ = some (.int .i64 l) ∧ W.cell? ⟨wi.heap.size + 1, 3, none⟩ = some (.int .i64 r)) ∧ Grew wi W) (by kernel_rfl) (by exact HS2.out) (fun hHeld => ?_)
                refine wpAnyH_take (i := 0) (oi := { dst := some 46, op := Op.move (Operand.tmp 6), type := 3, pos := _, after := #[], guard := none }) (v := ?_) rfl (by kernel_rfl) (by kernel_rfl) (by kernel_rfl) (fun _ _ _ h => h) (Or.inl ⟨by rfl, ?hy⟩) (by assumption) ?_
                case hy => (intro w hSw; (try dsimp only at hSw); go_simp; try with_reducible rfl)
                try simp only [Act.put, List.setIfInBounds_toArray, List.set_cons_zero, List.set_cons_succ]
                refine wpAnyH_take (i := 1) (oi := { dst := some 47, op := Op.load 53 (Operand.tmp 11), type := 53, pos := _, after := #[], guard := none }) (v := ?_) rfl (by kernel_rfl) (by kernel_rfl) (by kernel_rfl) (fun _ _ _ h => h) (Or.inl ⟨by rfl, ?hy⟩) (by assumption) ?_
                case hy => (intro w hSw; (try dsimp only at hSw); go_simp; try with_reducible rfl)
                try simp only [Act.put, List.setIfInBounds_toArray, List.set_cons_zero, List.set_cons_succ]
                refine wpAnyH_take (i := 2) (oi := { dst := some 48, op := Op.move (Operand.tmp 5), type := 23, pos := _, after := #[], guard := none }) (v := ?_) rfl (by kernel_rfl) (by kernel_rfl) (by kernel_rfl) (fun _ _ _ h => h) (Or.inl ⟨by rfl, ?hy⟩) (by assumption) ?_
                case hy => (intro w hSw; (try dsimp only at hSw); go_simp; try with_reducible rfl)
                try simp only [Act.put, List.setIfInBounds_toArray, List.set_cons_zero, List.set_cons_succ]
                refine wpAnyH_take (i := 4) (oi := { dst := some 50, op := Op.move (Operand.tmp 1), type := 3, pos := _, after := #[], guard := none }) (v := ?_) rfl (by kernel_rfl) (by kernel_rfl) (by kernel_rfl) (fun _ _ _ h => h) (Or.inl ⟨by rfl, ?hy⟩) (by assumption) ?_
                case hy => (intro w hSw; (try dsimp only at hSw); go_simp; try with_reducible rfl)
                try simp only [Act.put, List.setIfInBounds_toArray, List.set_cons_zero, List.set_cons_succ]
                refine wpAnyH_take (i := 5) (oi := { dst := some 51, op := Op.load 53 (Operand.tmp 11), type := 53, pos := _, after := #[], guard := none }) (v := ?_) rfl (by kernel_rfl) (by kernel_rfl) (by kernel_rfl) (fun _ _ _ h => h) (Or.inl ⟨by rfl, ?hy⟩) (by assumption) ?_
                case hy => (intro w hSw; (try dsimp only at hSw); go_simp; try with_reducible rfl)
                try simp only [Act.put, List.setIfInBounds_toArray, List.set_cons_zero, List.set_cons_succ]
                refine wpAnyH_ready (rs := [3]) (by kernel_rfl) (by simp) ?_
                refine AllReadyH.cons (i := 3) (o := { dst := some 49, op := Op.call { callee := Callee.value (Operand.func 46), args := #[Operand.tmp 47, Operand.tmp 48], argTypes := #[53, 23] }, type := 3, pos := _, after := #[{ on := 1, ground := Ground.data }, { on := 2, ground := Ground.data }], guard := none }) rfl (fun KK hKK => ?_) (AllReadyH.nil)
                go_simp
                go_at_call 46
                refine (HSB.out _ hHeld.2).mono ?_
                rintro e w3 ⟨rfl, hg3⟩
                have HG3 := Lib.hid hg3
                clear hg3
                refine hKK.out _ _ (by exact ⟨⟨HG3.out.cell hHeld.1.1, HG3.out.cell hHeld.1.2.1, HG3.out.cell hHeld.1.2.2.1, HG3.out.cell hHeld.1.2.2.2⟩, hHeld.2.trans HG3.out⟩) (fun hHeld => ?_)
                clear hKK KK
                try simp only [Act.put, List.setIfInBounds_toArray, List.set_cons_zero, List.set_cons_succ]
                refine wpAnyH_ready (rs := [6]) (by kernel_rfl) (by simp) ?_
                refine AllReadyH.cons (i := 6) (o := { dst := some 52, op := Op.call { callee := Callee.value (Operand.func 50), args := #[Operand.tmp 51], argTypes := #[53] }, type := 3, pos := _, after := #[{ on := 5, ground := Ground.data }, { on := 3, ground := Ground.chain }], guard := none }) rfl (fun KK hKK => ?_) (AllReadyH.nil)
                go_simp
                go_at_call 50
                refine (HPC.out _).mono ?_
                rintro e w3 ⟨rfl, hg3⟩
                have HG3 := Lib.hid hg3
                clear hg3
                refine hKK.out _ _ (by exact ⟨⟨HG3.out.cell hHeld.1.1, HG3.out.cell hHeld.1.2.1, HG3.out.cell hHeld.1.2.2.1, HG3.out.cell hHeld.1.2.2.2⟩, hHeld.2.trans HG3.out⟩) (fun hHeld => ?_)
                clear hKK KK
                try simp only [Act.put, List.setIfInBounds_toArray, List.set_cons_zero, List.set_cons_succ]
                refine wpAnyH_take (i := 7) (oi := { dst := some 53, op := Op.binOp BinOp.mul 3 (Operand.tmp 50) (Operand.tmp 52) 3, type := 3, pos := _, after := #[{ on := 4, ground := Ground.data }, { on := 6, ground := Ground.data }], guard := none }) (v := ?_) rfl (by kernel_rfl) (by kernel_rfl) (by kernel_rfl) (fun _ _ _ h => h) (Or.inl ⟨by rfl, ?hy⟩) (by assumption) ?_
                case hy => (intro w hSw; (try dsimp only at hSw); go_simp; try with_reducible rfl)
                try simp only [Act.put, List.setIfInBounds_toArray, List.set_cons_zero, List.set_cons_succ]
                refine wpAnyH_take (i := 8) (oi := { dst := some 54, op := Op.binOp BinOp.sub 3 (Operand.tmp 49) (Operand.tmp 53) 3, type := 3, pos := _, after := #[{ on := 3, ground := Ground.data }, { on := 7, ground := Ground.data }], guard := none }) (v := ?_) rfl (by kernel_rfl) (by kernel_rfl) (by kernel_rfl) (fun _ _ _ h => h) (Or.inl ⟨by rfl, ?hy⟩) (by assumption) ?_
                case hy => (intro w hSw; (try dsimp only at hSw); go_simp; try with_reducible rfl)
                try simp only [Act.put, List.setIfInBounds_toArray, List.set_cons_zero, List.set_cons_succ]
                refine wpAnyH_take (i := 9) (oi := { dst := some 55, op := Op.call { callee := Callee.builtin Builtin.max, args := #[Operand.tmp 46, Operand.tmp 54], argTypes := #[3, 3] }, type := 3, pos := _, after := #[{ on := 0, ground := Ground.data }, { on := 8, ground := Ground.data }], guard := none }) (v := ?_) rfl (by kernel_rfl) (by kernel_rfl) (by kernel_rfl) (fun _ _ _ h => h) (Or.inl ⟨by rfl, ?hy⟩) (by assumption) ?_
                case hy => (intro w hSw; (try dsimp only at hSw); go_simp; try with_reducible rfl)
                try simp only [Act.put, List.setIfInBounds_toArray, List.set_cons_zero, List.set_cons_succ]
                refine wpAnyH_take (i := 10) (oi := { dst := some 6, op := Op.assign (Operand.tmp 55), type := 3, pos := _, after := #[{ on := 9, ground := Ground.data }, { on := 6, ground := Ground.chain }, { on := 0, ground := Ground.phase }, { on := 1, ground := Ground.phase }, { on := 2, ground := Ground.phase }, { on := 3, ground := Ground.phase }, { on := 4, ground := Ground.phase }, { on := 5, ground := Ground.phase }, { on := 6, ground := Ground.phase }, { on := 7, ground := Ground.phase }, { on := 8, ground := Ground.phase }, { on := 9, ground := Ground.phase }], guard := none }) (v := ?_) rfl (by kernel_rfl) (by kernel_rfl) (by kernel_rfl) (fun _ _ _ h => h) (Or.inl ⟨by rfl, ?hy⟩) (by assumption) ?_
                case hy => (intro w hSw; (try dsimp only at hSw); go_simp; try with_reducible rfl)
                try simp only [Act.put, List.setIfInBounds_toArray, List.set_cons_zero, List.set_cons_succ]
                refine wpAnyH_done (by kernel_rfl) ?_ _
                refine NoPanic.normal ?_
                have HGN := Lib.hid (HJ.out.trans hHeld.2)
                clear hHeld HS2
                go_wp2
                go_roundw
                case rel => exact ⟨q + 1, max gx (ps - sc2), by omega, by go_num, rfl, HNB.out, HBD2.out, HGN.out⟩
                case measure => simp [intOf]; omega
              · obtain rfl : q = B.length := by omega
                have hb := HBC.out
                rw [← HX.out] at hb
                have HBN : Hid (Bst (SeenR h s A B (k + 1)) gx) := seenR_next hlt hb
                have HGN := Lib.hid (H4.out.2.1.trans HJ.out)
                clear hb
                go_wp2
                go_roundw
                case rel => exact ⟨k + 1, gx, by omega, by go_num, rfl, HBN.out, HBD.out, HGN.out⟩
                case measure => simp [intOf]; omega
          · obtain rfl : k = A.length := by omega
            have HF : Hid (gx = greatL h s n m) := seenR_all HAS.out HBS.out HB.out
            go_wp2
            go_ret
            exact ⟨ret_int HF.out, H2.out.2.2.trans HI.out⟩
      · rw [if_neg (fun e => h12 e.2)]
        obtain ⟨sa, sb, so, sc, rfl, _, _, _⟩ := hv.shape
        clear hp hv
        go_enter Try.func23, Try.ntmps23
        go_wp2_with (fail)
        refine HK.out.mono ?_
        rintro e w1 ⟨rfl, rfl⟩
        go_wp2
        go_ret
        exact ⟨rfl, Grew.refl _⟩
    · rw [if_neg (fun e => h0 e.1)]
      obtain ⟨sa, sb, so, sc, rfl, _, _, _⟩ := hv.shape
      clear hp hv
      go_enter Try.func23, Try.ntmps23
      go_wp2_with (fail)
      refine HK.out.mono ?_
      rintro e w1 ⟨rfl, rfl⟩
      go_wp2
      go_ret
      exact ⟨rfl, Grew.refl _⟩
end Go.Proofs.Ytkeeonjbkfgeeaa
