/- The contracts of impl.costsTo and of the iterator that it makes. -/
import Derived.Test.YtdhokofcgfolnaaDoorOneMore
import Derived.Test.YtdhokofcgfolnaaDoorRepeat
import Derived.Test.YtdhokofcgfolnaaDoorHeldMono
import Derived.Test.YtdhokofcgfolnaaDoorRange
import Derived.Shelf.RegionOpen
import Derived.OwnWalkIn
import Derived.TacticsInMore
import Derived.LoopNIn
import Derived.LoopIn
namespace Go.Proofs.YtdhokofcgfolnaaDoor
open Go Go.RowKit Go.Shelf

set_option maxRecDepth 100000 in
set_option maxHeartbeats 1000000 in
theorem slicesEqual_any (v1 v2 : Value) (xs ys : List Int) (w : World) (hv1 : IntsV w v1 xs) (hv2 : IntsV w v2 ys) :
    Calls Tryd.prog 76 #[v1, v2] w (QuietBool (decide (xs = ys)) w) := by
  obtain ⟨a, b, o, c, rfl, ⟨hlc, hcb⟩, ha, HC⟩ := hv1.shape
  obtain ⟨a2, b2, o2, c2, rfl, ⟨hlc2, hcb2⟩, ha2, HC2⟩ := hv2.shape
  have HA := Lib.hid ha
  have HA2 := Lib.hid ha2
  clear hv1 hv2 ha ha2
  by_cases hl : xs.length = ys.length
  · have hn : ((xs.length : Int) != (ys.length : Int)) = false := by simp [hl]
    have HL := Lib.hid hl
    clear hl
    go_enter Tryd.func76, Tryd.ntmps76
    go_wp2
    clear hn
    go_loopw [13] (fun i wr => ∃ k : Nat, k ≤ xs.length ∧ i = .int .i64 k ∧ Hid (xs.take k = ys.take k ∧ ∃ n, wr = w.drewN n)) (fun i _ => xs.length - (intOf i).toNat)
    case atStart => exact ⟨0, Nat.zero_le _, rfl, rfl, 0, rfl⟩
    case round =>
      obtain ⟨k, hk, rfl, HI⟩ := hrel
      have HW := Lib.hid (quiet_grew HI.out.2)
      by_cases hlt : k < xs.length
      · have hlt2 : k < ys.length := by have := HL.out; omega
        obtain rfl := HA.out (by omega)
        obtain rfl := HA2.out (by omega)
        have hc1 := HW.out.cell (HC.out k hlt)
        have hc2 := HW.out.cell (HC2.out k hlt2)
        obtain ⟨x, ex⟩ : ∃ x, xs.getD k 0 = x := ⟨_, rfl⟩
        obtain ⟨y, ey⟩ : ∃ y, ys.getD k 0 = y := ⟨_, rfl⟩
        rw [ex] at hc1
        rw [ey] at hc2
        have HE := Lib.hid (And.intro ex ey)
        have r1 : (k : Int) < xs.length := by omega
        have r2 : (k : Int) < ys.length := by omega
        have r3 : (0 : Int) ≤ k := by omega
        clear ex ey
        by_cases hxy : x = y
        · have ht : (x != y) = false := by simp [hxy]
          have HXY := Lib.hid hxy
          clear hxy
          go_wp2
          go_quiet (fail)
          go_wp2
          go_roundw
          case rel => exact ⟨k + 1, by omega, by go_num, take_eq_snoc 0 hlt hlt2 HI.out.1 (by rw [HE.out.1, HE.out.2, HXY.out]), quiet_step HI.out.2 _⟩
          case measure => simp [intOf]; omega
        · have ht : (x != y) = true := by simp [hxy]
          have HXY := Lib.hid hxy
          clear hxy
          go_wp2
          go_quiet (fail)
          go_wp2
          go_ret
          refine ⟨ret_bool ?_, quiet_step HI.out.2 _⟩
          have : xs ≠ ys := fun e => HXY.out (by rw [← HE.out.1, ← HE.out.2, e])
          simp [this]
      · go_wp2
        go_ret
        refine ⟨ret_bool ?_, HI.out.2⟩
        have := HI.out.1
        rw [List.take_of_length_le (by omega), List.take_of_length_le (by have := HL.out; omega)] at this
        simp [this]
  · have hn : ((xs.length : Int) != (ys.length : Int)) = true := by simp; omega
    have HL := Lib.hid hl
    clear hl
    go_enter Tryd.func76, Tryd.ntmps76
    go_wp2
    go_ret
    refine ⟨ret_bool ?_, 0, rfl⟩
    have : xs ≠ ys := fun e => HL.out (by rw [e])
    simp [this]

attribute [local go_sem] Oper.semAt_some

theorem cell_new (w : World) (v : Value) (t : TypeId) : (w.alloc (.cells #[v] t)).cell? ⟨w.heap.size, 0, none⟩ = some v := by simp

/-- The table of costs. -/
def costL (n m : Nat) (p : List Int) (f : Int → Int → Int) (e N s : Nat) : List Int := tabL N (costT (aroundL n m) p f e s)
theorem costL_len (n m : Nat) (p : List Int) (f : Int → Int → Int) (e N s : Nat) : (costL n m p f e N s).length = N := tabL_len _ _
theorem costL_next (n m : Nat) (p : List Int) (f : Int → Int → Int) (e N s : Nat) : (tabL N fun i => cFold p f (costT (aroundL n m) p f e s) i (aroundL n m i) (aroundL n m i).length) = costL n m p f e N (s + 1) := rfl
theorem costL_zero {n m : Nat} {p : List Int} {f : Int → Int → Int} {e N : Nat} : (List.replicate N (-1)).set e 0 = costL n m p f e N 0 := by
  have : List.replicate N (-1) = tabL N fun _ => (-1 : Int) := by
    apply List.ext_getElem
    · simp [tabL]
    · intro i h1 h2; simp [tabL]
  rw [this, tabL_set]
  rfl
theorem tabL_eq {N : Nat} {c d : Nat → Int} : tabL N c = tabL N d ↔ ∀ i, i < N → c i = d i := by
  refine ⟨fun h i hi => ?_, tabL_congr⟩
  have := congrArg (fun l => l.getD i 0) h
  simpa only [tabL_at _ hi] using this
theorem costL_still {n m : Nat} {p : List Int} {f : Int → Int → Int} {e N s : Nat} : costL n m p f e N (s + 1) = costL n m p f e N s ↔ StillC (aroundL n m) p f e N s := tabL_eq

theorem around_nonneg {n m i : Nat} {x : Int} (hx : x ∈ aroundL n m i) : 0 ≤ x := by
  have h1 : i % m ≤ i := Nat.mod_le _ _
  unfold aroundL at hx
  simp only [List.mem_append] at hx
  rcases hx with ((hx | hx) | hx) | hx
  all_goals
    split at hx
    · have := List.mem_singleton.1 hx
      omega
    · cases hx

theorem around_range {h : List (List Int)} {n m N : Nat} (G : Grid h (h.getD 0 []).length) (en : h.length = n) (em : (h.getD 0 []).length = m) (eN : n * m = N) : ∀ i x, i < N → x ∈ aroundL n m i → 0 ≤ x ∧ x < N := fun i x hi hx => by
  have n5 := G.n5
  have m5 := G.m5
  rw [en] at n5
  rw [em] at m5
  obtain ⟨h1, h2, _⟩ := (around_facts n5 m5 (I := i) (by rw [eN]; exact hi)).1 _ hx
  rw [eN] at h2
  omega
/-- What costsTo has put into boxes. -/
def CostsBox (W : World) (v fv : Value) (e B1 B2 B3 : Nat) : Prop := W.cell? ⟨B1, 0, none⟩ = some v ∧ W.cell? ⟨B2, 0, none⟩ = some (.int .i64 (e : Int)) ∧ W.cell? ⟨B3, 0, none⟩ = some fv
theorem CostsBox.grew {W W' : World} {v fv : Value} {e B1 B2 B3 : Nat} (h : CostsBox W v fv e B1 B2 B3) (g : Grew W W') : CostsBox W' v fv e B1 B2 B3 := ⟨g.cell h.1, g.cell h.2.1, g.cell h.2.2⟩
theorem CostsBox.only {S : Nat → Prop} {W W' : World} {v fv : Value} {e B1 B2 B3 : Nat} (h : CostsBox W v fv e B1 B2 B3) (g : Only S W W') (h1 : ¬ S B1) (h2 : ¬ S B2) (h3 : ¬ S B3) : CostsBox W' v fv e B1 B2 B3 := ⟨g.cell h.1 h1, g.cell h.2.1 h2, g.cell h.2.2 h3⟩

set_option maxRecDepth 100000 in
set_option maxHeartbeats 400000 in
theorem costsTo_any (a : Option Addr) (n c e fk : Nat) (w : World) :
    Calls Tryd.prog 50 #[.slice a n c, .int .i64 e, .func (.func fk) #[] #[]] w fun e' w' => ∃ B, e' = .returned (.func (.func 73) #[] #[.pointer (some ⟨B, 0, none⟩), .pointer (some ⟨B + 1, 0, none⟩), .pointer (some ⟨B + 2, 0, none⟩)]) ∧
      CostsBox w' (.slice a n c) (.func (.func fk) #[] #[]) e B (B + 1) (B + 2) ∧ Grew w w' ∧ B = w.heap.size ∧ B + 2 < w'.heap.size := by
  have hmf : ∀ (fn : Fn) (first cap : Array Value) (w : World), (Instr.makeFunc fn first cap).run Tryd.prog w = .ok (.func fn first cap) w := fun _ _ _ _ => rfl
  go_enter Tryd.func50, Tryd.ntmps50
  go_wp2
  go_ret
  refine ⟨w.heap.size, rfl, ?_, (((Grew.refl w).alloc _).alloc _).alloc _, rfl, by simp⟩
  have h1 : (w.alloc (.cells #[.slice a n c] 23)).cell? ⟨w.heap.size, 0, none⟩ = some (.slice a n c) := cell_new w _ _
  have h2 := cell_new (w.alloc (.cells #[.slice a n c] 23)) (.int .i64 (e : Int)) 3
  have h3 := cell_new ((w.alloc (.cells #[.slice a n c] 23)).alloc (.cells #[.int .i64 (e : Int)] 3)) (.func (.func fk) #[] #[]) 67
  rw [World.size_alloc] at h2 h3
  rw [World.size_alloc] at h3
  exact ⟨(((Grew.refl _).alloc _).alloc _).cell h1, ((Grew.refl _).alloc _).cell h2, h3⟩

set_option maxRecDepth 100000 in
set_option maxHeartbeats 4000000 in
theorem costsIter_in (nn : Nat) (hnn : 1 ≤ nn) (S : Nat → Prop) (B1 B2 B3 e n m N fk T : Nat) (f : Int → Int → Int) (v : Value) (h : List (List Int)) (w0 w : World)
    (hv : RowsV w0 v h) (hg : vGrid h = true) (hS : Steps w0) (hw : Grew w0 w) (hSb : ∀ k, S k → w0.heap.size ≤ k ∧ k < w.heap.size) (hbx : CostsBox w v (.func (.func fk) #[] #[]) e B1 B2 B3) (hB1 : ¬ S B1) (hB2 : ¬ S B2) (hB3 : ¬ S B3)
    (en : h.length = n) (em : (h.getD 0 []).length = m) (eN : n * m = N) (he : e < N) (eg : ∀ (args : Array Value) (w : World), (callFunc fk args).run Tryd.prog w = .ok (.enter fk args) w) (hF : RuleV fk f) (R : Rule f)
    (hT1 : T ≤ N - 1) (hT2 : StillC (aroundL n m) h.flatten f e N T) (hT3 : ∀ s, s < T → ¬ StillC (aroundL n m) h.flatten f e N s) :
    IterV Fence.wide nn Tryd.prog 73 #[.pointer (some ⟨B1, 0, none⟩), .pointer (some ⟨B2, 0, none⟩), .pointer (some ⟨B3, 0, none⟩)] S (costL n m h.flatten f e N) T w := by
  intro l J Jx W hgW hl1 hl2 hJ hJx hY h0
  have G := Grid.of hg
  have hNb := around_range G en em eN
  have hpb : ∀ k, k < N → 0 ≤ h.flatten.getD k 0 ∧ h.flatten.getD k 0 ≤ 12 := fun i hi => grid_num G i (by rw [en, em, eN]; exact hi)
  have HMORE : Hid (∀ (t g c : Nat) (W' : World), t ≤ T → Grew w0 W' → IntsV W' (.slice (some ⟨g, 0, none⟩) N c) (costL n m h.flatten f e N t) → Calls Tryd.prog 75 #[v, .slice (some ⟨g, 0, none⟩) N c, .func (.func fk) #[] #[]] W' (FlatPost W' (costL n m h.flatten f e N (t + 1)))) := fun t g c W' ht hW' hc =>
    costsOfOneMore_any v _ h (costT (aroundL n m) h.flatten f e t) n m N fk f W' (hv.grew hW') hg (hS.grew hW') en em eN eg hF hc (fun k hk => by
      have := costT_up R hNb hpb (e := e) t k hk
      have n5 := G.n5
      have m5 := G.m5
      rw [en] at n5
      rw [em] at m5
      have : N ≤ 25 := by rw [← eN]; exact Nat.mul_le_mul n5 m5
      omega)
  obtain ⟨p, ep⟩ : ∃ p, h.flatten = p := ⟨_, rfl⟩
  rw [ep] at hT2 hT3 hY HMORE
  have n5 := G.n5
  have m5 := G.m5
  have n1 := G.n1
  have m1 := G.m1
  rw [en] at n5 n1
  rw [em] at m5 m1
  have hN25 : N ≤ 25 := by rw [← eN]; exact Nat.mul_le_mul n5 m5
  have hN1 : 1 ≤ N := by rw [← eN]; exact Nat.mul_pos n1 m1
  have hmul : (n : Int) * (m : Int) = (N : Int) := by rw [← eN]; simp
  obtain ⟨a, b, o, c, rfl, ⟨hlc, hcb⟩, ha, HCR⟩ := hv.shape
  obtain rfl := ha (by omega)
  obtain ⟨u0, hcu0, hu0⟩ := HCR.out 0 (by omega)
  rw [Nat.add_zero] at hcu0
  obtain ⟨a0, b0, o0, c0, rfl, _, _, _⟩ := hu0.shape
  rw [em] at hcu0
  rw [en] at hbx HMORE hlc
  have hbW := hbx.grew hgW
  have HBL : Hid (B1 < w.heap.size ∧ B2 < w.heap.size ∧ B3 < w.heap.size) := ⟨World.block_lt_of_cell? _ _ hbx.1, World.block_lt_of_cell? _ _ hbx.2.1, World.block_lt_of_cell? _ _ hbx.2.2⟩
  have HY := Lib.hid hY
  have HJ := Lib.hid (And.intro hJ (And.intro hJx h0))
  have HSS : Hid ((∀ k, S k → w0.heap.size ≤ k ∧ k < w.heap.size) ∧ ¬ S B1 ∧ ¬ S B2 ∧ ¬ S B3 ∧ Grew w0 W ∧ w.heap.size ≤ W.heap.size ∧ w0.heap.size ≤ w.heap.size) := ⟨hSb, hB1, hB2, hB3, hw.trans hgW, hgW.size, hw.size⟩
  have HT := Lib.hid (And.intro hT2 hT3)
  have HBX := Lib.hid hbW
  obtain ⟨hx1, hx2, hx3⟩ := hbW
  have hcuW := (hw.trans hgW).cell hcu0
  clear hv hg hS hw hSb hbx hB1 hB2 hB3 hF R hT2 hT3 hJ hJx hY h0 G hNb hpb en em eN ha HCR hu0 hcu0 ep hgW
  have HREP : Hid (∀ W', W'.cell? ⟨W.heap.size, 0, none⟩ = some (.int .i64 (-1)) → Calls Tryd.prog 74 #[.slice (some ⟨W.heap.size, 0, none⟩) 1 1, .int .i64 N] W' (FlatPost W' (List.replicate N (-1)))) := fun W' hc => slicesRepeat_any W.heap.size 0 1 (-1) N W' hc hN1 hN25
  have hn0 : 0 < n := n1
  have hwN : IntKind.i64.wrap (N : Int) = N := IntWalk.i64_in _ (by omega)
  refine callsIn_wide.2 ?_
  go_enter Tryd.func73, Tryd.ntmps73
  go_wp2
--R0
  refine wp_region_noPanic ?_
  refine wp_region_held_drew (S := fun W' => W'.cell? ⟨B1, 0, none⟩ = some (.slice (some ⟨b, o, none⟩) n c) ∧ W'.cell? ⟨b, o, none⟩ = some (.slice a0 m c0) ∧ Grew W W') (by kernel_rfl) (by exact ⟨hx1, hcuW, (Grew.refl W).drew⟩) (fun hHeld => ?_)
  refine wpAnyH_take (i := 1) (oi := { dst := some 9, op := Op.load 23 (Operand.tmp 1), type := 23, pos := _, after := #[], guard := none }) (v := ?_) rfl (by kernel_rfl) (by kernel_rfl) (by kernel_rfl) (fun _ _ _ h => h) (Or.inl ⟨by rfl, ?hy⟩) (by assumption) ?_
  case hy => (intro w hSw; (try dsimp only at hSw); go_simp; try with_reducible rfl)
  try simp only [Act.put, List.setIfInBounds_toArray, List.set_cons_zero, List.set_cons_succ]
  refine wpAnyH_take (i := 2) (oi := { dst := some 10, op := Op.call { callee := Callee.builtin Builtin.len, args := #[Operand.tmp 9], argTypes := #[23] }, type := 3, pos := _, after := #[{ on := 1, ground := Ground.data }], guard := none }) (v := ?_) rfl (by kernel_rfl) (by kernel_rfl) (by kernel_rfl) (fun _ _ _ h => h) (Or.inl ⟨by rfl, ?hy⟩) (by assumption) ?_
  case hy => (intro w hSw; (try dsimp only at hSw); go_simp; try with_reducible rfl)
  try simp only [Act.put, List.setIfInBounds_toArray, List.set_cons_zero, List.set_cons_succ]
  refine wpAnyH_take (i := 3) (oi := { dst := some 11, op := Op.load 23 (Operand.tmp 1), type := 23, pos := _, after := #[], guard := none }) (v := ?_) rfl (by kernel_rfl) (by kernel_rfl) (by kernel_rfl) (fun _ _ _ h => h) (Or.inl ⟨by rfl, ?hy⟩) (by assumption) ?_
  case hy => (intro w hSw; (try dsimp only at hSw); go_simp; try with_reducible rfl)
  try simp only [Act.put, List.setIfInBounds_toArray, List.set_cons_zero, List.set_cons_succ]
  refine wpAnyH_take (i := 4) (oi := { dst := some 12, op := Op.indexAddr 23 (Operand.tmp 11) (Operand.const (Value.int IntKind.i64 0)), type := 0, pos := _, after := #[{ on := 3, ground := Ground.data }], guard := none }) (v := ?_) rfl (by kernel_rfl) (by kernel_rfl) (by kernel_rfl) (fun _ _ _ h => h) (Or.inl ⟨by rfl, ?hy⟩) (by assumption) ?_
  case hy => (intro w hSw; (try dsimp only at hSw); go_simp; try with_reducible rfl)
  try simp only [Act.put, List.setIfInBounds_toArray, List.set_cons_zero, List.set_cons_succ]
  refine wpAnyH_take (i := 5) (oi := { dst := some 13, op := Op.load 27 (Operand.tmp 12), type := 27, pos := _, after := #[{ on := 4, ground := Ground.data }], guard := none }) (v := ?_) rfl (by kernel_rfl) (by kernel_rfl) (by kernel_rfl) (fun _ _ _ h => h) (Or.inl ⟨by rfl, ?hy⟩) (by assumption) ?_
  case hy => (intro w hSw; (try dsimp only at hSw); go_simp; try with_reducible rfl)
  try simp only [Act.put, List.setIfInBounds_toArray, List.set_cons_zero, List.set_cons_succ]
  refine wpAnyH_take (i := 6) (oi := { dst := some 14, op := Op.call { callee := Callee.builtin Builtin.len, args := #[Operand.tmp 13], argTypes := #[27] }, type := 3, pos := _, after := #[{ on := 5, ground := Ground.data }], guard := none }) (v := ?_) rfl (by kernel_rfl) (by kernel_rfl) (by kernel_rfl) (fun _ _ _ h => h) (Or.inl ⟨by rfl, ?hy⟩) (by assumption) ?_
  case hy => (intro w hSw; (try dsimp only at hSw); go_simp; try with_reducible rfl)
  try simp only [Act.put, List.setIfInBounds_toArray, List.set_cons_zero, List.set_cons_succ]
  refine wpAnyH_take (i := 7) (oi := { dst := some 15, op := Op.binOp BinOp.mul 3 (Operand.tmp 10) (Operand.tmp 14) 3, type := 3, pos := _, after := #[{ on := 2, ground := Ground.data }, { on := 6, ground := Ground.data }], guard := none }) (v := .int .i64 (N : Int)) rfl (by kernel_rfl) (by kernel_rfl) (by kernel_rfl) (fun _ _ _ h => h) (Or.inl ⟨by rfl, ?hy⟩) (by assumption) ?_
  case hy => (intro w hSw; (try dsimp only at hSw); go_simp <;> (try with_reducible rfl) <;> (try simp [hmul, hwN]))
  try simp only [Act.put, List.setIfInBounds_toArray, List.set_cons_zero, List.set_cons_succ]
  refine wpAnyH_ready (rs := [0]) (by kernel_rfl) (by simp) ?_
  refine AllReadyH.cons (i := 0) (o := { dst := some 8, op := Op.buildSlice 27 1 #[(0, Operand.const (Value.int IntKind.i64 (-1)))], type := 27, pos := _, after := #[], guard := none }) rfl (fun KK hKK => ?_) AllReadyH.nil
  go_simp
  refine hKK.out _ _ (by exact ⟨(((Grew.refl W).alloc _).drew).cell hx1, (((Grew.refl W).alloc _).drew).cell hcuW, ((Grew.refl W).alloc _).drew⟩) (fun hHeld => ?_)
  refine wpAnyH_monoS (S' := fun W' => (W'.cell? ⟨B1, 0, none⟩ = some (.slice (some ⟨b, o, none⟩) n c) ∧ W'.cell? ⟨b, o, none⟩ = some (.slice a0 m c0) ∧ Grew W W') ∧ W'.cell? ⟨W.heap.size, 0, none⟩ = some (.int .i64 (-1))) (fun _ h => h.1) ?_
  replace hHeld := And.intro hHeld (((Grew.refl _).drew).cell (cell_new W (.int .i64 (-1)) 3))
  clear hKK KK
  try simp only [Act.put, List.setIfInBounds_toArray, List.set_cons_zero, List.set_cons_succ]
  refine wpAnyH_ready (rs := [8]) (by kernel_rfl) (by simp) ?_
  refine AllReadyH.cons (i := 8) (o := { dst := some 16, op := Op.call { callee := Callee.value (Operand.func 74), args := #[Operand.tmp 8, Operand.tmp 15], argTypes := #[27, 3] }, type := 27, pos := _, after := #[{ on := 0, ground := Ground.data }, { on := 7, ground := Ground.data }], guard := none }) rfl (fun KK hKK => ?_) AllReadyH.nil
  go_simp
  go_at_call 74
  (with_reducible refine (HREP.out _ hHeld.2).mono ?_)
  rintro e' w2 ⟨g2, c2, rfl, hO2, hg2⟩
  rw [List.length_replicate] at hO2 ⊢
  have H2 := Lib.hid (And.intro hO2 (hHeld.1.2.2.trans hg2))
  have hgs : W.heap.size ≤ g2 := by have := hO2.blk; have := hHeld.1.2.2.size; omega
  refine hKK.out _ _ (by exact ⟨⟨hg2.cell hHeld.1.1, hg2.cell hHeld.1.2.1, hHeld.1.2.2.trans hg2⟩, hg2.cell hHeld.2⟩) (fun hHeld => ?_)
  clear hKK KK
  try simp only [Act.put, List.setIfInBounds_toArray, List.set_cons_zero, List.set_cons_succ]
  refine wpAnyH_take (i := 9) (oi := { dst := some 5, op := Op.assign (Operand.tmp 16), type := 27, pos := _, after := #[{ on := 8, ground := Ground.data }, { on := 8, ground := Ground.chain }, { on := 0, ground := Ground.phase }, { on := 1, ground := Ground.phase }, { on := 2, ground := Ground.phase }, { on := 3, ground := Ground.phase }, { on := 4, ground := Ground.phase }, { on := 5, ground := Ground.phase }, { on := 6, ground := Ground.phase }, { on := 7, ground := Ground.phase }, { on := 8, ground := Ground.phase }], guard := none }) (v := ?_) rfl (by kernel_rfl) (by kernel_rfl) (by kernel_rfl) (fun _ _ _ h => h) (Or.inl ⟨by rfl, ?hy⟩) (by assumption) ?_
  case hy => (intro w hSw; (try dsimp only at hSw); go_simp; try with_reducible rfl)
  try simp only [Act.put, List.setIfInBounds_toArray, List.set_cons_zero, List.set_cons_succ]
  refine wpAnyH_done (by kernel_rfl) ?_ _
  refine NoPanic.normal ?_
  have hcl : (List.replicate N (-1 : Int)).length = N := List.length_replicate
  have hg2s : g2 < w2.heap.size := H2.out.1.blkLt
  have HST : Hid (∀ W', Grew w2 W' → IntsAt W.heap.size (W'.setCell ⟨g2, e, none⟩ (.int .i64 0)) (.slice (some ⟨g2, 0, none⟩) N c2) (costL n m p f e N 0) ∧ Grew W (W'.setCell ⟨g2, e, none⟩ (.int .i64 0)) ∧ W'.cell? ⟨g2, e, none⟩ = some (.int .i64 (-1)) ∧ W'.frozen? ⟨g2, e, none⟩ = false) := fun W' hW' => by
    have hO := H2.out.1.grew hW'
    have hset := hO.set rfl e 0
    rw [costL_zero (n := n) (m := m) (p := p) (f := f)] at hset
    have hat := hO.at rfl (i := e) (by rw [hcl]; exact he)
    refine ⟨⟨⟨g2, c2, by rw [costL_len], hgs⟩, hset.toV⟩, ?_, ?_, hat.2⟩
    · exact Within.grew (H2.out.2.trans hW') ((Within.refl W.heap.size (g2 + 1) W').setCell (p := ⟨g2, e, none⟩) hgs (Nat.lt_succ_self _) _) (Nat.le_refl _)
    · have := hat.1
      rwa [show (List.replicate N (-1 : Int)).getD e 0 = -1 by simp [he]] at this
  have hce := (HST.out _ (Grew.refl _)).2.2.1
  have hfe := (HST.out _ (Grew.refl _)).2.2.2
  have hx2b := H2.out.2.cell HBX.out.2.1
  have hx3b := H2.out.2.cell HBX.out.2.2
  have heN : (e : Int) < (N : Int) := by omega
  clear hcl HREP hHeld hO2 hg2 hwN hmul
  go_wp2
  refine (wpIn_wide (n := nn)).1 ?_
  gi_loopw [5, 6] (fun cv tv wr => ∃ (t g c' : Nat), t ≤ T ∧ tv = .int .i64 (t : Int) ∧ cv = .slice (some ⟨g, 0, none⟩) N c' ∧ Hid (IntsAt W.heap.size wr (.slice (some ⟨g, 0, none⟩) N c') (costL n m p f e N t) ∧ J t wr ∧ Only (fun k => S k ∨ (w.heap.size ≤ k ∧ k < W.heap.size)) W wr)) (fun _ tv _ => T + 1 - (intOf tv).toNat)
  case atStart =>
    have h1 := HST.out w2 (Grew.refl _)
    exact ⟨0, g2, c2, Nat.zero_le _, rfl, rfl, Lib.hid ⟨h1.1, HJ.out.1 0 W _ HJ.out.2.2 (h1.2.1.soft _), h1.2.1.only⟩⟩
  case round =>
    obtain ⟨t, g, c', ht, rfl, rfl, HX⟩ := hrel
    have hN26 : t ≤ 25 := by omega
    obtain ⟨fn, tmps, assign, body, hy, hR⟩ := HY.out t (.slice (some ⟨g, 0, none⟩) N c') wr ht HX.out.2.1 HX.out.1
    have HR := Lib.hid hR
    clear hR
    gi_wp2
    refine HR.out.mono ?_
    rintro e' W3 ⟨hk3, (⟨rfl, hJ3⟩ | ⟨rfl, hJx3⟩)⟩
    · have H3 : Hid (IntsAt W.heap.size W3 (.slice (some ⟨g, 0, none⟩) N c') (costL n m p f e N t) ∧ J (t + 1) W3 ∧ Only (fun k => S k ∨ (w.heap.size ≤ k ∧ k < W.heap.size)) W W3) := Lib.hid ⟨HX.out.1.only hk3 (fun k hk => by rcases hk with hk | hk; have := HSS.out.1 k hk; have := HSS.out.2.2.2.2.2.1; omega; exact hk.2), hJ3, HX.out.2.2.trans hk3 (fun _ _ h => h)⟩
      have HG3 : Hid (Grew w0 W3) := Only.grew HSS.out.2.2.2.2.1 H3.out.2.2 (fun i hi hk => by rcases hk with hk | hk; have := HSS.out.1 i hk; omega; have := HSS.out.2.2.2.2.2.2; omega)
      have hnb : ∀ B, B < w.heap.size → ¬ S B → ¬ (S B ∨ (w.heap.size ≤ B ∧ B < W.heap.size)) := fun B h1 h2 h3 => by rcases h3 with h3 | h3; exact h2 h3; omega
      have hb3 := HBX.out.only H3.out.2.2 (hnb _ HBL.out.1 HSS.out.2.1) (hnb _ HBL.out.2.1 HSS.out.2.2.1) (hnb _ HBL.out.2.2 HSS.out.2.2.2.1)
      obtain ⟨hx1', hx2', hx3'⟩ := hb3
      have HM := Lib.hid (HMORE.out t g c' W3 ht HG3.out H3.out.1.2)
      clear hJ3 hk3 hnb hy HX
      gi_wp2_with (fail)
      refine ⟨trivial, (callsIn_wide.2 HM.out).mono ?_⟩
      rintro e' w5 ⟨g7, c7, rfl, hO7, hg7⟩
      rw [costL_len] at hO7 ⊢
      have hb7 := hO7.blk
      have h3s := H3.out.2.2.size
      have H5 : Hid (IntsAt W.heap.size w5 (.slice (some ⟨g7, 0, none⟩) N c7) (costL n m p f e N (t + 1)) ∧ J (t + 1) w5 ∧ Only (fun k => S k ∨ (w.heap.size ≤ k ∧ k < W.heap.size)) W w5) :=
        Lib.hid ⟨⟨⟨g7, c7, by rw [costL_len], by omega⟩, hO7.toV⟩, HJ.out.1 (t + 1) W3 w5 H3.out.2.1 (hg7.soft _), H3.out.2.2.trans (hg7.only (S := fun _ => False)) (fun _ _ h => h.elim)⟩
      have HEQ := Lib.hid (slicesEqual_any (.slice (some ⟨g7, 0, none⟩) N c7) (.slice (some ⟨g, 0, none⟩) N c') _ _ w5 H5.out.1.2 (H3.out.1.grew hg7).2)
      clear hO7 hg7 hb7 h3s H3 HM
      gi_wp2_with (fail)
      refine ⟨trivial, (callsIn_wide.2 HEQ.out).mono ?_⟩
      rintro e' w6 ⟨rfl, hq⟩
      have HQ := Lib.hid (quiet_grew hq)
      have H6 : Hid (IntsAt W.heap.size w6 (.slice (some ⟨g7, 0, none⟩) N c7) (costL n m p f e N (t + 1)) ∧ J (t + 1) w6 ∧ Only (fun k => S k ∨ (w.heap.size ≤ k ∧ k < W.heap.size)) W w6) :=
        Lib.hid ⟨H5.out.1.grew HQ.out, HJ.out.1 (t + 1) w5 w6 H5.out.2.1 (HQ.out.soft _), H5.out.2.2.trans (HQ.out.only (S := fun _ => False)) (fun _ _ h => h.elim)⟩
      clear hq HQ H5 HEQ
      by_cases htT : t = T
      · subst htT
        have hdec : decide (costL n m p f e N (t + 1) = costL n m p f e N t) = true := decide_eq_true (costL_still.2 HT.out.1)
        rw [hdec]
        clear hdec
        gi_wp2
        refine bodyPost_ret (results_none rfl _ _ _) rfl ?_
        exact ⟨⟨_, rfl⟩, .inl H6.out.2.1⟩
      · have hdec : decide (costL n m p f e N (t + 1) = costL n m p f e N t) = false := decide_eq_false fun hh => HT.out.2 t (by omega) (costL_still.1 hh)
        rw [hdec]
        clear hdec
        gi_wp2
        go_roundw
        case rel => exact ⟨t + 1, g7, c7, by omega, by go_num, rfl, H6⟩
        case measure => simp [intOf]; omega
    · gi_wp2
      go_end0
      exact ⟨⟨_, rfl⟩, .inr ⟨t, ht, hJx3⟩⟩
end Go.Proofs.YtdhokofcgfolnaaDoor
