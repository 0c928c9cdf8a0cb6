/- impl.streamsOf, the methods of impl.stream, toldByStreams. -/
import Derived.Test.YtekhjjcgkmnmlaaDoorStrM
import Derived.Test.YtekhjjcgkmnmlaaDoorTarget
import Derived.OrdersHeld
import Derived.Deep.AppendLies
import Derived.Test.YtekhjjcgkmnmlaaDoorInRows
/- impl.streamsOf: for each cell its stream. -/
namespace Go.Proofs.YtekhjjcgkmnmlaaDoor
open Go.RowKit

theorem Tryd.infoPtr : (Tryd.prog.info? 42).map (fun i => (i.zero, i.size, i.bytes)) = some (some (.pointer none), 1, 8) := by kernel_rfl
theorem Tryd.infoStr : (Tryd.prog.info? 55).map (fun i => (i.zero, i.size, i.bytes)) = some (some (.agg #[.int .i64 0, .pointer none, .slice none 0 0]), 3, 40) := by kernel_rfl

theorem step_append_ptr {P : Program} {w : World} {ops : Array Oper} {o : Oper} {a : Act} {K : Act → World → Prop} {Q : Exit → Act → World → Prop} {X : Prop} (hgd : o.guard = none) (s x : Operand) (t : TypeId)
    (ho : o.op = .call { callee := .builtin .append, args := #[s, x], argTypes := #[t, t] }) {E : TypeId} (ht : P.underlying t = some (.slice E))
    (hinfo : (P.info? E).map (fun i => (i.zero, i.size, i.bytes)) = some (some (.pointer none), 1, 8)) {lo n nb : Nat} {v u : Value} {xs : List Value} (hs : a.eval s = v) (hx : a.eval x = .slice (some ⟨nb, 0, none⟩) 1 1) (hnb : nb = w.heap.size)
    (hv : w.ownsRow lo E 1 v n xs) (hu : u.oneCell' = true) (hlen : n + 1 ≤ 1000000) (hbase : lo ≤ w.heap.size)
    (h : ∀ g c w', w'.ownsRow lo E 1 (.slice (some ⟨g, 0, none⟩) (n + 1) c) (n + 1) (xs ++ [u]) → (w.alloc (.cells #[u] E)).grownBy w' v.ownBlock → (v.ownBlock = some g ∨ g = w.heap.size + 1) → g < w'.heap.size → K (a.put o.dst (.slice (some ⟨g, 0, none⟩) (n + 1) c)) w') :
    if Region.wanted o (yielded ops a.tmps) = true then Oper.wp P o a (w.alloc (.cells #[u] E)) K Q else X := by
  subst hnb
  obtain ⟨i, hi1, hi2, hi3, hi4⟩ := info_parts hinfo
  exact step_append_lies _ hgd s x t ho lo E i (.pointer none) 1 8 ht hi1 hi2 hi3 hi4 rfl (by decide) v n xs hs (hv.alloc _) ⟨w.heap.size, 0, none⟩ 1 1 [u] hx rfl (cell_one_new _ _ _) (by simpa using hu) (by decide) (by unfold maxLen; omega) (by omega) (by simp; omega) (w.heap.size + 1) (by simp) h

theorem madeS (n : Nat) : (madeCells (Value.agg #[.int .i64 0, .pointer none, .slice none 0 0]).cells (n * 3)).toList = (List.range (n * 3)).map fun x => if x % 3 = 0 then Value.int .i64 0 else if x % 3 = 1 then .pointer none else .slice none 0 0 := by
  show (madeCells #[Value.int .i64 0, .pointer none, .slice none 0 0] (n * 3)).toList = _
  have : ∀ x, (#[Value.int .i64 0, .pointer none, .slice none 0 0])[x % (#[Value.int .i64 0, .pointer none, .slice none 0 0]).size]! = if x % 3 = 0 then Value.int .i64 0 else if x % 3 = 1 then .pointer none else .slice none 0 0 := fun x => by
    have h : x % 3 < 3 := Nat.mod_lt _ (by decide)
    show (#[Value.int .i64 0, .pointer none, .slice none 0 0])[x % 3]! = _
    rcases (show x % 3 = 0 ∨ x % 3 = 1 ∨ x % 3 = 2 by omega) with e | e | e <;> rw [e] <;> rfl
  simp only [madeCells, Array.toList_map, Array.toList_range]
  refine List.ext_getElem (by simp) fun i h1 h2 => ?_
  simp only [List.getElem_map, List.getElem_range]
  exact this _
/-- 'make([]stream, n)'. -/
theorem wpList_make_str {P : Program} {w : World} {ops : Array Oper} {rest : List Oper} {o : Oper} {a : Act} {Q : Exit → Act → World → Prop} (hgd : o.guard = none) (l c : Operand) (t : TypeId) (ho : o.op = Op.makeSlice t l c)
    {E E' : TypeId} (ht : P.underlying t = some (.slice E)) (hinfo : (P.info? E).map (fun i => (i.zero, i.size, i.bytes)) = some (some (.agg #[.int .i64 0, .pointer none, .slice none 0 0]), 3, 40)) {L C : Int} {n : Nat} (hl : a.eval l = .int .i64 L) (hc : a.eval c = .int .i64 C)
    (hL : L = (n : Int)) (hC : C = (n : Int)) (hn : n ≤ 1000000) (ts : List Int)
    (h : ∀ w', StrI w.heap.size n w.heap.size E' ts 0 (fun _ => .slice none 0 0) w' → Grew w w' → w.heap.size < w'.heap.size → wpList P ops Q rest (a.put o.dst (.slice (some ⟨w.heap.size, 0, none⟩) n n)) w') :
    wpList P ops Q (o :: rest) a w := by
  obtain ⟨i, hi1, hi2, hi3, hi4⟩ := info_parts hinfo
  refine wpList_make_full w hgd l c t ho w.heap.size E i (.agg #[.int .i64 0, .pointer none, .slice none 0 0]) 3 ht hi1 hi2 hi3 .i64 .i64 L C n hl hc hL hC (by rw [hi4]; omega) (by unfold maxLen; omega) (Nat.le_refl _) ?_
  intro w' hown hg
  rw [madeS n] at hown
  have hlt := (World.ownsRow.lt hown w.heap.size rfl).2
  have hcell : ∀ x, x < n * 3 → w'.cell? ⟨w.heap.size, x, none⟩ = some (if x % 3 = 0 then Value.int .i64 0 else if x % 3 = 1 then .pointer none else .slice none 0 0) := fun x hx => by
    have := World.ownsRow.cells hown (g := w.heap.size) rfl x (if x % 3 = 0 then Value.int .i64 0 else if x % 3 = 1 then .pointer none else .slice none 0 0) (by simp [hx])
    rw [Addr.add_lit] at this
    simpa using this
  have hfr : ∀ x, w'.frozen? ⟨w.heap.size, x, none⟩ = false := fun x => by
    rcases hown.2 with ⟨e, _⟩ | ⟨g1, cap, cur, e, _, hh, _⟩
    · simp at e
    · simp only [Value.slice.injEq, Option.some.injEq, Addr.mk.injEq] at e
      obtain ⟨⟨rfl, _⟩, _⟩ := e
      simp [World.frozen?, hh]
  refine h w' ⟨⟨Nat.le_refl _, hlt⟩, fun j hj => ?_, fun j hj => ?_, fun j hj => ?_, hfr, fun j hj => ?_, fun i j _ _ b e => by simp [Value.ownBlock] at e, fun j _ e => by simp [Value.ownBlock] at e⟩ (grownBy_none hg) hlt
  · rw [hcell _ (by omega), if_pos (by omega), if_neg (by omega)]
  · rw [hcell _ (by omega), if_neg (by omega), if_pos (by omega)]
    unfold toV
    rw [if_neg (by omega)]
  · rw [hcell _ (by omega), if_neg (by omega), if_neg (by omega)]
  · exact World.ownsRow_nil _ _ _ _

/-- What streamsOf returns. -/
def StrPost (w : World) (ts : List Int) (e : Ending) (w' : World) : Prop :=
  ∃ g, e = .returned (.slice (some ⟨g, 0, none⟩) ts.length ts.length) ∧ StrV g ts.length ts w' ∧ Grew w w'

set_option maxRecDepth 100000 in
set_option maxHeartbeats 4000000 in
theorem streamsOf_any (v : Value) (h : List (List Int)) (w : World) (hv : RowsV w v h) (hS : Steps w) (hg : vGrid h = true) :
    Calls Tryd.prog 69 #[v] w (StrPost w (tgtsL h)) := by
  have G := Grid.of hg
  have HT := Lib.hid (targetsOf_any v h w hv hS hg)
  have HR := Lib.hid (tgts_run hg)
  obtain ⟨N, eN⟩ : ∃ N, h.length * (h.getD 0 []).length = N := ⟨_, rfl⟩
  have hTl : (tgtsL h).length = N := by rw [tgtsL_len, eN]
  rw [eN] at HR
  have hN25 : N ≤ 25 := by rw [← eN]; exact Nat.mul_le_mul G.n5 G.m5
  have hN1 : 1 ≤ N := by rw [← eN]; exact Nat.mul_pos G.n1 G.m1
  obtain ⟨ts, ets⟩ : ∃ ts, tgtsL h = ts := ⟨_, rfl⟩
  rw [ets] at HT HR hTl ⊢
  have HTL := Lib.hid hTl
  obtain ⟨a, b, o, c, rfl, _, _, _⟩ := hv.shape
  clear hv hS hg G eN ets
  unfold StrPost
  rw [HTL.out]
  go_enter Tryd.func69, Tryd.ntmps69
  go_wp2_with (fail)
  refine HT.out.mono ?_
  rintro e w2 ⟨a2, c2, rfl, hO2, hg2⟩
  rw [HTL.out] at hO2 ⊢
  obtain ⟨gt, c2', e2, _⟩ := hO2.pos (by rw [HTL.out]; omega)
  simp only [Value.slice.injEq] at e2
  obtain ⟨rfl, -, rfl⟩ := e2
  have H2 := Lib.hid (And.intro hO2 hg2)
  clear hO2 hg2 hTl HT
  go_wp2_with (at_make; refine wpList_make_str (n := N) (E' := 42) rfl (.tmp 10) (.tmp 10) 51 rfl Tryd.underlying51 Tryd.infoStr rfl rfl rfl rfl (by omega) ts ?_; intro w3 hI3 hg3 hl3)
  obtain ⟨g, eg⟩ : ∃ g, w2.heap.size = g := ⟨_, rfl⟩
  rw [eg] at hI3 ⊢
  have H3 := Lib.hid (And.intro hI3 hg3)
  have HEG := Lib.hid eg
  clear hI3 hg3 hl3 eg
  go_wp2
  go_loopw [5, 6, 14] (fun _ _ iv wr => ∃ (k : Nat), iv = .int .i64 k ∧ k ≤ N ∧ Hid (Grew w2 wr ∧ ∃ F, StrI g N g 42 ts k F wr)) (fun _ _ iv _ => N - (intOf iv).toNat)
  case atStart => exact ⟨0, rfl, Nat.zero_le _, H3.out.2, _, H3.out.1⟩
  case round =>
    obtain ⟨k, rfl, hk, HI⟩ := hrel
    obtain ⟨hgr, F, hF⟩ := HI.out
    have HF := Lib.hid hF
    have HGR := Lib.hid hgr
    clear HI hF hgr
    by_cases hlt : k < N
    · have r1 : (k : Int) < N := by omega
      have r2 : (0 : Int) ≤ k := by omega
      have hct := (H2.out.1.at rfl (i := k) (by rw [HTL.out]; exact hlt)).1
      have hgt : gt ≠ g := fun e => by
        have h1 := (World.ownsRow.lt H2.out.1.1 gt rfl).2
        have h2 := HEG.out
        omega
      have hct0 := HGR.out.cell hct
      have hk0 := HF.out.c0 k hlt
      have hf0 := HF.out.fr (k * 3)
      have hct1 : (wr.setCell ⟨g, k * 3, none⟩ (.int .i64 k)).cell? ⟨gt, k, none⟩ = some (.int .i64 (ts.getD k 0)) := by
        rw [World.cell?_setCell_other _ _ _ _ (by simp)]; exact hct0
      clear hct hct0
      by_cases hT : ts.getD k 0 < 0
      · have e1 : ts.getD k 0 = -1 := by
          rcases HR.out.to k hlt with e | ⟨T, e, _⟩
          · exact e
          · omega
        rw [e1] at hct1
        have HT1 := Lib.hid hT
        clear hT e1
        go_wp2
        have HF2 := Lib.hid (HF.out.cellOf hlt HT1.out)
        go_roundw
        case rel => exact ⟨k + 1, by go_num, by omega, (Within.grew HGR.out ((Within.refl g (g + 1) wr).setCell (p := ⟨g, k * 3, none⟩) (Nat.le_refl _) (by simp) _) (by have := HEG.out; omega)), _, HF2.out⟩
        case measure => simp [intOf]; omega
      · obtain ⟨T, hTN, eT⟩ : ∃ T : Nat, T < N ∧ ts.getD k 0 = (T : Int) := by
          rcases HR.out.to k hlt with e | ⟨T, e, h1⟩
          · omega
          · exact ⟨T, h1, e⟩
        rw [eT] at hct1
        have hne1 : ¬ (T : Int) = -1 := by omega
        have r3 : (T : Int) < N := by omega
        have r4 : (0 : Int) ≤ T := by omega
        have hk1 : (wr.setCell ⟨g, k * 3, none⟩ (.int .i64 k)).cell? ⟨g, k * 3 + 1, none⟩ = some (toV g ts k k) := by
          rw [World.cell?_setCell_other _ _ _ _ (by simp)]; exact HF.out.c1 k hlt
        have hf1 : (wr.setCell ⟨g, k * 3, none⟩ (.int .i64 k)).frozen? ⟨g, k * 3 + 1, none⟩ = false := by
          rw [World.frozen?_setCell]; exact HF.out.fr _
        have HET := Lib.hid eT
        clear hT eT
        go_wp2
        obtain ⟨W3, eW3⟩ : ∃ W3, (wr.setCell ⟨g, k * 3, none⟩ (.int .i64 k)).setCell ⟨g, k * 3 + 1, none⟩ (.pointer (some ⟨g, T * 3, none⟩)) = W3 := ⟨_, rfl⟩
        rw [eW3]
        have hne : (F T).ownBlock ≠ some g := HF.out.ng T hTN
        have hgs3 : W3.heap.size = wr.heap.size := by rw [← eW3]; simp
        have hs1 : W3.drew.cell? ⟨g, k * 3 + 1, none⟩ = some (.pointer (some ⟨g, T * 3, none⟩)) := by
          refine (Grew.refl W3).drew.cell ?_
          rw [← eW3]
          exact World.cell?_setCell_same _ _ _ hk1
        have hcF : W3.drew.cell? ⟨g, T * 3 + 2, none⟩ = some (F T) := by
          refine (Grew.refl W3).drew.cell ?_
          rw [← eW3, World.cell?_setCell_other _ _ _ _ (by simp <;> omega), World.cell?_setCell_other _ _ _ _ (by simp <;> omega)]
          exact HF.out.c2 T hTN
        have hfF : W3.drew.frozen? ⟨g, T * 3 + 2, none⟩ = false := by
          have : W3.frozen? ⟨g, T * 3 + 2, none⟩ = false := by
            rw [← eW3, World.frozen?_setCell, World.frozen?_setCell]; exact HF.out.fr _
          exact this
        have hgl : g < W3.drew.heap.size := by
          have h1 := HF.out.lt.2
          show g < W3.heap.size
          omega
        have hcF2 : (W3.alloc (.cells #[.pointer (some ⟨g, k * 3, none⟩)] 42)).cell? ⟨g, T * 3 + 2, none⟩ = some (F T) := ((Grew.refl W3.drew).alloc _).cell hcF
        have HAL : Hid ((W3.drew.alloc (.cells #[.pointer (some ⟨g, k * 3, none⟩)] 42)).cell? ⟨g, k * 3 + 1, none⟩ = some (.pointer (some ⟨g, T * 3, none⟩))) := ((Grew.refl W3.drew).alloc _).cell hs1
        obtain ⟨SL, eSL⟩ : ∃ SL, (srcK ts k T).length = SL := ⟨_, rfl⟩
        obtain ⟨XS, eXS⟩ : ∃ XS, (srcK ts k T).map (ptr g) = XS := ⟨_, rfl⟩
        have HO3 : Hid (W3.drew.ownsRow g 42 1 (F T) SL XS ∧ SL ≤ k) := Lib.hid (by
          have ho := HF.out.own T hTN
          rw [eSL, eXS] at ho
          refine ⟨ownsRow_block ho fun b e => ?_, by rw [← eSL]; exact srcK_len ts k T⟩
          have hb : b ≠ g := fun e2 => hne (by rw [e, e2])
          show W3.heap[b]? = _
          rw [← eW3, Below.heap_setCell _ _ _ _ hb, Below.heap_setCell _ _ _ _ hb])
        have HLO : Hid (g ≤ W3.drew.heap.size) := Lib.hid (by omega)
        have HK7 : Hid (∀ w7, (W3.drew.alloc (.cells #[.pointer (some ⟨g, k * 3, none⟩)] 42)).grownBy w7 (F T).ownBlock → w7.cell? ⟨g, k * 3 + 1, none⟩ = some (.pointer (some ⟨g, T * 3, none⟩))) := fun w7 hG => hG.cell HAL.out hne.symm
        have HF7 : Hid (∀ w7, (W3.drew.alloc (.cells #[.pointer (some ⟨g, k * 3, none⟩)] 42)).grownBy w7 (F T).ownBlock → w7.cell? ⟨g, T * 3 + 2, none⟩ = some (F T) ∧ w7.frozen? ⟨g, T * 3 + 2, none⟩ = false) := fun w7 hG => by
          refine ⟨hG.cell hcF2 hne.symm, ?_⟩
          rw [hG.frozen_far _ (Nat.lt_of_lt_of_le hgl ((Grew.refl W3.drew).alloc _).size) hne.symm]
          have : (W3.drew.alloc (.cells #[.pointer (some ⟨g, k * 3, none⟩)] 42)).frozen? ⟨g, T * 3 + 2, none⟩ = W3.drew.frozen? ⟨g, T * 3 + 2, none⟩ := World.frozen?_of_block (((Grew.refl W3.drew).alloc _).block hgl)
          rw [this]; exact hfF
        have HKS : Hid (∀ (w7 : World) (u : Value), w7.cell? ⟨g, k * 3 + 1, none⟩ = some (.pointer (some ⟨g, T * 3, none⟩)) → (w7.setCell ⟨g, T * 3 + 2, none⟩ u).cell? ⟨g, k * 3 + 1, none⟩ = some (.pointer (some ⟨g, T * 3, none⟩))) := fun w7 u h => by
          rw [World.cell?_setCell_other _ _ _ _ (by simp <;> omega)]; exact h
        have HEND : Hid (∀ g7 c7 w7, w7.ownsRow g 42 1 (.slice (some ⟨g7, 0, none⟩) (SL + 1) c7) (SL + 1) (XS ++ [.pointer (some ⟨g, k * 3, none⟩)]) ∧ (W3.drew.alloc (.cells #[.pointer (some ⟨g, k * 3, none⟩)] 42)).grownBy w7 (F T).ownBlock ∧ ((F T).ownBlock = some g7 ∨ g7 = W3.drew.heap.size + 1) ∧ g7 < w7.heap.size →
            Grew w2 (w7.setCell ⟨g, T * 3 + 2, none⟩ (.slice (some ⟨g7, 0, none⟩) (SL + 1) c7)) ∧ ∃ F', StrI g N g 42 ts (k + 1) F' (w7.setCell ⟨g, T * 3 + 2, none⟩ (.slice (some ⟨g7, 0, none⟩) (SL + 1) c7))) := fun g7 c7 w7 ⟨hO, hG, hA, hL⟩ => by
          have hsz : W3.drew.heap.size + 1 ≤ w7.heap.size := by have := hG.size; simpa using this
          have hsz3 : W3.drew.heap.size = wr.heap.size := hgs3
          constructor
          · have h1 : Within g w7.heap.size wr (W3.drew.alloc (.cells #[.pointer (some ⟨g, k * 3, none⟩)] 42)) := by
              rw [← eW3]
              exact ((((Within.refl g w7.heap.size wr).setCell (p := ⟨g, k * 3, none⟩) (Nat.le_refl _) (by show g < _; omega) _).setCell (p := ⟨g, k * 3 + 1, none⟩) (Nat.le_refl _) (by show g < _; omega) _).drew).alloc _
            have h2 : Within g w7.heap.size (W3.drew.alloc (.cells #[.pointer (some ⟨g, k * 3, none⟩)] 42)) w7 := grownBy_within hG fun b e => by
              have := World.ownsRow.lt HO3.out.1 b e
              omega
            exact Within.grew HGR.out ((h1.trans h2).setCell (p := ⟨g, T * 3 + 2, none⟩) (Nat.le_refl _) (by show g < _; omega) _) (by have := HEG.out; omega)
          · refine ⟨_, StrI.to (v' := .slice (some ⟨g7, 0, none⟩) (SL + 1) c7) HF.out hlt hTN HET.out ?_ ?_ (by omega) fun b hb hn => ?_⟩
            · rw [eSL, eXS]; exact hO
            · intro b e
              simp only [Value.ownBlock, Option.some.injEq] at e
              subst e
              rcases hA with h | h
              · exact .inl h
              · exact .inr (by omega)
            · rw [hG.block b (by simp; omega) (fun e => hn e.symm), ((Grew.refl W3.drew).alloc _).block (by omega)]
              show W3.heap[b]? = _
              rw [← eW3]; rfl
        clear hk0 hf0 hct1 hk1 hf1 hne hgs3 hfF hgl eSL eXS eW3 hN1
        refine wp_region_noPanic ?_
        refine wp_region_held_drew (S := fun W => W.cell? ⟨g, k * 3 + 1, none⟩ = some (.pointer (some ⟨g, T * 3, none⟩))) (by kernel_rfl) (by exact hs1) (fun hHeld => ?_)
        refine wpAnyH_take (i := 0) (oi := { dst := some 38, op := Op.move (Operand.tmp 6), type := 42, pos := _, after := #[], guard := none }) (v := ?_) rfl (by kernel_rfl) (by kernel_rfl) (by kernel_rfl) (fun _ _ _ h => h) (Or.inl ⟨by rfl, ?hy⟩) (by assumption) ?_
        case hy => (intro w hSw; (try dsimp only at hSw); go_simp; try with_reducible rfl)
        try simp only [Act.put, List.setIfInBounds_toArray, List.set_cons_zero, List.set_cons_succ]
        refine wpAnyH_take (i := 1) (oi := { dst := some 39, op := Op.nilCheck (Operand.tmp 38), type := 0, pos := _, after := #[{ on := 0, ground := Ground.data }], guard := none }) (v := ?_) rfl (by kernel_rfl) (by kernel_rfl) (by kernel_rfl) (fun _ _ _ h => h) (Or.inl ⟨by rfl, ?hy⟩) (by assumption) ?_
        case hy => (intro w hSw; (try dsimp only at hSw); go_simp; try with_reducible rfl)
        try simp only [Act.put, List.setIfInBounds_toArray, List.set_cons_zero, List.set_cons_succ]
        refine wpAnyH_take (i := 2) (oi := { dst := some 40, op := Op.fieldAddr 55 (Operand.tmp 39) 1, type := 0, pos := _, after := #[{ on := 1, ground := Ground.data }], guard := none }) (v := ?_) rfl (by kernel_rfl) (by kernel_rfl) (by kernel_rfl) (fun _ _ _ h => h) (Or.inl ⟨by rfl, ?hy⟩) (by assumption) ?_
        case hy => (intro w hSw; (try dsimp only at hSw); go_simp; try with_reducible rfl)
        try simp only [Act.put, List.setIfInBounds_toArray, List.set_cons_zero, List.set_cons_succ]
        refine wpAnyH_take (i := 3) (oi := { dst := some 41, op := Op.load 42 (Operand.tmp 40), type := 42, pos := _, after := #[{ on := 2, ground := Ground.data }], guard := none }) (v := ?_) rfl (by kernel_rfl) (by kernel_rfl) (by kernel_rfl) (fun _ _ _ h => h) (Or.inl ⟨by rfl, ?hy⟩) (by assumption) ?_
        case hy => (intro w hSw; (try dsimp only at hSw); go_simp; try with_reducible rfl)
        try simp only [Act.put, List.setIfInBounds_toArray, List.set_cons_zero, List.set_cons_succ]
        refine wpAnyH_take (i := 4) (oi := { dst := some 42, op := Op.move (Operand.tmp 6), type := 42, pos := _, after := #[], guard := none }) (v := ?_) rfl (by kernel_rfl) (by kernel_rfl) (by kernel_rfl) (fun _ _ _ h => h) (Or.inl ⟨by rfl, ?hy⟩) (by assumption) ?_
        case hy => (intro w hSw; (try dsimp only at hSw); go_simp; try with_reducible rfl)
        try simp only [Act.put, List.setIfInBounds_toArray, List.set_cons_zero, List.set_cons_succ]
        refine wpAnyH_take (i := 5) (oi := { dst := some 43, op := Op.nilCheck (Operand.tmp 42), type := 0, pos := _, after := #[{ on := 4, ground := Ground.data }], guard := none }) (v := ?_) rfl (by kernel_rfl) (by kernel_rfl) (by kernel_rfl) (fun _ _ _ h => h) (Or.inl ⟨by rfl, ?hy⟩) (by assumption) ?_
        case hy => (intro w hSw; (try dsimp only at hSw); go_simp; try with_reducible rfl)
        try simp only [Act.put, List.setIfInBounds_toArray, List.set_cons_zero, List.set_cons_succ]
        refine wpAnyH_take (i := 6) (oi := { dst := some 44, op := Op.fieldAddr 55 (Operand.tmp 43) 1, type := 0, pos := _, after := #[{ on := 5, ground := Ground.data }], guard := none }) (v := ?_) rfl (by kernel_rfl) (by kernel_rfl) (by kernel_rfl) (fun _ _ _ h => h) (Or.inl ⟨by rfl, ?hy⟩) (by assumption) ?_
        case hy => (intro w hSw; (try dsimp only at hSw); go_simp; try with_reducible rfl)
        try simp only [Act.put, List.setIfInBounds_toArray, List.set_cons_zero, List.set_cons_succ]
        refine wpAnyH_take (i := 7) (oi := { dst := some 45, op := Op.load 42 (Operand.tmp 44), type := 42, pos := _, after := #[{ on := 6, ground := Ground.data }], guard := none }) (v := ?_) rfl (by kernel_rfl) (by kernel_rfl) (by kernel_rfl) (fun _ _ _ h => h) (Or.inl ⟨by rfl, ?hy⟩) (by assumption) ?_
        case hy => (intro w hSw; (try dsimp only at hSw); go_simp; try with_reducible rfl)
        try simp only [Act.put, List.setIfInBounds_toArray, List.set_cons_zero, List.set_cons_succ]
        refine wpAnyH_take (i := 8) (oi := { dst := some 46, op := Op.nilCheck (Operand.tmp 45), type := 0, pos := _, after := #[{ on := 7, ground := Ground.data }], guard := none }) (v := ?_) rfl (by kernel_rfl) (by kernel_rfl) (by kernel_rfl) (fun _ _ _ h => h) (Or.inl ⟨by rfl, ?hy⟩) (by assumption) ?_
        case hy => (intro w hSw; (try dsimp only at hSw); go_simp; try with_reducible rfl)
        try simp only [Act.put, List.setIfInBounds_toArray, List.set_cons_zero, List.set_cons_succ]
        refine wpAnyH_take (i := 9) (oi := { dst := some 47, op := Op.fieldAddr 55 (Operand.tmp 46) 2, type := 0, pos := _, after := #[{ on := 8, ground := Ground.data }], guard := none }) (v := ?_) rfl (by kernel_rfl) (by kernel_rfl) (by kernel_rfl) (fun _ _ _ h => h) (Or.inl ⟨by rfl, ?hy⟩) (by assumption) ?_
        case hy => (intro w hSw; (try dsimp only at hSw); go_simp; try with_reducible rfl)
        try simp only [Act.put, List.setIfInBounds_toArray, List.set_cons_zero, List.set_cons_succ]
        refine wpAnyH_take (i := 11) (oi := { dst := some 49, op := Op.move (Operand.tmp 6), type := 42, pos := _, after := #[], guard := none }) (v := ?_) rfl (by kernel_rfl) (by kernel_rfl) (by kernel_rfl) (fun _ _ _ h => h) (Or.inl ⟨by rfl, ?hy⟩) (by assumption) ?_
        case hy => (intro w hSw; (try dsimp only at hSw); go_simp; try with_reducible rfl)
        try simp only [Act.put, List.setIfInBounds_toArray, List.set_cons_zero, List.set_cons_succ]
        refine wpAnyH_ready (rs := [10, 12]) (by kernel_rfl) (by simp) ?_
        refine AllReadyH.cons (i := 10) (o := { dst := some 48, op := Op.load 53 (Operand.tmp 47), type := 53, pos := _, after := #[{ on := 9, ground := Ground.data }], guard := none }) rfl (fun KK hKK => ?_) (AllReadyH.cons (i := 12) (o := { dst := some 50, op := Op.buildSlice 53 1 #[(0, Operand.tmp 49)], type := 53, pos := _, after := #[{ on := 11, ground := Ground.data }], guard := none }) rfl (fun KK hKK => ?_) AllReadyH.nil)
        · go_simp
          refine hKK.out _ _ (by exact hHeld) (fun hHeld => ?_)
          clear hKK KK
          try simp only [Act.put, List.setIfInBounds_toArray, List.set_cons_zero, List.set_cons_succ]
          refine wpAnyH_ready (rs := [12]) (by kernel_rfl) (by simp) ?_
          refine AllReadyH.cons (i := 12) (o := { dst := some 50, op := Op.buildSlice 53 1 #[(0, Operand.tmp 49)], type := 53, pos := _, after := #[{ on := 11, ground := Ground.data }], guard := none }) rfl (fun KK hKK => ?_) AllReadyH.nil
          go_simp
          refine hKK.out _ _ (by exact HAL.out) (fun hHeld => ?_)
          clear hKK KK
          try simp only [Act.put, List.setIfInBounds_toArray, List.set_cons_zero, List.set_cons_succ]
          refine wpAnyH_ready (rs := [13]) (by kernel_rfl) (by simp) ?_
          refine AllReadyH.cons (i := 13) (o := { dst := some 51, op := Op.call { callee := Callee.builtin Builtin.append, args := #[Operand.tmp 48, Operand.tmp 50], argTypes := #[53, 53] }, type := 53, pos := _, after := #[{ on := 10, ground := Ground.data }, { on := 12, ground := Ground.data }], guard := none }) rfl (fun KK hKK => ?_) AllReadyH.nil
          refine step_append_ptr (w := W3.drew) (n := SL) (xs := XS) (v := F T) (lo := g) (u := .pointer (some ⟨g, k * 3, none⟩)) rfl (.tmp 48) (.tmp 50) 53 rfl Tryd.underlying53 Tryd.infoPtr (by simp [Act.eval]) (by simp [Act.eval]) rfl HO3.out.1 (by rfl) (by have := HO3.out.2; omega) HLO.out ?_
          intro g7 c7 w7 hO7 hG7 hA7 hL7
          have hs7 : w7.cell? ⟨g, k * 3 + 1, none⟩ = some (.pointer (some ⟨g, T * 3, none⟩)) := HK7.out w7 hG7
          have hf7 := HF7.out w7 hG7
          have H7 := Lib.hid (And.intro hO7 (And.intro hG7 (And.intro hA7 hL7)))
          clear hO7 hG7 hA7 hL7
          refine hKK.out _ _ (by exact hs7) (fun hHeld => ?_)
          clear hKK KK
          try simp only [Act.put, List.setIfInBounds_toArray, List.set_cons_zero, List.set_cons_succ]
          have hc7 := hf7.1
          have hz7 := hf7.2
          clear hf7
          refine wpAnyH_take (i := 14) (oi := { dst := some 52, op := Op.nilCheck (Operand.tmp 41), type := 0, pos := _, after := #[{ on := 3, ground := Ground.data }, { on := 0, ground := Ground.phase }, { on := 1, ground := Ground.phase }, { on := 2, ground := Ground.phase }, { on := 3, ground := Ground.phase }, { on := 4, ground := Ground.phase }, { on := 5, ground := Ground.phase }, { on := 6, ground := Ground.phase }, { on := 7, ground := Ground.phase }, { on := 8, ground := Ground.phase }, { on := 9, ground := Ground.phase }, { on := 10, ground := Ground.phase }, { on := 11, ground := Ground.phase }, { on := 12, ground := Ground.phase }, { on := 13, ground := Ground.phase }], guard := none }) (v := ?_) rfl (by kernel_rfl) (by kernel_rfl) (by kernel_rfl) (fun _ _ _ h => h) (Or.inl ⟨by rfl, ?hy⟩) (by assumption) ?_
          case hy => (intro w hSw; (try dsimp only at hSw); go_simp; try with_reducible rfl)
          try simp only [Act.put, List.setIfInBounds_toArray, List.set_cons_zero, List.set_cons_succ]
          refine wpAnyH_take (i := 15) (oi := { dst := some 53, op := Op.fieldAddr 55 (Operand.tmp 52) 2, type := 0, pos := _, after := #[{ on := 14, ground := Ground.data }, { on := 0, ground := Ground.phase }, { on := 1, ground := Ground.phase }, { on := 2, ground := Ground.phase }, { on := 3, ground := Ground.phase }, { on := 4, ground := Ground.phase }, { on := 5, ground := Ground.phase }, { on := 6, ground := Ground.phase }, { on := 7, ground := Ground.phase }, { on := 8, ground := Ground.phase }, { on := 9, ground := Ground.phase }, { on := 10, ground := Ground.phase }, { on := 11, ground := Ground.phase }, { on := 12, ground := Ground.phase }, { on := 13, ground := Ground.phase }], guard := none }) (v := ?_) rfl (by kernel_rfl) (by kernel_rfl) (by kernel_rfl) (fun _ _ _ h => h) (Or.inl ⟨by rfl, ?hy⟩) (by assumption) ?_
          case hy => (intro w hSw; (try dsimp only at hSw); go_simp; try with_reducible rfl)
          try simp only [Act.put, List.setIfInBounds_toArray, List.set_cons_zero, List.set_cons_succ]
          refine wpAnyH_ready (rs := [16]) (by kernel_rfl) (by simp) ?_
          refine AllReadyH.cons (i := 16) (o := { dst := none, op := Op.store 53 (Operand.tmp 53) (Operand.tmp 51), type := 0, pos := _, after := #[{ on := 15, ground := Ground.data }, { on := 13, ground := Ground.data }, { on := 13, ground := Ground.chain }, { on := 0, ground := Ground.phase }, { on := 1, ground := Ground.phase }, { on := 2, ground := Ground.phase }, { on := 3, ground := Ground.phase }, { on := 4, ground := Ground.phase }, { on := 5, ground := Ground.phase }, { on := 6, ground := Ground.phase }, { on := 7, ground := Ground.phase }, { on := 8, ground := Ground.phase }, { on := 9, ground := Ground.phase }, { on := 10, ground := Ground.phase }, { on := 11, ground := Ground.phase }, { on := 12, ground := Ground.phase }, { on := 13, ground := Ground.phase }], guard := none }) rfl (fun KK hKK => ?_) AllReadyH.nil
          go_simp
          refine hKK.out _ _ (by exact HKS.out w7 _ hs7) (fun hHeld => ?_)
          clear hKK KK
          try simp only [Act.put, List.setIfInBounds_toArray, List.set_cons_zero, List.set_cons_succ]
          refine wpAnyH_done (by kernel_rfl) ?_ _
          refine NoPanic.normal ?_
          have HE7 := Lib.hid (HEND.out g7 c7 w7 H7.out)
          clear hHeld hs7 hc7 hz7
          go_wp2
          go_roundw
          case rel => exact ⟨k + 1, by go_num, by omega, HE7.out⟩
          case measure => simp [intOf]; omega
        · go_simp
          refine hKK.out _ _ (by exact HAL.out) (fun hHeld => ?_)
          clear hKK KK
          try simp only [Act.put, List.setIfInBounds_toArray, List.set_cons_zero, List.set_cons_succ]
          refine wpAnyH_ready (rs := [10]) (by kernel_rfl) (by simp) ?_
          refine AllReadyH.cons (i := 10) (o := { dst := some 48, op := Op.load 53 (Operand.tmp 47), type := 53, pos := _, after := #[{ on := 9, ground := Ground.data }], guard := none }) rfl (fun KK hKK => ?_) AllReadyH.nil
          go_simp
          refine hKK.out _ _ (by exact HAL.out) (fun hHeld => ?_)
          clear hKK KK
          try simp only [Act.put, List.setIfInBounds_toArray, List.set_cons_zero, List.set_cons_succ]
          refine wpAnyH_ready (rs := [13]) (by kernel_rfl) (by simp) ?_
          refine AllReadyH.cons (i := 13) (o := { dst := some 51, op := Op.call { callee := Callee.builtin Builtin.append, args := #[Operand.tmp 48, Operand.tmp 50], argTypes := #[53, 53] }, type := 53, pos := _, after := #[{ on := 10, ground := Ground.data }, { on := 12, ground := Ground.data }], guard := none }) rfl (fun KK hKK => ?_) AllReadyH.nil
          refine step_append_ptr (w := W3.drew) (n := SL) (xs := XS) (v := F T) (lo := g) (u := .pointer (some ⟨g, k * 3, none⟩)) rfl (.tmp 48) (.tmp 50) 53 rfl Tryd.underlying53 Tryd.infoPtr (by simp [Act.eval]) (by simp [Act.eval]) rfl HO3.out.1 (by rfl) (by have := HO3.out.2; omega) HLO.out ?_
          intro g7 c7 w7 hO7 hG7 hA7 hL7
          have hs7 : w7.cell? ⟨g, k * 3 + 1, none⟩ = some (.pointer (some ⟨g, T * 3, none⟩)) := HK7.out w7 hG7
          have hf7 := HF7.out w7 hG7
          have H7 := Lib.hid (And.intro hO7 (And.intro hG7 (And.intro hA7 hL7)))
          clear hO7 hG7 hA7 hL7
          refine hKK.out _ _ (by exact hs7) (fun hHeld => ?_)
          clear hKK KK
          try simp only [Act.put, List.setIfInBounds_toArray, List.set_cons_zero, List.set_cons_succ]
          have hc7 := hf7.1
          have hz7 := hf7.2
          clear hf7
          refine wpAnyH_take (i := 14) (oi := { dst := some 52, op := Op.nilCheck (Operand.tmp 41), type := 0, pos := _, after := #[{ on := 3, ground := Ground.data }, { on := 0, ground := Ground.phase }, { on := 1, ground := Ground.phase }, { on := 2, ground := Ground.phase }, { on := 3, ground := Ground.phase }, { on := 4, ground := Ground.phase }, { on := 5, ground := Ground.phase }, { on := 6, ground := Ground.phase }, { on := 7, ground := Ground.phase }, { on := 8, ground := Ground.phase }, { on := 9, ground := Ground.phase }, { on := 10, ground := Ground.phase }, { on := 11, ground := Ground.phase }, { on := 12, ground := Ground.phase }, { on := 13, ground := Ground.phase }], guard := none }) (v := ?_) rfl (by kernel_rfl) (by kernel_rfl) (by kernel_rfl) (fun _ _ _ h => h) (Or.inl ⟨by rfl, ?hy⟩) (by assumption) ?_
          case hy => (intro w hSw; (try dsimp only at hSw); go_simp; try with_reducible rfl)
          try simp only [Act.put, List.setIfInBounds_toArray, List.set_cons_zero, List.set_cons_succ]
          refine wpAnyH_take (i := 15) (oi := { dst := some 53, op := Op.fieldAddr 55 (Operand.tmp 52) 2, type := 0, pos := _, after := #[{ on := 14, ground := Ground.data }, { on := 0, ground := Ground.phase }, { on := 1, ground := Ground.phase }, { on := 2, ground := Ground.phase }, { on := 3, ground := Ground.phase }, { on := 4, ground := Ground.phase }, { on := 5, ground := Ground.phase }, { on := 6, ground := Ground.phase }, { on := 7, ground := Ground.phase }, { on := 8, ground := Ground.phase }, { on := 9, ground := Ground.phase }, { on := 10, ground := Ground.phase }, { on := 11, ground := Ground.phase }, { on := 12, ground := Ground.phase }, { on := 13, ground := Ground.phase }], guard := none }) (v := ?_) rfl (by kernel_rfl) (by kernel_rfl) (by kernel_rfl) (fun _ _ _ h => h) (Or.inl ⟨by rfl, ?hy⟩) (by assumption) ?_
          case hy => (intro w hSw; (try dsimp only at hSw); go_simp; try with_reducible rfl)
          try simp only [Act.put, List.setIfInBounds_toArray, List.set_cons_zero, List.set_cons_succ]
          refine wpAnyH_ready (rs := [16]) (by kernel_rfl) (by simp) ?_
          refine AllReadyH.cons (i := 16) (o := { dst := none, op := Op.store 53 (Operand.tmp 53) (Operand.tmp 51), type := 0, pos := _, after := #[{ on := 15, ground := Ground.data }, { on := 13, ground := Ground.data }, { on := 13, ground := Ground.chain }, { on := 0, ground := Ground.phase }, { on := 1, ground := Ground.phase }, { on := 2, ground := Ground.phase }, { on := 3, ground := Ground.phase }, { on := 4, ground := Ground.phase }, { on := 5, ground := Ground.phase }, { on := 6, ground := Ground.phase }, { on := 7, ground := Ground.phase }, { on := 8, ground := Ground.phase }, { on := 9, ground := Ground.phase }, { on := 10, ground := Ground.phase }, { on := 11, ground := Ground.phase }, { on := 12, ground := Ground.phase }, { on := 13, ground := Ground.phase }], guard := none }) rfl (fun KK hKK => ?_) AllReadyH.nil
          go_simp
          refine hKK.out _ _ (by exact HKS.out w7 _ hs7) (fun hHeld => ?_)
          clear hKK KK
          try simp only [Act.put, List.setIfInBounds_toArray, List.set_cons_zero, List.set_cons_succ]
          refine wpAnyH_done (by kernel_rfl) ?_ _
          refine NoPanic.normal ?_
          have HE7 := Lib.hid (HEND.out g7 c7 w7 H7.out)
          clear hHeld hs7 hc7 hz7
          go_wp2
          go_roundw
          case rel => exact ⟨k + 1, by go_num, by omega, HE7.out⟩
          case measure => simp [intOf]; omega
    · obtain rfl : k = N := by omega
      go_wp2
      go_ret
      exact ⟨g, rfl, HF.out.read HTL.out, H2.out.2.trans HGR.out⟩
end Go.Proofs.YtekhjjcgkmnmlaaDoor

/- The methods of impl.stream: area, last, length, order, springs. -/
namespace Go.Proofs.YtekhjjcgkmnmlaaDoor
open Go.RowKit

theorem wrapS (x : Int) (h1 : -1000000 ≤ x) (h2 : x ≤ 1000000) : IntKind.i64.wrap x = x := IntWalk.i64_in _ (by omega)
theorem take_sum (M : List Int) (s : Nat) (h : s < M.length) : (M.take (s + 1)).sum = (M.take s).sum + M.getD s 0 := by
  rw [List.take_add_one, List.sum_append]; simp [h]
theorem take_fold (M : List Int) (s : Nat) (h : s < M.length) (p : Int × Int) : (M.take (s + 1)).foldl ordStep p = ordStep ((M.take s).foldl ordStep p) (M.getD s 0) := by
  rw [List.take_add_one, List.foldl_append]; simp [h]
theorem sum_nn : ∀ M : List Int, (∀ x, x ∈ M → 0 ≤ x) → 0 ≤ M.sum
  | [], _ => Int.le_refl _
  | a :: M, h => by
    have h1 := h a (by simp)
    have h2 := sum_nn M fun x hx => h x (by simp [hx])
    rw [List.sum_cons]; omega
theorem takeS_le (M : List Int) (h : ∀ x, x ∈ M → 0 ≤ x) (s : Nat) : 0 ≤ (M.take s).sum ∧ (M.take s).sum ≤ M.sum := by
  have h1 := sum_nn (M.take s) fun x hx => h x (List.mem_of_mem_take hx)
  have h2 := sum_nn (M.drop s) fun x hx => h x (List.mem_of_mem_drop hx)
  have e : M.sum = (M.take s).sum + (M.drop s).sum := by rw [← List.sum_append, List.take_append_drop]
  omega
theorem getD_mem' {α} (d : α) (M : List α) (s : Nat) (h : s < M.length) : M.getD s d ∈ M := by
  rw [List.getD_eq_getElem?_getD, List.getElem?_eq_getElem h]; simp

theorem lenU_nn (ts : List Int) : ∀ d i, 0 ≤ lenU ts d i
  | 0, _ => by rw [lenU]; decide
  | d + 1, i => by
    have := lenU_nn ts d (ts.getD i 0).toNat
    rw [lenU_s]
    split <;> omega
theorem len_nn (ts : List Int) (i : Nat) : 0 ≤ lenL ts i := lenU_nn ts _ i
theorem srcs_25 {N : Nat} {ts : List Int} (R : Runs N ts) (hN : N ≤ 25) (φ : Nat → Int) (i : Nat) : ((srcL ts i).map φ).length ≤ 25 := by
  have h1 := List.length_filter_le (fun k => ts.getD k 0 == (i : Int)) (List.range ts.length)
  rw [List.length_range, R.len] at h1
  rw [List.length_map]
  unfold srcL
  rw [R.len]
  omega
/-- The slice of those that run to a stream, and what is told of each of them. -/
theorem kids {g N : Nat} {ts : List Int} (w : World) (hV : StrV g N ts w) (φ : Nat → Int) (F i : Nat) (hi : i < N)
    (IH : ∀ k, k ∈ srcL ts i → Calls Tryd.prog F #[.pointer (some ⟨g, k * 3, none⟩)] w fun e w' => e = .returned (.int .i64 (φ k)) ∧ w' = w) :
    ∃ a c b, w.cell? ⟨g, i * 3 + 2, none⟩ = some (.slice a ((srcL ts i).map φ).length c) ∧ ∀ s, s < ((srcL ts i).map φ).length → a = some ⟨b, 0, none⟩ ∧ ∃ p, w.cell? ⟨b, s, none⟩ = some p ∧ Calls Tryd.prog F #[p] w fun e w' => e = .returned (.int .i64 (((srcL ts i).map φ).getD s 0)) ∧ w' = w := by
  obtain ⟨a, c, b, h1, h2⟩ := hV.c2 i hi
  refine ⟨a, c, b, by rw [List.length_map]; exact h1, fun s hs => ?_⟩
  rw [List.length_map] at hs
  obtain ⟨e, hc⟩ := h2 s hs
  refine ⟨e, _, hc, ?_⟩
  have := IH ((srcL ts i).getD s 0) (getD_mem' _ _ _ hs)
  have e2 : ((srcL ts i).map φ).getD s 0 = φ ((srcL ts i).getD s 0) := by simp [hs]
  rw [e2]
  exact this

set_option maxRecDepth 100000 in
set_option maxHeartbeats 2000000 in
theorem last_any {g N : Nat} {ts : List Int} (R : Runs N ts) (i : Nat) (w : World) (hV : StrV g N ts w) (hi : i < N) :
    Calls Tryd.prog 52 #[.pointer (some ⟨g, i * 3, none⟩)] w fun e w' => e = .returned (.int .i64 (phiB ts i)) ∧ w' = w := by
  obtain ⟨rk, _, h2⟩ := R.rank
  have HV := Lib.hid hV
  have HR := Lib.hid R
  have HRK := Lib.hid h2
  unfold phiB
  obtain ⟨L, eL⟩ : ∃ L, lastL ts i = L := ⟨_, rfl⟩
  rw [eL]
  clear hV R h2
  go_enter Tryd.func52, Tryd.ntmps52
  go_wp2
  go_loopw [0] (fun v wr => ∃ j : Nat, v = .pointer (some ⟨g, j * 3, none⟩) ∧ j < N ∧ Hid (lastL ts j = L ∧ wr = w)) (fun v _ => match v with | .pointer (some a) => rk (a.off / 3) | _ => 0)
  case atStart => exact ⟨i, rfl, hi, eL, rfl⟩
  case round =>
    obtain ⟨j, rfl, hj, HI⟩ := hrel
    obtain ⟨hlj, rfl⟩ := HI.out
    have HL := Lib.hid hlj
    have hc0 := HV.out.c0 j hj
    have hc1 := HV.out.c1 j hj
    clear hlj HI eL
    rcases HR.out.to j hj with e | ⟨k, e, hk⟩
    · have HE : Hid (L = j) := Lib.hid (by rw [← HL.out]; exact (way_end e).2.1)
      rw [e, if_neg (by omega)] at hc1
      clear e
      go_wp2
      go_ret
      exact ⟨ret_int (by rw [HE.out]), rfl⟩
    · have HE : Hid (lastL ts k = L ∧ rk k < rk j) := Lib.hid ⟨by rw [← HL.out]; exact (way_on HR.out hj e).2.1.symm, HRK.out j k hj e⟩
      rw [e, if_pos (by omega), Int.toNat_natCast] at hc1
      unfold ptr at hc1
      clear e
      go_wp2
      go_roundw
      case rel => exact ⟨k, rfl, hk, HE.out.1, trivial⟩
      case measure =>
        have := HE.out.2
        simp only [Nat.mul_div_cancel _ (show 0 < 3 by decide)]
        exact this

set_option maxRecDepth 100000 in
set_option maxHeartbeats 2000000 in
theorem length_any {g N : Nat} {ts : List Int} (R : Runs N ts) (hN : N ≤ 25) (i : Nat) (w : World) (hV : StrV g N ts w) (hi : i < N) :
    Calls Tryd.prog 56 #[.pointer (some ⟨g, i * 3, none⟩)] w fun e w' => e = .returned (.int .i64 (phiL ts i)) ∧ w' = w := by
  obtain ⟨rk, _, h2⟩ := R.rank
  have hle := len_le R hi
  have HV := Lib.hid hV
  have HR := Lib.hid R
  have HRK := Lib.hid h2
  unfold phiL
  obtain ⟨L, eL⟩ : ∃ L, lenL ts i = L := ⟨_, rfl⟩
  rw [eL] at hle ⊢
  clear hV R h2
  go_enter Tryd.func56, Tryd.ntmps56
  go_wp2
  go_loopw [0, 3] (fun v cv wr => ∃ (j : Nat) (c : Int), v = .pointer (some ⟨g, j * 3, none⟩) ∧ cv = .int .i64 c ∧ j < N ∧ 1 ≤ c ∧ c ≤ 25 ∧ Hid (c + lenL ts j = L + 1 ∧ wr = w)) (fun v _ _ => match v with | .pointer (some a) => rk (a.off / 3) | _ => 0)
  case atStart => exact ⟨i, 1, rfl, rfl, hi, Int.le_refl _, by decide, by rw [eL]; omega, rfl⟩
  case round =>
    obtain ⟨j, c, rfl, rfl, hj, hb1, hb2, HI⟩ := hrel
    obtain ⟨hlj, rfl⟩ := HI.out
    have HL := Lib.hid hlj
    have hc1 := HV.out.c1 j hj
    have hw : IntKind.i64.wrap (c + 1) = c + 1 := wrapS _ (by omega) (by omega)
    clear hlj HI eL
    rcases HR.out.to j hj with e | ⟨k, e, hk⟩
    · have HE : Hid (c = L) := Lib.hid (by have := HL.out; rw [(way_end e).1] at this; omega)
      rw [e, if_neg (by omega)] at hc1
      clear e
      go_wp2
      go_ret
      exact ⟨ret_int HE.out, rfl⟩
    · have HE : Hid (c + 1 + lenL ts k = L + 1 ∧ rk k < rk j ∧ c + 1 ≤ 25) := Lib.hid (by
        have h1 := HL.out
        rw [(way_on HR.out hj e).1] at h1
        have h3 : 1 ≤ lenL ts k := by
          rcases HR.out.to k hk with e2 | ⟨q, e2, hq⟩
          · rw [(way_end e2).1]; exact Int.le_refl _
          · have h5 := (way_on HR.out hk e2).1
            have h6 : 0 ≤ lenL ts q := len_nn ts q
            omega
        exact ⟨by omega, HRK.out j k hj e, by omega⟩)
      rw [e, if_pos (by omega), Int.toNat_natCast] at hc1
      unfold ptr at hc1
      clear e
      go_wp2
      go_roundw
      case rel => exact ⟨k, c + 1, rfl, rfl, hk, by omega, HE.out.2.2, HE.out.1, trivial⟩
      case measure =>
        have := HE.out.2.1
        simp only [Nat.mul_div_cancel _ (show 0 < 3 by decide)]
        exact this

set_option maxRecDepth 100000 in
set_option maxHeartbeats 2000000 in
theorem area_any {g N : Nat} {ts : List Int} (R : Runs N ts) (hN : N ≤ 25) (w : World) (hV : StrV g N ts w) : ∀ i, i < N →
    Calls Tryd.prog 43 #[.pointer (some ⟨g, i * 3, none⟩)] w fun e w' => e = .returned (.int .i64 (phiA ts i)) ∧ w' = w :=
  R.up fun i hi IH => by
    obtain ⟨a, c, b, hc, hk⟩ := kids w hV (phiA ts) 43 i hi IH
    have hsum : phiA ts i = 1 + ((srcL ts i).map (phiA ts)).sum := by
      unfold phiA
      rw [R.len, runL_eq R hi, Int.natCast_add, cast_sum]; rfl
    have hle : phiA ts i ≤ 25 := by
      have := area_le (N := N) (ts := ts) i
      unfold phiA
      rw [R.len]; omega
    have hnn : ∀ x, x ∈ (srcL ts i).map (phiA ts) → 0 ≤ x := fun x hx => by
      obtain ⟨k, _, rfl⟩ := List.mem_map.1 hx
      unfold phiA; omega
    have hl25 := srcs_25 R hN (phiA ts) i
    obtain ⟨M, eM⟩ : ∃ M, (srcL ts i).map (phiA ts) = M := ⟨_, rfl⟩
    rw [eM] at hc hk hsum hnn hl25
    have HB := Lib.hid fun s => takeS_le M hnn s
    obtain ⟨V, eV⟩ : ∃ V, phiA ts i = V := ⟨_, rfl⟩
    rw [eV] at hsum hle ⊢
    have HK := Lib.hid hk
    have HS := Lib.hid hsum
    clear hV IH hk hnn eM eV hsum R
    go_enter Tryd.func43, Tryd.ntmps43
    go_wp2
    go_loopw [3, 11] (fun sv iv wr => ∃ (k : Nat) (S : Int), iv = .int .i64 k ∧ k ≤ M.length ∧ sv = .int .i64 S ∧ Hid (S = 1 + (M.take k).sum ∧ wr = w)) (fun _ iv _ => M.length - (intOf iv).toNat)
    case atStart => exact ⟨0, 1, rfl, Nat.zero_le _, rfl, by simp, rfl⟩
    case round =>
      obtain ⟨k, S, rfl, hkl, rfl, HI⟩ := hrel
      obtain ⟨hS, rfl⟩ := HI.out
      by_cases hlt : k < M.length
      · obtain ⟨rfl, p, hcp, hcall⟩ := HK.out k hlt
        have hnx := take_sum M k hlt
        have hb := HB.out (k + 1)
        have hb0 := HB.out k
        have hs := HS.out
        obtain ⟨y, ey⟩ : ∃ y, M.getD k 0 = y := ⟨_, rfl⟩
        rw [ey] at hnx hcall
        have HC := Lib.hid hcall
        have HX : Hid (S + y = 1 + (M.take (k + 1)).sum) := Lib.hid (by omega)
        have hw : IntKind.i64.wrap (S + y) = S + y := wrapS _ (by omega) (by omega)
        clear hnx hb hb0 hs hS ey hcall HI
        go_wp2_with (fail)
        refine HC.out.mono ?_
        rintro e w2 ⟨rfl, rfl⟩
        go_wp2
        go_roundw
        case rel => exact ⟨k + 1, S + y, by go_num, by omega, rfl, HX.out, trivial⟩
        case measure => simp [intOf]; omega
      · obtain rfl : k = M.length := by omega
        rw [List.take_length] at hS
        have HE : Hid (S = V) := Lib.hid (by rw [hS, ← HS.out])
        clear hS HI
        go_wp2
        go_ret
        exact ⟨ret_int HE.out, rfl⟩

set_option maxRecDepth 100000 in
set_option maxHeartbeats 2000000 in
theorem springs_any {g N : Nat} {ts : List Int} (R : Runs N ts) (hN : N ≤ 25) (w : World) (hV : StrV g N ts w) : ∀ i, i < N →
    Calls Tryd.prog 60 #[.pointer (some ⟨g, i * 3, none⟩)] w fun e w' => e = .returned (.int .i64 (phiO true ts i)) ∧ w' = w :=
  R.up fun i hi IH => by
    obtain ⟨a, c, b, hc, hk⟩ := kids w hV (phiO true ts) 60 i hi IH
    have hsum : phiO true ts i = gSpring ((srcL ts i).map (phiO true ts)) := treeL_eq R gSpring hi
    have hle := phi_le R true i hi
    have hnn : ∀ x, x ∈ (srcL ts i).map (phiO true ts) → 0 ≤ x := fun x hx => by
      obtain ⟨k, hk, rfl⟩ := List.mem_map.1 hx
      have := phi_pos R true k (by have := (mem_srcL.1 hk).1; rw [R.len] at this; exact this)
      omega
    have hl25 := srcs_25 R hN (phiO true ts) i
    obtain ⟨M, eM⟩ : ∃ M, (srcL ts i).map (phiO true ts) = M := ⟨_, rfl⟩
    rw [eM] at hc hk hsum hnn hl25
    have HB := Lib.hid fun s => takeS_le M hnn s
    obtain ⟨V, eV⟩ : ∃ V, phiO true ts i = V := ⟨_, rfl⟩
    rw [eV] at hsum hle ⊢
    have HK := Lib.hid hk
    unfold gSpring at hsum
    clear hV IH hk hnn eM eV R
    by_cases h0 : M.length = 0
    · obtain rfl : M = [] := List.length_eq_zero_iff.1 h0
      have HV1 : Hid (V = 1) := Lib.hid (by rw [hsum]; rfl)
      simp only [List.length_nil] at hc
      clear hsum h0
      go_enter Tryd.func60, Tryd.ntmps60
      go_wp2
      go_ret
      exact ⟨ret_int HV1.out.symm, rfl⟩
    · have HS : Hid (V = M.sum) := Lib.hid (by rw [hsum, if_neg]; cases M with | nil => simp at h0 | cons _ _ => simp)
      have hne : ((M.length : Int) == 0) = false := beq_eq_false_iff_ne.2 (by omega)
      clear hsum h0
      go_enter Tryd.func60, Tryd.ntmps60
      go_wp2
      go_loopw [3, 17] (fun sv iv wr => ∃ (k : Nat) (S : Int), iv = .int .i64 k ∧ k ≤ M.length ∧ sv = .int .i64 S ∧ Hid (S = (M.take k).sum ∧ wr = w)) (fun _ iv _ => M.length - (intOf iv).toNat)
      case atStart => exact ⟨0, 0, rfl, Nat.zero_le _, rfl, by simp, rfl⟩
      case round =>
        obtain ⟨k, S, rfl, hkl, rfl, HI⟩ := hrel
        obtain ⟨hS, rfl⟩ := HI.out
        clear hne
        by_cases hlt : k < M.length
        · obtain ⟨rfl, p, hcp, hcall⟩ := HK.out k hlt
          have hnx := take_sum M k hlt
          have hb := HB.out (k + 1)
          have hb0 := HB.out k
          have hs := HS.out
          obtain ⟨y, ey⟩ : ∃ y, M.getD k 0 = y := ⟨_, rfl⟩
          rw [ey] at hnx hcall
          have HC := Lib.hid hcall
          have HX : Hid (S + y = (M.take (k + 1)).sum) := Lib.hid (by omega)
          have hw : IntKind.i64.wrap (S + y) = S + y := wrapS _ (by omega) (by omega)
          clear hnx hb hb0 hs hS ey hcall HI
          go_wp2_with (fail)
          refine HC.out.mono ?_
          rintro e w2 ⟨rfl, rfl⟩
          go_wp2
          go_roundw
          case rel => exact ⟨k + 1, S + y, by go_num, by omega, rfl, HX.out, trivial⟩
          case measure => simp [intOf]; omega
        · obtain rfl : k = M.length := by omega
          rw [List.take_length] at hS
          have HE : Hid (S = V) := Lib.hid (by rw [hS, ← HS.out])
          clear hS HI
          go_wp2
          go_ret
          exact ⟨ret_int HE.out, rfl⟩

set_option maxRecDepth 100000 in
set_option maxHeartbeats 2000000 in
theorem order_any {g N : Nat} {ts : List Int} (R : Runs N ts) (hN : N ≤ 25) (w : World) (hV : StrV g N ts w) : ∀ i, i < N →
    Calls Tryd.prog 58 #[.pointer (some ⟨g, i * 3, none⟩)] w fun e w' => e = .returned (.int .i64 (phiO false ts i)) ∧ w' = w :=
  R.up fun i hi IH => by
    obtain ⟨a, c, b, hc, hk⟩ := kids w hV (phiO false ts) 58 i hi IH
    have hsum : phiO false ts i = gOrder ((srcL ts i).map (phiO false ts)) := treeL_eq R gOrder hi
    have hle := phi_le R false i hi
    have hnn : ∀ x, x ∈ (srcL ts i).map (phiO false ts) → 1 ≤ x ∧ x ≤ 25 := fun x hx => by
      obtain ⟨k, hk, rfl⟩ := List.mem_map.1 hx
      have hkN : k < N := by have := (mem_srcL.1 hk).1; rw [R.len] at this; exact this
      have := phi_pos R false k hkN
      have := phi_le R false k hkN
      omega
    have hl25 := srcs_25 R hN (phiO false ts) i
    obtain ⟨M, eM⟩ : ∃ M, (srcL ts i).map (phiO false ts) = M := ⟨_, rfl⟩
    rw [eM] at hc hk hsum hnn hl25
    have HB := Lib.hid fun s (hs : s < M.length) => hnn _ (getD_mem' 0 M s hs)
    obtain ⟨V, eV⟩ : ∃ V, phiO false ts i = V := ⟨_, rfl⟩
    rw [eV] at hsum hle ⊢
    have HK := Lib.hid hk
    unfold gOrder at hsum
    clear hV IH hk hnn eM eV R
    by_cases h0 : M.length = 0
    · obtain rfl : M = [] := List.length_eq_zero_iff.1 h0
      have HV1 : Hid (V = 1) := Lib.hid (by rw [hsum]; rfl)
      simp only [List.length_nil] at hc
      clear hsum h0
      go_enter Tryd.func58, Tryd.ntmps58
      go_wp2
      go_ret
      exact ⟨ret_int HV1.out.symm, rfl⟩
    · have HS : Hid (V = if 1 < (M.foldl ordStep (0, 0)).2 then (M.foldl ordStep (0, 0)).1 + 1 else (M.foldl ordStep (0, 0)).1) := Lib.hid (by rw [hsum, if_neg]; cases M with | nil => simp at h0 | cons _ _ => simp)
      have hne : ((M.length : Int) == 0) = false := beq_eq_false_iff_ne.2 (by omega)
      clear hsum h0
      go_enter Tryd.func58, Tryd.ntmps58
      go_wp2
      go_loopw [3, 4, 19] (fun gv nv iv wr => ∃ (k : Nat) (A B : Int), iv = .int .i64 k ∧ k ≤ M.length ∧ gv = .int .i64 A ∧ nv = .int .i64 B ∧ 0 ≤ A ∧ A ≤ 25 ∧ 0 ≤ B ∧ B ≤ k ∧ Hid ((M.take k).foldl ordStep (0, 0) = (A, B) ∧ wr = w)) (fun _ _ iv _ => M.length - (intOf iv).toNat)
      case atStart => exact ⟨0, 0, 0, rfl, Nat.zero_le _, rfl, rfl, by decide, by decide, by decide, by decide, by simp, rfl⟩
      case round =>
        obtain ⟨k, A, B, rfl, hkl, rfl, rfl, hA0, hA1, hB0, hB1, HI⟩ := hrel
        obtain ⟨hF, rfl⟩ := HI.out
        clear hne
        by_cases hlt : k < M.length
        · obtain ⟨rfl, p, hcp, hcall⟩ := HK.out k hlt
          have hnx := take_fold M k hlt (0, 0)
          have hy := HB.out k hlt
          obtain ⟨y, ey⟩ : ∃ y, M.getD k 0 = y := ⟨_, rfl⟩
          rw [ey] at hnx hcall hy
          rw [hF] at hnx
          have HC := Lib.hid hcall
          have HX := Lib.hid hnx
          have hw : IntKind.i64.wrap (B + 1) = B + 1 := wrapS _ (by omega) (by omega)
          clear hnx hF ey hcall HI
          unfold ordStep at HX
          rcases Int.lt_trichotomy A y with h1 | h1 | h1
          · have HY : Hid ((M.take (k + 1)).foldl ordStep (0, 0) = (y, 1)) := Lib.hid (by have := HX.out; rw [if_pos h1] at this; exact this)
            go_wp2_with (fail)
            refine HC.out.mono ?_
            rintro e w2 ⟨rfl, rfl⟩
            go_wp2
            go_roundw
            case rel => exact ⟨k + 1, y, 1, by go_num, by omega, rfl, rfl, by omega, by omega, by omega, by omega, HY.out, trivial⟩
            case measure => simp [intOf]; omega
          · subst h1
            have HY : Hid ((M.take (k + 1)).foldl ordStep (0, 0) = (A, B + 1)) := Lib.hid (by have := HX.out; rw [if_neg (by simp), if_pos rfl] at this; exact this)
            have hn1 : ¬ A < A := by omega
            go_wp2_with (fail)
            refine HC.out.mono ?_
            rintro e w2 ⟨rfl, rfl⟩
            go_wp2
            go_roundw
            case rel => exact ⟨k + 1, A, B + 1, by go_num, by omega, rfl, rfl, by omega, by omega, by omega, by omega, HY.out, trivial⟩
            case measure => simp [intOf]; omega
          · have HY : Hid ((M.take (k + 1)).foldl ordStep (0, 0) = (A, B)) := Lib.hid (by have := HX.out; rw [if_neg (by simp; omega), if_neg (by simp; omega)] at this; exact this)
            have hn1 : ¬ A < y := by omega
            have hn2 : ¬ y = A := by omega
            have hn3 : (y == A) = false := beq_eq_false_iff_ne.2 hn2
            go_wp2_with (fail)
            refine HC.out.mono ?_
            rintro e w2 ⟨rfl, rfl⟩
            go_wp2
            go_roundw
            case rel => exact ⟨k + 1, A, B, by go_num, by omega, rfl, rfl, by omega, by omega, by omega, by omega, HY.out, trivial⟩
            case measure => simp [intOf]; omega
        · obtain rfl : k = M.length := by omega
          rw [List.take_length] at hF
          have hs := HS.out
          rw [hF] at hs
          simp only at hs
          clear hF HI
          by_cases h1 : 1 < B
          · rw [if_pos h1] at hs
            have HE : Hid (A + 1 = V) := Lib.hid hs.symm
            have hw : IntKind.i64.wrap (A + 1) = A + 1 := wrapS _ (by omega) (by omega)
            clear hs
            go_wp2
            go_ret
            exact ⟨ret_int HE.out, rfl⟩
          · rw [if_neg h1] at hs
            have HE : Hid (A = V) := Lib.hid hs.symm
            clear hs
            go_wp2
            go_ret
            exact ⟨ret_int HE.out, rfl⟩
end Go.Proofs.YtekhjjcgkmnmlaaDoor

/- impl.toldByStreams, for any function value that tells a number of a stream and only reads, and what is told by area, last, length, order and springs. -/
namespace Go.Proofs.YtekhjjcgkmnmlaaDoor
open Go.RowKit

set_option maxRecDepth 100000 in
set_option maxHeartbeats 4000000 in
theorem toldByStreams_any (fk : Nat) (eg : ∀ (args : Array Value) (w : World), (callFunc fk args).run Tryd.prog w = .ok (.enter fk args) w) (Φ : List Int → Nat → Int) (v : Value) (h : List (List Int)) (w : World) (hv : RowsV w v h) (hS : Steps w)
    (hC : vGrid h = true → Runs (tgtsL h).length (tgtsL h) → (tgtsL h).length ≤ 25 → ∀ g W, StrV g (tgtsL h).length (tgtsL h) W → ∀ i, i < (tgtsL h).length → Calls Tryd.prog fk #[.pointer (some ⟨g, i * 3, none⟩)] W fun e w' => e = .returned (.int .i64 (Φ (tgtsL h) i)) ∧ w' = W) :
    Calls Tryd.prog 42 #[v, .func (.func fk) #[] #[]] w (NewRows w (toldX Φ h)) := by
  have HK := ValidGrid_any v h w hv
  cases hg : vGrid h with
  | false =>
    rw [hg] at HK
    have HK2 := Lib.hid HK
    rw [toldX_no hg]
    obtain ⟨a, b, o, c, rfl, _, _, _⟩ := hv.shape
    clear hv hS HK hg hC
    go_enter Tryd.func42, Tryd.ntmps42
    go_wp2_with (fail)
    refine HK2.out.mono ?_
    rintro e w1 ⟨rfl, rfl⟩
    go_wp2
    go_ret
    exact ⟨_, rfl, RowsO.nil _ _ _ _ _, Grew.refl _⟩
  | true =>
    rw [hg] at HK
    have HK2 := Lib.hid HK
    have G := Grid.of hg
    have hR := tgts_run hg
    have HST := Lib.hid (streamsOf_any v h w hv hS hg)
    obtain ⟨n, en⟩ : ∃ n, h.length = n := ⟨_, rfl⟩
    obtain ⟨m, em⟩ : ∃ m, (h.getD 0 []).length = m := ⟨_, rfl⟩
    obtain ⟨N, eN⟩ : ∃ N, n * m = N := ⟨_, rfl⟩
    have hTl : (tgtsL h).length = N := by rw [tgtsL_len, en, em, eN]
    have hHR : toldX Φ h = shapeL (toldU (Φ (tgtsL h)) N) m n := by unfold toldX; rw [if_pos hg, en, em, eN]
    rw [en, em, eN] at hR
    have hn5 := G.n5
    have hn1 := G.n1
    have hm5 := G.m5
    have hm1 := G.m1
    rw [en] at hn5 hn1
    rw [em] at hm5 hm1
    have hN1 : 1 ≤ N := by rw [← eN]; exact Nat.mul_pos hn1 hm1
    have hN25 : N ≤ 25 := by rw [← eN]; exact Nat.mul_le_mul hn5 hm5
    have hC2 := hC hg (by rw [hTl]; exact hR) (by rw [hTl]; exact hN25)
    rw [hTl] at hC2
    obtain ⟨ts, ets⟩ : ∃ ts, tgtsL h = ts := ⟨_, rfl⟩
    rw [ets] at hC2 hTl hHR HST
    obtain ⟨φ, eφ⟩ : ∃ φ, Φ ts = φ := ⟨_, rfl⟩
    rw [eφ] at hC2 hHR
    have HC := Lib.hid hC2
    obtain ⟨R, eR⟩ : ∃ R, toldX Φ h = R := ⟨_, rfl⟩
    rw [eR] at hHR ⊢
    have HR := Lib.hid hHR
    have HTL := Lib.hid hTl
    have HNM := Lib.hid (And.intro hn5 (And.intro hm5 (And.intro eN hm1)))
    have HIR := Lib.hid fun lo hi g c W (hO : IntsO 3 lo hi W (.slice (some ⟨g, 0, none⟩) N c) (toldU φ N)) => inRows_own hO hn5 hm1 hm5 eN
    obtain ⟨a, b, o, c, rfl, ⟨hlc, hcb⟩, ha, HCR⟩ := hv.shape
    obtain rfl := ha (by omega)
    obtain ⟨u0, hcu0, hu0⟩ := HCR.out 0 (by omega)
    rw [Nat.add_zero] at hcu0
    obtain ⟨a0, b0, o0, c0, rfl, _, _, _⟩ := hu0.shape
    rw [em] at hcu0
    rw [en] at HK2 HST hlc ⊢
    have hn0 : (0 : Int) < (n : Int) := by omega
    clear hv hS HK hg G ha HCR hu0 en em eN ets eR hn5 hm5 hm1 hTl hR hC hC2 hHR eφ hcb
    go_enter Tryd.func42, Tryd.ntmps42
    go_wp2_with (fail)
    refine HK2.out.mono ?_
    rintro e w0 ⟨rfl, rfl⟩
    go_wp2_with (fail)
    refine HST.out.mono ?_
    rintro e w3 ⟨g, rfl, hV, hg3⟩
    rw [HTL.out] at hV ⊢
    have H3 := Lib.hid (And.intro hV hg3)
    clear hV hg3 HK2 HST
    go_wp2_with (at_make; refine wpList_make_ints rfl (.tmp 14) (.tmp 14) 27 rfl Tryd.underlying27 Tryd.infoI rfl rfl rfl rfl (by omega) ?_; intro w4 hO4 hg4 hs4)
    obtain ⟨B, eB⟩ : ∃ B, w3.heap.size = B := ⟨_, rfl⟩
    obtain ⟨C, eC⟩ : ∃ C, w4.heap.size = C := ⟨_, rfl⟩
    rw [eB] at hO4 hs4 ⊢
    have H4 : Hid (IntsO 3 B C w4 (.slice (some ⟨B, 0, none⟩) N N) (List.replicate N 0) ∧ Grew w3 w4 ∧ w.heap.size ≤ B ∧ B < C ∧ w4.heap.size = C ∧ w3.heap.size = B) := Lib.hid ⟨by rw [← eC]; exact hO4, hg4, by rw [← eB]; exact H3.out.2.size, by omega, eC, eB⟩
    clear hO4 hg4 hs4 eB eC
    go_wp2
    go_loopw [18] (fun i wr => ∃ k : Nat, k ≤ N ∧ i = .int .i64 (k : Int) ∧ Hid (∃ xs : List Int, xs.length = N ∧ (∀ i, i < k → xs.getD i 0 = φ i) ∧ IntsO 3 B C wr (.slice (some ⟨B, 0, none⟩) N N) xs ∧ Grew w3 wr ∧ C ≤ wr.heap.size)) (fun i _ => N - (intOf i).toNat)
    case atStart => exact ⟨0, Nat.zero_le _, rfl, _, by simp, fun _ h => absurd h (Nat.not_lt_zero _), H4.out.1, H4.out.2.1, by rw [H4.out.2.2.2.2.1]; exact Nat.le_refl _⟩
    case round =>
      obtain ⟨k, hk, rfl, HX⟩ := hrel
      by_cases hlt : k < N
      · have HGW : Hid (Grew w3 wr) := by obtain ⟨_, _, _, _, h, _⟩ := HX.out; exact Lib.hid h
        have HTG := Lib.hid (HC.out g wr (H3.out.1.grew HGW.out) k hlt)
        obtain ⟨y, ey⟩ : ∃ y, φ k = y := ⟨_, rfl⟩
        have HEY := Lib.hid ey
        rw [ey] at HTG
        have hki : (k : Int) < (N : Int) := by omega
        obtain ⟨xs, HE2⟩ : ∃ xs : List Int, Hid (xs.length = N ∧ (∀ i, i < k → xs.getD i 0 = φ i) ∧ IntsO 3 B C wr (.slice (some ⟨B, 0, none⟩) N N) xs ∧ Grew w3 wr ∧ C ≤ wr.heap.size) := by
          obtain ⟨xs, h⟩ := HX.out
          exact ⟨xs, Lib.hid h⟩
        obtain ⟨hcx, hfx⟩ := HE2.out.2.2.1.at rfl (i := k) (by rw [HE2.out.1]; exact hlt)
        have HF : Hid (∃ xs : List Int, xs.length = N ∧ (∀ i, i < k + 1 → xs.getD i 0 = φ i) ∧ IntsO 3 B C (wr.setCell ⟨B, k, none⟩ (.int .i64 y)) (.slice (some ⟨B, 0, none⟩) N N) xs ∧ Grew w3 (wr.setCell ⟨B, k, none⟩ (.int .i64 y)) ∧ C ≤ (wr.setCell ⟨B, k, none⟩ (.int .i64 y)).heap.size) := by
          obtain ⟨z1, z2, z3, z4, z5⟩ := HE2.out
          have hwi : Within B C wr (wr.setCell ⟨B, k, none⟩ (.int .i64 y)) := (Within.refl _ _ _).setCell (p := ⟨B, k, none⟩) (Nat.le_refl _) H4.out.2.2.2.1 _
          refine Lib.hid ⟨xs.set k y, by rw [List.length_set]; exact z1, fun i hi => ?_, z3.set rfl k y, Within.grew z4 hwi (by rw [H4.out.2.2.2.2.2]; exact Nat.le_refl _), by simpa using z5⟩
          rw [getD_set _ _ _ _ (by omega)]
          by_cases e : i = k
          · subst e; rw [if_pos rfl]; exact HEY.out.symm
          · rw [if_neg e]; exact z2 i (by omega)
        clear ey HE2 HX HGW
        go_wp2_with (fail)
        refine HTG.out.mono ?_
        rintro e w5 ⟨rfl, rfl⟩
        go_wp2
        go_roundw
        case rel => exact ⟨k + 1, by omega, by go_num, HF.out⟩
        case measure => simp [intOf]; omega
      · obtain rfl : k = N := by omega
        have HF : Hid (IntsO 3 w.heap.size wr.heap.size wr (.slice (some ⟨B, 0, none⟩) k k) (toldU φ k) ∧ Grew w wr) := by
          obtain ⟨xs, z1, z2, z3, z4, z5⟩ := HX.out
          have e : xs = toldU φ k := ext_getD (n := k) z1 (toldU_len _ _) fun i hi => by rw [z2 i hi, toldU_at _ _ _ hi]
          rw [e] at z3
          exact Lib.hid ⟨z3.wide H4.out.2.2.1 z5, H3.out.2.trans z4⟩
        have hcw := HF.out.2.cell hcu0
        clear HX hcu0
        go_wp2_with (fail)
        refine (HIR.out _ _ _ _ _ HF.out.1).mono ?_
        rintro e w5 ⟨v5, rfl, hO5, hg5⟩
        obtain ⟨a5, c5, rfl⟩ := hO5.sh
        have H5 := Lib.hid (And.intro hO5 hg5)
        clear hO5 hg5
        go_wp2
        go_ret
        rw [HR.out]
        exact ⟨_, rfl, H5.out.1.wide HF.out.2.size (Nat.le_refl _), HF.out.2.trans H5.out.2⟩

set_option maxRecDepth 100000 in
theorem AreasOf_any (v : Value) (h : List (List Int)) (w : World) (hv : RowsV w v h) (hS : Steps w) :
    Calls Tryd.prog 15 #[v] w (NewRows w (toldX phiA h)) := by
  have HT := Lib.hid (toldByStreams_any 43 (enters_of Tryd.func43 (by kernel_rfl) rfl) phiA v h w hv hS fun _ R hN g W hV i hi => area_any R hN W hV i hi)
  obtain ⟨a, b, o, c, rfl, _, _, _⟩ := hv.shape
  clear hv hS
  go_enter Tryd.func15, Tryd.ntmps15
  go_wp2_with (fail)
  refine HT.out.mono ?_
  rintro e w1 ⟨v1, rfl, hO, hg⟩
  have H1 := Lib.hid (And.intro hO hg)
  clear hO hg
  go_wp2
  go_ret
  exact ⟨_, rfl, H1.out⟩
set_option maxRecDepth 100000 in
theorem BasinsOf_any (v : Value) (h : List (List Int)) (w : World) (hv : RowsV w v h) (hS : Steps w) :
    Calls Tryd.prog 21 #[v] w (NewRows w (toldX phiB h)) := by
  have HT := Lib.hid (toldByStreams_any 52 (enters_of Tryd.func52 (by kernel_rfl) rfl) phiB v h w hv hS fun _ R hN g W hV i hi => last_any R i W hV hi)
  obtain ⟨a, b, o, c, rfl, _, _, _⟩ := hv.shape
  clear hv hS
  go_enter Tryd.func21, Tryd.ntmps21
  go_wp2_with (fail)
  refine HT.out.mono ?_
  rintro e w1 ⟨v1, rfl, hO, hg⟩
  have H1 := Lib.hid (And.intro hO hg)
  clear hO hg
  go_wp2
  go_ret
  exact ⟨_, rfl, H1.out⟩
set_option maxRecDepth 100000 in
theorem StreamOrders_any (v : Value) (h : List (List Int)) (w : World) (hv : RowsV w v h) (hS : Steps w) :
    Calls Tryd.prog 27 #[v] w (NewRows w (toldX (phiO false) h)) := by
  have HT := Lib.hid (toldByStreams_any 58 (enters_of Tryd.func58 (by kernel_rfl) rfl) (phiO false) v h w hv hS fun _ R hN g W hV i hi => order_any R hN W hV i hi)
  obtain ⟨a, b, o, c, rfl, _, _, _⟩ := hv.shape
  clear hv hS
  go_enter Tryd.func27, Tryd.ntmps27
  go_wp2_with (fail)
  refine HT.out.mono ?_
  rintro e w1 ⟨v1, rfl, hO, hg⟩
  have H1 := Lib.hid (And.intro hO hg)
  clear hO hg
  go_wp2
  go_ret
  exact ⟨_, rfl, H1.out⟩
set_option maxRecDepth 100000 in
theorem SpringsOf_any (v : Value) (h : List (List Int)) (w : World) (hv : RowsV w v h) (hS : Steps w) :
    Calls Tryd.prog 29 #[v] w (NewRows w (toldX (phiO true) h)) := by
  have HT := Lib.hid (toldByStreams_any 60 (enters_of Tryd.func60 (by kernel_rfl) rfl) (phiO true) v h w hv hS fun _ R hN g W hV i hi => springs_any R hN W hV i hi)
  obtain ⟨a, b, o, c, rfl, _, _, _⟩ := hv.shape
  clear hv hS
  go_enter Tryd.func29, Tryd.ntmps29
  go_wp2_with (fail)
  refine HT.out.mono ?_
  rintro e w1 ⟨v1, rfl, hO, hg⟩
  have H1 := Lib.hid (And.intro hO hg)
  clear hO hg
  go_wp2
  go_ret
  exact ⟨_, rfl, H1.out⟩
end Go.Proofs.YtekhjjcgkmnmlaaDoor
