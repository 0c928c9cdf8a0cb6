/- Lists of grids in memory: read, owned, appended to, one of them turned; the contracts of laws.eqIntSSS, markIntSSS, heldIntSSS and equalSteps. -/
import Derived.Test.YtkeeonjbkfgeeaaMark
import Derived.Test.YtkeeonjbkfgeeaaEq
import Derived.Test.YtkeeonjbkfgeeaaEqualRows
namespace Go.Proofs.Ytkeeonjbkfgeeaa
open Go.RowKit

/-- v reads as the grids L. -/
def StepsV (w : World) (v : Value) (L : List (List (List Int))) : Prop :=
  ∃ a b o c, v = .slice a L.length c ∧ (L.length ≤ c ∧ c ≤ 9223372036854775807) ∧ ∀ r, r < L.length → a = some ⟨b, o, none⟩ ∧ ∃ u, w.cell? ⟨b, o + r, none⟩ = some u ∧ RowsV w u (L.getD r [])
theorem StepsV.grew {w w' : World} {v : Value} {L : List (List (List Int))} (hv : StepsV w v L) (hg : Grew w w') : StepsV w' v L := by
  obtain ⟨a, b, o, c, e, hl, hc⟩ := hv
  refine ⟨a, b, o, c, e, hl, fun i hi => ?_⟩
  obtain ⟨h1, u, h2, h3⟩ := hc i hi
  exact ⟨h1, u, hg.cell h2, h3.grew hg⟩
theorem StepsV.shape {w : World} {v : Value} {L : List (List (List Int))} (hv : StepsV w v L) : ∃ a b o c, v = .slice a L.length c ∧ (L.length ≤ c ∧ c ≤ 9223372036854775807) ∧ (0 < L.length → a = some ⟨b, o, none⟩) ∧
    Hid (∀ r, r < L.length → ∃ u, w.cell? ⟨b, o + r, none⟩ = some u ∧ RowsV w u (L.getD r [])) := by
  obtain ⟨a, b, o, c, e, hl, hc⟩ := hv
  exact ⟨a, b, o, c, e, hl, fun h0 => (hc 0 h0).1, Lib.hid fun i hi => (hc i hi).2⟩
theorem StepsV.nil (w : World) : StepsV w (.slice none 0 0) [] := ⟨none, 0, 0, 0, rfl, ⟨Nat.zero_le _, by omega⟩, fun _ h => absurd h (Nat.not_lt_zero _)⟩

/-- v is the call's own list of grids, each one its own, no two of which share a block, nor one with the list. -/
def StepsO (S T E lo hi : Nat) (w : World) (v : Value) (L : List (List (List Int))) : Prop :=
  ∃ (V : Nat → Value) (B C : Nat → Nat), w.ownsRow lo S 1 v L.length ((List.range L.length).map V) ∧ (∀ g, v.ownBlock = some g → g < hi ∧ ∀ r, r < L.length → g < B r ∨ C r ≤ g) ∧
    (∀ r, r < L.length → lo ≤ B r ∧ B r ≤ C r ∧ C r ≤ hi ∧ RowsO T E (B r) (C r) w (V r) (L.getD r [])) ∧ ∀ r s, r < s → s < L.length → C r ≤ B s
theorem StepsO.within {S T E lo hi lo' hi' : Nat} {w w' : World} {v : Value} {L : List (List (List Int))} (hv : StepsO S T E lo hi w v L) (hg : Within lo' hi' w w') (hd : hi ≤ lo' ∨ hi' ≤ lo) : StepsO S T E lo hi w' v L := by
  obtain ⟨V, B, C, h1, h2, h3, h4⟩ := hv
  exact ⟨V, B, C, ownsRow_block h1 fun g e => hg.block g (World.ownsRow.lt h1 g e).2 (by have := (h2 g e).1; have := (World.ownsRow.lt h1 g e).1; omega), h2,
    fun r hr => ⟨(h3 r hr).1, (h3 r hr).2.1, (h3 r hr).2.2.1, (h3 r hr).2.2.2.within hg (by have := (h3 r hr).1; have := (h3 r hr).2.2.1; omega)⟩, h4⟩
theorem StepsO.grew {S T E lo hi : Nat} {w w' : World} {v : Value} {L : List (List (List Int))} (hv : StepsO S T E lo hi w v L) (hg : Grew w w') : StepsO S T E lo hi w' v L := by
  obtain ⟨V, B, C, h1, h2, h3, h4⟩ := hv
  exact ⟨V, B, C, ownsRow_block h1 fun g e => hg.block (World.ownsRow.lt h1 g e).2, h2, fun r hr => ⟨(h3 r hr).1, (h3 r hr).2.1, (h3 r hr).2.2.1, (h3 r hr).2.2.2.grew hg⟩, h4⟩
theorem StepsO.wide {S T E lo hi lo' hi' : Nat} {w : World} {v : Value} {L : List (List (List Int))} (hv : StepsO S T E lo hi w v L) (hl : lo' ≤ lo) (hh : hi ≤ hi') : StepsO S T E lo' hi' w v L := by
  obtain ⟨V, B, C, h1, h2, h3, h4⟩ := hv
  exact ⟨V, B, C, ownsRow_base h1 hl, fun g e => ⟨by have := (h2 g e).1; omega, (h2 g e).2⟩, fun r hr => ⟨by have := (h3 r hr).1; omega, (h3 r hr).2.1, by have := (h3 r hr).2.2.1; omega, (h3 r hr).2.2.2⟩, h4⟩
theorem StepsO.nil (S T E lo hi : Nat) (w : World) : StepsO S T E lo hi w (.slice none 0 0) [] :=
  ⟨fun _ => .slice none 0 0, fun _ => 0, fun _ => 0, World.ownsRow_nil _ _ _ _, fun g e => by simp [Value.ownBlock] at e, fun _ h => absurd h (Nat.not_lt_zero _), fun _ _ _ h => absurd h (Nat.not_lt_zero _)⟩
theorem StepsO.shape {S T E lo hi : Nat} {w : World} {v : Value} {L : List (List (List Int))} (hv : StepsO S T E lo hi w v L) : (v = .slice none 0 0 ∧ L = []) ∨ ∃ g c, v = .slice (some ⟨g, 0, none⟩) L.length c ∧ lo ≤ g ∧ g < hi ∧ L.length ≤ c ∧ c ≤ maxLen := by
  obtain ⟨V, B, C, h1, h2, h3, h4⟩ := hv
  rcases h1.2 with ⟨e, h0⟩ | ⟨g, cap, cur, rfl, h3, _, h5, h6, _⟩
  · exact .inl ⟨e, List.eq_nil_of_length_eq_zero h0⟩
  · exact .inr ⟨g, cap, rfl, h3, (h2 g rfl).1, h5, h6⟩
theorem StepsO.sh {S T E lo hi : Nat} {w : World} {v : Value} {L : List (List (List Int))} (hv : StepsO S T E lo hi w v L) : ∃ a c, v = .slice a L.length c := by
  rcases hv.shape with ⟨rfl, rfl⟩ | ⟨g, c, rfl, _⟩ <;> exact ⟨_, _, rfl⟩
theorem StepsO.pos {S T E lo hi : Nat} {w : World} {v : Value} {L : List (List (List Int))} (h : StepsO S T E lo hi w v L) (h0 : 0 < L.length) : ∃ g c, v = .slice (some ⟨g, 0, none⟩) L.length c ∧ lo ≤ g ∧ g < hi ∧ L.length ≤ c ∧ c ≤ 9223372036854775807 := by
  rcases h.shape with ⟨rfl, rfl⟩ | ⟨g, c, rfl, a, b, d, e⟩
  · simp at h0
  · exact ⟨g, c, rfl, a, b, d, by simpa [maxLen] using e⟩
/-- What a walk reads of grid j, and what becomes of the list when it turns. -/
theorem StepsO.open {S T E lo hi : Nat} {w : World} {v : Value} {L : List (List (List Int))} (hv : StepsO S T E lo hi w v L) {g c n : Nat} (hs : v = .slice (some ⟨g, 0, none⟩) n c) {j : Nat} (hj : j < L.length) :
    ∃ u b d, w.cell? ⟨g, j, none⟩ = some u ∧ lo ≤ b ∧ d ≤ hi ∧ RowsO T E b d w u (L.getD j []) ∧ ∀ w' X, Within b d w w' → RowsO T E b d w' u X → StepsO S T E lo hi w' v (L.set j X) := by
  obtain ⟨V, B, C, h1, h2, h3, h4⟩ := hv
  subst hs
  have hn : n = L.length := by
    rcases h1.2 with ⟨e, _⟩ | ⟨_, _, _, e, _⟩
    · cases e
    · cases e; rfl
  subst hn
  obtain ⟨k1, k2, k3, k4⟩ := h3 j hj
  refine ⟨V j, B j, C j, ?_, k1, k3, k4, fun w' X hW hX => ?_⟩
  · rw [World.ownsRow.cellAt h1 j (by omega)]
    simp [hj]
  · refine ⟨V, B, C, ?_, fun g' e => ⟨(h2 g' e).1, fun r hr => (h2 g' e).2 r (by rwa [List.length_set] at hr)⟩, fun r hr => ?_, fun r s hrs hs => h4 r s hrs (by rwa [List.length_set] at hs)⟩
    · rw [List.length_set]
      exact ownsRow_block h1 fun g' e => hW.block g' (World.ownsRow.lt h1 g' e).2 ((h2 g' e).2 j hj)
    · rw [List.length_set] at hr
      obtain ⟨m1, m2, m3, m4⟩ := h3 r hr
      refine ⟨m1, m2, m3, ?_⟩
      by_cases e : r = j
      · subst e
        rw [List.getD_eq_getElem?_getD, List.getElem?_set_self hr, Option.getD_some]
        exact hX
      · rw [List.getD_eq_getElem?_getD, List.getElem?_set_ne (by omega), ← List.getD_eq_getElem?_getD]
        refine m4.within hW ?_
        rcases Nat.lt_or_gt_of_ne e with h | h
        · exact .inl (h4 r j h hj)
        · exact .inr (h4 j r h hr)
theorem StepsO.at {S T E lo hi : Nat} {w : World} {v : Value} {L : List (List (List Int))} (hv : StepsO S T E lo hi w v L) {g c n : Nat} (hs : v = .slice (some ⟨g, 0, none⟩) n c) {j : Nat} (hj : j < L.length) :
    ∃ u, w.cell? ⟨g, j, none⟩ = some u ∧ RowsO T E lo hi w u (L.getD j []) := by
  obtain ⟨u, b, d, h1, h2, h3, h4, _⟩ := hv.open hs hj
  exact ⟨u, h1, h4.wide h2 h3⟩
theorem StepsO.toV {S T E lo hi : Nat} {w : World} {v : Value} {L : List (List (List Int))} (hv : StepsO S T E lo hi w v L) : StepsV w v L := by
  rcases hv.shape with ⟨rfl, rfl⟩ | ⟨g, c, rfl, _, _, h5, h6⟩
  · exact StepsV.nil _
  · refine ⟨_, g, 0, c, rfl, ⟨h5, by unfold maxLen at h6; omega⟩, fun i hi => ⟨rfl, ?_⟩⟩
    obtain ⟨u, h1, h2⟩ := hv.at rfl hi
    exact ⟨u, by rw [Nat.zero_add]; exact h1, h2.toV⟩
theorem StepsO.lit1 {S T E lo mid : Nat} {w : World} {u : Value} {X : List (List Int)} (hu : RowsO T E lo mid w u X) (hlo : lo ≤ mid) (hm : mid ≤ w.heap.size) : StepsO S T E lo (w.heap.size + 1) (w.alloc (.cells #[u] S)) (.slice (some ⟨w.heap.size, 0, none⟩) 1 1) [X] :=
  ⟨fun _ => u, fun _ => lo, fun _ => mid, World.ownsRow_lit w #[u] 1 (by omega) (by unfold maxLen; omega) rfl, fun g e => by simp [Value.ownBlock] at e; exact ⟨by omega, fun _ _ => .inr (show mid ≤ g by omega)⟩, fun r hr => by
    obtain rfl : r = 0 := by simpa using hr
    exact ⟨Nat.le_refl _, hlo, (show mid ≤ w.heap.size + 1 by omega), hu.grew ((Grew.refl w).alloc _)⟩, fun r s h1 h2 => by simp at h2; omega⟩
theorem RowsO.one {T E lo hi : Nat} {w : World} {v : Value} {H : List (List Int)} (h : RowsO T E lo hi w v H) : v.oneCell' = true := by
  rcases h.shape with ⟨rfl, _⟩ | ⟨g, c, rfl, _⟩ <;> rfl

/-- 'append(s, u)' at the call's own grids, u a grid of its own that was made behind them. -/
theorem wpList_append_step {P : Program} {w : World} {ops : Array Oper} {rest : List Oper} {o : Oper} {a : Act} {Q : Exit → Act → World → Prop} (hgd : o.guard = none) (s x : Operand) (t : TypeId)
    (ho : o.op = .call { callee := .builtin .append, args := #[s, x], argTypes := #[t, t] }) {S T E : TypeId} (ht : P.underlying t = some (.slice S))
    (hinfo : (P.info? S).map (fun i => (i.zero, i.size, i.bytes)) = some (some (.slice none 0 0), 1, 24)) {lo mid hi g n c : Nat} {u : Value} {L : List (List (List Int))} {X : List (List Int)} {nb : Nat} (hs : a.eval s = .slice (some ⟨g, 0, none⟩) n c) (hx : a.eval x = .slice (some ⟨nb, 0, none⟩) 1 1) (hnb : nb = w.heap.size)
    (hv : StepsO S T E lo mid w (.slice (some ⟨g, 0, none⟩) n c) L) (hu : RowsO T E mid hi w u X) (hmh : mid ≤ hi) (hhw : hi ≤ w.heap.size) (hlen : L.length + 1 ≤ 1000000) (hlo : lo ≤ mid)
    (h : ∀ g c w', StepsO S T E lo w'.heap.size w' (.slice (some ⟨g, 0, none⟩) (L.length + 1) c) (L ++ [X]) → RowsO T E mid hi w' u X → Within lo mid w w' → w.heap.size < w'.heap.size →
      wpList P ops Q rest (a.put o.dst (.slice (some ⟨g, 0, none⟩) (L.length + 1) c)) w') : wpList P ops Q (o :: rest) a (w.alloc (.cells #[u] S)) := by
  subst hnb
  obtain ⟨i, hi1, hi2, hi3, hi4⟩ := info_parts hinfo
  obtain ⟨V, B, C, h1, h2, h3, h4⟩ := hv
  refine wpList_append_own_at _ hgd s x t ho lo S i (.slice none 0 0) 1 24 ht hi1 hi2 hi3 hi4 rfl (by decide) _ L.length _ (by rw [hs]) (h1.alloc _) ⟨w.heap.size, 0, none⟩ 1 1 [u] hx rfl (cell_one_new _ _ _) (by simpa using hu.one) (by unfold maxLen; omega) (by omega) (by simp; omega) ?_
  intro v' w' hown hg _ hat
  have hgm := h2 g rfl
  have hgl := (World.ownsRow.lt h1 g rfl).1
  have hW1 : Within g (g + 1) (w.alloc (.cells #[u] S)) w' := grownBy_within hg fun k e => by simp [Value.ownBlock] at e; omega
  have hW : Within lo mid w w' := (((Grew.refl w).alloc _).within lo mid).trans (hW1.wide hgl (by omega))
  have hS : w.heap.size < w'.heap.size := Nat.lt_of_lt_of_le (by simp) hg.size
  have hg' : ∃ g' c', v' = .slice (some ⟨g', 0, none⟩) (L.length + 1) c' ∧ (g' = g ∨ w.heap.size ≤ g') := by
    rcases hown.2 with ⟨_, e⟩ | ⟨g', cap, cur, e, _⟩
    · exact absurd e (Nat.succ_ne_zero _)
    · subst e
      refine ⟨g', cap, rfl, ?_⟩
      rcases hat with k | k
      · simp [Value.ownBlock] at k; exact .inl k
      · simp [Value.ownBlock] at k; exact .inr (by omega)
  obtain ⟨g', c', rfl, hgg⟩ := hg'
  have keep : ∀ {b d : Nat} {z : Value} {Y : List (List Int)}, RowsO T E b d w z Y → (g < b ∨ d ≤ g) → RowsO T E b d w' z Y := fun {b d z Y} hz hd =>
    (hz.grew ((Grew.refl w).alloc _)).within hW1 (by omega)
  refine h g' c' w' ⟨fun r => if r < L.length then V r else u, fun r => if r < L.length then B r else mid, fun r => if r < L.length then C r else hi, ?_, fun k e => ?_, fun r hr => ?_, fun r s' hrs hs' => ?_⟩ (keep hu (.inl hgm.1)) hW hS
  · rw [List.length_append, List.length_singleton, List.range_succ, List.map_append, List.map_singleton]
    have : (List.range L.length).map (fun r => if r < L.length then V r else u) = (List.range L.length).map V :=
      List.map_congr_left fun r hr => by rw [if_pos (List.mem_range.1 hr)]
    rw [this]
    simpa using hown
  · simp only [Value.ownBlock, Option.some.injEq] at e
    subst e
    refine ⟨(World.ownsRow.lt hown g' rfl).2, fun r hr => ?_⟩
    by_cases hlt : r < L.length
    · simp only [hlt, if_true]
      have hh := h3 r hlt
      rcases hgg with e | e
      · rw [e]; exact hgm.2 r hlt
      · exact .inr (by have := hh.2.2.1; have := hu; omega)
    · simp only [hlt, if_false]
      rcases hgg with e | e
      · exact .inl (by rw [e]; exact hgm.1)
      · exact .inr (by omega)
  · rw [List.length_append, List.length_singleton] at hr
    by_cases hlt : r < L.length
    · simp only [hlt, if_true]
      rw [List.getD_eq_getElem?_getD, List.getElem?_append_left hlt, ← List.getD_eq_getElem?_getD]
      obtain ⟨m1, m2, m3, m4⟩ := h3 r hlt
      exact ⟨m1, m2, by omega, keep m4 (hgm.2 r hlt)⟩
    · have : r = L.length := by omega
      subst this
      simp only [Nat.lt_irrefl, if_false]
      rw [List.getD_eq_getElem?_getD, List.getElem?_append_right (Nat.le_refl _), Nat.sub_self]
      exact ⟨hlo, hmh, by omega, keep hu (.inl hgm.1)⟩
  · rw [List.length_append, List.length_singleton] at hs'
    have hr : r < L.length := by omega
    simp only [hr, if_true]
    by_cases hlt : s' < L.length
    · simp only [hlt, if_true]
      exact h4 r s' hrs hlt
    · simp only [hlt, if_false]
      exact (h3 r hr).2.2.1
/-- How many numbers grids have. -/
def totalS (L : List (List (List Int))) : Nat := (L.map total).sum
theorem totalS_snoc (L : List (List (List Int))) (k : Nat) (hk : k < L.length) : totalS (L.take (k + 1)) = totalS (L.take k) + total (L.getD k []) := by
  unfold totalS
  rw [List.take_succ_eq_append_getElem hk, List.map_append, List.sum_append]
  simp [hk]
theorem totalS_take_le (L : List (List (List Int))) (k : Nat) : totalS (L.take k) ≤ totalS L := by
  unfold totalS
  conv => rhs; rw [← List.take_append_drop k L, List.map_append, List.sum_append]
  omega
/-- The grids marked, the first j of them. -/
def markSteps (k : Int) (L : List (List (List Int))) (j : Nat) : List (List (List Int)) := (List.range L.length).map fun r => if r < j then markL (k + totalS (L.take r)) (L.getD r []) else L.getD r []
def markS (k : Int) (L : List (List (List Int))) : List (List (List Int)) := (List.range L.length).map fun r => markL (k + totalS (L.take r)) (L.getD r [])
theorem markSteps_len (k : Int) (L : List (List (List Int))) (j : Nat) : (markSteps k L j).length = L.length := by simp [markSteps]
theorem markSteps_at (k : Int) (L : List (List (List Int))) (j : Nat) (h : j < L.length) : (markSteps k L j).getD j [] = L.getD j [] := by simp [markSteps, h]
theorem markSteps_zero (k : Int) (L : List (List (List Int))) : markSteps k L 0 = L := by
  apply List.ext_getElem
  · simp [markSteps]
  · intro i h1 h2
    simp [markSteps, h2]
theorem markSteps_all (k : Int) (L : List (List (List Int))) : markSteps k L L.length = markS k L := by
  unfold markSteps markS
  exact List.map_congr_left fun i hi => by rw [if_pos (List.mem_range.1 hi)]
theorem markSteps_set (k : Int) (L : List (List (List Int))) (j : Nat) (_h : j < L.length) : (markSteps k L j).set j (markL (k + totalS (L.take j)) (L.getD j [])) = markSteps k L (j + 1) := by
  apply List.ext_getElem
  · simp [markSteps]
  · intro i h1 h2
    simp only [markSteps, List.getElem_set, List.getElem_map, List.getElem_range]
    by_cases e : j = i
    · subst e; simp
    · rw [if_neg e]
      by_cases h : i < j
      · rw [if_pos h, if_pos (by omega)]
      · rw [if_neg h, if_neg (by omega)]
theorem markS_at (k : Int) (L : List (List (List Int))) (j : Nat) (h : j < L.length) : (markS k L).getD j [] = markL (k + totalS (L.take j)) (L.getD j []) := by simp [markS, h]
theorem markS_len (k : Int) (L : List (List (List Int))) : (markS k L).length = L.length := by simp [markS]
def MarkSPost (lo hi : Nat) (v : Value) (L : List (List (List Int))) (k : Int) (w : World) (e : Ending) (w' : World) : Prop :=
  e = .returned (.int .i64 (k + totalS L)) ∧ StepsO 23 27 3 lo hi w' v (markS k L) ∧ Within lo hi w w'

set_option maxRecDepth 100000 in
set_option maxHeartbeats 1000000 in
theorem markIntSSS_any (lo hi : Nat) (v : Value) (L : List (List (List Int))) (k : Int) (w : World) (hv : StepsO 23 27 3 lo hi w v L) (h0 : 0 ≤ k) (h1 : k + totalS L ≤ 1073741824) :
    Calls Try.prog 35 #[v, .int .i64 k] w (MarkSPost lo hi v L k w) := by
  have HV := Lib.hid hv
  rcases hv.shape with ⟨rfl, rfl⟩ | ⟨g, c, rfl, hgl, hgh, hlc, hcm⟩
  · clear hv
    go_enter Try.func35, Try.ntmps35
    go_wp2
    refine wp_loop_rounds 1 ?_
    rw [rounds_succ]
    go_wp2
    go_ret
    exact ⟨ret_int (by simp [totalS]), HV.out, Within.refl _ _ _⟩
  · unfold maxLen at hcm
    clear hv
    go_enter Try.func35, Try.ntmps35
    go_wp2
    go_loopw [1, 5] (fun m i wr => ∃ (j : Nat) (n : Int), j ≤ L.length ∧ i = .int .i64 j ∧ m = .int .i64 n ∧ Hid (n = k + totalS (L.take j) ∧ StepsO 23 27 3 lo hi wr (.slice (some ⟨g, 0, none⟩) L.length c) (markSteps k L j) ∧ Within lo hi w wr)) (fun _ i _ => L.length - (intOf i).toNat)
    case atStart => exact ⟨0, k, Nat.zero_le _, rfl, rfl, by simp [totalS], by rw [markSteps_zero]; exact HV.out, Within.refl _ _ _⟩
    case round =>
      obtain ⟨j, n, hj, rfl, rfl, HI⟩ := hrel
      by_cases hlt : j < L.length
      · obtain ⟨u, bu, du, hcu, hbl, hdh, hu, hturn⟩ := HI.out.2.1.open rfl (j := j) (by rw [markSteps_len]; exact hlt)
        rw [markSteps_at k L j hlt] at hu
        have hts := totalS_snoc L j hlt
        have htl := totalS_take_le L (j + 1)
        have hset := markSteps_set k L j hlt
        obtain ⟨X, eX⟩ : ∃ X, L.getD j [] = X := ⟨_, rfl⟩
        rw [eX] at hu hts hset
        have hn0 : 0 ≤ n := by rw [HI.out.1]; omega
        have hn1 : n + total X ≤ 1073741824 := by rw [HI.out.1]; omega
        have HM := Lib.hid (markIntSS_any bu du u X n wr hu hn0 hn1)
        have HE := Lib.hid (And.intro hturn (And.intro hset (And.intro hts (And.intro hbl hdh))))
        obtain ⟨a1, c1, rfl⟩ := hu.sh
        have hji : (j : Int) < L.length := by omega
        clear hu eX hts htl hset hturn hbl hdh
        go_wp2_with (fail)
        refine HM.out.mono ?_
        rintro e w2 ⟨rfl, hO2, hW2⟩
        have HF : Hid (n + total X = k + totalS (L.take (j + 1)) ∧ StepsO 23 27 3 lo hi w2 (.slice (some ⟨g, 0, none⟩) L.length c) (markSteps k L (j + 1)) ∧ Within lo hi w w2) := by
          refine ⟨by rw [HE.out.2.2.1, HI.out.1]; omega, ?_, HI.out.2.2.trans (hW2.wide HE.out.2.2.2.1 HE.out.2.2.2.2)⟩
          have := HE.out.1 w2 _ hW2 hO2
          rw [HI.out.1, HE.out.2.1] at this
          exact this
        clear hO2 hW2 hcu
        go_wp2
        go_roundw
        case rel => exact ⟨j + 1, n + total X, by omega, by go_num, rfl, HF.out⟩
        case measure => simp [intOf]; omega
      · obtain rfl : j = L.length := by omega
        go_wp2
        go_ret
        refine ⟨ret_int ?_, ?_, HI.out.2.2⟩
        · rw [HI.out.1, List.take_length]
        · rw [← markSteps_all]; exact HI.out.2.1

set_option maxRecDepth 100000 in
set_option maxHeartbeats 1000000 in
theorem heldIntSSS_any (v : Value) (L : List (List (List Int))) (k : Int) (w : World) (hv : StepsV w v (markS k L)) (h0 : 0 ≤ k) (h1 : k + totalS L ≤ 1073741824) :
    Calls Try.prog 36 #[v, .int .i64 k] w fun e w' => e = .returned (.int .i64 (k + totalS L)) ∧ w = w' := by
  obtain ⟨a, b, o, c, rfl, ⟨hlc, hcb⟩, ha, HC⟩ := hv.shape
  rw [markS_len] at hlc ha ⊢
  have HA := Lib.hid ha
  have HC2 : Hid (∀ r, r < L.length → ∃ u, w.cell? ⟨b, o + r, none⟩ = some u ∧ RowsV w u (markL (k + totalS (L.take r)) (L.getD r []))) := fun r hr => by
    obtain ⟨u, h2, h3⟩ := HC.out r (by rw [markS_len]; exact hr)
    rw [markS_at k L r hr] at h3
    exact ⟨u, h2, h3⟩
  clear hv ha HC
  go_enter Try.func36, Try.ntmps36
  go_wp2
  go_loop [1, 5] (fun m i => ∃ (j : Nat) (n : Int), j ≤ L.length ∧ i = .int .i64 j ∧ m = .int .i64 n ∧ Hid (n = k + totalS (L.take j))) (fun _ i => L.length - (intOf i).toNat)
  case atStart => exact ⟨0, k, Nat.zero_le _, rfl, rfl, by simp [totalS, Hid]⟩
  case round =>
    obtain ⟨j, n, hj, rfl, rfl, HI⟩ := hrel
    by_cases hlt : j < L.length
    · obtain rfl := HA.out (by omega)
      obtain ⟨u, hcu, hu⟩ := HC2.out j hlt
      obtain ⟨X, eX⟩ : ∃ X, L.getD j [] = X := ⟨_, rfl⟩
      have hts := totalS_snoc L j hlt
      have htl := totalS_take_le L (j + 1)
      rw [eX] at hu hts
      rw [← HI.out] at hu
      have hn0 : 0 ≤ n := by rw [HI.out]; omega
      have hn1 : n + total X ≤ 1073741824 := by rw [HI.out]; omega
      have HM := Lib.hid (heldIntSS_any u X n w hu hn0 hn1)
      obtain ⟨a1, b1, o1, c1, rfl, _, _, _⟩ := hu.shape
      have HE := Lib.hid hts
      have hji : (j : Int) < L.length := by omega
      clear hu eX hts htl
      go_wp2_with (fail)
      refine HM.out.mono ?_
      rintro e w2 ⟨rfl, rfl⟩
      have hn2 : 0 ≤ n + total X := by omega
      go_wp2
      go_round
      case rel => exact ⟨j + 1, n + total X, by omega, by go_num, rfl, by show _ = _; rw [HE.out, HI.out]; omega⟩
      case measure => simp [intOf]; omega
    · obtain rfl : j = L.length := by omega
      go_wp2
      go_ret
      refine ⟨ret_int ?_, rfl⟩
      rw [HI.out, List.take_length]

set_option maxRecDepth 100000 in
set_option maxHeartbeats 1000000 in
theorem eqIntSSS_any (v1 v2 : Value) (xs ys : List (List (List Int))) (w : World) (hv1 : StepsV w v1 xs) (hv2 : StepsV w v2 ys) :
    Calls Try.prog 34 #[v1, v2] w (QuietBool (decide (xs = ys)) w) := by
  obtain ⟨a, b, o, c, rfl, ⟨hlc, hcb⟩, ha, HC⟩ := hv1.shape
  obtain ⟨a2, b2, o2, c2, rfl, ⟨hlc2, hcb2⟩, ha2, HC2⟩ := hv2.shape
  have HA := Lib.hid ha
  have HA2 := Lib.hid ha2
  clear hv1 hv2 ha ha2
  by_cases hl : xs.length = ys.length
  · have hn : ((xs.length : Int) != (ys.length : Int)) = false := by simp [hl]
    have HL := Lib.hid hl
    clear hl
    go_enter Try.func34, Try.ntmps34
    go_wp2
    clear hn
    go_loopw [5] (fun i wr => ∃ k : Nat, k ≤ xs.length ∧ i = .int .i64 k ∧ Hid (xs.take k = ys.take k ∧ ∃ n, wr = w.drewN n)) (fun i _ => xs.length - (intOf i).toNat)
    case atStart => exact ⟨0, Nat.zero_le _, rfl, rfl, 0, rfl⟩
    case round =>
      obtain ⟨k, hk, rfl, HI⟩ := hrel
      have HW := Lib.hid (quiet_grew HI.out.2)
      by_cases hlt : k < xs.length
      · have hlt2 : k < ys.length := by have := HL.out; omega
        obtain rfl := HA.out (by omega)
        obtain rfl := HA2.out (by omega)
        obtain ⟨u1, hc1', hu1⟩ := HC.out k hlt
        obtain ⟨u2, hc2', hu2⟩ := HC2.out k hlt2
        have hc1 := HW.out.cell hc1'
        have hc2 := HW.out.cell hc2'
        obtain ⟨x, ex⟩ : ∃ x, xs.getD k [] = x := ⟨_, rfl⟩
        obtain ⟨y, ey⟩ : ∃ y, ys.getD k [] = y := ⟨_, rfl⟩
        rw [ex] at hu1
        rw [ey] at hu2
        have HK : Hid (∀ m, Calls Try.prog 31 #[u1, u2] (wr.drewN m) fun e w' => e = .returned (.bool (decide (x = y))) ∧ ∃ k, w' = (wr.drewN m).drewN k) := fun m => eqIntSS_any u1 u2 x y _ (hu1.grew (HW.out.drewN m)) (hu2.grew (HW.out.drewN m))
        obtain ⟨a3, b3, o3, c3, rfl, _, _, _⟩ := hu1.shape
        obtain ⟨a4, b4, o4, c4, rfl, _, _, _⟩ := hu2.shape
        have HE := Lib.hid (And.intro ex ey)
        have r1 : (k : Int) < xs.length := by omega
        have r2 : (k : Int) < ys.length := by omega
        have r3 : (0 : Int) ≤ k := by omega
        clear ex ey hu1 hu2 hc1' hc2'
        by_cases hxy : x = y
        · have HK2 := HK.out
          have e : decide (x = y) = true := by simp [hxy]
          rw [e] at HK2
          have HK3 := Lib.hid HK2
          have HXY := Lib.hid hxy
          clear hxy HK2 HK e
          go_wp2
          go_quiet ((go_at_call 31; exact Calls.quiet_of (HK3.out _)))
          go_wp2
          go_roundw
          case rel => exact ⟨k + 1, by omega, by go_num, take_eq_snoc [] hlt hlt2 HI.out.1 (by rw [HE.out.1, HE.out.2, HXY.out]), quiet_step HI.out.2 _⟩
          case measure => simp [intOf]; omega
        · have HK2 := HK.out
          have e : decide (x = y) = false := by simp [hxy]
          rw [e] at HK2
          have HK3 := Lib.hid HK2
          have HXY := Lib.hid hxy
          clear hxy HK2 HK e
          go_wp2
          go_quiet ((go_at_call 31; exact Calls.quiet_of (HK3.out _)))
          go_wp2
          go_ret
          refine ⟨ret_bool ?_, quiet_step HI.out.2 _⟩
          have : xs ≠ ys := fun e => HXY.out (by rw [← HE.out.1, ← HE.out.2, e])
          simp [this]
      · go_wp2
        go_ret
        refine ⟨ret_bool ?_, HI.out.2⟩
        have := HI.out.1
        rw [List.take_of_length_le (by omega), List.take_of_length_le (by have := HL.out; omega)] at this
        simp [this]
  · have hn : ((xs.length : Int) != (ys.length : Int)) = true := by simp; omega
    have HL := Lib.hid hl
    clear hl
    go_enter Try.func34, Try.ntmps34
    go_wp2
    go_ret
    refine ⟨ret_bool ?_, 0, rfl⟩
    have : xs ≠ ys := fun e => HL.out (by rw [e])
    simp [this]

set_option maxRecDepth 100000 in
set_option maxHeartbeats 1000000 in
theorem equalSteps_any (v1 v2 : Value) (xs ys : List (List (List Int))) (w : World) (hv1 : StepsV w v1 xs) (hv2 : StepsV w v2 ys) :
    Calls Try.prog 27 #[v1, v2] w (QuietBool (decide (xs = ys)) w) := by
  obtain ⟨a, b, o, c, rfl, ⟨hlc, hcb⟩, ha, HC⟩ := hv1.shape
  obtain ⟨a2, b2, o2, c2, rfl, ⟨hlc2, hcb2⟩, ha2, HC2⟩ := hv2.shape
  have HA := Lib.hid ha
  have HA2 := Lib.hid ha2
  clear hv1 hv2 ha ha2
  by_cases hl : xs.length = ys.length
  · have hn : ((xs.length : Int) != (ys.length : Int)) = false := by simp [hl]
    have HL := Lib.hid hl
    clear hl
    go_enter Try.func27, Try.ntmps27
    go_wp2
    clear hn
    go_loopw [5] (fun i wr => ∃ k : Nat, k ≤ xs.length ∧ i = .int .i64 k ∧ Hid (xs.take k = ys.take k ∧ ∃ n, wr = w.drewN n)) (fun i _ => xs.length - (intOf i).toNat)
    case atStart => exact ⟨0, Nat.zero_le _, rfl, rfl, 0, rfl⟩
    case round =>
      obtain ⟨k, hk, rfl, HI⟩ := hrel
      have HW := Lib.hid (quiet_grew HI.out.2)
      by_cases hlt : k < xs.length
      · have hlt2 : k < ys.length := by have := HL.out; omega
        obtain rfl := HA.out (by omega)
        obtain rfl := HA2.out (by omega)
        obtain ⟨u1, hc1', hu1⟩ := HC.out k hlt
        obtain ⟨u2, hc2', hu2⟩ := HC2.out k hlt2
        have hc1 := HW.out.cell hc1'
        have hc2 := HW.out.cell hc2'
        obtain ⟨x, ex⟩ : ∃ x, xs.getD k [] = x := ⟨_, rfl⟩
        obtain ⟨y, ey⟩ : ∃ y, ys.getD k [] = y := ⟨_, rfl⟩
        rw [ex] at hu1
        rw [ey] at hu2
        have HK : Hid (∀ m, Calls Try.prog 14 #[u1, u2] (wr.drewN m) fun e w' => e = .returned (.bool (decide (x = y))) ∧ ∃ k, w' = (wr.drewN m).drewN k) := fun m => equalRows_any u1 u2 x y _ (hu1.grew (HW.out.drewN m)) (hu2.grew (HW.out.drewN m))
        obtain ⟨a3, b3, o3, c3, rfl, _, _, _⟩ := hu1.shape
        obtain ⟨a4, b4, o4, c4, rfl, _, _, _⟩ := hu2.shape
        have HE := Lib.hid (And.intro ex ey)
        have r1 : (k : Int) < xs.length := by omega
        have r2 : (k : Int) < ys.length := by omega
        have r3 : (0 : Int) ≤ k := by omega
        clear ex ey hu1 hu2 hc1' hc2'
        by_cases hxy : x = y
        · have HK2 := HK.out
          have e : decide (x = y) = true := by simp [hxy]
          rw [e] at HK2
          have HK3 := Lib.hid HK2
          have HXY := Lib.hid hxy
          clear hxy HK2 HK e
          go_wp2
          go_quiet ((go_at_call 14; exact Calls.quiet_of (HK3.out _)))
          go_wp2
          go_roundw
          case rel => exact ⟨k + 1, by omega, by go_num, take_eq_snoc [] hlt hlt2 HI.out.1 (by rw [HE.out.1, HE.out.2, HXY.out]), quiet_step HI.out.2 _⟩
          case measure => simp [intOf]; omega
        · have HK2 := HK.out
          have e : decide (x = y) = false := by simp [hxy]
          rw [e] at HK2
          have HK3 := Lib.hid HK2
          have HXY := Lib.hid hxy
          clear hxy HK2 HK e
          go_wp2
          go_quiet ((go_at_call 14; exact Calls.quiet_of (HK3.out _)))
          go_wp2
          go_ret
          refine ⟨ret_bool ?_, quiet_step HI.out.2 _⟩
          have : xs ≠ ys := fun e => HXY.out (by rw [← HE.out.1, ← HE.out.2, e])
          simp [this]
      · go_wp2
        go_ret
        refine ⟨ret_bool ?_, HI.out.2⟩
        have := HI.out.1
        rw [List.take_of_length_le (by omega), List.take_of_length_le (by have := HL.out; omega)] at this
        simp [this]
  · have hn : ((xs.length : Int) != (ys.length : Int)) = true := by simp; omega
    have HL := Lib.hid hl
    clear hl
    go_enter Try.func27, Try.ntmps27
    go_wp2
    go_ret
    refine ⟨ret_bool ?_, 0, rfl⟩
    have : xs ≠ ys := fun e => HL.out (by rw [e])
    simp [this]
end Go.Proofs.Ytkeeonjbkfgeeaa
