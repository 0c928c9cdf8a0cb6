/- The contract of impl.piecesOf over cells beside each other. -/
import Derived.Test.YtaeenedjmakelaaDoorPieceM
import Derived.Laws.EntriesVeiled
import Derived.WalkMore
import Derived.Deep.LoopGhost
import Derived.BigQuiet
namespace Go.Proofs.YtaeenedjmakelaaDoor
open Go.RowKit

theorem quiet_two {w w1 w2 : World} (h1 : ∃ q, w1 = w.drewN q) (h2 : ∃ q, w2 = w1.drewN q) : ∃ q, w2 = w.drewN q := by
  obtain ⟨n, rfl⟩ := h1
  obtain ⟨m, rfl⟩ := h2
  exact ⟨n + m, World.drewN_drewN _ _ _⟩

set_option maxRecDepth 100000 in
set_option maxHeartbeats 1000000 in
theorem piecesClo_any (B fk : Nat) (lb : Array Value) (eg : ∀ (args : Array Value) (w : World), (callFunc fk args).run Tryd.prog w = .ok (.enter fk args) w) (N I K : Nat) (P : Nat → Bool) (W : World)
    (hB : W.cell? ⟨B, 0, none⟩ = some (.func (.func fk) #[] lb)) (hT : Tells fk lb N P W) (hI : I < N) (hK : K < N) :
    Calls Tryd.prog 107 #[.int .i64 I, .int .i64 K, .pointer (some ⟨B, 0, none⟩)] W fun e w' => e = .returned (.bool (bothB P I K)) ∧ ∃ q, w' = W.drewN q := by
  have HT := Lib.hid hT
  have HB := Lib.hid hB
  have H1 := Lib.hid (hT I W (Grew.refl _) hI)
  clear hT
  go_enter Tryd.func107, Tryd.ntmps107
  go_wp2_with (fail)
  refine H1.out.mono ?_
  cases hP : P I with
  | false =>
    rintro e w2 ⟨rfl, hq⟩
    have HQ := Lib.hid (And.intro hq hP)
    clear hq hP
    go_wp2
    go_ret
    exact ⟨ret_bool (by simp [bothB, HQ.out.2]), HQ.out.1⟩
  | true =>
    rintro e w2 ⟨rfl, hq⟩
    have HQ := Lib.hid (And.intro hq hP)
    have H2 := Lib.hid (HT.out K w2 (quiet_grew hq) hK)
    have hB2 := (quiet_grew hq).cell HB.out
    clear hq hP hB
    go_wp2_with (fail)
    refine H2.out.mono ?_
    rintro e w3 ⟨rfl, hq⟩
    have HQ3 := Lib.hid (quiet_two HQ.out.1 hq)
    clear hq hB2
    go_wp2
    go_ret
    exact ⟨ret_bool (by simp [bothB, HQ.out.2]), HQ3.out⟩

theorem RowsO.ne {T E lo hi : Nat} (hTE : T ≠ E) {w : World} {v : Value} {H : List (List Int)} (hv : RowsO T E lo hi w v H) {gv cv nv : Nat} (hs : v = .slice (some ⟨gv, 0, none⟩) nv cv) {i : Nat} (hi' : i < H.length)
    {g n c : Nat} (hc : w.cell? ⟨gv, i, none⟩ = some (.slice (some ⟨g, 0, none⟩) n c)) : g ≠ gv ∧ g < w.heap.size ∧ gv < w.heap.size ∧ lo ≤ g ∧ g < hi := by
  obtain ⟨V, k1, k2, k3, k4⟩ := hv
  have hgv : v.ownBlock = some gv := by rw [hs]; rfl
  have hVi : V i = .slice (some ⟨g, 0, none⟩) n c := by
    have k1' := k1
    rw [hs] at k1'
    have hn : nv = H.length := by
      rcases k1'.2 with ⟨e, _⟩ | ⟨_, _, _, e, _⟩
      · cases e
      · cases e; rfl
    subst hn
    have := World.ownsRow.cellAt k1' i (by omega)
    rw [this] at hc
    simpa [hi'] using hc
  have hgi : (V i).ownBlock = some g := by rw [hVi]; rfl
  have hglt := World.ownsRow.lt (k3 i hi').1 g hgi
  exact ⟨fun e => ownsRow_int_block hTE k1 (k3 i hi').1 g hgi (by rw [e]; exact hgv), hglt.2, (World.ownsRow.lt k1 gv hgv).2, hglt.1, (k3 i hi').2 g hgi⟩
/-- A row of one's own grew (in its block, or in a new one), and is put back. -/
theorem RowsO.regrow {T E lo hi : Nat} (hTE : T ≠ E) {w w' : World} {v : Value} {H : List (List Int)} {ys : List Int} (hv : RowsO T E lo hi w v H) {gv cv nv : Nat} (hs : v = .slice (some ⟨gv, 0, none⟩) nv cv) {i : Nat} (hi' : i < H.length)
    {g n c : Nat} (hc : w.cell? ⟨gv, i, none⟩ = some (.slice (some ⟨g, 0, none⟩) n c)) {g' n' c' : Nat} (hW : Within g (g + 1) w w') (hu : IntsO E g' (g' + 1) w' (.slice (some ⟨g', 0, none⟩) n' c') ys) (hg : g' = g ∨ w.heap.size ≤ g') :
    RowsO T E lo w'.heap.size (w'.setCell ⟨gv, i, none⟩ (.slice (some ⟨g', 0, none⟩) n' c')) v (H.set i ys) ∧ Within lo hi w (w'.setCell ⟨gv, i, none⟩ (.slice (some ⟨g', 0, none⟩) n' c')) := by
  obtain ⟨V, k1, k2, k3, k4⟩ := hv
  have hn : nv = H.length := by
    subst hs
    rcases k1.2 with ⟨e, _⟩ | ⟨_, _, _, e, _⟩
    · cases e
    · cases e; rfl
  subst hn
  have hgv : v.ownBlock = some gv := by rw [hs]; rfl
  have hVi : V i = .slice (some ⟨g, 0, none⟩) n c := by
    have k1' := k1
    rw [hs] at k1'
    have := World.ownsRow.cellAt k1' i (by omega)
    rw [this] at hc
    simpa [hi'] using hc
  have hgi : (V i).ownBlock = some g := by rw [hVi]; rfl
  have hgne : g ≠ gv := fun e => ownsRow_int_block hTE k1 (k3 i hi').1 g hgi (by rw [e]; exact hgv)
  have hglt := World.ownsRow.lt (k3 i hi').1 g hgi
  have hgvlt := World.ownsRow.lt k1 gv hgv
  have hgne' : g' ≠ gv := by
    rcases hg with rfl | h
    · exact hgne
    · have := hgvlt.2; omega
  have hsame : ∀ k, k ≠ gv → (w'.setCell ⟨gv, i, none⟩ (.slice (some ⟨g', 0, none⟩) n' c')).heap[k]? = w'.heap[k]? := fun k hk => Below.heap_setCell _ _ _ _ hk
  have hold : ∀ k, k < w.heap.size → k ≠ g → w'.heap[k]? = w.heap[k]? := fun k h1 h2 => hW.block k h1 (by omega)
  have hsz : (w'.setCell ⟨gv, i, none⟩ (.slice (some ⟨g', 0, none⟩) n' c')).heap.size = w'.heap.size := by simp
  refine ⟨⟨fun r => if r = i then .slice (some ⟨g', 0, none⟩) n' c' else V r, ?_, fun k e => Nat.lt_of_lt_of_le (World.ownsRow.lt k1 k e).2 hW.size, ?_, ?_⟩, ?_⟩
  · rw [List.length_set]
    have k1w : w'.ownsRow lo T 1 v H.length ((List.range H.length).map V) := ownsRow_block k1 fun k e => by
      rw [hgv] at e
      simp only [Option.some.injEq] at e
      subst e
      exact hold _ hgvlt.2 hgne.symm
    subst hs
    have := (World.ownsRow.stored k1w i (.slice (some ⟨g', 0, none⟩) n' c')).1
    have e : (List.range H.length).map (fun r => if r = i then .slice (some ⟨g', 0, none⟩) n' c' else V r) = ((List.range H.length).map V).set i (.slice (some ⟨g', 0, none⟩) n' c') := by
      apply List.ext_getElem
      · simp
      · intro k q1 q2
        simp only [List.getElem_map, List.getElem_range, List.getElem_set]
        by_cases e : k = i
        · subst e; simp
        · rw [if_neg e, if_neg (fun h => e h.symm)]
    rw [e]
    exact this
  · intro r hr
    rw [List.length_set] at hr
    by_cases e : r = i
    · subst e
      simp only [if_true]
      rw [List.getD_eq_getElem?_getD, List.getElem?_set_self hr, Option.getD_some]
      refine ⟨ownsRow_base (ownsRow_block hu.1 fun k ek => ?_) ?_, fun k ek => (World.ownsRow.lt hu.1 k ek).2⟩
      · simp only [Value.ownBlock, Option.some.injEq] at ek
        subst ek
        exact hsame _ hgne'
      · rcases hg with rfl | h
        · exact hglt.1
        · have := hglt.1; omega
    · simp only [e, if_false]
      rw [List.getD_eq_getElem?_getD, List.getElem?_set_ne (by omega), ← List.getD_eq_getElem?_getD]
      refine ⟨ownsRow_block (k3 r hr).1 fun k ek => ?_, fun k ek => Nat.lt_of_lt_of_le (World.ownsRow.lt (k3 r hr).1 k ek).2 hW.size⟩
      have hkg : k ≠ g := fun e2 => by
        subst e2
        rcases Nat.lt_or_gt_of_ne e with h | h
        · exact k4 r i h hi' k ek hgi
        · exact k4 i r h hr k hgi ek
      have hkv : k ≠ gv := fun e2 => by
        subst e2
        exact ownsRow_int_block hTE k1 (k3 r hr).1 _ ek hgv
      rw [hsame k hkv, hold k (World.ownsRow.lt (k3 r hr).1 k ek).2 hkg]
  · intro r s hrs hlen k e1 e2
    rw [List.length_set] at hlen
    have ho : ∀ r, r < H.length → r ≠ i → ∀ k, (V r).ownBlock = some k → k ≠ g' := fun r hr hri k ek e3 => by
      subst e3
      rcases hg with rfl | h
      · rcases Nat.lt_or_gt_of_ne hri with h | h
        · exact k4 r i h hi' _ ek hgi
        · exact k4 i r h hr _ hgi ek
      · have := (World.ownsRow.lt (k3 r hr).1 _ ek).2; omega
    by_cases er : r = i
    · have es : s ≠ i := by omega
      simp only [er, if_true, Value.ownBlock, Option.some.injEq] at e1
      simp only [es, if_false] at e2
      exact ho s hlen es k e2 e1.symm
    · simp only [er, if_false] at e1
      by_cases es : s = i
      · simp only [es, if_true, Value.ownBlock, Option.some.injEq] at e2
        exact ho r (by omega) er k e1 e2.symm
      · simp only [es, if_false] at e2
        exact k4 r s hrs hlen k e1 e2
  · have hgw : Within lo hi w w' := hW.wide hglt.1 (by have := (k3 i hi').2 g hgi; omega)
    exact hgw.setCell (p := ⟨gv, i, none⟩) hgvlt.1 (k2 gv hgv) _
end Go.Proofs.YtaeenedjmakelaaDoor
