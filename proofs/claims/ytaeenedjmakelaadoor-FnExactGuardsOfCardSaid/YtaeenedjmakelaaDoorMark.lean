/- The contracts of laws.markIntS, heldIntS, markIntSS and heldIntSS. -/
import Derived.Test.YtaeenedjmakelaaDoorExact
namespace Go.Proofs.YtaeenedjmakelaaDoor
open Go.RowKit

/-- k, k+1, .. : n numbers. -/
def seqL (k : Int) (n : Nat) : List Int := (List.range n).map fun (i : Nat) => k + (i : Int)
theorem seqL_len (k : Int) (n : Nat) : (seqL k n).length = n := by simp [seqL]
theorem seqL_at (k : Int) (n i : Nat) (h : i < n) : (seqL k n).getD i 0 = k + i := by simp [seqL, h]

/-- The first j are marked. -/
def markTo (xs : List Int) (k : Int) (j : Nat) : List Int := (List.range xs.length).map fun (i : Nat) => if i < j then k + (i : Int) else xs.getD i 0
theorem markTo_len (xs : List Int) (k : Int) (j : Nat) : (markTo xs k j).length = xs.length := by simp [markTo]
theorem markTo_zero (xs : List Int) (k : Int) : markTo xs k 0 = xs := by
  apply List.ext_getElem
  · simp [markTo]
  · intro i h1 h2
    simp [markTo, h2]
theorem markTo_all (xs : List Int) (k : Int) : markTo xs k xs.length = seqL k xs.length := by
  unfold markTo seqL
  exact List.map_congr_left fun i hi => by rw [if_pos (List.mem_range.1 hi)]
theorem markTo_set (xs : List Int) (k : Int) (j : Nat) (_hj : j < xs.length) : (markTo xs k j).set j (k + j) = markTo xs k (j + 1) := by
  apply List.ext_getElem
  · simp [markTo]
  · intro i h1 h2
    simp only [markTo, List.getElem_set, List.getElem_map, List.getElem_range]
    by_cases e : j = i
    · subst e; simp
    · rw [if_neg e]
      by_cases h : i < j
      · rw [if_pos h, if_pos (by omega)]
      · rw [if_neg h, if_neg (by omega)]

set_option maxRecDepth 100000 in
set_option maxHeartbeats 1000000 in
theorem markIntS_any (lo hi : Nat) (v : Value) (xs : List Int) (k : Int) (w : World) (hv : IntsO 3 lo hi w v xs) (h0 : 0 ≤ k) (h1 : k + xs.length ≤ 1073741824) :
    Calls Tryd.prog 14 #[v, .int .i64 k] w fun e w' => e = .returned (.int .i64 (k + xs.length)) ∧ IntsO 3 lo hi w' v (seqL k xs.length) ∧ Within lo hi w w' := by
  have HV := Lib.hid hv
  rcases hv.shape with ⟨rfl, rfl⟩ | ⟨g, c, rfl, hgl, hgh, hlc, hcm⟩
  · clear hv
    go_enter Tryd.func14, Tryd.ntmps14
    go_wp2
    refine wp_loop_rounds 1 ?_
    rw [rounds_succ]
    go_wp2
    go_ret
    exact ⟨ret_int (by simp), HV.out, Within.refl _ _ _⟩
  · unfold maxLen at hcm
    clear hv
    go_enter Tryd.func14, Tryd.ntmps14
    go_wp2
    go_loopw [1, 5] (fun m i wr => ∃ j : Nat, j ≤ xs.length ∧ i = .int .i64 j ∧ m = .int .i64 (k + j) ∧ Hid (IntsO 3 lo hi wr (.slice (some ⟨g, 0, none⟩) xs.length c) (markTo xs k j) ∧ Within lo hi w wr)) (fun _ i _ => xs.length - (intOf i).toNat)
    case atStart => exact ⟨0, Nat.zero_le _, rfl, by go_num, by rw [markTo_zero]; exact HV.out, Within.refl _ _ _⟩
    case round =>
      obtain ⟨j, hj, rfl, rfl, HI⟩ := hrel
      by_cases hlt : j < xs.length
      · obtain ⟨hel, hfr⟩ := HI.out.1.at rfl (i := j) (by rw [markTo_len]; exact hlt)
        obtain ⟨y, ey⟩ : ∃ y, (markTo xs k j).getD j 0 = y := ⟨_, rfl⟩
        rw [ey] at hel
        clear ey
        go_wp2
        go_roundw
        case rel => exact ⟨j + 1, by omega, by go_num, by go_num, by
          have := HI.out.1.set rfl j (k + j)
          rw [markTo_set xs k j hlt] at this
          exact this, HI.out.2.setCell (p := ⟨g, j, none⟩) hgl hgh _⟩
        case measure => simp [intOf]; omega
      · obtain rfl : j = xs.length := by omega
        go_wp2
        go_ret
        refine ⟨rfl, ?_, HI.out.2⟩
        rw [← markTo_all]
        exact HI.out.1

set_option maxRecDepth 100000 in
set_option maxHeartbeats 1000000 in
theorem heldIntS_any (v : Value) (n : Nat) (k : Int) (w : World) (hv : IntsV w v (seqL k n)) (h0 : 0 ≤ k) (h1 : k + n ≤ 1073741824) :
    Calls Tryd.prog 15 #[v, .int .i64 k] w fun e w' => e = .returned (.int .i64 (k + n)) ∧ w = w' := by
  obtain ⟨a, b, o, c, rfl, ⟨hlc, hcb⟩, ha, HC⟩ := hv.shape
  rw [seqL_len] at hlc ha ⊢
  have HA := Lib.hid ha
  have HC2 : Hid (∀ i, i < n → w.cell? ⟨b, o + i, none⟩ = some (.int .i64 (k + (i : Int)))) := fun i hi => by
    have := HC.out i (by rw [seqL_len]; exact hi)
    rwa [seqL_at k n i hi] at this
  clear hv ha HC
  go_enter Tryd.func15, Tryd.ntmps15
  go_wp2
  go_loop [1, 5] (fun m i => ∃ j : Nat, j ≤ n ∧ i = .int .i64 j ∧ m = .int .i64 (k + j)) (fun _ i => n - (intOf i).toNat)
  case atStart => exact ⟨0, Nat.zero_le _, rfl, by go_num⟩
  case round =>
    obtain ⟨j, hj, rfl, rfl⟩ := hrel
    by_cases hlt : j < n
    · obtain rfl := HA.out (by omega)
      have hc := HC2.out j hlt
      have ht : (k + (j : Int) != k + (j : Int)) = false := by simp
      go_wp2
      go_round
      case rel => exact ⟨j + 1, by omega, by go_num, by go_num⟩
      case measure => simp [intOf]; omega
    · obtain rfl : j = n := by omega
      go_wp2
      go_ret
      exact ⟨rfl, rfl⟩

/-- One row of own rows has turned. -/
theorem RowsO.turn {T E lo hi : Nat} (hTE : T ≠ E) {w w' : World} {v u : Value} {H : List (List Int)} {xs' : List Int} (hv : RowsO T E lo hi w v H) {gv nv cv : Nat} (hs : v = .slice (some ⟨gv, 0, none⟩) nv cv) {j : Nat} (hj : j < H.length)
    (hcell : w.cell? ⟨gv, j, none⟩ = some u) (hW : ∀ k, k < w.heap.size → u.ownBlock ≠ some k → w'.heap[k]? = w.heap[k]?) (hu : IntsO E lo hi w' u xs') : RowsO T E lo hi w' v (H.set j xs') := by
  obtain ⟨V, h1, h2, h3, h4⟩ := hv
  have eV : V j = u := by
    subst hs
    have hn : nv = H.length := by
      rcases h1.2 with ⟨e, _⟩ | ⟨_, _, _, e, _⟩
      · cases e
      · cases e; rfl
    subst hn
    rw [World.ownsRow.cellAt h1 j (by omega)] at hcell
    simpa [hj] using hcell
  refine ⟨V, ?_, h2, ?_, ?_⟩
  · rw [List.length_set]
    exact ownsRow_block h1 fun k e => hW k (World.ownsRow.lt h1 k e).2 fun e2 => ownsRow_int_block hTE h1 (h3 j hj).1 k (by rw [eV]; exact e2) e
  · intro r hr
    rw [List.length_set] at hr
    by_cases e : r = j
    · subst e
      rw [List.getD_eq_getElem?_getD, List.getElem?_set_self hr, Option.getD_some, eV]
      exact hu
    · rw [List.getD_eq_getElem?_getD, List.getElem?_set_ne (by omega), ← List.getD_eq_getElem?_getD]
      refine ⟨ownsRow_block (h3 r hr).1 fun k ek => hW k (World.ownsRow.lt (h3 r hr).1 k ek).2 fun e2 => ?_, (h3 r hr).2⟩
      rw [← eV] at e2
      rcases Nat.lt_or_gt_of_ne e with h | h
      · exact h4 r j h hj _ ek e2
      · exact h4 j r h hr _ e2 ek
  · intro r s hrs hlen
    rw [List.length_set] at hlen
    exact h4 r s hrs hlen
/-- An own slice lies in its own block alone. -/
theorem IntsO.narrow {E lo hi : Nat} {w : World} {v : Value} {xs : List Int} (h : IntsO E lo hi w v xs) : ∃ a b, lo ≤ b ∧ IntsO E a b w v xs ∧ (∀ k, v.ownBlock ≠ some k → k < a ∨ b ≤ k) ∧ (a < b → lo ≤ a ∧ b ≤ hi) := by
  rcases h.1.2 with ⟨rfl, h0⟩ | ⟨g, cap, cur, rfl, hg, hh, h5⟩
  · refine ⟨lo, lo, Nat.le_refl _, ⟨h.1, fun g e => by simp [Value.ownBlock] at e⟩, fun k _ => by omega, fun h => absurd h (Nat.lt_irrefl _)⟩
  · have := h.2 g rfl
    refine ⟨g, g + 1, by omega, ⟨⟨h.1.1, .inr ⟨g, cap, cur, rfl, Nat.le_refl _, hh, h5⟩⟩, fun k e => by simp [Value.ownBlock] at e; omega⟩, fun k hk => ?_, fun _ => ⟨hg, by omega⟩⟩
    have : k ≠ g := fun e => hk (by rw [e]; rfl)
    omega

/-- All rows marked from k on. -/
def markL (k : Int) (H : List (List Int)) : List (List Int) := (List.range H.length).map fun r => seqL (k + total (H.take r)) (H.getD r []).length
/-- The first j rows marked. -/
def markRows (k : Int) (H : List (List Int)) (j : Nat) : List (List Int) := (List.range H.length).map fun r => if r < j then seqL (k + total (H.take r)) (H.getD r []).length else H.getD r []
theorem markRows_len (k : Int) (H : List (List Int)) (j : Nat) : (markRows k H j).length = H.length := by simp [markRows]
theorem markRows_at (k : Int) (H : List (List Int)) (j : Nat) (h : j < H.length) : (markRows k H j).getD j [] = H.getD j [] := by simp [markRows, h]
theorem markRows_zero (k : Int) (H : List (List Int)) : markRows k H 0 = H := by
  apply List.ext_getElem
  · simp [markRows]
  · intro i h1 h2
    simp [markRows, h2]
theorem markRows_all (k : Int) (H : List (List Int)) : markRows k H H.length = markL k H := by
  unfold markRows markL
  exact List.map_congr_left fun i hi => by rw [if_pos (List.mem_range.1 hi)]
theorem markRows_set (k : Int) (H : List (List Int)) (j : Nat) (_h : j < H.length) : (markRows k H j).set j (seqL (k + total (H.take j)) (H.getD j []).length) = markRows k H (j + 1) := by
  apply List.ext_getElem
  · simp [markRows]
  · intro i h1 h2
    simp only [markRows, List.getElem_set, List.getElem_map, List.getElem_range]
    by_cases e : j = i
    · subst e; simp
    · rw [if_neg e]
      by_cases h : i < j
      · rw [if_pos h, if_pos (by omega)]
      · rw [if_neg h, if_neg (by omega)]
theorem markL_at (k : Int) (H : List (List Int)) (j : Nat) (h : j < H.length) : (markL k H).getD j [] = seqL (k + total (H.take j)) (H.getD j []).length := by simp [markL, h]
theorem markL_len (k : Int) (H : List (List Int)) : (markL k H).length = H.length := by simp [markL]

def MarkPost (lo hi : Nat) (v : Value) (H : List (List Int)) (k : Int) (w : World) (e : Ending) (w' : World) : Prop :=
  e = .returned (.int .i64 (k + total H)) ∧ RowsO 22 3 lo hi w' v (markL k H) ∧ Within lo hi w w'

set_option maxRecDepth 100000 in
set_option maxHeartbeats 1000000 in
theorem markIntSS_any (lo hi : Nat) (v : Value) (H : List (List Int)) (k : Int) (w : World) (hv : RowsO 22 3 lo hi w v H) (h0 : 0 ≤ k) (h1 : k + total H ≤ 1073741824) :
    Calls Tryd.prog 25 #[v, .int .i64 k] w (MarkPost lo hi v H k w) := by
  have HV := Lib.hid hv
  rcases hv.shape with ⟨rfl, rfl⟩ | ⟨g, c, rfl, hgl, hgh, hlc, hcm⟩
  · clear hv
    go_enter Tryd.func25, Tryd.ntmps25
    go_wp2
    refine wp_loop_rounds 1 ?_
    rw [rounds_succ]
    go_wp2
    go_ret
    exact ⟨ret_int (by simp [total]), HV.out, Within.refl _ _ _⟩
  · unfold maxLen at hcm
    clear hv
    go_enter Tryd.func25, Tryd.ntmps25
    go_wp2
    go_loopw [1, 5] (fun m i wr => ∃ (j : Nat) (n : Int), j ≤ H.length ∧ i = .int .i64 j ∧ m = .int .i64 n ∧ Hid (n = k + total (H.take j) ∧ RowsO 22 3 lo hi wr (.slice (some ⟨g, 0, none⟩) H.length c) (markRows k H j) ∧ Within lo hi w wr)) (fun _ i _ => H.length - (intOf i).toNat)
    case atStart => exact ⟨0, k, Nat.zero_le _, rfl, rfl, by simp [total], by rw [markRows_zero]; exact HV.out, Within.refl _ _ _⟩
    case round =>
      obtain ⟨j, n, hj, rfl, rfl, HI⟩ := hrel
      by_cases hlt : j < H.length
      · obtain ⟨u, hcu, hu⟩ := HI.out.2.1.at rfl (i := j) (by rw [markRows_len]; exact hlt)
        rw [markRows_at k H j hlt] at hu
        obtain ⟨row, er⟩ : ∃ row, H.getD j [] = row := ⟨_, rfl⟩
        rw [er] at hu
        obtain ⟨na, nb, _, hun, hout, hin⟩ := hu.narrow
        have hts := total_snoc H j hlt
        have htl := total_take_le H (j + 1)
        rw [er] at hts
        have hn0 : 0 ≤ n := by rw [HI.out.1]; omega
        have hn1 : n + row.length ≤ 1073741824 := by rw [HI.out.1]; omega
        have HM := Lib.hid (markIntS_any na nb u row n wr hun hn0 hn1)
        have HE := Lib.hid (And.intro er (And.intro hout (And.intro hin (And.intro hu hts))))
        have HCU := Lib.hid hcu
        obtain ⟨a1, b1, o1, c1, rfl, _, _, _⟩ := hu.toV.shape
        clear hu hun hout hin er hts htl
        go_wp2_with (fail)
        refine HM.out.mono ?_
        rintro e w2 ⟨rfl, hO2, hW2⟩
        have HF : Hid (IntsO 3 lo hi w2 (.slice a1 row.length c1) (seqL n row.length) ∧ Within na nb wr w2) := by
          refine ⟨⟨?_, HE.out.2.2.2.1.2⟩, hW2⟩
          refine ⟨hO2.1.1, ?_⟩
          rcases hO2.1.2 with h | ⟨g1, cap, cur, e1, _, r1⟩
          · exact .inl h
          · refine .inr ⟨g1, cap, cur, e1, ?_, r1⟩
            have := (World.ownsRow.lt HE.out.2.2.2.1.1 g1 (by rw [e1]; rfl)).1
            exact this
        clear hO2 hW2 hcu
        go_wp2
        go_roundw
        case rel => exact ⟨j + 1, n + row.length, by omega, by go_num, rfl, by rw [HE.out.2.2.2.2, HI.out.1]; omega, by
          have := HI.out.2.1.turn (by decide) rfl (by rw [markRows_len]; exact hlt) HCU.out (fun k hk hne => HF.out.2.block k hk (HE.out.2.1 k hne)) HF.out.1
          rw [HI.out.1, ← HE.out.1, markRows_set k H j hlt] at this
          exact this, HI.out.2.2.trans (by
            by_cases hab : na < nb
            · exact HF.out.2.wide (HE.out.2.2.1 hab).1 (HE.out.2.2.1 hab).2
            · exact ⟨HF.out.2.os, HF.out.2.tape, HF.out.2.output, HF.out.2.size, fun k hk _ => HF.out.2.block k hk (by omega)⟩)⟩
        case measure => simp [intOf]; omega
      · obtain rfl : j = H.length := by omega
        go_wp2
        go_ret
        refine ⟨ret_int ?_, ?_, HI.out.2.2⟩
        · rw [HI.out.1, List.take_length]
        · rw [← markRows_all]; exact HI.out.2.1

set_option maxRecDepth 100000 in
set_option maxHeartbeats 1000000 in
theorem heldIntSS_any (v : Value) (H : List (List Int)) (k : Int) (w : World) (hv : RowsV w v (markL k H)) (h0 : 0 ≤ k) (h1 : k + total H ≤ 1073741824) :
    Calls Tryd.prog 26 #[v, .int .i64 k] w fun e w' => e = .returned (.int .i64 (k + total H)) ∧ w = w' := by
  obtain ⟨a, b, o, c, rfl, ⟨hlc, hcb⟩, ha, HC⟩ := hv.shape
  rw [markL_len] at hlc ha ⊢
  have HA := Lib.hid ha
  have HC2 : Hid (∀ r, r < H.length → ∃ u, w.cell? ⟨b, o + r, none⟩ = some u ∧ IntsV w u (seqL (k + total (H.take r)) (H.getD r []).length)) := fun r hr => by
    obtain ⟨u, h2, h3⟩ := HC.out r (by rw [markL_len]; exact hr)
    rw [markL_at k H r hr] at h3
    exact ⟨u, h2, h3⟩
  clear hv ha HC
  go_enter Tryd.func26, Tryd.ntmps26
  go_wp2
  go_loop [1, 5] (fun m i => ∃ (j : Nat) (n : Int), j ≤ H.length ∧ i = .int .i64 j ∧ m = .int .i64 n ∧ Hid (n = k + total (H.take j))) (fun _ i => H.length - (intOf i).toNat)
  case atStart => exact ⟨0, k, Nat.zero_le _, rfl, rfl, by simp [total, Hid]⟩
  case round =>
    obtain ⟨j, n, hj, rfl, rfl, HI⟩ := hrel
    by_cases hlt : j < H.length
    · obtain rfl := HA.out (by omega)
      obtain ⟨u, hcu, hu⟩ := HC2.out j hlt
      obtain ⟨row, er⟩ : ∃ row, H.getD j [] = row := ⟨_, rfl⟩
      have hts := total_snoc H j hlt
      have htl := total_take_le H (j + 1)
      rw [er] at hu hts
      rw [← HI.out] at hu
      have hn0 : 0 ≤ n := by rw [HI.out]; omega
      have hn1 : n + row.length ≤ 1073741824 := by rw [HI.out]; omega
      have HM := Lib.hid (heldIntS_any u row.length n w hu hn0 hn1)
      obtain ⟨a1, b1, o1, c1, rfl, _, _, _⟩ := hu.shape
      rw [seqL_len] at hcu HM
      have HE := Lib.hid hts
      clear hu er hts htl
      go_wp2_with (fail)
      refine HM.out.mono ?_
      rintro e w2 ⟨rfl, rfl⟩
      have hn2 : 0 ≤ n + row.length := by omega
      go_wp2
      go_round
      case rel => exact ⟨j + 1, n + row.length, by omega, by go_num, rfl, by show _ = _; rw [HE.out, HI.out]; omega⟩
      case measure => simp [intOf]; omega
    · obtain rfl : j = H.length := by omega
      go_wp2
      go_ret
      refine ⟨ret_int ?_, rfl⟩
      rw [HI.out, List.take_length]
end Go.Proofs.YtaeenedjmakelaaDoor
