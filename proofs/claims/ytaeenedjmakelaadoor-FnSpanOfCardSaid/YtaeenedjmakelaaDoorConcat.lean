/- The contracts of slices.Grow (at nil) and slices.Concat, of whole numbers. -/
import Derived.Test.YtaeenedjmakelaaDoorRowOf
import Derived.Test.YtaeenedjmakelaaDoorExact
import Derived.Lib.AppendZeros
namespace Go.Proofs.YtaeenedjmakelaaDoor
open Go.RowKit

theorem zeroInts (n : Nat) : (Builtin.zeroCells (Value.int .i64 0).cells n).size = n := by
  rw [size_zeroCells]; simp [Value.cells]

set_option maxRecDepth 100000 in
/-- 'slices.Grow(nil, n)'. -/
theorem slicesGrow_any (n : Nat) (w : World) (hn : 1 ≤ n) (hm : n ≤ 1000000) :
    Calls Tryd.prog 94 #[.slice none 0 0, .int .i64 n] w fun e w' => ∃ g c, e = .returned (.slice (some ⟨g, 0, none⟩) 0 c) ∧ IntsO 3 w.heap.size w'.heap.size w' (.slice (some ⟨g, 0, none⟩) 0 c) [] ∧ Grew w w' := by
  obtain ⟨i, hi1, hi2, hi3, hi4⟩ := info_parts Tryd.infoI
  have hr := Lib.run_append_nil_zeros (P := Tryd.prog) w 22 3 22 3 i (.int .i64 0) .i64 .i64 Tryd.underlying22 Tryd.underlying3 hi1 hi2 n (by omega) (by omega) (by omega) (by rw [hi4]; omega)
  have hge := grownCap_ge w n 0 3
  have hcm := grownCap_le_maxLen w n 0 3 (by unfold maxLen; omega)
  obtain ⟨c, ec⟩ : ∃ c, grownCap w n 0 3 = c := ⟨_, rfl⟩
  rw [ec] at hr hge hcm
  obtain ⟨w', ew⟩ : ∃ w', w.drew.alloc (.cells (Builtin.zeroCells (Value.int .i64 0).cells n ++ Builtin.zeroCells (Value.int .i64 0).cells (c - n)) 3) = w' := ⟨_, rfl⟩
  have hF : Hid (IntsO 3 w.heap.size w'.heap.size w' (.slice (some ⟨w.heap.size, 0, none⟩) 0 c) [] ∧ Grew w w') := by
    refine Lib.hid ⟨IntsO.mk ⟨rfl, .inr ⟨w.heap.size, c, _, rfl, Nat.le_refl _, by rw [← ew]; exact heap_alloc_new w.drew _, Nat.zero_le _, hcm, ?_, by simp⟩⟩ (Nat.le_refl _), ?_⟩
    · rw [Array.size_append, zeroInts, zeroInts]; omega
    · rw [← ew]; exact ((Grew.refl w).drew).alloc _
  rw [ew] at hr
  clear ew ec hi1 hi2 hi3 hi4
  have h1 : ¬ (n : Int) < 0 := by omega
  have h2 : (n : Int) > 0 := by omega
  go_enter Tryd.func94, Tryd.ntmps94
  go_wp2_with (at_builtin; refine Lib.wpList_append_run _ rfl (.tmp 20) (.tmp 21) 22 3 rfl _ _ rfl rfl _ _ hr ?_)
  go_ret
  exact ⟨_, _, rfl, hF.out.1, hF.out.2⟩

set_option maxRecDepth 100000 in
set_option maxHeartbeats 2000000 in
/-- 'slices.Concat(h...)'. -/
theorem slicesConcat_any (v : Value) (h : List (List Int)) (w : World) (hv : RowsV w v h) (hn1 : 1 ≤ h.length) (hn : h.length ≤ 1000) (hr : ∀ r, r < h.length → 1 ≤ (h.getD r []).length ∧ (h.getD r []).length ≤ 1000) :
    Calls Tryd.prog 60 #[v] w (FlatPost w h.flatten) := by
  obtain ⟨a, b, o, c, rfl, ⟨hlc, hcb⟩, ha, HC⟩ := hv.shape
  obtain rfl := ha hn1
  have HR := Lib.hid hr
  have HL := Lib.hid fun k hk => flat_len h k hk fun r h' => (hr r h').2
  have HL1 : Hid (1 ≤ total h ∧ total h ≤ 1000000) := by
    have e : total h = h.flatten.length := by unfold total; rw [List.length_flatten]
    have h1 := row_le_total h 0 hn1
    have h2 := HL.out h.length (Nat.le_refl _)
    rw [List.take_of_length_le (Nat.le_refl _)] at h2
    have := (hr 0 hn1).1
    exact Lib.hid ⟨by omega, by omega⟩
  clear hv ha hr
  go_enter Tryd.func60, Tryd.ntmps60
  go_wp2_with (fail)
  go_loop [3, 11] (fun s i => ∃ (k : Nat) (z : Nat), k ≤ h.length ∧ i = .int .i64 k ∧ s = .int .i64 z ∧ z ≤ 1000000 ∧ Hid (z = total (h.take k))) (fun _ i => h.length - (intOf i).toNat)
  case atStart => exact ⟨0, 0, Nat.zero_le _, rfl, rfl, by omega, Lib.hid (by simp [total])⟩
  case round =>
    obtain ⟨k, z, hk, rfl, rfl, hz, HZ⟩ := hrel
    by_cases hlt : k < h.length
    · obtain ⟨u, hck, hu⟩ := HC.out k hlt
      have hrl := HR.out k hlt
      have HS := Lib.hid (total_snoc h k hlt)
      have HT := Lib.hid (total_take_le h (k + 1))
      obtain ⟨row, er⟩ : ∃ row, h.getD k [] = row := ⟨_, rfl⟩
      rw [er] at hu hrl HS
      obtain ⟨a1, b1, o1, c1, rfl, _, _, _⟩ := hu.shape
      have hzz : z + row.length ≤ 1000000 := by have := HS.out; have := HT.out; have := HZ.out; have := HL1.out; omega
      clear hu er
      go_wp2
      go_round
      case rel => exact ⟨k + 1, z + row.length, by omega, by go_num, by go_num, hzz, Lib.hid (by rw [HS.out, HZ.out])⟩
      case measure => simp [intOf]; omega
    · have HZ2 : Hid (z = h.flatten.length) := by
        have e : total h = h.flatten.length := by unfold total; rw [List.length_flatten]
        have := HZ.out
        rw [List.take_of_length_le (by omega), e] at this
        exact this
      have hz1 : 1 ≤ z := by
        have e : total h = h.flatten.length := by unfold total; rw [List.length_flatten]
        have := HL1.out
        have := HZ2.out
        omega
      clear HZ HL1 hk
      go_wp2_with (fail)
      refine (slicesGrow_any z w hz1 hz).mono ?_
      rintro e w1 ⟨g1, c1, rfl, hO1, hg1⟩
      have H1 := Lib.hid (And.intro hO1 hg1)
      clear hO1 hg1
      go_wp2_with (fail)
      go_loopg [6, 27] h.length (fun gk v i wr => ∃ k xs g c', v = .slice (some ⟨g, 0, none⟩) (List.length xs) c' ∧ i = .int .i64 ((k : Nat) : Int) ∧ k ≤ h.length ∧ h.length ≤ gk + k ∧
        Hid (IntsO 3 w.heap.size wr.heap.size wr v xs ∧ xs = (h.take k).flatten ∧ Grew w wr))
      case atStart => exact ⟨0, [], g1, c1, rfl, rfl, Nat.zero_le _, Nat.le_refl _, H1.out.1, rfl, H1.out.2⟩
      case round =>
        obtain ⟨k, xs, g, c', rfl, rfl, hk1, hk2, HI⟩ := hrel
        by_cases hlt : k < h.length
        · have hsw := HI.out.2.2.size
          obtain ⟨u, hck, hu⟩ := HC.out k hlt
          have hrl := HR.out k hlt
          have hfl := HL.out k hk1
          rw [← HI.out.2.1] at hfl
          obtain ⟨row, er⟩ : ∃ row, h.getD k [] = row := ⟨_, rfl⟩
          rw [er] at hu hrl
          have HER := Lib.hid er
          obtain ⟨a1, b1, o1, c1, rfl, _, ha1, HC1⟩ := (hu.grew HI.out.2.2).shape
          obtain rfl := ha1 (by omega)
          have hck' := HI.out.2.2.cell hck
          clear hck hu ha1 er
          go_wp2_with (at_builtin; refine wpList_append_ints rfl (.tmp 31) (.tmp 32) 22 rfl Tryd.underlying22 Tryd.infoI rfl rfl HC1.out HI.out.1 (by omega) (by omega) hsw ?_; intro g5 c5 w5 hO5 hW5)
          have HF := Lib.hid (And.intro hO5 hW5)
          clear hO5 hW5
          go_wp2
          go_roundg (gk - 1)
          case measure => omega
          case rel => exact ⟨k + 1, xs ++ row, g5, c5, by simp, by go_num, by omega, by omega, HF.out.1, by rw [HI.out.2.1, ← flat_snoc h k hlt, HER.out], HF.out.2.grew HI.out.2.2 (Nat.le_refl _)⟩
        · go_wp2
          go_ret
          have e := HI.out.2.1
          rw [List.take_of_length_le (by omega)] at e
          subst e
          exact ⟨_, _, rfl, HI.out.1, HI.out.2.2⟩
end Go.Proofs.YtaeenedjmakelaaDoor
