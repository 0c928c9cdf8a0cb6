/- The contracts of the helpers of the exact laws: sizes, copies, comparisons. -/
import Derived.Test.YtaeenedjmakelaaDoorRows
import Derived.Test.YtaeenedjmakelaaDoorBase
namespace Go.Proofs.YtaeenedjmakelaaDoor
open Go.RowKit

theorem Tryd.infoE : (Tryd.prog.info? 3).map (fun i => (i.zero, i.size, i.bytes)) = some (some (.int .i64 0), 1, 8) := by kernel_rfl
theorem Tryd.infoT : (Tryd.prog.info? 22).map (fun i => (i.zero, i.size, i.bytes)) = some (some (.slice none 0 0), 1, 24) := by kernel_rfl

set_option maxRecDepth 100000 in
theorem szIntS_any (v : Value) (xs : List Int) (left : Int) (w : World) (hv : IntsV w v xs) (h0 : 0 ≤ left) (h1 : left ≤ 1048576) :
    Calls Tryd.prog 57 #[v, .int .i64 left] w fun e w' => e = .returned (.int .i64 (if left - xs.length < 0 then -1 else left - xs.length)) ∧ w = w' := by
  obtain ⟨a, b, o, c, rfl, ⟨hlc, hcb⟩, _, _⟩ := hv.shape
  clear hv
  by_cases h : left - xs.length < 0
  · rw [if_pos h]
    go_enter Tryd.func57, Tryd.ntmps57
    go_wp2
    go_ret
    exact ⟨rfl, rfl⟩
  · rw [if_neg h]
    go_enter Tryd.func57, Tryd.ntmps57
    go_wp2
    go_ret
    exact ⟨rfl, rfl⟩

/-- How many numbers there are. -/
def total (h : List (List Int)) : Nat := (h.map List.length).sum
theorem total_snoc (h : List (List Int)) (k : Nat) (hk : k < h.length) : total (h.take (k + 1)) = total (h.take k) + (h.getD k []).length := by
  unfold total
  rw [List.take_succ_eq_append_getElem hk, List.map_append, List.sum_append]
  simp [hk]
theorem total_take_le (h : List (List Int)) (k : Nat) : total (h.take k) ≤ total h := by
  unfold total
  conv => rhs; rw [← List.take_append_drop k h, List.map_append, List.sum_append]
  omega
theorem row_le_total (h : List (List Int)) (k : Nat) (hk : k < h.length) : (h.getD k []).length ≤ total h := by
  have := total_snoc h k hk
  have := total_take_le h (k + 1)
  omega

def SzPost (h : List (List Int)) (left : Int) (w : World) (e : Ending) (w' : World) : Prop :=
  ∃ n : Int, e = .returned (.int .i64 n) ∧ (n = -1 ∨ 0 ≤ n ∧ n = left - h.length - total h) ∧ w = w'

set_option maxRecDepth 100000 in
set_option maxHeartbeats 1000000 in
theorem szIntSS_any (v : Value) (h : List (List Int)) (left : Int) (w : World) (hv : RowsV w v h) (h0 : 0 ≤ left) (h1 : left ≤ 1048576) :
    Calls Tryd.prog 20 #[v, .int .i64 left] w (SzPost h left w) := by
  obtain ⟨a, b, o, c, rfl, ⟨hlc, hcb⟩, ha, HC⟩ := hv.shape
  clear hv
  by_cases hs : left - h.length < 0
  · clear ha
    go_enter Tryd.func20, Tryd.ntmps20
    go_wp2
    go_ret
    exact ⟨-1, rfl, .inl rfl, rfl⟩
  · have HA := Lib.hid ha
    clear ha
    have hs' : (h.length : Int) ≤ left := by omega
    clear hs
    go_enter Tryd.func20, Tryd.ntmps20
    go_wp2
    go_loop [1, 5] (fun l i => ∃ (k : Nat) (m : Int), k ≤ h.length ∧ i = .int .i64 k ∧ l = .int .i64 m ∧ 0 ≤ m ∧ m ≤ left ∧ Hid (m = left - h.length - total (h.take k))) (fun _ i => h.length - (intOf i).toNat)
    case atStart => exact ⟨0, _, Nat.zero_le _, rfl, rfl, by omega, by omega, by simp [total, Hid]⟩
    case round =>
      obtain ⟨k, m, hk, rfl, rfl, hm0, hm1, HM⟩ := hrel
      by_cases hlt : k < h.length
      · obtain rfl := HA.out (by omega)
        obtain ⟨u, hck, hu⟩ := HC.out k hlt
        obtain ⟨row, er⟩ : ∃ row, h.getD k [] = row := ⟨_, rfl⟩
        rw [er] at hu
        have HE := Lib.hid er
        have HS := Lib.hid (szIntS_any u row m w hu hm0 (by omega))
        obtain ⟨a1, b1, o1, c1, rfl, ⟨hlc1, hcb1⟩, _, _⟩ := hu.shape
        clear hu er
        by_cases hneg : m - row.length < 0
        · have HS' := HS.out
          rw [if_pos hneg] at HS'
          have HS2 := Lib.hid HS'
          clear HS' HS
          go_wp2_with (fail)
          refine HS2.out.mono ?_
          rintro e w' ⟨rfl, rfl⟩
          go_wp2
          go_ret
          exact ⟨-1, rfl, .inl rfl, rfl⟩
        · have HS' := HS.out
          rw [if_neg hneg] at HS'
          have HS2 := Lib.hid HS'
          clear HS' HS
          go_wp2_with (fail)
          refine HS2.out.mono ?_
          rintro e w' ⟨rfl, rfl⟩
          go_wp2
          go_round
          case rel => exact ⟨k + 1, m - row.length, by omega, by go_num, rfl, by omega, by omega, Lib.hid (by rw [total_snoc h k hlt, HE.out, HM.out]; omega)⟩
          case measure => simp [intOf]; omega
      · go_wp2
        go_ret
        refine ⟨m, rfl, .inr ⟨hm0, ?_⟩, rfl⟩
        rw [HM.out, List.take_of_length_le (by omega)]

/-- xs copied up to k, noughts behind. -/
def upTo (xs : List Int) (k : Nat) : List Int := xs.take k ++ List.replicate (xs.length - k) 0
theorem upTo_len (xs : List Int) (k : Nat) (h : k ≤ xs.length) : (upTo xs k).length = xs.length := by simp [upTo]; omega
theorem upTo_set (xs : List Int) (k : Nat) (h : k < xs.length) : (upTo xs k).set k (xs.getD k 0) = upTo xs (k + 1) := by
  unfold upTo
  have e1 : (xs.take k).length = k := by simp; omega
  have e2 : xs.length - k = (xs.length - (k + 1)) + 1 := by omega
  rw [List.set_append_right _ _ (by omega), e1, Nat.sub_self, e2, List.replicate_succ, List.set_cons_zero, List.take_succ_eq_append_getElem h, List.append_assoc]
  simp [h]

def NewInts (w : World) (xs : List Int) (e : Ending) (w' : World) : Prop := ∃ v, e = .returned v ∧ IntsO 3 w.heap.size w'.heap.size w' v xs ∧ Grew w w' ∧ w.heap.size < w'.heap.size ∧ ∃ g c, v = .slice (some ⟨g, 0, none⟩) xs.length c

set_option maxRecDepth 100000 in
set_option maxHeartbeats 1000000 in
theorem toIntS_any (v : Value) (xs : List Int) (w : World) (hv : IntsV w v xs) (hx : xs.length ≤ 17592186044416) :
    Calls Tryd.prog 11 #[v] w (NewInts w xs) := by
  obtain ⟨a, b, o, c, rfl, ⟨hlc, hcb⟩, ha, HC⟩ := hv.shape
  have HA := Lib.hid ha
  clear hv ha
  go_enter Tryd.func11, Tryd.ntmps11
  go_wp2_with (at_make; refine wpList_make_ints rfl (.tmp 6) (.tmp 6) 22 rfl Tryd.underlying22 Tryd.infoE rfl rfl rfl rfl hx ?_; intro w1 hO1 hg1 hs1)
  have HO : Hid (IntsO 3 w.heap.size w1.heap.size w1 (.slice (some ⟨w.heap.size, 0, none⟩) xs.length xs.length) (upTo xs 0) ∧ Grew w w1) := ⟨by simpa [upTo] using hO1, hg1⟩
  clear hO1 hg1
  go_loopw [4] (fun i wr => ∃ k : Nat, k ≤ xs.length ∧ i = .int .i64 k ∧ Hid (IntsO 3 w.heap.size wr.heap.size wr (.slice (some ⟨w.heap.size, 0, none⟩) xs.length xs.length) (upTo xs k) ∧ Grew w wr ∧ w.heap.size < wr.heap.size)) (fun i _ => xs.length - (intOf i).toNat)
  case atStart => exact ⟨0, Nat.zero_le _, rfl, HO.out.1, HO.out.2, hs1⟩
  case round =>
    obtain ⟨k, hk, rfl, HI⟩ := hrel
    clear HO
    by_cases hlt : k < xs.length
    · obtain rfl := HA.out (by omega)
      have hc := HI.out.2.1.cell (HC.out k hlt)
      obtain ⟨hel, hfr⟩ := HI.out.1.at rfl (i := k) (by rw [upTo_len xs k hk]; exact hlt)
      obtain ⟨y, ey⟩ : ∃ y, (upTo xs k).getD k 0 = y := ⟨_, rfl⟩
      obtain ⟨x, ex⟩ : ∃ x, xs.getD k 0 = x := ⟨_, rfl⟩
      rw [ey] at hel
      rw [ex] at hc
      have HE := Lib.hid ex
      clear ex ey
      go_wp2
      go_roundw
      case rel => exact ⟨k + 1, by omega, by go_num, by
        have hs : (wr.setCell ⟨w.heap.size, k, none⟩ (.int .i64 x)).heap.size = wr.heap.size := by simp [World.setCell]
        have := HI.out.1.set rfl k x
        rw [← HE.out, upTo_set xs k hlt] at this
        rw [HE.out] at this
        exact ⟨by rw [hs]; exact this, Within.grew (lo := w.heap.size) (hi := w.heap.size + 1) HI.out.2.1 ((Within.refl _ _ _).setCell (p := ⟨w.heap.size, k, none⟩) (Nat.le_refl _) (Nat.lt_succ_self _) _) (Nat.le_refl _), by rw [hs]; exact HI.out.2.2⟩⟩
      case measure => simp [intOf]; omega
    · go_wp2
      go_ret
      refine ⟨_, rfl, ?_, HI.out.2.1, HI.out.2.2, _, _, rfl⟩
      have := HI.out.1
      rwa [upTo, List.take_of_length_le (by omega), show xs.length - k = 0 by omega, List.replicate_zero, List.append_nil] at this
end Go.Proofs.YtaeenedjmakelaaDoor
