/- FnBasinsAreOutlets: for every input the law returns true, and the input reads as it did, where the table of steps reads as the program's text lays it; tied to that text. Its conditions: that one listed variable, tied. -/
import Derived.Test.YtekhjjcgkmnmlaaDoorExact
import Derived.Test.YtekhjjcgkmnmlaaDoorBase
import Derived.Test.YtekhjjcgkmnmlaaDoorRows
import Derived.Test.YtekhjjcgkmnmlaaDoorSomeG
import Derived.Test.YtekhjjcgkmnmlaaDoorStrT
import Derived.Test.YtekhjjcgkmnmlaaDoorRowOf
import Derived.Test.YtekhjjcgkmnmlaaDoorSStr
import Derived.Test.YtekhjjcgkmnmlaaDoorCameRows
import Derived.Test.YtekhjjcgkmnmlaaDoorTied
import Derived.Test.YtekhjjcgkmnmlaaDoorWords
import Derived.Test.YtekhjjcgkmnmlaaDoorTie
import Derived.Test.YtekhjjcgkmnmlaaDoorCards
import Derived.SevenTiedAt
/- The contracts of laws.eqIntS and laws.eqIntSS. -/
namespace Go.Proofs.YtekhjjcgkmnmlaaDoor
open Go.RowKit

set_option maxRecDepth 100000 in
set_option maxHeartbeats 1000000 in
theorem eqIntS_any (v1 v2 : Value) (xs ys : List Int) (w : World) (hv1 : IntsV w v1 xs) (hv2 : IntsV w v2 ys) :
    Calls Tryd.prog 63 #[v1, v2] w (QuietBool (decide (xs = ys)) w) := by
  obtain ⟨a, b, o, c, rfl, ⟨hlc, hcb⟩, ha, HC⟩ := hv1.shape
  obtain ⟨a2, b2, o2, c2, rfl, ⟨hlc2, hcb2⟩, ha2, HC2⟩ := hv2.shape
  have HA := Lib.hid ha
  have HA2 := Lib.hid ha2
  clear hv1 hv2 ha ha2
  by_cases hl : xs.length = ys.length
  · have hn : ((xs.length : Int) != (ys.length : Int)) = false := by simp [hl]
    have HL := Lib.hid hl
    clear hl
    go_enter Tryd.func63, Tryd.ntmps63
    go_wp2
    clear hn
    go_loopw [5] (fun i wr => ∃ k : Nat, k ≤ xs.length ∧ i = .int .i64 k ∧ Hid (xs.take k = ys.take k ∧ ∃ n, wr = w.drewN n)) (fun i _ => xs.length - (intOf i).toNat)
    case atStart => exact ⟨0, Nat.zero_le _, rfl, rfl, 0, rfl⟩
    case round =>
      obtain ⟨k, hk, rfl, HI⟩ := hrel
      have HW := Lib.hid (quiet_grew HI.out.2)
      by_cases hlt : k < xs.length
      · have hlt2 : k < ys.length := by have := HL.out; omega
        obtain rfl := HA.out (by omega)
        obtain rfl := HA2.out (by omega)
        have hc1 := HW.out.cell (HC.out k hlt)
        have hc2 := HW.out.cell (HC2.out k hlt2)
        obtain ⟨x, ex⟩ : ∃ x, xs.getD k 0 = x := ⟨_, rfl⟩
        obtain ⟨y, ey⟩ : ∃ y, ys.getD k 0 = y := ⟨_, rfl⟩
        rw [ex] at hc1
        rw [ey] at hc2
        have HE := Lib.hid (And.intro ex ey)
        have r1 : (k : Int) < xs.length := by omega
        have r2 : (k : Int) < ys.length := by omega
        have r3 : (0 : Int) ≤ k := by omega
        clear ex ey
        by_cases hxy : x = y
        · have ht : (x != y) = false := by simp [hxy]
          have HXY := Lib.hid hxy
          clear hxy
          go_wp2
          go_quiet (fail)
          go_wp2
          go_roundw
          case rel => exact ⟨k + 1, by omega, by go_num, take_eq_snoc 0 hlt hlt2 HI.out.1 (by rw [HE.out.1, HE.out.2, HXY.out]), quiet_step HI.out.2 _⟩
          case measure => simp [intOf]; omega
        · have ht : (x != y) = true := by simp [hxy]
          have HXY := Lib.hid hxy
          clear hxy
          go_wp2
          go_quiet (fail)
          go_wp2
          go_ret
          refine ⟨ret_bool ?_, quiet_step HI.out.2 _⟩
          have : xs ≠ ys := fun e => HXY.out (by rw [← HE.out.1, ← HE.out.2, e])
          simp [this]
      · go_wp2
        go_ret
        refine ⟨ret_bool ?_, HI.out.2⟩
        have := HI.out.1
        rw [List.take_of_length_le (by omega), List.take_of_length_le (by have := HL.out; omega)] at this
        simp [this]
  · have hn : ((xs.length : Int) != (ys.length : Int)) = true := by simp; omega
    have HL := Lib.hid hl
    clear hl
    go_enter Tryd.func63, Tryd.ntmps63
    go_wp2
    go_ret
    refine ⟨ret_bool ?_, 0, rfl⟩
    have : xs ≠ ys := fun e => HL.out (by rw [e])
    simp [this]

set_option maxRecDepth 100000 in
set_option maxHeartbeats 1000000 in
theorem eqIntSS_any (v1 v2 : Value) (xs ys : List (List Int)) (w : World) (hv1 : RowsV w v1 xs) (hv2 : RowsV w v2 ys) :
    Calls Tryd.prog 37 #[v1, v2] w (QuietBool (decide (xs = ys)) w) := by
  obtain ⟨a, b, o, c, rfl, ⟨hlc, hcb⟩, ha, HC⟩ := hv1.shape
  obtain ⟨a2, b2, o2, c2, rfl, ⟨hlc2, hcb2⟩, ha2, HC2⟩ := hv2.shape
  have HA := Lib.hid ha
  have HA2 := Lib.hid ha2
  clear hv1 hv2 ha ha2
  by_cases hl : xs.length = ys.length
  · have hn : ((xs.length : Int) != (ys.length : Int)) = false := by simp [hl]
    have HL := Lib.hid hl
    clear hl
    go_enter Tryd.func37, Tryd.ntmps37
    go_wp2
    clear hn
    go_loopw [5] (fun i wr => ∃ k : Nat, k ≤ xs.length ∧ i = .int .i64 k ∧ Hid (xs.take k = ys.take k ∧ ∃ n, wr = w.drewN n)) (fun i _ => xs.length - (intOf i).toNat)
    case atStart => exact ⟨0, Nat.zero_le _, rfl, rfl, 0, rfl⟩
    case round =>
      obtain ⟨k, hk, rfl, HI⟩ := hrel
      have HW := Lib.hid (quiet_grew HI.out.2)
      by_cases hlt : k < xs.length
      · have hlt2 : k < ys.length := by have := HL.out; omega
        obtain rfl := HA.out (by omega)
        obtain rfl := HA2.out (by omega)
        obtain ⟨u1, hc1', hu1⟩ := HC.out k hlt
        obtain ⟨u2, hc2', hu2⟩ := HC2.out k hlt2
        have hc1 := HW.out.cell hc1'
        have hc2 := HW.out.cell hc2'
        obtain ⟨x, ex⟩ : ∃ x, xs.getD k [] = x := ⟨_, rfl⟩
        obtain ⟨y, ey⟩ : ∃ y, ys.getD k [] = y := ⟨_, rfl⟩
        rw [ex] at hu1
        rw [ey] at hu2
        have HK : Hid (∀ m, Calls Tryd.prog 63 #[u1, u2] (wr.drewN m) fun e w' => e = .returned (.bool (decide (x = y))) ∧ ∃ k, w' = (wr.drewN m).drewN k) := fun m => eqIntS_any u1 u2 x y _ (hu1.grew (HW.out.drewN m)) (hu2.grew (HW.out.drewN m))
        obtain ⟨a3, b3, o3, c3, rfl, _, _, _⟩ := hu1.shape
        obtain ⟨a4, b4, o4, c4, rfl, _, _, _⟩ := hu2.shape
        have HE := Lib.hid (And.intro ex ey)
        have r1 : (k : Int) < xs.length := by omega
        have r2 : (k : Int) < ys.length := by omega
        have r3 : (0 : Int) ≤ k := by omega
        clear ex ey hu1 hu2 hc1' hc2'
        by_cases hxy : x = y
        · have HK2 := HK.out
          have e : decide (x = y) = true := by simp [hxy]
          rw [e] at HK2
          have HK3 := Lib.hid HK2
          have HXY := Lib.hid hxy
          clear hxy HK2 HK e
          go_wp2
          go_quiet ((go_at_call 63; exact Calls.quiet_of (HK3.out _)))
          go_wp2
          go_roundw
          case rel => exact ⟨k + 1, by omega, by go_num, take_eq_snoc [] hlt hlt2 HI.out.1 (by rw [HE.out.1, HE.out.2, HXY.out]), quiet_step HI.out.2 _⟩
          case measure => simp [intOf]; omega
        · have HK2 := HK.out
          have e : decide (x = y) = false := by simp [hxy]
          rw [e] at HK2
          have HK3 := Lib.hid HK2
          have HXY := Lib.hid hxy
          clear hxy HK2 HK e
          go_wp2
          go_quiet ((go_at_call 63; exact Calls.quiet_of (HK3.out _)))
          go_wp2
          go_ret
          refine ⟨ret_bool ?_, quiet_step HI.out.2 _⟩
          have : xs ≠ ys := fun e => HXY.out (by rw [← HE.out.1, ← HE.out.2, e])
          simp [this]
      · go_wp2
        go_ret
        refine ⟨ret_bool ?_, HI.out.2⟩
        have := HI.out.1
        rw [List.take_of_length_le (by omega), List.take_of_length_le (by have := HL.out; omega)] at this
        simp [this]
  · have hn : ((xs.length : Int) != (ys.length : Int)) = true := by simp; omega
    have HL := Lib.hid hl
    clear hl
    go_enter Tryd.func37, Tryd.ntmps37
    go_wp2
    go_ret
    refine ⟨ret_bool ?_, 0, rfl⟩
    have : xs ≠ ys := fun e => HL.out (by rw [e])
    simp [this]
end Go.Proofs.YtekhjjcgkmnmlaaDoor
/- The contract of laws.equalInts. -/
namespace Go.Proofs.YtekhjjcgkmnmlaaDoor
open Go.RowKit

set_option maxRecDepth 100000 in
set_option maxHeartbeats 1000000 in
theorem equalInts_any (v1 v2 : Value) (xs ys : List Int) (w : World) (hv1 : IntsV w v1 xs) (hv2 : IntsV w v2 ys) :
    Calls Tryd.prog 44 #[v1, v2] w (QuietBool (decide (xs = ys)) w) := by
  obtain ⟨a, b, o, c, rfl, ⟨hlc, hcb⟩, ha, HC⟩ := hv1.shape
  obtain ⟨a2, b2, o2, c2, rfl, ⟨hlc2, hcb2⟩, ha2, HC2⟩ := hv2.shape
  have HA := Lib.hid ha
  have HA2 := Lib.hid ha2
  clear hv1 hv2 ha ha2
  by_cases hl : xs.length = ys.length
  · have hn : ((xs.length : Int) != (ys.length : Int)) = false := by simp [hl]
    have HL := Lib.hid hl
    clear hl
    go_enter Tryd.func44, Tryd.ntmps44
    go_wp2
    clear hn
    go_loopw [5] (fun i wr => ∃ k : Nat, k ≤ xs.length ∧ i = .int .i64 k ∧ Hid (xs.take k = ys.take k ∧ ∃ n, wr = w.drewN n)) (fun i _ => xs.length - (intOf i).toNat)
    case atStart => exact ⟨0, Nat.zero_le _, rfl, rfl, 0, rfl⟩
    case round =>
      obtain ⟨k, hk, rfl, HI⟩ := hrel
      have HW := Lib.hid (quiet_grew HI.out.2)
      by_cases hlt : k < xs.length
      · have hlt2 : k < ys.length := by have := HL.out; omega
        obtain rfl := HA.out (by omega)
        obtain rfl := HA2.out (by omega)
        have hc1 := HW.out.cell (HC.out k hlt)
        have hc2 := HW.out.cell (HC2.out k hlt2)
        obtain ⟨x, ex⟩ : ∃ x, xs.getD k 0 = x := ⟨_, rfl⟩
        obtain ⟨y, ey⟩ : ∃ y, ys.getD k 0 = y := ⟨_, rfl⟩
        rw [ex] at hc1
        rw [ey] at hc2
        have HE := Lib.hid (And.intro ex ey)
        have r1 : (k : Int) < xs.length := by omega
        have r2 : (k : Int) < ys.length := by omega
        have r3 : (0 : Int) ≤ k := by omega
        clear ex ey
        by_cases hxy : x = y
        · have ht : (x != y) = false := by simp [hxy]
          have HXY := Lib.hid hxy
          clear hxy
          go_wp2
          go_quiet (fail)
          go_wp2
          go_roundw
          case rel => exact ⟨k + 1, by omega, by go_num, take_eq_snoc 0 hlt hlt2 HI.out.1 (by rw [HE.out.1, HE.out.2, HXY.out]), quiet_step HI.out.2 _⟩
          case measure => simp [intOf]; omega
        · have ht : (x != y) = true := by simp [hxy]
          have HXY := Lib.hid hxy
          clear hxy
          go_wp2
          go_quiet (fail)
          go_wp2
          go_ret
          refine ⟨ret_bool ?_, quiet_step HI.out.2 _⟩
          have : xs ≠ ys := fun e => HXY.out (by rw [← HE.out.1, ← HE.out.2, e])
          simp [this]
      · go_wp2
        go_ret
        refine ⟨ret_bool ?_, HI.out.2⟩
        have := HI.out.1
        rw [List.take_of_length_le (by omega), List.take_of_length_le (by have := HL.out; omega)] at this
        simp [this]
  · have hn : ((xs.length : Int) != (ys.length : Int)) = true := by simp; omega
    have HL := Lib.hid hl
    clear hl
    go_enter Tryd.func44, Tryd.ntmps44
    go_wp2
    go_ret
    refine ⟨ret_bool ?_, 0, rfl⟩
    have : xs ≠ ys := fun e => HL.out (by rw [e])
    simp [this]

end Go.Proofs.YtekhjjcgkmnmlaaDoor
/- The contract of laws.isIn. -/
namespace Go.Proofs.YtekhjjcgkmnmlaaDoor
open Go.RowKit

set_option maxRecDepth 100000 in
set_option maxHeartbeats 1000000 in
theorem isIn_any (v : Value) (xs : List Int) (n : Int) (w : World) (hv : IntsV w v xs) :
    Calls Tryd.prog 33 #[v, .int .i64 n] w fun e w' => e = .returned (.bool (decide (n ∈ xs))) ∧ w = w' := by
  obtain ⟨a, b, o, c, rfl, ⟨hlc, hcb⟩, ha, HC⟩ := hv.shape
  have HA := Lib.hid ha
  clear hv ha
  go_enter Tryd.func33, Tryd.ntmps33
  go_wp2
  go_loop [5] (fun i => ∃ k : Nat, k ≤ xs.length ∧ i = .int .i64 k ∧ Hid (n ∉ xs.take k)) (fun i => xs.length - (intOf i).toNat)
  case atStart => exact ⟨0, Nat.zero_le _, rfl, by simp [Hid]⟩
  case round =>
    obtain ⟨k, hk, rfl, HI⟩ := hrel
    by_cases hlt : k < xs.length
    · obtain rfl := HA.out (by omega)
      have hc := HC.out k hlt
      obtain ⟨x, ex⟩ : ∃ x, xs.getD k 0 = x := ⟨_, rfl⟩
      rw [ex] at hc
      have hx : x = xs[k] := by rw [← ex]; simp [hlt]
      have HE := Lib.hid hx
      clear ex hx
      by_cases hxn : x = n
      · have ht : (x == n) = true := by simp [hxn]
        have HX := Lib.hid hxn
        clear hxn
        go_wp2
        go_ret
        refine ⟨ret_bool ?_, rfl⟩
        have : n ∈ xs := by rw [← HX.out, HE.out]; exact List.getElem_mem hlt
        simp [this]
      · have ht : (x == n) = false := by simp [hxn]
        have HX := Lib.hid hxn
        clear hxn
        go_wp2
        go_round
        case rel => exact ⟨k + 1, by omega, by go_num, by
          show n ∉ xs.take (k + 1)
          rw [List.take_succ_eq_append_getElem hlt, List.mem_append]
          rintro (h | h)
          · exact HI.out h
          · simp at h; exact HX.out (by rw [HE.out, h])⟩
        case measure => simp [intOf]; omega
    · go_wp2
      go_ret
      refine ⟨ret_bool ?_, rfl⟩
      have := HI.out
      rw [List.take_of_length_le (by omega)] at this
      simp [this]
end Go.Proofs.YtekhjjcgkmnmlaaDoor
/- The contracts of the draws that give one grid. -/
namespace Go.Proofs.YtekhjjcgkmnmlaaDoor
open Go.RowKit

/-- A drawn grid in new memory. -/
def DrawnGrid (w : World) (e : Ending) (w' : World) : Prop := ∃ v H, e = .returned v ∧ RowsO 27 3 w.heap.size w'.heap.size w' v H ∧ Drawn H ∧ Grew w w'
theorem SomePost.drawn {w0 w1 : World} {p : Nat} {e : Ending} {w' : World} (h : SomePost w0 w1 w0.heap.size p e w') (hs : w0.heap.size ≤ w1.heap.size) : DrawnGrid w0 e w' := by
  obtain ⟨v, H, q, he, hO, hd, hr, _, _⟩ := h
  exact ⟨v, H, he, hO.wide hs (Nat.le_refl _), hd, hr.grew⟩













set_option maxRecDepth 100000 in
set_option maxHeartbeats 1000000 in
theorem DrawAreasOf_any (v : Value) (bs : List Int) (w : World) (hv : NumsV .u8 w v bs) (hb : ∀ i, i < bs.length → 0 ≤ bs.getD i 0 ∧ bs.getD i 0 ≤ 255) :
    Calls Tryd.prog 14 #[v] w (DrawnGrid w) := by
  have HN := Lib.hid (newReader_any v bs w hv hb)
  clear hv hb
  go_enter Tryd.func14, Tryd.ntmps14
  go_wp2_with (fail)
  refine HN.out.mono ?_
  rintro e w1 ⟨rfl, hr⟩
  have HR := Lib.hid hr
  clear hr
  go_wp2_with (fail)
  refine (someGrid_any w w1 w.heap.size 0 HR.out (by omega)).mono ?_
  intro e w2 hs
  obtain ⟨v2, H, he, hO, hd, hg⟩ := hs.drawn HR.out.grew.size
  subst he
  have HF : Hid (DrawnGrid w (.returned v2) w2) := ⟨v2, H, rfl, hO, hd, hg⟩
  obtain ⟨a3, n3, c3, rfl⟩ : ∃ a n c, v2 = .slice a n c := by
    rcases hO.shape with ⟨rfl, _⟩ | ⟨g, c, rfl, _⟩ <;> exact ⟨_, _, _, rfl⟩
  clear hs hO hd hg
  go_wp2
  go_ret
  exact HF.out

set_option maxRecDepth 100000 in
set_option maxHeartbeats 1000000 in
theorem DrawBasinsOf_any (v : Value) (bs : List Int) (w : World) (hv : NumsV .u8 w v bs) (hb : ∀ i, i < bs.length → 0 ≤ bs.getD i 0 ∧ bs.getD i 0 ≤ 255) :
    Calls Tryd.prog 20 #[v] w (DrawnGrid w) := by
  have HN := Lib.hid (newReader_any v bs w hv hb)
  clear hv hb
  go_enter Tryd.func20, Tryd.ntmps20
  go_wp2_with (fail)
  refine HN.out.mono ?_
  rintro e w1 ⟨rfl, hr⟩
  have HR := Lib.hid hr
  clear hr
  go_wp2_with (fail)
  refine (someGrid_any w w1 w.heap.size 0 HR.out (by omega)).mono ?_
  intro e w2 hs
  obtain ⟨v2, H, he, hO, hd, hg⟩ := hs.drawn HR.out.grew.size
  subst he
  have HF : Hid (DrawnGrid w (.returned v2) w2) := ⟨v2, H, rfl, hO, hd, hg⟩
  obtain ⟨a3, n3, c3, rfl⟩ : ∃ a n c, v2 = .slice a n c := by
    rcases hO.shape with ⟨rfl, _⟩ | ⟨g, c, rfl, _⟩ <;> exact ⟨_, _, _, rfl⟩
  clear hs hO hd hg
  go_wp2
  go_ret
  exact HF.out

set_option maxRecDepth 100000 in
set_option maxHeartbeats 1000000 in
theorem DrawLongestOf_any (v : Value) (bs : List Int) (w : World) (hv : NumsV .u8 w v bs) (hb : ∀ i, i < bs.length → 0 ≤ bs.getD i 0 ∧ bs.getD i 0 ≤ 255) :
    Calls Tryd.prog 23 #[v] w (DrawnGrid w) := by
  have HN := Lib.hid (newReader_any v bs w hv hb)
  clear hv hb
  go_enter Tryd.func23, Tryd.ntmps23
  go_wp2_with (fail)
  refine HN.out.mono ?_
  rintro e w1 ⟨rfl, hr⟩
  have HR := Lib.hid hr
  clear hr
  go_wp2_with (fail)
  refine (someGrid_any w w1 w.heap.size 0 HR.out (by omega)).mono ?_
  intro e w2 hs
  obtain ⟨v2, H, he, hO, hd, hg⟩ := hs.drawn HR.out.grew.size
  subst he
  have HF : Hid (DrawnGrid w (.returned v2) w2) := ⟨v2, H, rfl, hO, hd, hg⟩
  obtain ⟨a3, n3, c3, rfl⟩ : ∃ a n c, v2 = .slice a n c := by
    rcases hO.shape with ⟨rfl, _⟩ | ⟨g, c, rfl, _⟩ <;> exact ⟨_, _, _, rfl⟩
  clear hs hO hd hg
  go_wp2
  go_ret
  exact HF.out

set_option maxRecDepth 100000 in
set_option maxHeartbeats 1000000 in
theorem DrawStreamOrders_any (v : Value) (bs : List Int) (w : World) (hv : NumsV .u8 w v bs) (hb : ∀ i, i < bs.length → 0 ≤ bs.getD i 0 ∧ bs.getD i 0 ≤ 255) :
    Calls Tryd.prog 26 #[v] w (DrawnGrid w) := by
  have HN := Lib.hid (newReader_any v bs w hv hb)
  clear hv hb
  go_enter Tryd.func26, Tryd.ntmps26
  go_wp2_with (fail)
  refine HN.out.mono ?_
  rintro e w1 ⟨rfl, hr⟩
  have HR := Lib.hid hr
  clear hr
  go_wp2_with (fail)
  refine (someGrid_any w w1 w.heap.size 0 HR.out (by omega)).mono ?_
  intro e w2 hs
  obtain ⟨v2, H, he, hO, hd, hg⟩ := hs.drawn HR.out.grew.size
  subst he
  have HF : Hid (DrawnGrid w (.returned v2) w2) := ⟨v2, H, rfl, hO, hd, hg⟩
  obtain ⟨a3, n3, c3, rfl⟩ : ∃ a n c, v2 = .slice a n c := by
    rcases hO.shape with ⟨rfl, _⟩ | ⟨g, c, rfl, _⟩ <;> exact ⟨_, _, _, rfl⟩
  clear hs hO hd hg
  go_wp2
  go_ret
  exact HF.out

set_option maxRecDepth 100000 in
set_option maxHeartbeats 1000000 in
theorem DrawSpringsOf_any (v : Value) (bs : List Int) (w : World) (hv : NumsV .u8 w v bs) (hb : ∀ i, i < bs.length → 0 ≤ bs.getD i 0 ∧ bs.getD i 0 ≤ 255) :
    Calls Tryd.prog 31 #[v] w (DrawnGrid w) := by
  have HN := Lib.hid (newReader_any v bs w hv hb)
  clear hv hb
  go_enter Tryd.func31, Tryd.ntmps31
  go_wp2_with (fail)
  refine HN.out.mono ?_
  rintro e w1 ⟨rfl, hr⟩
  have HR := Lib.hid hr
  clear hr
  go_wp2_with (fail)
  refine (someGrid_any w w1 w.heap.size 0 HR.out (by omega)).mono ?_
  intro e w2 hs
  obtain ⟨v2, H, he, hO, hd, hg⟩ := hs.drawn HR.out.grew.size
  subst he
  have HF : Hid (DrawnGrid w (.returned v2) w2) := ⟨v2, H, rfl, hO, hd, hg⟩
  obtain ⟨a3, n3, c3, rfl⟩ : ∃ a n c, v2 = .slice a n c := by
    rcases hO.shape with ⟨rfl, _⟩ | ⟨g, c, rfl, _⟩ <;> exact ⟨_, _, _, rfl⟩
  clear hs hO hd hg
  go_wp2
  go_ret
  exact HF.out
end Go.Proofs.YtekhjjcgkmnmlaaDoor
/- The contract of laws.equalRows. -/
namespace Go.Proofs.YtekhjjcgkmnmlaaDoor
open Go.RowKit

set_option maxRecDepth 100000 in
set_option maxHeartbeats 1000000 in
theorem equalRows_any (v1 v2 : Value) (xs ys : List (List Int)) (w : World) (hv1 : RowsV w v1 xs) (hv2 : RowsV w v2 ys) :
    Calls Tryd.prog 16 #[v1, v2] w (QuietBool (decide (xs = ys)) w) := by
  obtain ⟨a, b, o, c, rfl, ⟨hlc, hcb⟩, ha, HC⟩ := hv1.shape
  obtain ⟨a2, b2, o2, c2, rfl, ⟨hlc2, hcb2⟩, ha2, HC2⟩ := hv2.shape
  have HA := Lib.hid ha
  have HA2 := Lib.hid ha2
  clear hv1 hv2 ha ha2
  by_cases hl : xs.length = ys.length
  · have hn : ((xs.length : Int) != (ys.length : Int)) = false := by simp [hl]
    have HL := Lib.hid hl
    clear hl
    go_enter Tryd.func16, Tryd.ntmps16
    go_wp2
    clear hn
    go_loopw [5] (fun i wr => ∃ k : Nat, k ≤ xs.length ∧ i = .int .i64 k ∧ Hid (xs.take k = ys.take k ∧ ∃ n, wr = w.drewN n)) (fun i _ => xs.length - (intOf i).toNat)
    case atStart => exact ⟨0, Nat.zero_le _, rfl, rfl, 0, rfl⟩
    case round =>
      obtain ⟨k, hk, rfl, HI⟩ := hrel
      have HW := Lib.hid (quiet_grew HI.out.2)
      by_cases hlt : k < xs.length
      · have hlt2 : k < ys.length := by have := HL.out; omega
        obtain rfl := HA.out (by omega)
        obtain rfl := HA2.out (by omega)
        obtain ⟨u1, hc1', hu1⟩ := HC.out k hlt
        obtain ⟨u2, hc2', hu2⟩ := HC2.out k hlt2
        have hc1 := HW.out.cell hc1'
        have hc2 := HW.out.cell hc2'
        obtain ⟨x, ex⟩ : ∃ x, xs.getD k [] = x := ⟨_, rfl⟩
        obtain ⟨y, ey⟩ : ∃ y, ys.getD k [] = y := ⟨_, rfl⟩
        rw [ex] at hu1
        rw [ey] at hu2
        have HK : Hid (∀ m, Calls Tryd.prog 44 #[u1, u2] (wr.drewN m) fun e w' => e = .returned (.bool (decide (x = y))) ∧ ∃ k, w' = (wr.drewN m).drewN k) := fun m => equalInts_any u1 u2 x y _ (hu1.grew (HW.out.drewN m)) (hu2.grew (HW.out.drewN m))
        obtain ⟨a3, b3, o3, c3, rfl, _, _, _⟩ := hu1.shape
        obtain ⟨a4, b4, o4, c4, rfl, _, _, _⟩ := hu2.shape
        have HE := Lib.hid (And.intro ex ey)
        have r1 : (k : Int) < xs.length := by omega
        have r2 : (k : Int) < ys.length := by omega
        have r3 : (0 : Int) ≤ k := by omega
        clear ex ey hu1 hu2 hc1' hc2'
        by_cases hxy : x = y
        · have HK2 := HK.out
          have e : decide (x = y) = true := by simp [hxy]
          rw [e] at HK2
          have HK3 := Lib.hid HK2
          have HXY := Lib.hid hxy
          clear hxy HK2 HK e
          go_wp2
          go_quiet ((go_at_call 44; exact Calls.quiet_of (HK3.out _)))
          go_wp2
          go_roundw
          case rel => exact ⟨k + 1, by omega, by go_num, take_eq_snoc [] hlt hlt2 HI.out.1 (by rw [HE.out.1, HE.out.2, HXY.out]), quiet_step HI.out.2 _⟩
          case measure => simp [intOf]; omega
        · have HK2 := HK.out
          have e : decide (x = y) = false := by simp [hxy]
          rw [e] at HK2
          have HK3 := Lib.hid HK2
          have HXY := Lib.hid hxy
          clear hxy HK2 HK e
          go_wp2
          go_quiet ((go_at_call 44; exact Calls.quiet_of (HK3.out _)))
          go_wp2
          go_ret
          refine ⟨ret_bool ?_, quiet_step HI.out.2 _⟩
          have : xs ≠ ys := fun e => HXY.out (by rw [← HE.out.1, ← HE.out.2, e])
          simp [this]
      · go_wp2
        go_ret
        refine ⟨ret_bool ?_, HI.out.2⟩
        have := HI.out.1
        rw [List.take_of_length_le (by omega), List.take_of_length_le (by have := HL.out; omega)] at this
        simp [this]
  · have hn : ((xs.length : Int) != (ys.length : Int)) = true := by simp; omega
    have HL := Lib.hid hl
    clear hl
    go_enter Tryd.func16, Tryd.ntmps16
    go_wp2
    go_ret
    refine ⟨ret_bool ?_, 0, rfl⟩
    have : xs ≠ ys := fun e => HL.out (by rw [e])
    simp [this]
end Go.Proofs.YtekhjjcgkmnmlaaDoor
/- What the laws of the streams share. -/
namespace Go.Proofs.YtekhjjcgkmnmlaaDoor
open Go.RowKit

theorem toldX_len {φ : List Int → Nat → Int} {h : List (List Int)} (hg : vGrid h = true) : (toldX φ h).length = h.length ∧ ∀ r, r < (toldX φ h).length → ((toldX φ h).getD r []).length = (h.getD 0 []).length := by
  have e : toldX φ h = shapeL (toldU (φ (tgtsL h)) (h.length * (h.getD 0 []).length)) (h.getD 0 []).length h.length := by unfold toldX; rw [if_pos hg]
  rw [e, shapeL_len]
  exact ⟨rfl, fun r hr => shapeL_row _ _ _ _ (toldU_len _ _) hr⟩
theorem flowL_rows {h : List (List Int)} (hg : vGrid h = true) : (flowL h).flatten = tgtsL h ∧ (flowL h).length = h.length ∧ ∀ r, r < (flowL h).length → ((flowL h).getD r []).length = (h.getD 0 []).length := by
  have hl : (tgtsL h).length = h.length * (h.getD 0 []).length := by rw [tgtsL, tgtsU_len]
  have e : flowL h = shapeL (tgtsL h) (h.getD 0 []).length h.length := by rw [flowL, if_pos hg]
  rw [e, shapeL_len]
  exact ⟨shapeL_flat _ _ _ hl, rfl, fun r hr => shapeL_row _ _ _ _ hl hr⟩
theorem rowOf_told {φ : List Int → Nat → Int} {h : List (List Int)} (hg : vGrid h = true) (v : Value) (W : World) (hv : RowsV W v (toldX φ h)) :
    Calls Tryd.prog 18 #[v] W (FlatPost W (toldU (φ (tgtsL h)) (h.length * (h.getD 0 []).length))) := by
  have G := Grid.of hg
  have hl := toldX_len (φ := φ) hg
  have h0 := rowOf_any v (toldX φ h) W hv (by rw [hl.1]; have := G.n5; omega) (fun r hr => by rw [hl.2 r hr]; have := G.m1; have := G.m5; omega)
  rw [(toldX_yes hg).1] at h0
  exact h0
theorem rowOf_flow {h : List (List Int)} (hg : vGrid h = true) (v : Value) (W : World) (hv : RowsV W v (flowL h)) :
    Calls Tryd.prog 18 #[v] W (FlatPost W (tgtsL h)) := by
  have G := Grid.of hg
  have hl := flowL_rows hg
  have h0 := rowOf_any v (flowL h) W hv (by rw [hl.2.1]; have := G.n5; omega) (fun r hr => by rw [hl.2.2 r hr]; have := G.m1; have := G.m5; omega)
  rw [hl.1] at h0
  exact h0
end Go.Proofs.YtekhjjcgkmnmlaaDoor
/- The law FnBasinsAreOutlets returns true. -/
namespace Go.Proofs.YtekhjjcgkmnmlaaDoor
open Go.RowKit

theorem nodup_len {N : Nat} (l : List Int) (hd : l.Nodup) (P : Nat → Bool) (h : ∀ z, z ∈ l ↔ ∃ j : Nat, j < N ∧ z = (j : Int) ∧ P j = true) : l.length = ((List.range N).map fun j => bitN (P j)).sum := by
  have key : ∀ (N : Nat) (l : List Int), l.Nodup → (∀ z, z ∈ l ↔ ∃ j : Nat, j < N ∧ z = (j : Int) ∧ P j = true) → l.length = ((List.range N).map fun j => bitN (P j)).sum := by
    intro N
    induction N with
    | zero =>
      intro l _ h
      cases l with
      | nil => rfl
      | cons a l => obtain ⟨j, hj, _⟩ := (h a).1 (by simp); omega
    | succ N ih =>
      intro l hd h
      rw [List.range_succ, List.map_append, List.sum_append]
      cases hP : P N with
      | false =>
        have h2 := ih l hd fun z => ⟨fun hz => by
          obtain ⟨j, h1, h2, h3⟩ := (h z).1 hz
          refine ⟨j, ?_, h2, h3⟩
          by_cases e : j = N
          · subst e; rw [hP] at h3; cases h3
          · omega, fun ⟨j, h1, h2, h3⟩ => (h z).2 ⟨j, by omega, h2, h3⟩⟩
        rw [h2]; simp [bitN, hP]
      | true =>
        have hm : (N : Int) ∈ l := (h N).2 ⟨N, by omega, rfl, hP⟩
        have h2 := ih (l.erase (N : Int)) (hd.erase _) fun z => by
          rw [hd.mem_erase_iff]
          constructor
          · rintro ⟨hne, hz⟩
            obtain ⟨j, h1, h2, h3⟩ := (h z).1 hz
            exact ⟨j, by have : j ≠ N := fun e => hne (by rw [h2, e]); omega, h2, h3⟩
          · rintro ⟨j, h1, h2, h3⟩
            exact ⟨by omega, (h z).2 ⟨j, by omega, h2, h3⟩⟩
        have h3 := List.length_erase_of_mem hm
        have h4 := List.length_pos_of_mem hm
        rw [h2] at h3
        rw [h3]
        simp [bitN, hP]
        omega
  exact key N l hd h

set_option maxRecDepth 100000 in
set_option maxHeartbeats 8000000 in
theorem FnBasinsAreOutlets_any (v : Value) (bs : List Int) (w : World) (hv : NumsV .u8 w v bs) (hb : ∀ i, i < bs.length → 0 ≤ bs.getD i 0 ∧ bs.getD i 0 ≤ 255) (hS : Steps w) :
    Calls Tryd.prog 8 #[v] w fun e w' => e = .returned (.bool true) ∧ Grew w w' := by
  have HD := Lib.hid (DrawBasinsOf_any v bs w hv hb)
  have HS := Lib.hid hS
  obtain ⟨a, b, o, c, rfl, ⟨hlc, hcb⟩, _, _⟩ := hv.shape
  clear hv hb hS
  by_cases hbig : 1048576 < bs.length
  · go_enter Tryd.func8, Tryd.ntmps8
    go_wp2
    go_ret
    exact ⟨rfl, Grew.refl _⟩
  · go_enter Tryd.func8, Tryd.ntmps8
    go_wp2_with (fail)
    refine HD.out.mono ?_
    rintro e w1 ⟨v1, H, rfl, hO, hd, hg1⟩
    have HV := Lib.hid (And.intro hO.toV hg1)
    obtain ⟨a1, c1, rfl⟩ := hO.sh
    clear hO hd hg1 HD
    obtain ⟨M, eM⟩ : ∃ M, toldX phiB H = M := ⟨_, rfl⟩
    have HM := Lib.hid eM
    go_wp2_with (fail)
    refine (BasinsOf_any _ H _ HV.out.1 (HS.out.grew HV.out.2)).mono ?_
    rw [eM]
    rintro e w2 ⟨v2, rfl, hO2, hg2⟩
    obtain ⟨a2, c2, rfl⟩ := hO2.sh
    have H2 := Lib.hid (And.intro hO2.toV hg2)
    clear hO2 hg2
    go_wp2_with (fail)
    refine (SBasinsOf_any _ H _ (HV.out.1.grew H2.out.2)).mono ?_
    rw [eM]
    rintro e w3 ⟨v3, rfl, hO3, hg3⟩
    obtain ⟨a3, c3, rfl⟩ := hO3.sh
    have H3 : Hid (RowsV w3 (.slice a2 M.length c2) M ∧ RowsV w3 (.slice a3 M.length c3) M ∧ RowsV w3 (.slice a1 H.length c1) H ∧ Grew w w3) :=
      Lib.hid ⟨H2.out.1.grew hg3, hO3.toV, HV.out.1.grew (H2.out.2.trans hg3), HV.out.2.trans (H2.out.2.trans hg3)⟩
    clear hO3 hg3 H2 HV eM
    go_wp2_with (fail)
    refine (equalRows_any _ _ M M _ H3.out.1 H3.out.2.1).mono ?_
    rw [decide_eq_true (rfl : M = M)]
    rintro e w4 ⟨rfl, hq4⟩
    have hg4 := quiet_grew hq4
    have H4 : Hid (RowsV w4 (.slice a2 M.length c2) M ∧ RowsV w4 (.slice a1 H.length c1) H ∧ Grew w w4) :=
      Lib.hid ⟨H3.out.1.grew hg4, H3.out.2.2.1.grew hg4, H3.out.2.2.2.trans hg4⟩
    clear hq4 hg4 H3
    have hB : ∀ W, Grew w4 W → Calls Tryd.prog 21 #[.slice a1 H.length c1] W (NewRows W M) := fun W hW => by
      have := BasinsOf_any _ H W (H4.out.2.1.grew hW) (HS.out.grew (H4.out.2.2.trans hW))
      rwa [HM.out] at this
    have hF : ∀ W, Grew w4 W → Calls Tryd.prog 19 #[.slice a1 H.length c1] W (NewRows W (flowL H)) := fun W hW => FlowOf_any _ H W (H4.out.2.1.grew hW) (HS.out.grew (H4.out.2.2.trans hW))
    obtain ⟨N, ts, hrun, hbL, hfL, hN25⟩ : ∃ (N : Nat) (ts : List Int), Runs N ts ∧ (∀ v W, RowsV W v M → Calls Tryd.prog 18 #[v] W (FlatPost W (toldU (phiB ts) N))) ∧ (∀ v W, RowsV W v (flowL H) → Calls Tryd.prog 18 #[v] W (FlatPost W ts)) ∧ N ≤ 25 := by
      cases hvg : vGrid H with
      | false =>
        have eM0 : M = [] := by rw [← HM.out, toldX_no hvg]
        refine ⟨0, [], ⟨rfl, fun i hi => by omega, fun _ => 0, fun i hi => by omega, fun i _ hi => by omega⟩, fun v W hv => ?_, fun v W hv => ?_, by decide⟩
        · rw [eM0] at hv
          exact rowOf_any v [] W hv (by simp) (fun r hr => by simp at hr)
        · rw [flowL_no hvg] at hv
          exact rowOf_any v [] W hv (by simp) (fun r hr => by simp at hr)
      | true =>
        refine ⟨_, _, tgts_run hvg, fun v W hv => ?_, fun v W hv => rowOf_flow hvg v W hv, Nat.mul_le_mul (Grid.of hvg).n5 (Grid.of hvg).m5⟩
        rw [← HM.out] at hv
        exact rowOf_told hvg v W hv
    obtain ⟨FL, eFL⟩ : ∃ FL, flowL H = FL := ⟨_, rfl⟩
    rw [eFL] at hF hfL
    have HU := Lib.hid (toldU_len (phiB ts) N)
    obtain ⟨us, eus⟩ : ∃ us, toldU (phiB ts) N = us := ⟨_, rfl⟩
    rw [eus] at hbL HU
    have HE := Lib.hid eus
    have HR := Lib.hid hrun
    have HTL := Lib.hid hrun.len
    have HIB := Lib.hid hB
    have HIF := Lib.hid hF
    have HQB := Lib.hid hbL
    have HQF := Lib.hid hfL
    clear hB hF hrun hbL hfL eFL eus HM
    go_wp2_with (fail)
    refine (HIB.out _ (Grew.refl _)).mono ?_
    rintro e y1 ⟨vq, rfl, hOq, hgq⟩
    obtain ⟨aq, cq, rfl⟩ := hOq.sh
    have HY1 := Lib.hid (And.intro hOq.toV hgq)
    clear hOq hgq
    go_wp2_with (fail)
    refine (HQB.out _ _ HY1.out.1).mono ?_
    rintro e x1 ⟨gM, cM, rfl, hOq, hgq⟩
    rw [HU.out] at hOq ⊢
    have HX1 := Lib.hid (And.intro hOq.toV (HY1.out.2.trans hgq))
    clear hOq hgq
    go_wp2_with (fail)
    refine (HIF.out _ HX1.out.2).mono ?_
    rintro e y2 ⟨vq, rfl, hOq, hgq⟩
    obtain ⟨aq2, cq2, rfl⟩ := hOq.sh
    have HY2 := Lib.hid (And.intro hOq.toV hgq)
    clear hOq hgq
    go_wp2_with (fail)
    refine (HQF.out _ _ HY2.out.1).mono ?_
    rintro e x2 ⟨gF, cF, rfl, hOq, hgq⟩
    rw [HTL.out] at hOq ⊢
    have HX2 := Lib.hid (And.intro (NumsV.grew HX1.out.1 (HY2.out.2.trans hgq)) (And.intro hOq.toV (HX1.out.2.trans (HY2.out.2.trans hgq))))
    clear hOq hgq
    have HB : Hid (∀ j, j < N → us.getD j 0 = (lastL ts j : Int)) := Lib.hid fun j hj => by rw [← HE.out, toldU_at _ _ _ hj]; rfl
    have H3 : Hid (IntsO 3 x2.heap.size (x2.alloc (.cells #[] 3)).heap.size (x2.alloc (.cells #[] 3)) (.slice (some ⟨x2.heap.size, 0, none⟩) 0 0) [] ∧ Grew x2 (x2.alloc (.cells #[] 3))) :=
      Lib.hid ⟨by simpa using IntsO.lit 3 x2.heap.size x2 [] #[] rfl (Nat.le_refl _) (by decide), (Grew.refl x2).alloc _⟩
    go_wp2
    go_loopw [6, 7, 8] (fun lv nv iv wr => ∃ (I n : Nat) (sa : Option Addr) (sc : Nat) (L : List Int), I ≤ N ∧ iv = .int .i64 (I : Int) ∧ nv = .int .i64 (n : Int) ∧ n ≤ I ∧ lv = .slice sa L.length sc ∧ L.length ≤ I ∧ Hid (IntsO 3 x2.heap.size wr.heap.size wr (.slice sa L.length sc) L ∧ L.Nodup ∧ (∀ z, z ∈ L ↔ ∃ j : Nat, j < I ∧ z = (lastL ts j : Int)) ∧ n = ((List.range I).map fun e => bitN (ts.getD e 0 == -1)).sum ∧ Grew x2 wr)) (fun _ _ iv _ => N - (intOf iv).toNat)
    case atStart => exact ⟨0, 0, _, _, [], Nat.zero_le _, rfl, rfl, Nat.le_refl _, rfl, Nat.le_refl _, H3.out.1, List.nodup_nil, fun z => ⟨fun h => (by cases h), fun ⟨j, h, _⟩ => absurd h (Nat.not_lt_zero j)⟩, rfl, H3.out.2⟩
    case round =>
      obtain ⟨I, n, sa, sc, L, hI, rfl, rfl, hnI, rfl, hlI, HI⟩ := hrel
      by_cases hlt : I < N
      · have hII : (I : Int) < (N : Int) := by omega
        have hG := HI.out.2.2.2.2
        have hcM := hG.cell (NumsV.at HX2.out.1 I (by rw [HU.out]; exact hlt))
        have hcF := hG.cell (NumsV.at HX2.out.2.1 I (by rw [HTL.out]; exact hlt))
        rw [HB.out I hlt] at hcM
        have HN1 : Hid (((List.range (I + 1)).map fun e => bitN (ts.getD e 0 == -1)).sum = n + bitN (ts.getD I 0 == -1)) := Lib.hid (by rw [List.range_succ, List.map_append, List.sum_append, HI.out.2.2.2.1]; simp)
        have HZ : Hid (∀ z, (∃ j : Nat, j < I + 1 ∧ z = (lastL ts j : Int)) ↔ (z ∈ L ∨ z = (lastL ts I : Int))) := Lib.hid fun z => by
          rw [HI.out.2.2.1 z]
          constructor
          · rintro ⟨j, hj, e⟩
            by_cases ej : j = I
            · subst ej; exact .inr e
            · exact .inl ⟨j, by omega, e⟩
          · rintro (⟨j, hj, e⟩ | e)
            · exact ⟨j, by omega, e⟩
            · exact ⟨I, by omega, e⟩
        obtain ⟨y, ey⟩ : ∃ y : Int, (lastL ts I : Int) = y := ⟨_, rfl⟩
        rw [ey] at hcM HZ
        obtain ⟨t, eT⟩ : ∃ t, ts.getD I 0 = t := ⟨_, rfl⟩
        rw [eT] at hcF HN1
        have HIN := Lib.hid (isIn_any _ L y wr HI.out.1.toV)
        have HTT := Lib.hid eT
        clear ey eT hG
        by_cases hin : y ∈ L
        · have HD2 : Hid (decide (y ∈ L) = true) := Lib.hid (decide_eq_true hin)
          have HZ2 : Hid (∀ z, z ∈ L ↔ ∃ j : Nat, j < I + 1 ∧ z = (lastL ts j : Int)) := Lib.hid fun z => by
            rw [HZ.out z]
            exact ⟨fun h => .inl h, fun h => h.elim id fun e => by rw [e]; exact hin⟩
          clear hin
          by_cases e : t = -1
          · subst e
            have HN2 : Hid (n + 1 = ((List.range (I + 1)).map fun e => bitN (ts.getD e 0 == -1)).sum) := Lib.hid (by rw [HN1.out]; rfl)
            clear HN1
            go_wp2_with (fail)
            refine HIN.out.mono ?_
            rw [HD2.out]
            rintro e w9 ⟨rfl, rfl⟩
            go_wp2
            go_roundw
            case rel => exact ⟨I + 1, n + 1, sa, sc, L, by omega, by go_num, by go_num, by omega, rfl, by omega, HI.out.1, HI.out.2.1, HZ2.out, HN2.out, HI.out.2.2.2.2⟩
            case measure => simp [intOf]; omega
          · have hbe : (t == (-1 : Int)) = false := beq_eq_false_iff_ne.2 e
            have HN2 : Hid (n = ((List.range (I + 1)).map fun e => bitN (ts.getD e 0 == -1)).sum) := Lib.hid (by rw [HN1.out, hbe]; rfl)
            clear HN1
            go_wp2_with (fail)
            refine HIN.out.mono ?_
            rw [HD2.out]
            rintro e w9 ⟨rfl, rfl⟩
            go_wp2
            go_roundw
            case rel => exact ⟨I + 1, n, sa, sc, L, by omega, by go_num, rfl, by omega, rfl, by omega, HI.out.1, HI.out.2.1, HZ2.out, HN2.out, HI.out.2.2.2.2⟩
            case measure => simp [intOf]; omega
        · have HD2 : Hid (decide (y ∈ L) = false) := Lib.hid (decide_eq_false hin)
          have HZ2 : Hid ((∀ z, z ∈ L ++ [y] ↔ ∃ j : Nat, j < I + 1 ∧ z = (lastL ts j : Int)) ∧ (L ++ [y]).Nodup) := Lib.hid ⟨fun z => by
            rw [HZ.out z, List.mem_append, List.mem_singleton], by
            rw [List.nodup_append]
            exact ⟨HI.out.2.1, by simp, fun a ha b hb e => by simp only [List.mem_singleton] at hb; subst hb; subst e; exact hin ha⟩⟩
          clear hin
          have HLL : Hid ((L ++ [y]).length = L.length + 1) := Lib.hid (by simp)
          have hsz := HI.out.2.2.2.2.size
          obtain ⟨q, eq⟩ : ∃ q, L.length = q := ⟨_, rfl⟩
          have HQ := Lib.hid eq
          have HO := Lib.hid HI.out.1
          have HGr := Lib.hid HI.out.2.2.2.2
          rw [eq] at HO HLL HIN hlI ⊢
          clear HI eq
          by_cases e : t = -1
          · subst e
            have HN2 : Hid (n + 1 = ((List.range (I + 1)).map fun e => bitN (ts.getD e 0 == -1)).sum) := Lib.hid (by rw [HN1.out]; rfl)
            clear HN1
            go_wp2_with (fail)
            refine HIN.out.mono ?_
            rw [HD2.out]
            rintro e w9 ⟨rfl, rfl⟩
            have HCF := Lib.hid (NumsV.at HX2.out.2.1 I (by rw [HTL.out]; exact hlt))
            go_wp2_with (at_builtin; refine wpList_append_int rfl (.tmp 40) (.tmp 45) 27 rfl Tryd.underlying27 Tryd.infoI rfl rfl rfl HO.out (by rw [HQ.out]; omega) hsz ?_; intro g7 c7 w7 hO7 hW7 hS7; rw [HQ.out] at hO7 ⊢; have HO7 := Lib.hid hO7; have HG7 := Lib.hid (Within.grew HGr.out hW7 (Nat.le_refl _)); clear hO7 hW7 hS7; have hcF7 := HG7.out.cell HCF.out; rw [HTT.out] at hcF7; clear hcM hcF)
            go_wp2
            go_roundw
            case rel => exact ⟨I + 1, n + 1, some ⟨g7, 0, none⟩, c7, L ++ [y], by omega, by go_num, by go_num, by omega, by rw [HLL.out], by rw [HLL.out]; omega, by rw [HLL.out]; exact HO7.out, HZ2.out.2, HZ2.out.1, HN2.out, HG7.out⟩
            case measure => simp [intOf]; omega
          · have hbe : (t == (-1 : Int)) = false := beq_eq_false_iff_ne.2 e
            have HN2 : Hid (n = ((List.range (I + 1)).map fun e => bitN (ts.getD e 0 == -1)).sum) := Lib.hid (by rw [HN1.out, hbe]; rfl)
            clear HN1
            go_wp2_with (fail)
            refine HIN.out.mono ?_
            rw [HD2.out]
            rintro e w9 ⟨rfl, rfl⟩
            have HCF := Lib.hid (NumsV.at HX2.out.2.1 I (by rw [HTL.out]; exact hlt))
            go_wp2_with (at_builtin; refine wpList_append_int rfl (.tmp 40) (.tmp 45) 27 rfl Tryd.underlying27 Tryd.infoI rfl rfl rfl HO.out (by rw [HQ.out]; omega) hsz ?_; intro g7 c7 w7 hO7 hW7 hS7; rw [HQ.out] at hO7 ⊢; have HO7 := Lib.hid hO7; have HG7 := Lib.hid (Within.grew HGr.out hW7 (Nat.le_refl _)); clear hO7 hW7 hS7; have hcF7 := HG7.out.cell HCF.out; rw [HTT.out] at hcF7; clear hcM hcF)
            go_wp2
            go_roundw
            case rel => exact ⟨I + 1, n, some ⟨g7, 0, none⟩, c7, L ++ [y], by omega, by go_num, rfl, by omega, by rw [HLL.out], by rw [HLL.out]; omega, by rw [HLL.out]; exact HO7.out, HZ2.out.2, HZ2.out.1, HN2.out, HG7.out⟩
            case measure => simp [intOf]; omega
      · obtain rfl : I = N := by omega
        have hln : L.length = n := by
          rw [HI.out.2.2.2.1]
          refine nodup_len L HI.out.2.1 _ fun z => ?_
          rw [HI.out.2.2.1 z]
          constructor
          · rintro ⟨j, hj, e⟩
            have := last_end HR.out j hj
            exact ⟨lastL ts j, this.1, e, by rw [this.2]; rfl⟩
          · rintro ⟨j, hj, e, hp⟩
            exact ⟨j, hj, by rw [(way_end (by simpa using hp)).2.1]; exact e⟩
        have HG := Lib.hid (HX2.out.2.2.trans HI.out.2.2.2.2)
        have HLN := Lib.hid hln
        clear hln HI
        go_wp2
        go_ret
        exact ⟨ret_bool (by rw [HLN.out]; simp), H4.out.2.2.trans HG.out⟩
end Go.Proofs.YtekhjjcgkmnmlaaDoor
namespace Go.Proofs.YtekhjjcgkmnmlaaDoor.pBasinsAreOutlets
open Go.RowKit Go.ChangeShapes Go.WideShapes Go.ChangeAt

set_option maxRecDepth 100000 in
theorem lifted (os : Os) (started : os.Started) (H : Type) (enc : TypeId × Value → H) :
    ReturnsInHanded {} Tryd.checked os 8 .any (fun w args => (Rows.fnBasinsAreOutletsSpec.pre enc Tryd.prog Tryd.f8 [] false w args ∧ laidMetH Tryd.prog laid1 w) ∧ sizedMet enc Tryd.prog Tryd.f8 (OpenSpec.ofChange Rows.fnBasinsAreOutletsSpec) false w args)
      (Rows.fnBasinsAreOutletsSpec.post enc Tryd.prog Tryd.f8 false true false false) := by
  refine returnsInHanded_of_change_and (C := Tryd.checked) (X := fun w _ => laidMetH Tryd.prog laid1 w) (fun _ _ _ hh h => h.of_heap hh) Tryd.own started (by kernel_rfl) Tryd.func8
    (ChangeSpec.witness_shaped (enc := enc) (C := Tryd.checked) (os := os) (X := fun w _ => laidMetH Tryd.prog laid1 w) false (World.doorLaid Tryd.prog 400 os) #[.slice none 0 0] 8 rfl (World.shaped_of_RefB (by kernel_rfl) (by kernel_rfl)) (by kernel_rfl) (by kernel_rfl) (by kernel_rfl) (door_met os _)) ?_
  intro W base args ds gs before hval0 hW _ _ hL _
  have hval : ∀ (j : Nat) t v, Tryd.f8.params[j]? = some t → args[j]? = some v → Value.okWide Tryd.prog W .any base t v := hval0
  have hW' := hW
  obtain ⟨p, q, hA0, hV, rfl, _, _⟩ := hW
  have hA : DataW.TrodAll enc Tryd.prog W 0 (fun _ => true) true Tryd.f8.params.toList args.toList ds p := hA0
  rw [Tryd.params8] at hA hval
  obtain ⟨v0, d0, rfl, rfl, h0⟩ := trodAll_one hA
  have hV' := hV
  obtain ⟨_, _, _, _, dv, _, rfl, _⟩ := trodVars_one hV
  obtain ⟨a0, len0, cap0, rfl⟩ := okWide_slice Tryd.underlying22 (hval 0 22 v0 rfl rfl)
  have k0 := h0
  have lt0 : ∀ x ∈ p, x.block < W.heap.size := by obtain ⟨m, hm⟩ := k0; exact DataW.trod_lt m _ _ _ hm
  obtain ⟨bs0, hn0, hb0⟩ := bytes_came h0
  have HS := steps_of_laid hL
  clear hA0 hval0
  refine (FnBasinsAreOutlets_any _ bs0 W hn0 hb0 HS).mono fun e W' ⟨he, bel⟩ => ?_
  subst he
  exact ⟨_, rfl, _, _, _, [], _, q, hW', trodAll_mk1 (shut_bool Tryd.underlying4 _), (trodAll_mk1 (Below.trod Tryd.laidOut (by kernel_rfl) (of_decide_eq_true (by kernel_rfl)) k0 bel lt0)), Below.trodVars Tryd.laidOut bel (by kernel_rfl) hV', Below.frame bel _, fun h => by cases h⟩

theorem row_proved : Rows.FnBasinsAreOutletsSaid :=
  OpenClaim.holds_of_wide 8 Tryd.f8 rfl rfl rfl rfl rfl rfl rfl ⟨rfl, rfl, rfl, rfl, rfl⟩ rfl rfl rfl rfl rfl (by kernel_rfl) Tryd.func8
    (show joinedFacts Tryd.prog 8 Tryd.f8 Rows.fnBasinsAreOutletsSpec Rows.fnBasinsAreOutletsRow = true by unfold joinedFacts; rw [Tryd.makeG, Tryd.liftsG, Tryd.enterG]; kernel_rfl)
    (of_decide_eq_true (by kernel_rfl)) (by unfold Func.isWrapper; first | (rw [if_pos (by decide +kernel)]; kernel_rfl) | (rw [if_neg (by decide +kernel)]; exact ⟨rfl, rfl⟩))
    (fun os started H enc _ => lifted os started H enc)

theorem proved : Rows.FnBasinsAreOutletsCardSaid :=
  Claim7.holds_tied_plain_at .later [] [.data] true Rows.fnBasinsAreOutletsCard.stood.harness Rows.fnBasinsAreOutletsCard.stood.looks
    row_proved (fun _ h => by cases h) (by kernel_rfl) (fun _ h => by cases h) fnBasinsAreOutlets_row_tie rfl ⟨rfl, rfl⟩ (show Tryd.prog.mainIs = some (Rows.fnBasinsAreOutletsCard.stood.harness.1, Rows.fnBasinsAreOutletsCard.stood.harness.2.toList) from Tryd.mainG) rfl
    (fun f fn hf hfn => by
      obtain rfl : f = 8 := Option.some.inj ((show Tryd.prog.funcNamed "loop.example/wateronheights/laws.FnBasinsAreOutlets" = some 8 by kernel_rfl).symm.trans hf) |>.symm
      obtain rfl : fn = Tryd.f8 := (Option.some.inj (Tryd.func8.symm.trans hfn)).symm
      exact ⟨by kernel_rfl, fun j t ht => by
        rw [Tryd.params8] at ht
        have hm : t ∈ [22] := by simpa using Array.mem_of_getElem? ht
        have hall : ([22].all fun u => !Tryd.prog.wantsStandIn u) = true := by kernel_rfl
        exact (show Tryd.prog.wantsStandIn t = false by simpa using List.all_eq_true.1 hall t hm)⟩)
    (by kernel_rfl)
#print axioms proved
end Go.Proofs.YtekhjjcgkmnmlaaDoor.pBasinsAreOutlets
