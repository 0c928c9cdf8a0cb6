/- FnSpringsOf: for every input the law returns true, and the input reads as it did, where the table of steps reads as the program's text lays it; tied to that text. Its conditions: that one listed variable, tied. -/
import Derived.Test.YtekhjjcgkmnmlaaDoorExact
import Derived.Test.YtekhjjcgkmnmlaaDoorBase
import Derived.Test.YtekhjjcgkmnmlaaDoorRows
import Derived.Test.YtekhjjcgkmnmlaaDoorShapes2
import Derived.Test.YtekhjjcgkmnmlaaDoorSomeG
import Derived.Test.YtekhjjcgkmnmlaaDoorStrT
import Derived.Test.YtekhjjcgkmnmlaaDoorRowOf
import Derived.Test.YtekhjjcgkmnmlaaDoorSOrders
import Derived.Test.YtekhjjcgkmnmlaaDoorSFlow
import Derived.Test.YtekhjjcgkmnmlaaDoorCameRows
import Derived.Test.YtekhjjcgkmnmlaaDoorTied
import Derived.Test.YtekhjjcgkmnmlaaDoorWords
import Derived.Test.YtekhjjcgkmnmlaaDoorTie
import Derived.Test.YtekhjjcgkmnmlaaDoorCards
import Derived.SevenTiedAt
/- The contracts of laws.eqIntS and laws.eqIntSS. -/
namespace Go.Proofs.YtekhjjcgkmnmlaaDoor
open Go.RowKit

set_option maxRecDepth 100000 in
set_option maxHeartbeats 1000000 in
theorem eqIntS_any (v1 v2 : Value) (xs ys : List Int) (w : World) (hv1 : IntsV w v1 xs) (hv2 : IntsV w v2 ys) :
    Calls Tryd.prog 63 #[v1, v2] w (QuietBool (decide (xs = ys)) w) := by
  obtain ⟨a, b, o, c, rfl, ⟨hlc, hcb⟩, ha, HC⟩ := hv1.shape
  obtain ⟨a2, b2, o2, c2, rfl, ⟨hlc2, hcb2⟩, ha2, HC2⟩ := hv2.shape
  have HA := Lib.hid ha
  have HA2 := Lib.hid ha2
  clear hv1 hv2 ha ha2
  by_cases hl : xs.length = ys.length
  · have hn : ((xs.length : Int) != (ys.length : Int)) = false := by simp [hl]
    have HL := Lib.hid hl
    clear hl
    go_enter Tryd.func63, Tryd.ntmps63
    go_wp2
    clear hn
    go_loopw [5] (fun i wr => ∃ k : Nat, k ≤ xs.length ∧ i = .int .i64 k ∧ Hid (xs.take k = ys.take k ∧ ∃ n, wr = w.drewN n)) (fun i _ => xs.length - (intOf i).toNat)
    case atStart => exact ⟨0, Nat.zero_le _, rfl, rfl, 0, rfl⟩
    case round =>
      obtain ⟨k, hk, rfl, HI⟩ := hrel
      have HW := Lib.hid (quiet_grew HI.out.2)
      by_cases hlt : k < xs.length
      · have hlt2 : k < ys.length := by have := HL.out; omega
        obtain rfl := HA.out (by omega)
        obtain rfl := HA2.out (by omega)
        have hc1 := HW.out.cell (HC.out k hlt)
        have hc2 := HW.out.cell (HC2.out k hlt2)
        obtain ⟨x, ex⟩ : ∃ x, xs.getD k 0 = x := ⟨_, rfl⟩
        obtain ⟨y, ey⟩ : ∃ y, ys.getD k 0 = y := ⟨_, rfl⟩
        rw [ex] at hc1
        rw [ey] at hc2
        have HE := Lib.hid (And.intro ex ey)
        have r1 : (k : Int) < xs.length := by omega
        have r2 : (k : Int) < ys.length := by omega
        have r3 : (0 : Int) ≤ k := by omega
        clear ex ey
        by_cases hxy : x = y
        · have ht : (x != y) = false := by simp [hxy]
          have HXY := Lib.hid hxy
          clear hxy
          go_wp2
          go_quiet (fail)
          go_wp2
          go_roundw
          case rel => exact ⟨k + 1, by omega, by go_num, take_eq_snoc 0 hlt hlt2 HI.out.1 (by rw [HE.out.1, HE.out.2, HXY.out]), quiet_step HI.out.2 _⟩
          case measure => simp [intOf]; omega
        · have ht : (x != y) = true := by simp [hxy]
          have HXY := Lib.hid hxy
          clear hxy
          go_wp2
          go_quiet (fail)
          go_wp2
          go_ret
          refine ⟨ret_bool ?_, quiet_step HI.out.2 _⟩
          have : xs ≠ ys := fun e => HXY.out (by rw [← HE.out.1, ← HE.out.2, e])
          simp [this]
      · go_wp2
        go_ret
        refine ⟨ret_bool ?_, HI.out.2⟩
        have := HI.out.1
        rw [List.take_of_length_le (by omega), List.take_of_length_le (by have := HL.out; omega)] at this
        simp [this]
  · have hn : ((xs.length : Int) != (ys.length : Int)) = true := by simp; omega
    have HL := Lib.hid hl
    clear hl
    go_enter Tryd.func63, Tryd.ntmps63
    go_wp2
    go_ret
    refine ⟨ret_bool ?_, 0, rfl⟩
    have : xs ≠ ys := fun e => HL.out (by rw [e])
    simp [this]

set_option maxRecDepth 100000 in
set_option maxHeartbeats 1000000 in
theorem eqIntSS_any (v1 v2 : Value) (xs ys : List (List Int)) (w : World) (hv1 : RowsV w v1 xs) (hv2 : RowsV w v2 ys) :
    Calls Tryd.prog 37 #[v1, v2] w (QuietBool (decide (xs = ys)) w) := by
  obtain ⟨a, b, o, c, rfl, ⟨hlc, hcb⟩, ha, HC⟩ := hv1.shape
  obtain ⟨a2, b2, o2, c2, rfl, ⟨hlc2, hcb2⟩, ha2, HC2⟩ := hv2.shape
  have HA := Lib.hid ha
  have HA2 := Lib.hid ha2
  clear hv1 hv2 ha ha2
  by_cases hl : xs.length = ys.length
  · have hn : ((xs.length : Int) != (ys.length : Int)) = false := by simp [hl]
    have HL := Lib.hid hl
    clear hl
    go_enter Tryd.func37, Tryd.ntmps37
    go_wp2
    clear hn
    go_loopw [5] (fun i wr => ∃ k : Nat, k ≤ xs.length ∧ i = .int .i64 k ∧ Hid (xs.take k = ys.take k ∧ ∃ n, wr = w.drewN n)) (fun i _ => xs.length - (intOf i).toNat)
    case atStart => exact ⟨0, Nat.zero_le _, rfl, rfl, 0, rfl⟩
    case round =>
      obtain ⟨k, hk, rfl, HI⟩ := hrel
      have HW := Lib.hid (quiet_grew HI.out.2)
      by_cases hlt : k < xs.length
      · have hlt2 : k < ys.length := by have := HL.out; omega
        obtain rfl := HA.out (by omega)
        obtain rfl := HA2.out (by omega)
        obtain ⟨u1, hc1', hu1⟩ := HC.out k hlt
        obtain ⟨u2, hc2', hu2⟩ := HC2.out k hlt2
        have hc1 := HW.out.cell hc1'
        have hc2 := HW.out.cell hc2'
        obtain ⟨x, ex⟩ : ∃ x, xs.getD k [] = x := ⟨_, rfl⟩
        obtain ⟨y, ey⟩ : ∃ y, ys.getD k [] = y := ⟨_, rfl⟩
        rw [ex] at hu1
        rw [ey] at hu2
        have HK : Hid (∀ m, Calls Tryd.prog 63 #[u1, u2] (wr.drewN m) fun e w' => e = .returned (.bool (decide (x = y))) ∧ ∃ k, w' = (wr.drewN m).drewN k) := fun m => eqIntS_any u1 u2 x y _ (hu1.grew (HW.out.drewN m)) (hu2.grew (HW.out.drewN m))
        obtain ⟨a3, b3, o3, c3, rfl, _, _, _⟩ := hu1.shape
        obtain ⟨a4, b4, o4, c4, rfl, _, _, _⟩ := hu2.shape
        have HE := Lib.hid (And.intro ex ey)
        have r1 : (k : Int) < xs.length := by omega
        have r2 : (k : Int) < ys.length := by omega
        have r3 : (0 : Int) ≤ k := by omega
        clear ex ey hu1 hu2 hc1' hc2'
        by_cases hxy : x = y
        · have HK2 := HK.out
          have e : decide (x = y) = true := by simp [hxy]
          rw [e] at HK2
          have HK3 := Lib.hid HK2
          have HXY := Lib.hid hxy
          clear hxy HK2 HK e
          go_wp2
          go_quiet ((go_at_call 63; exact Calls.quiet_of (HK3.out _)))
          go_wp2
          go_roundw
          case rel => exact ⟨k + 1, by omega, by go_num, take_eq_snoc [] hlt hlt2 HI.out.1 (by rw [HE.out.1, HE.out.2, HXY.out]), quiet_step HI.out.2 _⟩
          case measure => simp [intOf]; omega
        · have HK2 := HK.out
          have e : decide (x = y) = false := by simp [hxy]
          rw [e] at HK2
          have HK3 := Lib.hid HK2
          have HXY := Lib.hid hxy
          clear hxy HK2 HK e
          go_wp2
          go_quiet ((go_at_call 63; exact Calls.quiet_of (HK3.out _)))
          go_wp2
          go_ret
          refine ⟨ret_bool ?_, quiet_step HI.out.2 _⟩
          have : xs ≠ ys := fun e => HXY.out (by rw [← HE.out.1, ← HE.out.2, e])
          simp [this]
      · go_wp2
        go_ret
        refine ⟨ret_bool ?_, HI.out.2⟩
        have := HI.out.1
        rw [List.take_of_length_le (by omega), List.take_of_length_le (by have := HL.out; omega)] at this
        simp [this]
  · have hn : ((xs.length : Int) != (ys.length : Int)) = true := by simp; omega
    have HL := Lib.hid hl
    clear hl
    go_enter Tryd.func37, Tryd.ntmps37
    go_wp2
    go_ret
    refine ⟨ret_bool ?_, 0, rfl⟩
    have : xs ≠ ys := fun e => HL.out (by rw [e])
    simp [this]
end Go.Proofs.YtekhjjcgkmnmlaaDoor
/- The contract of laws.equalInts. -/
namespace Go.Proofs.YtekhjjcgkmnmlaaDoor
open Go.RowKit

set_option maxRecDepth 100000 in
set_option maxHeartbeats 1000000 in
theorem equalInts_any (v1 v2 : Value) (xs ys : List Int) (w : World) (hv1 : IntsV w v1 xs) (hv2 : IntsV w v2 ys) :
    Calls Tryd.prog 44 #[v1, v2] w (QuietBool (decide (xs = ys)) w) := by
  obtain ⟨a, b, o, c, rfl, ⟨hlc, hcb⟩, ha, HC⟩ := hv1.shape
  obtain ⟨a2, b2, o2, c2, rfl, ⟨hlc2, hcb2⟩, ha2, HC2⟩ := hv2.shape
  have HA := Lib.hid ha
  have HA2 := Lib.hid ha2
  clear hv1 hv2 ha ha2
  by_cases hl : xs.length = ys.length
  · have hn : ((xs.length : Int) != (ys.length : Int)) = false := by simp [hl]
    have HL := Lib.hid hl
    clear hl
    go_enter Tryd.func44, Tryd.ntmps44
    go_wp2
    clear hn
    go_loopw [5] (fun i wr => ∃ k : Nat, k ≤ xs.length ∧ i = .int .i64 k ∧ Hid (xs.take k = ys.take k ∧ ∃ n, wr = w.drewN n)) (fun i _ => xs.length - (intOf i).toNat)
    case atStart => exact ⟨0, Nat.zero_le _, rfl, rfl, 0, rfl⟩
    case round =>
      obtain ⟨k, hk, rfl, HI⟩ := hrel
      have HW := Lib.hid (quiet_grew HI.out.2)
      by_cases hlt : k < xs.length
      · have hlt2 : k < ys.length := by have := HL.out; omega
        obtain rfl := HA.out (by omega)
        obtain rfl := HA2.out (by omega)
        have hc1 := HW.out.cell (HC.out k hlt)
        have hc2 := HW.out.cell (HC2.out k hlt2)
        obtain ⟨x, ex⟩ : ∃ x, xs.getD k 0 = x := ⟨_, rfl⟩
        obtain ⟨y, ey⟩ : ∃ y, ys.getD k 0 = y := ⟨_, rfl⟩
        rw [ex] at hc1
        rw [ey] at hc2
        have HE := Lib.hid (And.intro ex ey)
        have r1 : (k : Int) < xs.length := by omega
        have r2 : (k : Int) < ys.length := by omega
        have r3 : (0 : Int) ≤ k := by omega
        clear ex ey
        by_cases hxy : x = y
        · have ht : (x != y) = false := by simp [hxy]
          have HXY := Lib.hid hxy
          clear hxy
          go_wp2
          go_quiet (fail)
          go_wp2
          go_roundw
          case rel => exact ⟨k + 1, by omega, by go_num, take_eq_snoc 0 hlt hlt2 HI.out.1 (by rw [HE.out.1, HE.out.2, HXY.out]), quiet_step HI.out.2 _⟩
          case measure => simp [intOf]; omega
        · have ht : (x != y) = true := by simp [hxy]
          have HXY := Lib.hid hxy
          clear hxy
          go_wp2
          go_quiet (fail)
          go_wp2
          go_ret
          refine ⟨ret_bool ?_, quiet_step HI.out.2 _⟩
          have : xs ≠ ys := fun e => HXY.out (by rw [← HE.out.1, ← HE.out.2, e])
          simp [this]
      · go_wp2
        go_ret
        refine ⟨ret_bool ?_, HI.out.2⟩
        have := HI.out.1
        rw [List.take_of_length_le (by omega), List.take_of_length_le (by have := HL.out; omega)] at this
        simp [this]
  · have hn : ((xs.length : Int) != (ys.length : Int)) = true := by simp; omega
    have HL := Lib.hid hl
    clear hl
    go_enter Tryd.func44, Tryd.ntmps44
    go_wp2
    go_ret
    refine ⟨ret_bool ?_, 0, rfl⟩
    have : xs ≠ ys := fun e => HL.out (by rw [e])
    simp [this]

end Go.Proofs.YtekhjjcgkmnmlaaDoor
/- The contract of laws.isIn. -/
namespace Go.Proofs.YtekhjjcgkmnmlaaDoor
open Go.RowKit

set_option maxRecDepth 100000 in
set_option maxHeartbeats 1000000 in
theorem isIn_any (v : Value) (xs : List Int) (n : Int) (w : World) (hv : IntsV w v xs) :
    Calls Tryd.prog 33 #[v, .int .i64 n] w fun e w' => e = .returned (.bool (decide (n ∈ xs))) ∧ w = w' := by
  obtain ⟨a, b, o, c, rfl, ⟨hlc, hcb⟩, ha, HC⟩ := hv.shape
  have HA := Lib.hid ha
  clear hv ha
  go_enter Tryd.func33, Tryd.ntmps33
  go_wp2
  go_loop [5] (fun i => ∃ k : Nat, k ≤ xs.length ∧ i = .int .i64 k ∧ Hid (n ∉ xs.take k)) (fun i => xs.length - (intOf i).toNat)
  case atStart => exact ⟨0, Nat.zero_le _, rfl, by simp [Hid]⟩
  case round =>
    obtain ⟨k, hk, rfl, HI⟩ := hrel
    by_cases hlt : k < xs.length
    · obtain rfl := HA.out (by omega)
      have hc := HC.out k hlt
      obtain ⟨x, ex⟩ : ∃ x, xs.getD k 0 = x := ⟨_, rfl⟩
      rw [ex] at hc
      have hx : x = xs[k] := by rw [← ex]; simp [hlt]
      have HE := Lib.hid hx
      clear ex hx
      by_cases hxn : x = n
      · have ht : (x == n) = true := by simp [hxn]
        have HX := Lib.hid hxn
        clear hxn
        go_wp2
        go_ret
        refine ⟨ret_bool ?_, rfl⟩
        have : n ∈ xs := by rw [← HX.out, HE.out]; exact List.getElem_mem hlt
        simp [this]
      · have ht : (x == n) = false := by simp [hxn]
        have HX := Lib.hid hxn
        clear hxn
        go_wp2
        go_round
        case rel => exact ⟨k + 1, by omega, by go_num, by
          show n ∉ xs.take (k + 1)
          rw [List.take_succ_eq_append_getElem hlt, List.mem_append]
          rintro (h | h)
          · exact HI.out h
          · simp at h; exact HX.out (by rw [HE.out, h])⟩
        case measure => simp [intOf]; omega
    · go_wp2
      go_ret
      refine ⟨ret_bool ?_, rfl⟩
      have := HI.out
      rw [List.take_of_length_le (by omega)] at this
      simp [this]
end Go.Proofs.YtekhjjcgkmnmlaaDoor
/- The contract of laws.atMost, where each number is at most its like; water on water. -/
namespace Go.Proofs.YtekhjjcgkmnmlaaDoor
open Go.RowKit

set_option maxRecDepth 100000 in
set_option maxHeartbeats 1000000 in
theorem atMost_any (v u : Value) (xs ys : List Int) (w : World) (hv : IntsV w v xs) (hu : IntsV w u ys) (hl : xs.length = ys.length) (hle : ∀ i, i < xs.length → xs.getD i 0 ≤ ys.getD i 0) :
    Calls Tryd.prog 34 #[v, u] w fun e w' => e = .returned (.bool true) ∧ Grew w w' := by
  obtain ⟨a, b, o, c, rfl, ⟨hlc, hcb⟩, ha, HC⟩ := hv.shape
  obtain ⟨a2, b2, o2, c2, rfl, ⟨hlc2, hcb2⟩, ha2, HC2⟩ := hu.shape
  obtain ⟨n, en⟩ : ∃ n, xs.length = n := ⟨_, rfl⟩
  have en2 : ys.length = n := by omega
  rw [en] at hle hlc ha HC ⊢
  rw [en2] at hlc2 ha2 HC2 ⊢
  have HA := Lib.hid (And.intro ha ha2)
  have HLE := Lib.hid hle
  clear hv hu ha ha2 hl hle en en2
  go_enter Tryd.func34, Tryd.ntmps34
  go_wp2
  go_loopw [5] (fun i wr => ∃ k : Nat, k ≤ n ∧ i = .int .i64 k ∧ Hid (Grew w wr)) (fun i _ => n - (intOf i).toNat)
  case atStart => exact ⟨0, Nat.zero_le _, rfl, Grew.refl _⟩
  case round =>
    obtain ⟨k, hk, rfl, HI⟩ := hrel
    by_cases hlt : k < n
    · obtain rfl := HA.out.1 (by omega)
      obtain rfl := HA.out.2 (by omega)
      have hc1 := HI.out.cell (HC.out k hlt)
      have hc2 := HI.out.cell (HC2.out k hlt)
      have hxy := HLE.out k hlt
      obtain ⟨x, ex⟩ : ∃ x, xs.getD k 0 = x := ⟨_, rfl⟩
      obtain ⟨y, ey⟩ : ∃ y, ys.getD k 0 = y := ⟨_, rfl⟩
      rw [ex] at hc1 hxy
      rw [ey] at hc2 hxy
      have hnx : ¬ y < x := by omega
      have HG : Hid (∀ W, Grew wr W → Grew w W) := Lib.hid fun W hW => HI.out.trans hW
      clear ex ey hk HI
      go_wp2
      go_quiet (fail)
      go_wp2
      go_roundw
      case rel => exact ⟨k + 1, by omega, by go_num, HG.out _ ((Grew.refl _).drewN _)⟩
      case measure => simp [intOf]; omega
    · obtain rfl : k = n := by omega
      go_wp2
      go_ret
      exact ⟨rfl, HI.out⟩

/-- Water on water is water. -/
theorem fillL_idem {h : List (List Int)} (hg : vGrid h = true) : fillL (fillL h) = fillL h := by
  have W := grid_level hg
  have e := fillL_yes hg rfl rfl W
  obtain ⟨A, hL, hF⟩ := fill_grid hg
  have W2 : Level h.length (h.getD 0 []).length (fillL h).flatten (levelL h.length (h.getD 0 []).length h.flatten) := by rw [hF]; exact W.again
  have G := Grid.of hg
  rw [fillL_yes A.to hL (A.len 0 (by have := G.n1; omega)) W2, e]
theorem fill_le {h : List (List Int)} (hg : vGrid h = true) : h.flatten.length = (fillL h).flatten.length ∧ ∀ i, i < h.flatten.length → h.flatten.getD i 0 ≤ (fillL h).flatten.getD i 0 := by
  have W := grid_level hg
  have G := Grid.of hg
  obtain ⟨A, hL, hF⟩ := fill_grid hg
  have hl := flat_grid_len G
  rw [hF]
  exact ⟨by rw [hl]; exact W.len.symm, fun i hi => W.base (by rw [← hl]; exact hi)⟩
end Go.Proofs.YtekhjjcgkmnmlaaDoor
/- The contracts of the draws that give one grid. -/
namespace Go.Proofs.YtekhjjcgkmnmlaaDoor
open Go.RowKit

/-- A drawn grid in new memory. -/
def DrawnGrid (w : World) (e : Ending) (w' : World) : Prop := ∃ v H, e = .returned v ∧ RowsO 27 3 w.heap.size w'.heap.size w' v H ∧ Drawn H ∧ Grew w w'
theorem SomePost.drawn {w0 w1 : World} {p : Nat} {e : Ending} {w' : World} (h : SomePost w0 w1 w0.heap.size p e w') (hs : w0.heap.size ≤ w1.heap.size) : DrawnGrid w0 e w' := by
  obtain ⟨v, H, q, he, hO, hd, hr, _, _⟩ := h
  exact ⟨v, H, he, hO.wide hs (Nat.le_refl _), hd, hr.grew⟩













set_option maxRecDepth 100000 in
set_option maxHeartbeats 1000000 in
theorem DrawAreasOf_any (v : Value) (bs : List Int) (w : World) (hv : NumsV .u8 w v bs) (hb : ∀ i, i < bs.length → 0 ≤ bs.getD i 0 ∧ bs.getD i 0 ≤ 255) :
    Calls Tryd.prog 14 #[v] w (DrawnGrid w) := by
  have HN := Lib.hid (newReader_any v bs w hv hb)
  clear hv hb
  go_enter Tryd.func14, Tryd.ntmps14
  go_wp2_with (fail)
  refine HN.out.mono ?_
  rintro e w1 ⟨rfl, hr⟩
  have HR := Lib.hid hr
  clear hr
  go_wp2_with (fail)
  refine (someGrid_any w w1 w.heap.size 0 HR.out (by omega)).mono ?_
  intro e w2 hs
  obtain ⟨v2, H, he, hO, hd, hg⟩ := hs.drawn HR.out.grew.size
  subst he
  have HF : Hid (DrawnGrid w (.returned v2) w2) := ⟨v2, H, rfl, hO, hd, hg⟩
  obtain ⟨a3, n3, c3, rfl⟩ : ∃ a n c, v2 = .slice a n c := by
    rcases hO.shape with ⟨rfl, _⟩ | ⟨g, c, rfl, _⟩ <;> exact ⟨_, _, _, rfl⟩
  clear hs hO hd hg
  go_wp2
  go_ret
  exact HF.out

set_option maxRecDepth 100000 in
set_option maxHeartbeats 1000000 in
theorem DrawBasinsOf_any (v : Value) (bs : List Int) (w : World) (hv : NumsV .u8 w v bs) (hb : ∀ i, i < bs.length → 0 ≤ bs.getD i 0 ∧ bs.getD i 0 ≤ 255) :
    Calls Tryd.prog 20 #[v] w (DrawnGrid w) := by
  have HN := Lib.hid (newReader_any v bs w hv hb)
  clear hv hb
  go_enter Tryd.func20, Tryd.ntmps20
  go_wp2_with (fail)
  refine HN.out.mono ?_
  rintro e w1 ⟨rfl, hr⟩
  have HR := Lib.hid hr
  clear hr
  go_wp2_with (fail)
  refine (someGrid_any w w1 w.heap.size 0 HR.out (by omega)).mono ?_
  intro e w2 hs
  obtain ⟨v2, H, he, hO, hd, hg⟩ := hs.drawn HR.out.grew.size
  subst he
  have HF : Hid (DrawnGrid w (.returned v2) w2) := ⟨v2, H, rfl, hO, hd, hg⟩
  obtain ⟨a3, n3, c3, rfl⟩ : ∃ a n c, v2 = .slice a n c := by
    rcases hO.shape with ⟨rfl, _⟩ | ⟨g, c, rfl, _⟩ <;> exact ⟨_, _, _, rfl⟩
  clear hs hO hd hg
  go_wp2
  go_ret
  exact HF.out

set_option maxRecDepth 100000 in
set_option maxHeartbeats 1000000 in
theorem DrawLongestOf_any (v : Value) (bs : List Int) (w : World) (hv : NumsV .u8 w v bs) (hb : ∀ i, i < bs.length → 0 ≤ bs.getD i 0 ∧ bs.getD i 0 ≤ 255) :
    Calls Tryd.prog 23 #[v] w (DrawnGrid w) := by
  have HN := Lib.hid (newReader_any v bs w hv hb)
  clear hv hb
  go_enter Tryd.func23, Tryd.ntmps23
  go_wp2_with (fail)
  refine HN.out.mono ?_
  rintro e w1 ⟨rfl, hr⟩
  have HR := Lib.hid hr
  clear hr
  go_wp2_with (fail)
  refine (someGrid_any w w1 w.heap.size 0 HR.out (by omega)).mono ?_
  intro e w2 hs
  obtain ⟨v2, H, he, hO, hd, hg⟩ := hs.drawn HR.out.grew.size
  subst he
  have HF : Hid (DrawnGrid w (.returned v2) w2) := ⟨v2, H, rfl, hO, hd, hg⟩
  obtain ⟨a3, n3, c3, rfl⟩ : ∃ a n c, v2 = .slice a n c := by
    rcases hO.shape with ⟨rfl, _⟩ | ⟨g, c, rfl, _⟩ <;> exact ⟨_, _, _, rfl⟩
  clear hs hO hd hg
  go_wp2
  go_ret
  exact HF.out

set_option maxRecDepth 100000 in
set_option maxHeartbeats 1000000 in
theorem DrawStreamOrders_any (v : Value) (bs : List Int) (w : World) (hv : NumsV .u8 w v bs) (hb : ∀ i, i < bs.length → 0 ≤ bs.getD i 0 ∧ bs.getD i 0 ≤ 255) :
    Calls Tryd.prog 26 #[v] w (DrawnGrid w) := by
  have HN := Lib.hid (newReader_any v bs w hv hb)
  clear hv hb
  go_enter Tryd.func26, Tryd.ntmps26
  go_wp2_with (fail)
  refine HN.out.mono ?_
  rintro e w1 ⟨rfl, hr⟩
  have HR := Lib.hid hr
  clear hr
  go_wp2_with (fail)
  refine (someGrid_any w w1 w.heap.size 0 HR.out (by omega)).mono ?_
  intro e w2 hs
  obtain ⟨v2, H, he, hO, hd, hg⟩ := hs.drawn HR.out.grew.size
  subst he
  have HF : Hid (DrawnGrid w (.returned v2) w2) := ⟨v2, H, rfl, hO, hd, hg⟩
  obtain ⟨a3, n3, c3, rfl⟩ : ∃ a n c, v2 = .slice a n c := by
    rcases hO.shape with ⟨rfl, _⟩ | ⟨g, c, rfl, _⟩ <;> exact ⟨_, _, _, rfl⟩
  clear hs hO hd hg
  go_wp2
  go_ret
  exact HF.out

set_option maxRecDepth 100000 in
set_option maxHeartbeats 1000000 in
theorem DrawSpringsOf_any (v : Value) (bs : List Int) (w : World) (hv : NumsV .u8 w v bs) (hb : ∀ i, i < bs.length → 0 ≤ bs.getD i 0 ∧ bs.getD i 0 ≤ 255) :
    Calls Tryd.prog 31 #[v] w (DrawnGrid w) := by
  have HN := Lib.hid (newReader_any v bs w hv hb)
  clear hv hb
  go_enter Tryd.func31, Tryd.ntmps31
  go_wp2_with (fail)
  refine HN.out.mono ?_
  rintro e w1 ⟨rfl, hr⟩
  have HR := Lib.hid hr
  clear hr
  go_wp2_with (fail)
  refine (someGrid_any w w1 w.heap.size 0 HR.out (by omega)).mono ?_
  intro e w2 hs
  obtain ⟨v2, H, he, hO, hd, hg⟩ := hs.drawn HR.out.grew.size
  subst he
  have HF : Hid (DrawnGrid w (.returned v2) w2) := ⟨v2, H, rfl, hO, hd, hg⟩
  obtain ⟨a3, n3, c3, rfl⟩ : ∃ a n c, v2 = .slice a n c := by
    rcases hO.shape with ⟨rfl, _⟩ | ⟨g, c, rfl, _⟩ <;> exact ⟨_, _, _, rfl⟩
  clear hs hO hd hg
  go_wp2
  go_ret
  exact HF.out
end Go.Proofs.YtekhjjcgkmnmlaaDoor
/- The contract of laws.equalRows. -/
namespace Go.Proofs.YtekhjjcgkmnmlaaDoor
open Go.RowKit

set_option maxRecDepth 100000 in
set_option maxHeartbeats 1000000 in
theorem equalRows_any (v1 v2 : Value) (xs ys : List (List Int)) (w : World) (hv1 : RowsV w v1 xs) (hv2 : RowsV w v2 ys) :
    Calls Tryd.prog 16 #[v1, v2] w (QuietBool (decide (xs = ys)) w) := by
  obtain ⟨a, b, o, c, rfl, ⟨hlc, hcb⟩, ha, HC⟩ := hv1.shape
  obtain ⟨a2, b2, o2, c2, rfl, ⟨hlc2, hcb2⟩, ha2, HC2⟩ := hv2.shape
  have HA := Lib.hid ha
  have HA2 := Lib.hid ha2
  clear hv1 hv2 ha ha2
  by_cases hl : xs.length = ys.length
  · have hn : ((xs.length : Int) != (ys.length : Int)) = false := by simp [hl]
    have HL := Lib.hid hl
    clear hl
    go_enter Tryd.func16, Tryd.ntmps16
    go_wp2
    clear hn
    go_loopw [5] (fun i wr => ∃ k : Nat, k ≤ xs.length ∧ i = .int .i64 k ∧ Hid (xs.take k = ys.take k ∧ ∃ n, wr = w.drewN n)) (fun i _ => xs.length - (intOf i).toNat)
    case atStart => exact ⟨0, Nat.zero_le _, rfl, rfl, 0, rfl⟩
    case round =>
      obtain ⟨k, hk, rfl, HI⟩ := hrel
      have HW := Lib.hid (quiet_grew HI.out.2)
      by_cases hlt : k < xs.length
      · have hlt2 : k < ys.length := by have := HL.out; omega
        obtain rfl := HA.out (by omega)
        obtain rfl := HA2.out (by omega)
        obtain ⟨u1, hc1', hu1⟩ := HC.out k hlt
        obtain ⟨u2, hc2', hu2⟩ := HC2.out k hlt2
        have hc1 := HW.out.cell hc1'
        have hc2 := HW.out.cell hc2'
        obtain ⟨x, ex⟩ : ∃ x, xs.getD k [] = x := ⟨_, rfl⟩
        obtain ⟨y, ey⟩ : ∃ y, ys.getD k [] = y := ⟨_, rfl⟩
        rw [ex] at hu1
        rw [ey] at hu2
        have HK : Hid (∀ m, Calls Tryd.prog 44 #[u1, u2] (wr.drewN m) fun e w' => e = .returned (.bool (decide (x = y))) ∧ ∃ k, w' = (wr.drewN m).drewN k) := fun m => equalInts_any u1 u2 x y _ (hu1.grew (HW.out.drewN m)) (hu2.grew (HW.out.drewN m))
        obtain ⟨a3, b3, o3, c3, rfl, _, _, _⟩ := hu1.shape
        obtain ⟨a4, b4, o4, c4, rfl, _, _, _⟩ := hu2.shape
        have HE := Lib.hid (And.intro ex ey)
        have r1 : (k : Int) < xs.length := by omega
        have r2 : (k : Int) < ys.length := by omega
        have r3 : (0 : Int) ≤ k := by omega
        clear ex ey hu1 hu2 hc1' hc2'
        by_cases hxy : x = y
        · have HK2 := HK.out
          have e : decide (x = y) = true := by simp [hxy]
          rw [e] at HK2
          have HK3 := Lib.hid HK2
          have HXY := Lib.hid hxy
          clear hxy HK2 HK e
          go_wp2
          go_quiet ((go_at_call 44; exact Calls.quiet_of (HK3.out _)))
          go_wp2
          go_roundw
          case rel => exact ⟨k + 1, by omega, by go_num, take_eq_snoc [] hlt hlt2 HI.out.1 (by rw [HE.out.1, HE.out.2, HXY.out]), quiet_step HI.out.2 _⟩
          case measure => simp [intOf]; omega
        · have HK2 := HK.out
          have e : decide (x = y) = false := by simp [hxy]
          rw [e] at HK2
          have HK3 := Lib.hid HK2
          have HXY := Lib.hid hxy
          clear hxy HK2 HK e
          go_wp2
          go_quiet ((go_at_call 44; exact Calls.quiet_of (HK3.out _)))
          go_wp2
          go_ret
          refine ⟨ret_bool ?_, quiet_step HI.out.2 _⟩
          have : xs ≠ ys := fun e => HXY.out (by rw [← HE.out.1, ← HE.out.2, e])
          simp [this]
      · go_wp2
        go_ret
        refine ⟨ret_bool ?_, HI.out.2⟩
        have := HI.out.1
        rw [List.take_of_length_le (by omega), List.take_of_length_le (by have := HL.out; omega)] at this
        simp [this]
  · have hn : ((xs.length : Int) != (ys.length : Int)) = true := by simp; omega
    have HL := Lib.hid hl
    clear hl
    go_enter Tryd.func16, Tryd.ntmps16
    go_wp2
    go_ret
    refine ⟨ret_bool ?_, 0, rfl⟩
    have : xs ≠ ys := fun e => HL.out (by rw [e])
    simp [this]
end Go.Proofs.YtekhjjcgkmnmlaaDoor
/- What the laws of the streams share. -/
namespace Go.Proofs.YtekhjjcgkmnmlaaDoor
open Go.RowKit

theorem toldX_len {φ : List Int → Nat → Int} {h : List (List Int)} (hg : vGrid h = true) : (toldX φ h).length = h.length ∧ ∀ r, r < (toldX φ h).length → ((toldX φ h).getD r []).length = (h.getD 0 []).length := by
  have e : toldX φ h = shapeL (toldU (φ (tgtsL h)) (h.length * (h.getD 0 []).length)) (h.getD 0 []).length h.length := by unfold toldX; rw [if_pos hg]
  rw [e, shapeL_len]
  exact ⟨rfl, fun r hr => shapeL_row _ _ _ _ (toldU_len _ _) hr⟩
theorem flowL_rows {h : List (List Int)} (hg : vGrid h = true) : (flowL h).flatten = tgtsL h ∧ (flowL h).length = h.length ∧ ∀ r, r < (flowL h).length → ((flowL h).getD r []).length = (h.getD 0 []).length := by
  have hl : (tgtsL h).length = h.length * (h.getD 0 []).length := by rw [tgtsL, tgtsU_len]
  have e : flowL h = shapeL (tgtsL h) (h.getD 0 []).length h.length := by rw [flowL, if_pos hg]
  rw [e, shapeL_len]
  exact ⟨shapeL_flat _ _ _ hl, rfl, fun r hr => shapeL_row _ _ _ _ hl hr⟩
theorem rowOf_told {φ : List Int → Nat → Int} {h : List (List Int)} (hg : vGrid h = true) (v : Value) (W : World) (hv : RowsV W v (toldX φ h)) :
    Calls Tryd.prog 18 #[v] W (FlatPost W (toldU (φ (tgtsL h)) (h.length * (h.getD 0 []).length))) := by
  have G := Grid.of hg
  have hl := toldX_len (φ := φ) hg
  have h0 := rowOf_any v (toldX φ h) W hv (by rw [hl.1]; have := G.n5; omega) (fun r hr => by rw [hl.2 r hr]; have := G.m1; have := G.m5; omega)
  rw [(toldX_yes hg).1] at h0
  exact h0
theorem rowOf_flow {h : List (List Int)} (hg : vGrid h = true) (v : Value) (W : World) (hv : RowsV W v (flowL h)) :
    Calls Tryd.prog 18 #[v] W (FlatPost W (tgtsL h)) := by
  have G := Grid.of hg
  have hl := flowL_rows hg
  have h0 := rowOf_any v (flowL h) W hv (by rw [hl.2.1]; have := G.n5; omega) (fun r hr => by rw [hl.2.2 r hr]; have := G.m1; have := G.m5; omega)
  rw [hl.1] at h0
  exact h0
end Go.Proofs.YtekhjjcgkmnmlaaDoor
/- spec's StreamOrders and SpringsOf. -/
namespace Go.Proofs.YtekhjjcgkmnmlaaDoor
open Go.RowKit

set_option maxRecDepth 100000 in
set_option maxHeartbeats 4000000 in
theorem SStreamOrders_any (v : Value) (h : List (List Int)) (w : World) (hv : RowsV w v h) :
    Calls Tryd.prog 28 #[v] w (NewRows w (toldX (phiO false) h)) := by
  have HK := sValidGrid_any v h w hv
  cases hg : vGrid h with
  | false =>
    rw [hg] at HK
    have HK2 := Lib.hid HK
    rw [toldX_no hg]
    obtain ⟨a, b, o, c, rfl, _, _, _⟩ := hv.shape
    clear hv HK hg
    go_enter Tryd.func28, Tryd.ntmps28
    go_wp2_with (fail)
    refine HK2.out.mono ?_
    rintro e w1 ⟨rfl, hG⟩
    have HG := Lib.hid hG
    clear hG
    go_wp2
    go_ret
    exact ⟨_, rfl, RowsO.nil _ _ _ _ _, HG.out⟩
  | true =>
    rw [hg] at HK
    have HK2 := Lib.hid HK
    have G := Grid.of hg
    have hRun := tgts_run hg
    obtain ⟨n, en⟩ : ∃ n, h.length = n := ⟨_, rfl⟩
    obtain ⟨m, em⟩ : ∃ m, (h.getD 0 []).length = m := ⟨_, rfl⟩
    obtain ⟨N, eN⟩ : ∃ N, n * m = N := ⟨_, rfl⟩
    have HF := Lib.hid fun W (hW : Grew w W) => sflow_any v h n m N W (hv.grew hW) hg en em eN
    have hTl : (tgtsL h).length = N := by rw [tgtsL, tgtsU_len, en, em, eN]
    rw [en, em, eN] at hRun
    obtain ⟨ts, ets⟩ : ∃ ts, tgtsL h = ts := ⟨_, rfl⟩
    have HR : Hid (toldX (phiO false) h = shapeL (toldU ((phiO false) ts) N) m n) := Lib.hid (by unfold toldX; rw [if_pos hg, ets, en, em, eN])
    rw [ets] at HF hTl hRun
    have HRUN := Lib.hid hRun
    have hn5 := G.n5
    have hn1 := G.n1
    have hm5 := G.m5
    have hm1 := G.m1
    rw [en] at hn5 hn1
    rw [em] at hm5 hm1
    have hN1 : 1 ≤ N := by rw [← eN]; exact Nat.mul_pos hn1 hm1
    have hN25 : N ≤ 25 := by rw [← eN]; exact Nat.mul_le_mul hn5 hm5
    obtain ⟨a, b, o, c, rfl, ⟨hlc, hcb⟩, ha, HCR⟩ := hv.shape
    obtain rfl := ha (by omega)
    obtain ⟨u0, hcu0, hu0⟩ := HCR.out 0 (by omega)
    rw [Nat.add_zero] at hcu0
    obtain ⟨a0, b0, o0, c0, rfl, _, _, _⟩ := hu0.shape
    rw [em] at hcu0
    rw [en] at HK2 HF hlc ⊢
    have hn0 : (0 : Int) < (n : Int) := by omega
    have HNM : Hid (n ≤ 5 ∧ 1 ≤ m ∧ m ≤ 5 ∧ n * m = N ∧ ts.length = N) := Lib.hid ⟨hn5, hm1, hm5, eN, hTl⟩
    have HSL : Hid (∀ (lo hi : Nat) (xs : List Int) (a : Option Addr) (c : Nat) W, xs.length = N → IntsO 3 lo hi W (.slice a N c) xs → ∃ g, a = some ⟨g, 0, none⟩) := Lib.hid fun lo hi xs a c W hl hO => by
      obtain ⟨g, c', e, _⟩ := hO.pos (by rw [hl]; omega)
      simp only [Value.slice.injEq] at e
      exact ⟨g, e.1⟩
    have HIN := Lib.hid fun v W (hi : IntsV W v ts) => sorders_any false v ts N W hi hRun hN25 hN1
    obtain ⟨R, eR⟩ : ∃ R, toldX (phiO false) h = R := ⟨_, rfl⟩
    rw [eR] at HR ⊢
    have HUL := Lib.hid (toldU_len ((phiO false) ts) N)
    obtain ⟨us, eus⟩ : ∃ us, toldU ((phiO false) ts) N = us := ⟨_, rfl⟩
    rw [eus] at HR HIN HUL
    clear hv HK hg G ha HCR hu0 en em eN ets hTl eR hRun eus hm5 hn5
    go_enter Tryd.func28, Tryd.ntmps28
    go_wp2_with (fail)
    refine HK2.out.mono ?_
    rintro e w1 ⟨rfl, hG1⟩
    have HG1 := Lib.hid hG1
    have H0 := Lib.hid (hG1.cell hcu0)
    have hcu1 := H0.out
    clear hG1 hcu0
    go_wp2
    go_region_with (first
      | (go_at_call 48; refine (HF.out _ (HG1.out.drew)).mono ?_; rintro e w2 ⟨a2, c2, rfl, hO2, hg2⟩; rw [HNM.out.2.2.2.2] at hO2 ⊢; obtain ⟨g2, rfl⟩ := HSL.out _ _ _ a2 c2 w2 HNM.out.2.2.2.2 hO2; have H2 := Lib.hid (And.intro hO2 hg2); have hcu2 := hg2.cell H0.out; clear hO2 hg2)
      | (go_at_call 59; refine (HIN.out _ _ (by first | exact H2.out.1.toV | exact H2.out.1.toV.grew (Grew.refl _).drew)).mono ?_; rintro e w3 ⟨a3, c3, rfl, hO3, hg3⟩; rw [HUL.out] at hO3 ⊢; obtain ⟨g3, rfl⟩ := HSL.out _ _ _ a3 c3 w3 HUL.out hO3; have H3 := Lib.hid (And.intro hO3 hg3); have hcu3 := hg3.cell hcu2; clear hO3 hg3)
      | (go_at_call 46; refine (shaped_own H3.out.1 (by rw [HUL.out, HNM.out.2.2.2.1]) HNM.out.1 HNM.out.2.1 HNM.out.2.2.1).mono ?_; rintro e w4 ⟨v4, rfl, hO4, hg4⟩; obtain ⟨a4, c4, rfl⟩ := hO4.sh; have H4 := Lib.hid (And.intro hO4 hg4); clear hO4 hg4))
    all_goals
      go_wp2
      go_ret
      rw [HR.out]
      exact ⟨_, rfl, H4.out.1.wide (Nat.le_trans HG1.out.size (Nat.le_trans H2.out.2.size H3.out.2.size)) (Nat.le_refl _), HG1.out.drew.trans (H2.out.2.trans (H3.out.2.trans H4.out.2))⟩

set_option maxRecDepth 100000 in
set_option maxHeartbeats 4000000 in
theorem SSpringsOf_any (v : Value) (h : List (List Int)) (w : World) (hv : RowsV w v h) :
    Calls Tryd.prog 32 #[v] w (NewRows w (toldX (phiO true) h)) := by
  have HK := sValidGrid_any v h w hv
  cases hg : vGrid h with
  | false =>
    rw [hg] at HK
    have HK2 := Lib.hid HK
    rw [toldX_no hg]
    obtain ⟨a, b, o, c, rfl, _, _, _⟩ := hv.shape
    clear hv HK hg
    go_enter Tryd.func32, Tryd.ntmps32
    go_wp2_with (fail)
    refine HK2.out.mono ?_
    rintro e w1 ⟨rfl, hG⟩
    have HG := Lib.hid hG
    clear hG
    go_wp2
    go_ret
    exact ⟨_, rfl, RowsO.nil _ _ _ _ _, HG.out⟩
  | true =>
    rw [hg] at HK
    have HK2 := Lib.hid HK
    have G := Grid.of hg
    have hRun := tgts_run hg
    obtain ⟨n, en⟩ : ∃ n, h.length = n := ⟨_, rfl⟩
    obtain ⟨m, em⟩ : ∃ m, (h.getD 0 []).length = m := ⟨_, rfl⟩
    obtain ⟨N, eN⟩ : ∃ N, n * m = N := ⟨_, rfl⟩
    have HF := Lib.hid fun W (hW : Grew w W) => sflow_any v h n m N W (hv.grew hW) hg en em eN
    have hTl : (tgtsL h).length = N := by rw [tgtsL, tgtsU_len, en, em, eN]
    rw [en, em, eN] at hRun
    obtain ⟨ts, ets⟩ : ∃ ts, tgtsL h = ts := ⟨_, rfl⟩
    have HR : Hid (toldX (phiO true) h = shapeL (toldU ((phiO true) ts) N) m n) := Lib.hid (by unfold toldX; rw [if_pos hg, ets, en, em, eN])
    rw [ets] at HF hTl hRun
    have HRUN := Lib.hid hRun
    have hn5 := G.n5
    have hn1 := G.n1
    have hm5 := G.m5
    have hm1 := G.m1
    rw [en] at hn5 hn1
    rw [em] at hm5 hm1
    have hN1 : 1 ≤ N := by rw [← eN]; exact Nat.mul_pos hn1 hm1
    have hN25 : N ≤ 25 := by rw [← eN]; exact Nat.mul_le_mul hn5 hm5
    obtain ⟨a, b, o, c, rfl, ⟨hlc, hcb⟩, ha, HCR⟩ := hv.shape
    obtain rfl := ha (by omega)
    obtain ⟨u0, hcu0, hu0⟩ := HCR.out 0 (by omega)
    rw [Nat.add_zero] at hcu0
    obtain ⟨a0, b0, o0, c0, rfl, _, _, _⟩ := hu0.shape
    rw [em] at hcu0
    rw [en] at HK2 HF hlc ⊢
    have hn0 : (0 : Int) < (n : Int) := by omega
    have HNM : Hid (n ≤ 5 ∧ 1 ≤ m ∧ m ≤ 5 ∧ n * m = N ∧ ts.length = N) := Lib.hid ⟨hn5, hm1, hm5, eN, hTl⟩
    have HSL : Hid (∀ (lo hi : Nat) (xs : List Int) (a : Option Addr) (c : Nat) W, xs.length = N → IntsO 3 lo hi W (.slice a N c) xs → ∃ g, a = some ⟨g, 0, none⟩) := Lib.hid fun lo hi xs a c W hl hO => by
      obtain ⟨g, c', e, _⟩ := hO.pos (by rw [hl]; omega)
      simp only [Value.slice.injEq] at e
      exact ⟨g, e.1⟩
    have HIN := Lib.hid fun v W (hi : IntsV W v ts) => sorders_any true v ts N W hi hRun hN25 hN1
    obtain ⟨R, eR⟩ : ∃ R, toldX (phiO true) h = R := ⟨_, rfl⟩
    rw [eR] at HR ⊢
    have HUL := Lib.hid (toldU_len ((phiO true) ts) N)
    obtain ⟨us, eus⟩ : ∃ us, toldU ((phiO true) ts) N = us := ⟨_, rfl⟩
    rw [eus] at HR HIN HUL
    clear hv HK hg G ha HCR hu0 en em eN ets hTl eR hRun eus hm5 hn5
    go_enter Tryd.func32, Tryd.ntmps32
    go_wp2_with (fail)
    refine HK2.out.mono ?_
    rintro e w1 ⟨rfl, hG1⟩
    have HG1 := Lib.hid hG1
    have H0 := Lib.hid (hG1.cell hcu0)
    have hcu1 := H0.out
    clear hG1 hcu0
    go_wp2
    go_region_with (first
      | (go_at_call 48; refine (HF.out _ (HG1.out.drew)).mono ?_; rintro e w2 ⟨a2, c2, rfl, hO2, hg2⟩; rw [HNM.out.2.2.2.2] at hO2 ⊢; obtain ⟨g2, rfl⟩ := HSL.out _ _ _ a2 c2 w2 HNM.out.2.2.2.2 hO2; have H2 := Lib.hid (And.intro hO2 hg2); have hcu2 := hg2.cell H0.out; clear hO2 hg2)
      | (go_at_call 59; refine (HIN.out _ _ (by first | exact H2.out.1.toV | exact H2.out.1.toV.grew (Grew.refl _).drew)).mono ?_; rintro e w3 ⟨a3, c3, rfl, hO3, hg3⟩; rw [HUL.out] at hO3 ⊢; obtain ⟨g3, rfl⟩ := HSL.out _ _ _ a3 c3 w3 HUL.out hO3; have H3 := Lib.hid (And.intro hO3 hg3); have hcu3 := hg3.cell hcu2; clear hO3 hg3)
      | (go_at_call 46; refine (shaped_own H3.out.1 (by rw [HUL.out, HNM.out.2.2.2.1]) HNM.out.1 HNM.out.2.1 HNM.out.2.2.1).mono ?_; rintro e w4 ⟨v4, rfl, hO4, hg4⟩; obtain ⟨a4, c4, rfl⟩ := hO4.sh; have H4 := Lib.hid (And.intro hO4 hg4); clear hO4 hg4))
    all_goals
      go_wp2
      go_ret
      rw [HR.out]
      exact ⟨_, rfl, H4.out.1.wide (Nat.le_trans HG1.out.size (Nat.le_trans H2.out.2.size H3.out.2.size)) (Nat.le_refl _), HG1.out.drew.trans (H2.out.2.trans (H3.out.2.trans H4.out.2))⟩
end Go.Proofs.YtekhjjcgkmnmlaaDoor
/- The law FnSpringsOf returns true. -/
namespace Go.Proofs.YtekhjjcgkmnmlaaDoor
open Go.RowKit

set_option maxRecDepth 100000 in
set_option maxHeartbeats 8000000 in
theorem FnSpringsOf_any (v : Value) (bs : List Int) (w : World) (hv : NumsV .u8 w v bs) (hb : ∀ i, i < bs.length → 0 ≤ bs.getD i 0 ∧ bs.getD i 0 ≤ 255) (hS : Steps w) :
    Calls Tryd.prog 7 #[v] w fun e w' => e = .returned (.bool true) ∧ Grew w w' := by
  have HD := Lib.hid (DrawSpringsOf_any v bs w hv hb)
  have HS := Lib.hid hS
  obtain ⟨a, b, o, c, rfl, ⟨hlc, hcb⟩, _, _⟩ := hv.shape
  clear hv hb hS
  by_cases hbig : 1048576 < bs.length
  · go_enter Tryd.func7, Tryd.ntmps7
    go_wp2
    go_ret
    exact ⟨rfl, Grew.refl _⟩
  · go_enter Tryd.func7, Tryd.ntmps7
    go_wp2_with (fail)
    refine HD.out.mono ?_
    rintro e w1 ⟨v1, H, rfl, hO, hd, hg1⟩
    have HV := Lib.hid (And.intro hO.toV hg1)
    obtain ⟨a1, c1, rfl⟩ := hO.sh
    clear hO hd hg1 HD
    obtain ⟨M, eM⟩ : ∃ M, toldX (phiO true) H = M := ⟨_, rfl⟩
    have HM := Lib.hid eM
    go_wp2_with (fail)
    refine (SpringsOf_any _ H _ HV.out.1 (HS.out.grew HV.out.2)).mono ?_
    rw [eM]
    rintro e w2 ⟨v2, rfl, hO2, hg2⟩
    obtain ⟨a2, c2, rfl⟩ := hO2.sh
    have H2 := Lib.hid (And.intro hO2.toV hg2)
    clear hO2 hg2
    go_wp2_with (fail)
    refine (SSpringsOf_any _ H _ (HV.out.1.grew H2.out.2)).mono ?_
    rw [eM]
    rintro e w3 ⟨v3, rfl, hO3, hg3⟩
    obtain ⟨a3, c3, rfl⟩ := hO3.sh
    have H3 : Hid (RowsV w3 (.slice a2 M.length c2) M ∧ RowsV w3 (.slice a3 M.length c3) M ∧ RowsV w3 (.slice a1 H.length c1) H ∧ Grew w w3) :=
      Lib.hid ⟨H2.out.1.grew hg3, hO3.toV, HV.out.1.grew (H2.out.2.trans hg3), HV.out.2.trans (H2.out.2.trans hg3)⟩
    clear hO3 hg3 H2 HV eM
    go_wp2_with (fail)
    refine (equalRows_any _ _ M M _ H3.out.1 H3.out.2.1).mono ?_
    rw [decide_eq_true (rfl : M = M)]
    rintro e w4 ⟨rfl, hq4⟩
    have hg4 := quiet_grew hq4
    have H4 : Hid (RowsV w4 (.slice a2 M.length c2) M ∧ RowsV w4 (.slice a1 H.length c1) H ∧ Grew w w4) :=
      Lib.hid ⟨H3.out.1.grew hg4, H3.out.2.2.1.grew hg4, H3.out.2.2.2.trans hg4⟩
    clear hq4 hg4 H3
    cases hvg : vGrid H with
    | false =>
      have eM0 : M = [] := by rw [← HM.out, toldX_no hvg]
      have ht : ((M.length : Int) == 0) = true := by simp [eM0]
      clear hvg eM0
      go_wp2_with (fail)
      refine (SSpringsOf_any _ H _ H4.out.2.1).mono ?_
      rw [HM.out]
      rintro e w5 ⟨v5, rfl, hO5, hg5⟩
      obtain ⟨a5, c5, rfl⟩ := hO5.sh
      have H5 := Lib.hid (And.intro hO5.toV hg5)
      clear hO5 hg5
      go_wp2_with (fail)
      refine (equalRows_any _ _ M M _ (H4.out.1.grew H5.out.2) H5.out.1).mono ?_
      rw [decide_eq_true (rfl : M = M)]
      rintro e w6 ⟨rfl, hq6⟩
      have H6 := Lib.hid (quiet_grew hq6)
      clear hq6
      go_wp2
      go_ret
      exact ⟨rfl, H4.out.2.2.trans (H5.out.2.trans H6.out)⟩
    | true =>
      have ht : ((M.length : Int) == 0) = false := beq_eq_false_iff_ne.2 (by
        have h1 : M.length = H.length := by rw [← HM.out]; exact (toldX_len hvg).1
        have := (Grid.of hvg).n1
        omega)
      have G := Grid.of hvg
      have hR := tgts_run hvg
      obtain ⟨N, eN⟩ : ∃ N, H.length * (H.getD 0 []).length = N := ⟨_, rfl⟩
      have hN1 : 1 ≤ N := by rw [← eN]; exact Nat.mul_pos G.n1 G.m1
      have hN25 : N ≤ 25 := by rw [← eN]; exact Nat.mul_le_mul G.n5 G.m5
      have hQF := fun v W (h : RowsV W v (flowL H)) => rowOf_flow hvg v W h
      have hIF := fun W (hW : Grew w4 W) => FlowOf_any _ H W (H4.out.2.1.grew hW) (HS.out.grew (H4.out.2.2.trans hW))
      have hQM := fun v W (h : RowsV W v (toldX (phiO true) H)) => rowOf_told hvg v W h
      have hQA := fun v W (h : RowsV W v (toldX phiA H)) => rowOf_told hvg v W h
      have hIA := fun W (hW : Grew w4 W) => AreasOf_any _ H W (H4.out.2.1.grew hW) (HS.out.grew (H4.out.2.2.trans hW))
      obtain ⟨ts, ets⟩ : ∃ ts, tgtsL H = ts := ⟨_, rfl⟩
      obtain ⟨FL, eFL⟩ : ∃ FL, flowL H = FL := ⟨_, rfl⟩
      rw [ets] at hR hQF hQM hQA
      rw [eFL] at hQF hIF
      rw [eN] at hR hQM hQA
      have HR := Lib.hid hR
      have HQF := Lib.hid hQF
      have HIF := Lib.hid hIF
      have HTL := Lib.hid hR.len
      have HUM := Lib.hid (toldU_len ((phiO true) ts) N)
      obtain ⟨uM, euM⟩ : ∃ uM, toldU ((phiO true) ts) N = uM := ⟨_, rfl⟩
      rw [euM] at hQM HUM
      have HEM := Lib.hid euM
      rw [HM.out] at hQM
      have HQM := Lib.hid hQM
      have HUA := Lib.hid (toldU_len (phiA ts) N)
      obtain ⟨uA, euA⟩ : ∃ uA, toldU (phiA ts) N = uA := ⟨_, rfl⟩
      rw [euA] at hQA HUA
      have HEA := Lib.hid euA
      obtain ⟨RA, eRA⟩ : ∃ RA, toldX phiA H = RA := ⟨_, rfl⟩
      rw [eRA] at hQA hIA
      have HIA := Lib.hid hIA
      have HQA := Lib.hid hQA
      clear hvg G hR eN ets eFL hQF hIF hQM euM hQA euA hIA eRA 
      go_wp2_with (fail)
      refine (HQM.out _ _ (H4.out.1.grew (Grew.refl _))).mono ?_
      rintro e x1 ⟨gM, cM, rfl, hOq, hgq⟩
      rw [HUM.out] at hOq ⊢
      have HX1 := Lib.hid (And.intro (hOq.toV) (Grew.trans (Grew.refl _) hgq))
      clear hOq hgq
      go_wp2_with (fail)
      refine (HIF.out _ HX1.out.2).mono ?_
      rintro e y2 ⟨vq, rfl, hOq, hgq⟩
      obtain ⟨aq, cq, rfl⟩ := hOq.sh
      have HY2 := Lib.hid (And.intro hOq.toV hgq)
      clear hOq hgq
      go_wp2_with (fail)
      refine (HQF.out _ _ HY2.out.1).mono ?_
      rintro e x2 ⟨gF, cF, rfl, hOq, hgq⟩
      rw [HTL.out] at hOq ⊢
      have HX2 := Lib.hid (And.intro (NumsV.grew HX1.out.1 (HY2.out.2.trans hgq)) (And.intro (hOq.toV) (Grew.trans HX1.out.2 (HY2.out.2.trans hgq))))
      clear hOq hgq
      have HA : Hid (∀ j, j < N → uM.getD j 0 = (springL N ts j : Int) ∧ springL N ts j ≤ 25) := Lib.hid fun j hj => ⟨by rw [← HEM.out, toldU_at _ _ _ hj]; exact spring_tree HR.out j hj, by have := area_le (N := N) (ts := ts) j; have := spring_le HR.out j; omega⟩
      have HLE : Hid (∀ j, j < uM.length → uM.getD j 0 ≤ uA.getD j 0) := Lib.hid fun j hj => by
        rw [HUM.out] at hj
        have h2 : uA.getD j 0 = (runL N ts j : Int) := by rw [← HEA.out, toldU_at _ _ _ hj]; unfold phiA; rw [HTL.out]
        have h3 := spring_le HR.out j
        rw [(HA.out j hj).1, h2]
        omega
      go_wp2
      go_loopw [7, 8, 9] (fun sv pv iv wr => ∃ I S P : Nat, I ≤ N ∧ iv = .int .i64 (I : Int) ∧ sv = .int .i64 (S : Int) ∧ pv = .int .i64 (P : Int) ∧ S ≤ 25 * I ∧ P ≤ I ∧ Hid (S = ((List.range I).map fun e => if ts.getD e 0 < 0 then springL N ts e else 0).sum ∧ P = ((List.range I).map (leafL ts)).sum ∧ wr = x2)) (fun _ _ iv _ => N - (intOf iv).toNat)
      case atStart => exact ⟨0, 0, 0, Nat.zero_le _, rfl, rfl, rfl, Nat.le_refl _, Nat.le_refl _, rfl, rfl, rfl⟩
      case round =>
        obtain ⟨I, S, P, hI, rfl, rfl, rfl, hSb, hPb, HI⟩ := hrel
        obtain ⟨hS, hP, rfl⟩ := HI.out
        have HSS := Lib.hid hS
        have HPP := Lib.hid hP
        clear hS hP HI
        by_cases hlt : I < N
        · have hII : (I : Int) < (N : Int) := by omega
          have hct := NumsV.at HX2.out.2.1 I (by rw [HTL.out]; exact hlt)
          have hcM := NumsV.at HX2.out.1 I (by rw [HUM.out]; exact hlt)
          rw [(HA.out I hlt).1] at hcM
          have hb := (HA.out I hlt).2
          have HS1 : Hid (((List.range (I + 1)).map fun e => if ts.getD e 0 < 0 then springL N ts e else 0).sum = S + if ts.getD I 0 < 0 then springL N ts I else 0) := Lib.hid (by rw [List.range_succ, List.map_append, List.sum_append, HSS.out]; simp)
          have HP1 : Hid (((List.range (I + 1)).map (leafL ts)).sum = P + leafL ts I) := Lib.hid (by rw [List.range_succ, List.map_append, List.sum_append, HPP.out]; simp)
          have HIN := Lib.hid (isIn_any _ ts (I : Int) wr (HX2.out.2.1))
          obtain ⟨y, ey⟩ : ∃ y, springL N ts I = y := ⟨_, rfl⟩
          rw [ey] at hcM hb HS1
          have HLF : Hid (leafL ts I = bitN (!decide ((I : Int) ∈ ts))) := Lib.hid (by
            unfold leafL
            congr 1
            by_cases hm : (I : Int) ∈ ts
            · rw [decide_eq_true hm]
              obtain ⟨j, hj, e⟩ := List.getElem_of_mem hm
              have hjs : j ∈ srcL ts I := mem_srcL.2 ⟨hj, by simp [hj, e]⟩
              cases hs : srcL ts I with
              | nil => rw [hs] at hjs; cases hjs
              | cons _ _ => rfl
            · rw [decide_eq_false hm]
              cases hs : srcL ts I with
              | nil => rfl
              | cons j _ =>
                have hj : j ∈ srcL ts I := by rw [hs]; simp
                obtain ⟨h1, h2⟩ := mem_srcL.1 hj
                exact absurd (by rw [← h2]; exact getD_mem' 0 ts j h1) hm)
          obtain ⟨q, eq⟩ : ∃ q, decide ((I : Int) ∈ ts) = q := ⟨_, rfl⟩
          rw [eq] at HLF HIN
          obtain ⟨t, eT⟩ : ∃ t, ts.getD I 0 = t := ⟨_, rfl⟩
          rw [eT] at hct HS1
          clear eT ey eq
          by_cases e : t < 0
          · have HS2 : Hid (S + y = ((List.range (I + 1)).map fun e => if ts.getD e 0 < 0 then springL N ts e else 0).sum) := Lib.hid (by rw [HS1.out, if_pos e])
            clear HS1
            cases q with
            | true =>
              have HP2 : Hid (P = ((List.range (I + 1)).map (leafL ts)).sum) := Lib.hid (by rw [HP1.out, HLF.out]; rfl)
              go_wp2_with (fail)
              refine HIN.out.mono ?_
              rintro e w9 ⟨rfl, rfl⟩
              go_wp2
              go_roundw
              case rel => exact ⟨I + 1, S + y, P, by omega, by go_num, by go_num, rfl, by omega, by omega, HS2.out, HP2.out, trivial⟩
              case measure => simp [intOf]; omega
            | false =>
              have HP2 : Hid (P + 1 = ((List.range (I + 1)).map (leafL ts)).sum) := Lib.hid (by rw [HP1.out, HLF.out]; rfl)
              go_wp2_with (fail)
              refine HIN.out.mono ?_
              rintro e w9 ⟨rfl, rfl⟩
              go_wp2
              go_roundw
              case rel => exact ⟨I + 1, S + y, P + 1, by omega, by go_num, by go_num, by go_num, by omega, by omega, HS2.out, HP2.out, trivial⟩
              case measure => simp [intOf]; omega
          · have HS2 : Hid (S = ((List.range (I + 1)).map fun e => if ts.getD e 0 < 0 then springL N ts e else 0).sum) := Lib.hid (by rw [HS1.out, if_neg e]; rfl)
            clear HS1
            cases q with
            | true =>
              have HP2 : Hid (P = ((List.range (I + 1)).map (leafL ts)).sum) := Lib.hid (by rw [HP1.out, HLF.out]; rfl)
              go_wp2_with (fail)
              refine HIN.out.mono ?_
              rintro e w9 ⟨rfl, rfl⟩
              go_wp2
              go_roundw
              case rel => exact ⟨I + 1, S, P, by omega, by go_num, rfl, rfl, by omega, by omega, HS2.out, HP2.out, trivial⟩
              case measure => simp [intOf]; omega
            | false =>
              have HP2 : Hid (P + 1 = ((List.range (I + 1)).map (leafL ts)).sum) := Lib.hid (by rw [HP1.out, HLF.out]; rfl)
              go_wp2_with (fail)
              refine HIN.out.mono ?_
              rintro e w9 ⟨rfl, rfl⟩
              go_wp2
              go_roundw
              case rel => exact ⟨I + 1, S, P + 1, by omega, by go_num, rfl, by go_num, by omega, by omega, HS2.out, HP2.out, trivial⟩
              case measure => simp [intOf]; omega
        · obtain rfl : I = N := by omega
          have hSP : S = P := by rw [HSS.out, HPP.out]; exact heavy_ends HR.out (leafL ts)
          subst hSP
          have HG4 := Lib.hid (HX2.out.2.2)
          have HSM := Lib.hid (HX2.out.1)
          clear HSS HPP
          go_wp2_with (fail)
          refine (HIA.out _ HG4.out).mono ?_
          rintro e y5 ⟨vq, rfl, hOq, hgq⟩
          obtain ⟨aq, cq, rfl⟩ := hOq.sh
          have HY5 := Lib.hid (And.intro hOq.toV hgq)
          clear hOq hgq
          go_wp2_with (fail)
          refine (HQA.out _ _ HY5.out.1).mono ?_
          rintro e x5 ⟨gA, cA, rfl, hOq, hgq⟩
          have HX5 := Lib.hid (And.intro hOq.toV (And.intro (HSM.out.grew (HY5.out.2.trans hgq)) (HG4.out.trans (HY5.out.2.trans hgq))))
          rw [HUA.out] at HX5 ⊢
          clear hOq hgq
          go_wp2_with (fail)
          refine (atMost_any _ _ uM uA _ HX5.out.2.1 HX5.out.1 (by rw [HUM.out, HUA.out]) HLE.out).mono ?_
          rintro e x6 ⟨rfl, hg6⟩
          have H6 := Lib.hid hg6
          clear hg6
          go_wp2
          go_ret
          exact ⟨rfl, H4.out.2.2.trans (HX5.out.2.2.trans H6.out)⟩
end Go.Proofs.YtekhjjcgkmnmlaaDoor
namespace Go.Proofs.YtekhjjcgkmnmlaaDoor.pSpringsOf
open Go.RowKit Go.ChangeShapes Go.WideShapes Go.ChangeAt

set_option maxRecDepth 100000 in
theorem lifted (os : Os) (started : os.Started) (H : Type) (enc : TypeId × Value → H) :
    ReturnsInHanded {} Tryd.checked os 7 .any (fun w args => (Rows.fnSpringsOfSpec.pre enc Tryd.prog Tryd.f7 [] false w args ∧ laidMetH Tryd.prog laid1 w) ∧ sizedMet enc Tryd.prog Tryd.f7 (OpenSpec.ofChange Rows.fnSpringsOfSpec) false w args)
      (Rows.fnSpringsOfSpec.post enc Tryd.prog Tryd.f7 false true false false) := by
  refine returnsInHanded_of_change_and (C := Tryd.checked) (X := fun w _ => laidMetH Tryd.prog laid1 w) (fun _ _ _ hh h => h.of_heap hh) Tryd.own started (by kernel_rfl) Tryd.func7
    (ChangeSpec.witness_shaped (enc := enc) (C := Tryd.checked) (os := os) (X := fun w _ => laidMetH Tryd.prog laid1 w) false (World.doorLaid Tryd.prog 400 os) #[.slice none 0 0] 8 rfl (World.shaped_of_RefB (by kernel_rfl) (by kernel_rfl)) (by kernel_rfl) (by kernel_rfl) (by kernel_rfl) (door_met os _)) ?_
  intro W base args ds gs before hval0 hW _ _ hL _
  have hval : ∀ (j : Nat) t v, Tryd.f7.params[j]? = some t → args[j]? = some v → Value.okWide Tryd.prog W .any base t v := hval0
  have hW' := hW
  obtain ⟨p, q, hA0, hV, rfl, _, _⟩ := hW
  have hA : DataW.TrodAll enc Tryd.prog W 0 (fun _ => true) true Tryd.f7.params.toList args.toList ds p := hA0
  rw [Tryd.params7] at hA hval
  obtain ⟨v0, d0, rfl, rfl, h0⟩ := trodAll_one hA
  have hV' := hV
  obtain ⟨_, _, _, _, dv, _, rfl, _⟩ := trodVars_one hV
  obtain ⟨a0, len0, cap0, rfl⟩ := okWide_slice Tryd.underlying22 (hval 0 22 v0 rfl rfl)
  have k0 := h0
  have lt0 : ∀ x ∈ p, x.block < W.heap.size := by obtain ⟨m, hm⟩ := k0; exact DataW.trod_lt m _ _ _ hm
  obtain ⟨bs0, hn0, hb0⟩ := bytes_came h0
  have HS := steps_of_laid hL
  clear hA0 hval0
  refine (FnSpringsOf_any _ bs0 W hn0 hb0 HS).mono fun e W' ⟨he, bel⟩ => ?_
  subst he
  exact ⟨_, rfl, _, _, _, [], _, q, hW', trodAll_mk1 (shut_bool Tryd.underlying4 _), (trodAll_mk1 (Below.trod Tryd.laidOut (by kernel_rfl) (of_decide_eq_true (by kernel_rfl)) k0 bel lt0)), Below.trodVars Tryd.laidOut bel (by kernel_rfl) hV', Below.frame bel _, fun h => by cases h⟩

theorem row_proved : Rows.FnSpringsOfSaid :=
  OpenClaim.holds_of_wide 7 Tryd.f7 rfl rfl rfl rfl rfl rfl rfl ⟨rfl, rfl, rfl, rfl, rfl⟩ rfl rfl rfl rfl rfl (by kernel_rfl) Tryd.func7
    (show joinedFacts Tryd.prog 7 Tryd.f7 Rows.fnSpringsOfSpec Rows.fnSpringsOfRow = true by unfold joinedFacts; rw [Tryd.makeG, Tryd.liftsG, Tryd.enterG]; kernel_rfl)
    (of_decide_eq_true (by kernel_rfl)) (by unfold Func.isWrapper; first | (rw [if_pos (by decide +kernel)]; kernel_rfl) | (rw [if_neg (by decide +kernel)]; exact ⟨rfl, rfl⟩))
    (fun os started H enc _ => lifted os started H enc)

theorem proved : Rows.FnSpringsOfCardSaid :=
  Claim7.holds_tied_plain_at .later [] [.data] true Rows.fnSpringsOfCard.stood.harness Rows.fnSpringsOfCard.stood.looks
    row_proved (fun _ h => by cases h) (by kernel_rfl) (fun _ h => by cases h) fnSpringsOf_row_tie rfl ⟨rfl, rfl⟩ (show Tryd.prog.mainIs = some (Rows.fnSpringsOfCard.stood.harness.1, Rows.fnSpringsOfCard.stood.harness.2.toList) from Tryd.mainG) rfl
    (fun f fn hf hfn => by
      obtain rfl : f = 7 := Option.some.inj ((show Tryd.prog.funcNamed "loop.example/wateronheights/laws.FnSpringsOf" = some 7 by kernel_rfl).symm.trans hf) |>.symm
      obtain rfl : fn = Tryd.f7 := (Option.some.inj (Tryd.func7.symm.trans hfn)).symm
      exact ⟨by kernel_rfl, fun j t ht => by
        rw [Tryd.params7] at ht
        have hm : t ∈ [22] := by simpa using Array.mem_of_getElem? ht
        have hall : ([22].all fun u => !Tryd.prog.wantsStandIn u) = true := by kernel_rfl
        exact (show Tryd.prog.wantsStandIn t = false by simpa using List.all_eq_true.1 hall t hm)⟩)
    (by kernel_rfl)
#print axioms proved
end Go.Proofs.YtekhjjcgkmnmlaaDoor.pSpringsOf
