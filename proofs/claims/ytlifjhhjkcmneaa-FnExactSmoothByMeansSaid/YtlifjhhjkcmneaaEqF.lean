/- The contracts of the laws' comparisons and marks of slices of fractions. -/
import Derived.Test.YtlifjhhjkcmneaaExact
import Derived.Test.YtlifjhhjkcmneaaMinF
import Derived.Test.YtlifjhhjkcmneaaNeqF
namespace Go.Proofs.Ytlifjhhjkcmneaa
open Go.RowKit

set_option maxRecDepth 100000 in
set_option maxHeartbeats 1000000 in
theorem eqFrac_any (x y : Int × Int) (w : World) :
    Calls Try.prog 83 #[frV x, frV y] w fun e w' => e = .returned (.bool (decide (x = y))) ∧ Grew w w' := by
  obtain ⟨a1, a2⟩ := x
  obtain ⟨b1, b2⟩ := y
  unfold frV
  have hG : Hid (Grew w ((w.alloc (.cells #[.int .i64 a1, .int .i64 a2] 29)).alloc (.cells #[.int .i64 b1, .int .i64 b2] 29))) := Lib.hid (((Grew.refl w).alloc _).alloc _)
  by_cases h1 : a1 = b1
  · by_cases h2 : a2 = b2
    · have ht : (a1 != b1) = false := by simp [h1]
      have ht2 : (a2 != b2) = false := by simp [h2]
      have HD : Hid (decide ((a1, a2) = (b1, b2)) = true) := Lib.hid (by simp [h1, h2])
      clear h1 h2
      go_enter Try.func83, Try.ntmps83
      go_wp2
      go_ret
      exact ⟨ret_bool HD.out.symm, hG.out⟩
    · have ht : (a1 != b1) = false := by simp [h1]
      have ht2 : (a2 != b2) = true := by simp [h2]
      have HD : Hid (decide ((a1, a2) = (b1, b2)) = false) := Lib.hid (by simp [h2])
      clear h1 h2
      go_enter Try.func83, Try.ntmps83
      go_wp2
      go_ret
      exact ⟨ret_bool HD.out.symm, hG.out⟩
  · have ht : (a1 != b1) = true := by simp [h1]
    have HD : Hid (decide ((a1, a2) = (b1, b2)) = false) := Lib.hid (by simp [h1])
    clear h1
    go_enter Try.func83, Try.ntmps83
    go_wp2
    go_ret
    exact ⟨ret_bool HD.out.symm, hG.out⟩

set_option maxRecDepth 100000 in
set_option maxHeartbeats 2000000 in
theorem eqFracS_any (v1 v2 : Value) (xs ys : List (Int × Int)) (w : World) (hv1 : FrV w v1 xs) (hv2 : FrV w v2 ys) :
    Calls Try.prog 44 #[v1, v2] w fun e w' => e = .returned (.bool (decide (xs = ys))) ∧ Grew w w' := by
  obtain ⟨a, b, o, c, rfl, ⟨hlc, hcb⟩, ha, HC⟩ := hv1.shape
  obtain ⟨a2, b2, o2, c2, rfl, ⟨hlc2, hcb2⟩, ha2, HC2⟩ := hv2.shape
  have HA := Lib.hid ha
  have HA2 := Lib.hid ha2
  clear hv1 hv2 ha ha2
  by_cases hl : xs.length = ys.length
  · have hn : ((xs.length : Int) != (ys.length : Int)) = false := by simp [hl]
    have HL := Lib.hid hl
    clear hl
    go_enter Try.func44, Try.ntmps44
    go_wp2
    clear hn
    go_loopw [5] (fun i wr => ∃ k : Nat, k ≤ xs.length ∧ i = .int .i64 k ∧ Hid (xs.take k = ys.take k ∧ Grew w wr)) (fun i _ => xs.length - (intOf i).toNat)
    case atStart => exact ⟨0, Nat.zero_le _, rfl, rfl, Grew.refl _⟩
    case round =>
      obtain ⟨k, hk, rfl, HI⟩ := hrel
      by_cases hlt : k < xs.length
      · have hlt2 : k < ys.length := by have := HL.out; omega
        obtain rfl := HA.out (by omega)
        obtain rfl := HA2.out (by omega)
        have hc1 := HI.out.2.cell (HC.out k hlt).1
        have hc2 := HI.out.2.cell (HC.out k hlt).2
        have hc3 := HI.out.2.cell (HC2.out k hlt2).1
        have hc4 := HI.out.2.cell (HC2.out k hlt2).2
        obtain ⟨x, ex⟩ : ∃ x, xs.getD k (0, 0) = x := ⟨_, rfl⟩
        obtain ⟨y, ey⟩ : ∃ y, ys.getD k (0, 0) = y := ⟨_, rfl⟩
        rw [ex] at hc1 hc2
        rw [ey] at hc3 hc4
        obtain ⟨x1, x2⟩ := x
        obtain ⟨y1, y2⟩ := y
        have HE := Lib.hid (And.intro ex ey)
        have HCF := Lib.hid (eqFrac_any (x1, x2) (y1, y2) wr.drew)
        obtain ⟨R, eR⟩ : ∃ R, decide ((x1, x2) = (y1, y2)) = R := ⟨_, rfl⟩
        rw [eR] at HCF
        unfold frV at HCF
        have HR := Lib.hid eR
        have HS0 : Hid (wr.cell? ⟨b, o + k * 2, none⟩ = some (.int .i64 x1) ∧ wr.cell? ⟨b, o + k * 2 + 1, none⟩ = some (.int .i64 x2) ∧ wr.cell? ⟨b2, o2 + k * 2, none⟩ = some (.int .i64 y1) ∧ wr.cell? ⟨b2, o2 + k * 2 + 1, none⟩ = some (.int .i64 y2)) := ⟨hc1, hc2, hc3, hc4⟩
        have r1 : (k : Int) < xs.length := by omega
        have r2 : (k : Int) < ys.length := by omega
        have r3 : (0 : Int) ≤ k := by omega
        clear ex ey eR hc1 hc2 hc3 hc4
        go_wp2_with (fail)
        go_region_held3 (fun W => W.cell? ⟨b, o + k * 2, none⟩ = some (.int .i64 x1) ∧ W.cell? ⟨b, o + k * 2 + 1, none⟩ = some (.int .i64 x2) ∧ W.cell? ⟨b2, o2 + k * 2, none⟩ = some (.int .i64 y1) ∧ W.cell? ⟨b2, o2 + k * 2 + 1, none⟩ = some (.int .i64 y2))
          (first
            | exact HS0.out
            | assumption
            | exact h5c)
          (first
            | (go_at_call 83; refine HCF.out.mono ?_; rintro e5 w5 ⟨rfl, hg5⟩; have hg5 := ((Grew.refl wr).drew).trans hg5; have h5c := And.intro (hg5.cell HS0.out.1) (And.intro (hg5.cell HS0.out.2.1) (And.intro (hg5.cell HS0.out.2.2.1) (hg5.cell HS0.out.2.2.2)))))
        have H5 := Lib.hid (HI.out.2.trans hg5)
        clear hg5 h5c
        cases R with
        | true =>
          have hN := take_eq_snoc (0, 0) hlt hlt2 HI.out.1 (by rw [HE.out.1, HE.out.2]; exact of_decide_eq_true HR.out)
          have HN := Lib.hid (And.intro hN H5.out)
          clear hN
          go_wp2
          go_roundw
          case rel => exact ⟨k + 1, by omega, by go_num, HN.out⟩
          case measure => simp [intOf]; omega
        | false =>
          have HD : Hid (decide (xs = ys) = false) := Lib.hid (by
            have h1 := of_decide_eq_false HR.out
            have : xs ≠ ys := fun e => h1 (by rw [← HE.out.1, ← HE.out.2, e])
            simp [this])
          go_wp2
          go_ret
          exact ⟨ret_bool HD.out.symm, H5.out⟩
      · have HD : Hid (decide (xs = ys) = true) := Lib.hid (by
          have := HI.out.1
          rw [List.take_of_length_le (by omega), List.take_of_length_le (by have := HL.out; omega)] at this
          simp [this])
        go_wp2
        go_ret
        exact ⟨ret_bool HD.out.symm, HI.out.2⟩
  · have hn : ((xs.length : Int) != (ys.length : Int)) = true := by simp; omega
    have HD : Hid (decide (xs = ys) = false) := Lib.hid (by
      have : xs ≠ ys := fun e => hl (by rw [e])
      simp [this])
    clear hl
    go_enter Try.func44, Try.ntmps44
    go_wp2
    go_ret
    exact ⟨ret_bool HD.out.symm, Grew.refl _⟩

set_option maxRecDepth 100000 in
set_option maxHeartbeats 2000000 in
theorem equalFracs_any (v1 v2 : Value) (xs ys : List (Int × Int)) (w : World) (hv1 : FrV w v1 xs) (hv2 : FrV w v2 ys) :
    Calls Try.prog 19 #[v1, v2] w (QuietBool (decide (xs = ys)) w) := by
  obtain ⟨a, b, o, c, rfl, ⟨hlc, hcb⟩, ha, HC⟩ := hv1.shape
  obtain ⟨a2, b2, o2, c2, rfl, ⟨hlc2, hcb2⟩, ha2, HC2⟩ := hv2.shape
  have HA := Lib.hid ha
  have HA2 := Lib.hid ha2
  clear hv1 hv2 ha ha2
  by_cases hl : xs.length = ys.length
  · have hn : ((xs.length : Int) != (ys.length : Int)) = false := by simp [hl]
    have HL := Lib.hid hl
    clear hl
    go_enter Try.func19, Try.ntmps19
    go_wp2
    clear hn
    go_loopw [5] (fun i wr => ∃ k : Nat, k ≤ xs.length ∧ i = .int .i64 k ∧ Hid (xs.take k = ys.take k ∧ ∃ n, wr = w.drewN n)) (fun i _ => xs.length - (intOf i).toNat)
    case atStart => exact ⟨0, Nat.zero_le _, rfl, rfl, 0, rfl⟩
    case round =>
      obtain ⟨k, hk, rfl, HI⟩ := hrel
      have HW := Lib.hid (quiet_grew HI.out.2)
      by_cases hlt : k < xs.length
      · have hlt2 : k < ys.length := by have := HL.out; omega
        obtain rfl := HA.out (by omega)
        obtain rfl := HA2.out (by omega)
        have hc1 := HW.out.cell (HC.out k hlt).1
        have hc2 := HW.out.cell (HC.out k hlt).2
        have hc3 := HW.out.cell (HC2.out k hlt2).1
        have hc4 := HW.out.cell (HC2.out k hlt2).2
        obtain ⟨x, ex⟩ : ∃ x, xs.getD k (0, 0) = x := ⟨_, rfl⟩
        obtain ⟨y, ey⟩ : ∃ y, ys.getD k (0, 0) = y := ⟨_, rfl⟩
        rw [ex] at hc1 hc2
        rw [ey] at hc3 hc4
        obtain ⟨x1, x2⟩ := x
        obtain ⟨y1, y2⟩ := y
        have HE := Lib.hid (And.intro ex ey)
        have r1 : (k : Int) < xs.length := by omega
        have r2 : (k : Int) < ys.length := by omega
        have r3 : (0 : Int) ≤ k := by omega
        clear ex ey
        obtain ⟨R, eR⟩ : ∃ R, decide ((x1, x2) = (y1, y2)) = R := ⟨_, rfl⟩
        have hne := fun W => neqFr x1 x2 y1 y2 W
        rw [eR] at hne
        have hgd := fun op x y xs ys W => guardFr op x y xs ys W
        have HR := Lib.hid eR
        clear eR
        cases R with
        | true =>
          go_wp2
          go_quiet (fail)
          go_wp2
          go_roundw
          case rel => exact ⟨k + 1, by omega, by go_num, take_eq_snoc (0, 0) hlt hlt2 HI.out.1 (by rw [HE.out.1, HE.out.2]; exact of_decide_eq_true HR.out), quiet_step HI.out.2 _⟩
          case measure => simp [intOf]; omega
        | false =>
          go_wp2
          go_quiet (fail)
          go_wp2
          go_ret
          refine ⟨ret_bool ?_, quiet_step HI.out.2 _⟩
          have h1 := of_decide_eq_false HR.out
          have : xs ≠ ys := fun e => h1 (by rw [← HE.out.1, ← HE.out.2, e])
          simp [this]
      · go_wp2
        go_ret
        refine ⟨ret_bool ?_, HI.out.2⟩
        have := HI.out.1
        rw [List.take_of_length_le (by omega), List.take_of_length_le (by have := HL.out; omega)] at this
        simp [this]
  · have hn : ((xs.length : Int) != (ys.length : Int)) = true := by simp; omega
    have HL := Lib.hid hl
    clear hl
    go_enter Try.func19, Try.ntmps19
    go_wp2
    go_ret
    refine ⟨ret_bool ?_, 0, rfl⟩
    have : xs ≠ ys := fun e => HL.out (by rw [e])
    simp [this]

/-- (k, k + 1), (k + 2, k + 3), .. -/
def seqF (k : Int) (n : Nat) : List (Int × Int) := (List.range n).map fun (i : Nat) => (k + ((i * 2 : Nat) : Int), k + ((i * 2 : Nat) : Int) + 1)
theorem seqF_len (k : Int) (n : Nat) : (seqF k n).length = n := by simp [seqF]
theorem seqF_at (k : Int) (n i : Nat) (h : i < n) : (seqF k n).getD i (0, 0) = (k + ((i * 2 : Nat) : Int), k + ((i * 2 : Nat) : Int) + 1) := by simp [seqF, h]
def markToF (xs : List (Int × Int)) (k : Int) (j : Nat) : List (Int × Int) := (List.range xs.length).map fun (i : Nat) => if i < j then (k + ((i * 2 : Nat) : Int), k + ((i * 2 : Nat) : Int) + 1) else xs.getD i (0, 0)
theorem markToF_len (xs : List (Int × Int)) (k : Int) (j : Nat) : (markToF xs k j).length = xs.length := by simp [markToF]
theorem markToF_zero (xs : List (Int × Int)) (k : Int) : markToF xs k 0 = xs := by
  apply List.ext_getElem
  · simp [markToF]
  · intro i h1 h2
    simp [markToF, h2]
theorem markToF_all (xs : List (Int × Int)) (k : Int) : markToF xs k xs.length = seqF k xs.length := by
  unfold markToF seqF
  exact List.map_congr_left fun i hi => by rw [if_pos (List.mem_range.1 hi)]
theorem markToF_set (xs : List (Int × Int)) (k : Int) (j : Nat) (_hj : j < xs.length) : (markToF xs k j).set j (k + ((j * 2 : Nat) : Int), k + ((j * 2 : Nat) : Int) + 1) = markToF xs k (j + 1) := by
  apply List.ext_getElem
  · simp [markToF]
  · intro i h1 h2
    simp only [markToF, List.getElem_set, List.getElem_map, List.getElem_range]
    by_cases e : j = i
    · subst e; simp
    · rw [if_neg e]
      by_cases h : i < j
      · rw [if_pos h, if_pos (by omega)]
      · rw [if_neg h, if_neg (by omega)]
theorem flatF_set : ∀ (q : List (Int × Int)) (j : Nat) (x y : Int), ((flatF q).set (j * 2) (.int .i64 x)).set (j * 2 + 1) (.int .i64 y) = flatF (q.set j (x, y))
  | [], j, x, y => by simp [flatF]
  | e :: q, 0, x, y => by simp [flatF]
  | e :: q, j + 1, x, y => by
    have := flatF_set q j x y
    have e1 : (j + 1) * 2 = j * 2 + 1 + 1 := by omega
    rw [e1]
    simpa [flatF] using this
theorem FrO.set {E lo hi : Nat} {w : World} {v : Value} {q : List (Int × Int)} (h : FrO E lo hi w v q) {g c n : Nat} (hs : v = .slice (some ⟨g, 0, none⟩) n c) (j : Nat) (x y : Int) :
    FrO E lo hi ((w.setCell ⟨g, j * 2, none⟩ (.int .i64 x)).setCell ⟨g, j * 2 + 1, none⟩ (.int .i64 y)) v (q.set j (x, y)) := by
  subst hs
  have hn : n = q.length := by
    rcases h.1.2 with ⟨e, _⟩ | ⟨_, _, _, e, _⟩
    · cases e
    · cases e; rfl
  subst hn
  refine ⟨?_, h.2⟩
  have h1 := (World.ownsRow.stored h.1 (j * 2) (.int .i64 x)).1
  have h2 := (World.ownsRow.stored h1 (j * 2 + 1) (.int .i64 y)).1
  rw [flatF_set] at h2
  rw [List.length_set]
  exact h2
set_option maxRecDepth 100000 in
set_option maxHeartbeats 1000000 in
theorem heldFracS_any (v : Value) (n : Nat) (k : Int) (w : World) (hv : FrV w v (seqF k n)) (h0 : 0 ≤ k) (h1 : k + ((n * 2 : Nat) : Int) ≤ 1073741824) :
    Calls Try.prog 48 #[v, .int .i64 k] w fun e w' => e = .returned (.int .i64 (k + ((n * 2 : Nat) : Int))) ∧ w = w' := by
  obtain ⟨a, b, o, c, rfl, ⟨hlc, hcb⟩, ha, HC⟩ := hv.shape
  rw [seqF_len] at hlc ha ⊢
  have HA := Lib.hid ha
  have HC2 : Hid (∀ i, i < n → w.cell? ⟨b, o + i * 2, none⟩ = some (.int .i64 (k + ((i * 2 : Nat) : Int))) ∧ w.cell? ⟨b, o + i * 2 + 1, none⟩ = some (.int .i64 (k + ((i * 2 : Nat) : Int) + 1))) := fun i hi => by
    have := HC.out i (by rw [seqF_len]; exact hi)
    rwa [seqF_at k n i hi] at this
  clear hv ha HC
  go_enter Try.func48, Try.ntmps48
  go_wp2
  go_loop [1, 5] (fun m i => ∃ (j : Nat) (m1 : Int), j ≤ n ∧ i = .int .i64 j ∧ m = .int .i64 m1 ∧ Hid (m1 = k + ((j * 2 : Nat) : Int))) (fun _ i => n - (intOf i).toNat)
  case atStart => exact ⟨0, k, Nat.zero_le _, rfl, rfl, by simp [Hid]⟩
  case round =>
    obtain ⟨j, m1, hj, rfl, rfl, HM⟩ := hrel
    by_cases hlt : j < n
    · obtain rfl := HA.out (by omega)
      have hc := HC2.out j hlt
      rw [← HM.out] at hc
      obtain ⟨hc1, hc2⟩ := hc
      have hm := HM.out
      have ht : (m1 != m1) = false := by simp
      have ht2 : (m1 + 1 != m1 + 1) = false := by simp
      have e1 : IntKind.i64.wrap (m1 + 1) = m1 + 1 := wrap_12 _ (by omega) (by omega)
      have e2 : IntKind.i64.wrap (m1 + 1 + 1) = m1 + 1 + 1 := wrap_12 _ (by omega) (by omega)
      have HN : Hid (m1 + 1 + 1 = k + (((j + 1) * 2 : Nat) : Int)) := Lib.hid (by omega)
      have r1 : (j : Int) < n := by omega
      have r2 : (0 : Int) ≤ j := by omega
      clear hm
      go_wp2
      go_round
      case rel => exact ⟨j + 1, _, by omega, by go_num, rfl, HN⟩
      case measure => simp [intOf]; omega
    · obtain rfl : j = n := by omega
      go_wp2
      go_ret
      exact ⟨ret_int HM.out, rfl⟩
set_option maxRecDepth 100000 in
set_option maxHeartbeats 1000000 in
theorem markFracS_any (lo hi : Nat) (v : Value) (xs : List (Int × Int)) (k : Int) (w : World) (hv : FrO 29 lo hi w v xs) (h0 : 0 ≤ k) (h1 : k + ((xs.length * 2 : Nat) : Int) ≤ 1073741824) :
    Calls Try.prog 47 #[v, .int .i64 k] w fun e w' => e = .returned (.int .i64 (k + ((xs.length * 2 : Nat) : Int))) ∧ FrO 29 lo hi w' v (seqF k xs.length) ∧ Within lo hi w w' := by
  have HV := Lib.hid hv
  rcases hv.shape with ⟨rfl, rfl⟩ | ⟨g, c, rfl, hgl, hgh, hlc, hcm⟩
  · clear hv
    go_enter Try.func47, Try.ntmps47
    go_wp2
    refine wp_loop_rounds 1 ?_
    rw [rounds_succ]
    go_wp2
    go_ret
    exact ⟨ret_int (by simp), HV.out, Within.refl _ _ _⟩
  · unfold maxLen at hcm
    clear hv
    go_enter Try.func47, Try.ntmps47
    go_wp2
    go_loopw [1, 5] (fun m i wr => ∃ (j : Nat) (m1 : Int), j ≤ xs.length ∧ i = .int .i64 j ∧ m = .int .i64 m1 ∧ Hid (m1 = k + ((j * 2 : Nat) : Int) ∧ FrO 29 lo hi wr (.slice (some ⟨g, 0, none⟩) xs.length c) (markToF xs k j) ∧ Within lo hi w wr)) (fun _ i _ => xs.length - (intOf i).toNat)
    case atStart => exact ⟨0, k, Nat.zero_le _, rfl, rfl, by simp, by rw [markToF_zero]; exact HV.out, Within.refl _ _ _⟩
    case round =>
      obtain ⟨j, m1, hj, rfl, rfl, HI⟩ := hrel
      by_cases hlt : j < xs.length
      · obtain ⟨hel1, hel2, hfr⟩ := HI.out.2.1.at rfl (i := j) (by rw [markToF_len]; exact hlt)
        have hf1 := hfr (j * 2)
        have hf2 := hfr (j * 2 + 1)
        obtain ⟨y, ey⟩ : ∃ y, (markToF xs k j).getD j (0, 0) = y := ⟨_, rfl⟩
        rw [ey] at hel1 hel2
        obtain ⟨y1, y2⟩ := y
        have hm := HI.out.1
        have e1 : IntKind.i64.wrap (m1 + 1) = m1 + 1 := wrap_12 _ (by omega) (by omega)
        have e2 : IntKind.i64.wrap (m1 + 1 + 1) = m1 + 1 + 1 := wrap_12 _ (by omega) (by omega)
        have HN : Hid (m1 + 1 + 1 = k + (((j + 1) * 2 : Nat) : Int)) := Lib.hid (by omega)
        have HO2 : Hid (FrO 29 lo hi ((wr.setCell ⟨g, j * 2, none⟩ (.int .i64 m1)).setCell ⟨g, j * 2 + 1, none⟩ (.int .i64 (m1 + 1))) (.slice (some ⟨g, 0, none⟩) xs.length c) (markToF xs k (j + 1)) ∧ Within lo hi w ((wr.setCell ⟨g, j * 2, none⟩ (.int .i64 m1)).setCell ⟨g, j * 2 + 1, none⟩ (.int .i64 (m1 + 1)))) := by
          have h3 := HI.out.2.1.set rfl j m1 (m1 + 1)
          rw [hm, markToF_set xs k j hlt, ← hm] at h3
          exact ⟨h3, (HI.out.2.2.setCell (p := ⟨g, j * 2, none⟩) hgl hgh _).setCell (p := ⟨g, j * 2 + 1, none⟩) hgl hgh _⟩
        have r1 : (j : Int) < xs.length := by omega
        have r2 : (0 : Int) ≤ j := by omega
        have hd2 : (wr.setCell ⟨g, j * 2, none⟩ (.int .i64 m1)).cell? ⟨g, j * 2 + 1, none⟩ = some (.int .i64 y2) := by
          have e := World.cell?_setCell_other (w := wr) (a := ⟨g, j * 2, none⟩) (b := ⟨g, j * 2 + 1, none⟩) (v := .int .i64 m1) (by simp)
          rw [e]
          exact hel2
        have hd3 : (wr.setCell ⟨g, j * 2, none⟩ (.int .i64 m1)).frozen? ⟨g, j * 2 + 1, none⟩ = false := by
          simp [hf2]
        clear ey hm hfr
        go_wp2
        go_roundw
        case rel => exact ⟨j + 1, _, by omega, by go_num, rfl, HN.out, HO2.out⟩
        case measure => simp [intOf]; omega
      · obtain rfl : j = xs.length := by omega
        go_wp2
        go_ret
        refine ⟨ret_int HI.out.1, ?_, HI.out.2.2⟩
        rw [← markToF_all]
        exact HI.out.2.1
end Go.Proofs.Ytlifjhhjkcmneaa
