/- The contracts of slices.IndexFunc and slices.DeleteFunc, of whole numbers, and of slices.Contains, of bools. -/
import Derived.Test.YthgafljbbkgldaaDoorTopM
import Derived.Lib.SliceRun
import Derived.Shelf.Abstract
namespace Go.Proofs.YthgafljbbkgldaaDoor
open Go.RowKit

theorem setCells_within (g : Nat) : ∀ (vs : List Value) (o : Nat) (w : World), Within g (g + 1) w (w.setCells g o vs)
  | [], _, w => Within.refl _ _ w
  | v :: vs, o, w => (one_within w g o v).trans (setCells_within g vs (o + 1) _)
theorem zeroI (w : World) : (zeroValue 3).run Tryd.prog w = .ok (.int .i64 0) w := by kernel_rfl
/-- The first place of which B holds; how many there are if there is none. -/
def firstB (B : Int → Bool) (xs : List Int) : Nat := xs.findIdx B
set_option maxRecDepth 100000 in
set_option maxHeartbeats 1000000 in
theorem indexFuncW_any (v : Value) (xs : List Int) (B : Int → Bool) (fk : Nat) (lb : Array Value) (eg : ∀ (args : Array Value) (w : World), (callFunc fk args).run Tryd.prog w = .ok (.enter fk args) w) (w : World) (hv : IntsV w v xs)
    (hF : ∀ i, i < xs.length → Calls Tryd.prog fk (#[.int .i64 (xs.getD i 0)] ++ lb) w fun e w' => e = .returned (.bool (B (xs.getD i 0))) ∧ w = w') :
    Calls Tryd.prog 85 #[v, .func (.func fk) #[] lb] w fun e w' => ∃ r : Int, e = .returned (.int .i64 r) ∧ ((r = -1 ∧ ∀ i, i < xs.length → B (xs.getD i 0) = false) ∨ ∃ t : Nat, r = t ∧ t < xs.length ∧ B (xs.getD t 0) = true ∧ ∀ i, i < t → B (xs.getD i 0) = false) ∧ w = w' := by
  have HF := Lib.hid hF
  obtain ⟨a, b, o, c, rfl, ⟨hlc, hcb⟩, ha, HC⟩ := hv.shape
  have HA := Lib.hid ha
  clear hv hF ha
  go_enter Tryd.func85, Tryd.ntmps85
  go_wp2
  go_loopw [8] (fun i wr => ∃ s : Nat, s ≤ xs.length ∧ i = .int .i64 (s : Int) ∧ Hid ((∀ i, i < s → B (xs.getD i 0) = false) ∧ w = wr)) (fun i _ => xs.length - (intOf i).toNat)
  case atStart => exact ⟨0, Nat.zero_le _, rfl, fun i hi => absurd hi (Nat.not_lt_zero _), rfl⟩
  case round =>
    obtain ⟨s, hs, rfl, HX⟩ := hrel
    by_cases hsl : s < xs.length
    · obtain rfl := HA.out (by omega)
      have hsi : (s : Int) < (xs.length : Int) := by omega
      have hc := HC.out s hsl
      have HS := Lib.hid (HF.out s hsl)
      rw [HX.out.2] at hc HS
      cases hb : B (xs.getD s 0) with
      | true =>
        rw [hb] at HS
        have HB := Lib.hid hb
        obtain ⟨x, ex⟩ : ∃ x, xs.getD s 0 = x := ⟨_, rfl⟩
        rw [ex] at hc HS
        clear ex hb
        go_wp2_with (fail)
        refine HS.out.mono ?_
        rintro e w1 ⟨rfl, rfl⟩
        go_wp2
        go_ret
        exact ⟨_, rfl, .inr ⟨s, rfl, hsl, HB.out, HX.out.1⟩, HX.out.2⟩
      | false =>
        rw [hb] at HS
        have HQ : Hid ((∀ i, i < s + 1 → B (xs.getD i 0) = false) ∧ w = wr) := ⟨fun i hi => by
          by_cases e : i = s
          · rw [e]; exact hb
          · exact HX.out.1 i (by omega), HX.out.2⟩
        obtain ⟨x, ex⟩ : ∃ x, xs.getD s 0 = x := ⟨_, rfl⟩
        rw [ex] at hc HS
        clear ex hb
        go_wp2_with (fail)
        refine HS.out.mono ?_
        rintro e w1 ⟨rfl, rfl⟩
        go_wp2
        go_roundw
        case rel => exact ⟨s + 1, by omega, by go_num, HQ.out⟩
        case measure => simp [intOf]; omega
    · obtain rfl : s = xs.length := by omega
      go_wp2
      go_ret
      exact ⟨_, rfl, .inl ⟨rfl, HX.out.1⟩, HX.out.2⟩

/-- How many of the first k numbers stay. -/
def keptN (B : Int → Bool) (xs : List Int) (k : Nat) : Nat := ((xs.take k).filter fun x => !B x).length
theorem keptN_succ (B : Int → Bool) (xs : List Int) (k : Nat) (hk : k < xs.length) : keptN B xs (k + 1) = keptN B xs k + if B (xs.getD k 0) = true then 0 else 1 := by
  have e : xs.getD k 0 = xs[k] := by simp [hk]
  unfold keptN
  rw [List.take_succ_eq_append_getElem hk, List.filter_append, List.length_append, e]
  cases hb : B xs[k] <;> simp [hb]
theorem keptN_le (B : Int → Bool) (xs : List Int) (k : Nat) : keptN B xs k ≤ k := by
  unfold keptN
  refine Nat.le_trans (List.length_filter_le _ _) ?_
  rw [List.length_take]
  exact Nat.min_le_left _ _
theorem keptN_first (B : Int → Bool) (xs : List Int) (t : Nat) (ht : t ≤ xs.length) (h : ∀ i, i < t → B (xs.getD i 0) = false) : keptN B xs t = t := by
  induction t with
  | zero => simp [keptN]
  | succ t ih => rw [keptN_succ B xs t (by omega), ih (by omega) (fun i hi => h i (by omega)), h t (by omega)]; simp

set_option maxRecDepth 100000 in
set_option maxHeartbeats 2000000 in
theorem deleteFunc_any (lo hi : Nat) (v : Value) (xs : List Int) (B : Int → Bool) (fk : Nat) (lb : Array Value) (eg : ∀ (args : Array Value) (w : World), (callFunc fk args).run Tryd.prog w = .ok (.enter fk args) w) (w : World) (hv : IntsO 3 lo hi w v xs)
    (hF : ∀ i W, Within lo hi w W → i < xs.length → Calls Tryd.prog fk (#[.int .i64 (xs.getD i 0)] ++ lb) W fun e w' => e = .returned (.bool (B (xs.getD i 0))) ∧ W = w') :
    Calls Tryd.prog 61 #[v, .func (.func fk) #[] lb] w fun e w' => ∃ a c, e = .returned (.slice a (keptN B xs xs.length) c) ∧ Within lo hi w w' := by
  have HF := Lib.hid hF
  have HX := Lib.hid (indexFuncW_any v xs B fk lb eg w hv.toV (fun i hi => hF i w (Within.refl _ _ _) hi))
  have HO := Lib.hid hv
  obtain ⟨a, c, rfl⟩ : ∃ a c, v = .slice a xs.length c := by
    rcases hv.shape with ⟨rfl, rfl⟩ | ⟨g, c, rfl, _⟩ <;> exact ⟨_, _, rfl⟩
  clear hv hF
  go_enter Tryd.func61, Tryd.ntmps61
  go_wp2_with (fail)
  refine HX.out.mono ?_
  rintro e w1 ⟨r, rfl, hr, rfl⟩
  rcases hr with ⟨rfl, hno⟩ | ⟨t, rfl, ht, hyes, hno⟩
  · have HK := Lib.hid (keptN_first B xs xs.length (Nat.le_refl _) hno)
    clear hno HX
    go_wp2
    go_ret
    rw [HK.out]
    exact ⟨_, _, rfl, Within.refl _ _ _⟩
  · have hb : ((t : Int) == -1) = false := beq_eq_false_iff_ne.2 (by omega)
    obtain ⟨g, c', ec, hg1, hg2, hlc, hcb⟩ := HO.out.pos (by omega)
    simp only [Value.slice.injEq, true_and] at ec
    obtain ⟨rfl, rfl⟩ := ec
    have HG := Lib.hid (And.intro hg1 hg2)
    have hk0 := keptN_succ B xs t ht
    rw [if_pos hyes, keptN_first B xs t (by omega) hno] at hk0
    have HK0 := Lib.hid hk0
    have q1 : IntKind.i64.wrap ((t : Int) + 1) = ((t + 1 : Nat) : Int) := by rw [IntKind.wrap_i64]; omega
    clear hk0 hyes hno HX hg1 hg2
    go_wp2_with (fail)
    go_loopg [5, 6] xs.length (fun gk iv jv wr => ∃ (k j : Nat) (zs : List Int), iv = .int .i64 k ∧ jv = .int .i64 j ∧ j ≤ xs.length ∧ k < j ∧ xs.length ≤ gk + j ∧ Hid (k = keptN B xs j ∧ zs.length = xs.length ∧ (∀ p, j ≤ p → zs.getD p 0 = xs.getD p 0) ∧ IntsO 3 lo hi wr (.slice (some ⟨g, 0, none⟩) xs.length c) zs ∧ Within lo hi w wr))
    case atStart => exact ⟨t, t + 1, xs, rfl, rfl, by omega, by omega, by omega, by rw [HK0.out]; rfl, rfl, fun _ _ => rfl, HO.out, Within.refl _ _ _⟩
    case round =>
      obtain ⟨k, j, zs, rfl, rfl, hj, hkj, hgj, HI⟩ := hrel
      by_cases hlt : j < xs.length
      · have hcj := (HI.out.2.2.2.1.at rfl (i := j) (by rw [HI.out.2.1]; exact hlt)).1
        rw [HI.out.2.2.1 j (Nat.le_refl _)] at hcj
        have HFJ := Lib.hid (HF.out j wr HI.out.2.2.2.2 hlt)
        have hks := keptN_succ B xs j hlt
        have hji : (j : Int) < xs.length := by omega
        have q2 : IntKind.i64.wrap ((j : Int) + 1) = ((j + 1 : Nat) : Int) := by rw [IntKind.wrap_i64]; omega
        cases hb2 : B (xs.getD j 0) with
        | true =>
          rw [hb2] at HFJ
          rw [if_pos hb2, ← HI.out.1] at hks
          have HKS := Lib.hid hks
          obtain ⟨x, ex⟩ : ∃ x, xs.getD j 0 = x := ⟨_, rfl⟩
          rw [ex] at hcj HFJ
          clear ex hb2 hks
          go_wp2_with (fail)
          refine HFJ.out.mono ?_
          rintro e w5 ⟨rfl, rfl⟩
          go_wp2
          go_roundg (gk - 1)
          case measure => omega
          case rel => exact ⟨k, j + 1, zs, rfl, rfl, by omega, by omega, by omega, HKS.out.symm, HI.out.2.1, fun p hp => HI.out.2.2.1 p (by omega), HI.out.2.2.2⟩
        | false =>
          rw [hb2] at HFJ
          rw [if_neg (by rw [hb2]; simp), ← HI.out.1] at hks
          have HKS := Lib.hid hks
          have HZ := Lib.hid (HI.out.2.2.2.1.set rfl k (xs.getD j 0))
          have HW : Hid (Within lo hi w (wr.setCell ⟨g, k, none⟩ (.int .i64 (xs.getD j 0)))) := Lib.hid (HI.out.2.2.2.2.setCell (p := ⟨g, k, none⟩) HG.out.1 HG.out.2 _)
          have hck := HI.out.2.2.2.1.at rfl (i := k) (by rw [HI.out.2.1]; omega)
          have hck1 := hck.1
          have hck2 := hck.2
          obtain ⟨x, ex⟩ : ∃ x, xs.getD j 0 = x := ⟨_, rfl⟩
          obtain ⟨y, ey⟩ : ∃ y, zs.getD k 0 = y := ⟨_, rfl⟩
          rw [ex] at hcj HFJ HZ HW
          rw [ey] at hck1
          have hki : (k : Int) < xs.length := by omega
          have hkn : k < xs.length := by omega
          have q3 : IntKind.i64.wrap ((k : Int) + 1) = ((k + 1 : Nat) : Int) := by rw [IntKind.wrap_i64]; omega
          clear ex ey hb2 hks hck
          go_wp2_with (fail)
          refine HFJ.out.mono ?_
          rintro e w5 ⟨rfl, rfl⟩
          go_wp2
          go_roundg (gk - 1)
          case measure => omega
          case rel => exact ⟨k + 1, j + 1, zs.set k x, rfl, rfl, by omega, by omega, by omega, HKS.out.symm, by rw [List.length_set]; exact HI.out.2.1, fun p hp => by
              rw [← HI.out.2.2.1 p (by omega)]
              simp only [List.getD_eq_getElem?_getD, List.getElem?_set]
              rw [if_neg (by omega)], HZ.out, HW.out⟩
      · obtain rfl : j = xs.length := by omega
        have hcl : ∀ ty, (Builtin.clear_ #[27] ty #[.slice (some ⟨g, k, none⟩) (xs.length - k) (c - k)]).run Tryd.prog wr = .ok (.tuple #[]) (wr.setCells g k (List.replicate (xs.length - k) (.int .i64 0))) := fun ty =>
          Lib.run_clear_slice wr 27 3 ty (.int .i64 0) Tryd.underlying27 zeroI rfl rfl g k (xs.length - k) (c - k) (by omega) (fun q hq => by rw [(HI.out.2.2.2.1.at rfl (i := k + q) (by rw [HI.out.2.1]; omega)).1]; rfl) (fun q hq => (HI.out.2.2.2.1.at rfl (i := k + q) (by rw [HI.out.2.1]; omega)).2)
        have HW : Hid (Within lo hi w (wr.setCells g k (List.replicate (xs.length - k) (.int .i64 0)))) := Lib.hid (HI.out.2.2.2.2.trans ((setCells_within g _ k wr).wide HG.out.1 (by have := HG.out.2; omega)))
        have hkn : k ≤ xs.length := by omega
        have hki : (k : Int) ≤ xs.length := by omega
        have hkc : (k : Int) ≤ c := by omega
        have HKE := Lib.hid HI.out.1
        go_wp2
        go_ret
        rw [← HKE.out]
        exact ⟨_, _, rfl, HW.out⟩

set_option maxRecDepth 100000 in
set_option maxHeartbeats 1000000 in
/-- 'slices.Index(s, false)', of bools. -/
theorem indexFalse_any (g n c : Nat) (xs : List Bool) (w : World) (hn : xs.length = n) (hx : ∀ i, i < n → w.cell? ⟨g, i, none⟩ = some (.bool (xs.getD i false))) (hn1 : n ≤ 1000) :
    Calls Tryd.prog 87 #[.slice (some ⟨g, 0, none⟩) n c, .bool false] w fun e w' => ∃ r : Int, e = .returned (.int .i64 r) ∧ ((r = -1 ∧ ∀ i, i < n → xs.getD i false = true) ∨ (0 ≤ r ∧ ∃ t, t < n ∧ xs.getD t false = false)) ∧ w = w' := by
  have HC := Lib.hid hx
  have HN := Lib.hid hn
  clear hx hn
  go_enter Tryd.func87, Tryd.ntmps87
  go_wp2
  go_loopw [8] (fun i wr => ∃ k : Nat, i = .int .i64 k ∧ k ≤ n ∧ Hid ((∀ j, j < k → xs.getD j false = true) ∧ w = wr)) (fun i _ => n - (intOf i).toNat)
  case atStart => exact ⟨0, rfl, Nat.zero_le _, fun j hj => absurd hj (Nat.not_lt_zero _), rfl⟩
  case round =>
    obtain ⟨k, rfl, hk, HI⟩ := hrel
    by_cases hlt : k < n
    · have hc := HC.out k hlt
      rw [HI.out.2] at hc
      have r1 : (k : Int) < n := by omega
      have w1' : IntKind.i64.wrap ((k : Int) + 1) = (k : Int) + 1 := by rw [IntKind.wrap_i64]; omega
      cases hb : xs.getD k false with
      | false =>
        rw [hb] at hc
        have HM : Hid (∃ t, t < n ∧ xs.getD t false = false) := Lib.hid ⟨k, hlt, hb⟩
        have hbb : (false == false) = true := rfl
        clear hb
        go_wp2
        go_ret
        exact ⟨k, rfl, .inr ⟨by omega, HM.out⟩, HI.out.2⟩
      | true =>
        rw [hb] at hc
        have HQ : Hid ((∀ j, j < k + 1 → xs.getD j false = true) ∧ w = wr) := ⟨fun j hj => by
          by_cases e : j = k
          · rw [e, hb]
          · exact HI.out.1 j (by omega), HI.out.2⟩
        have hbb : (false == true) = false := rfl
        clear hb
        go_wp2
        go_roundw
        case rel => exact ⟨k + 1, by go_num, by omega, HQ.out⟩
        case measure => simp [intOf]; omega
    · obtain rfl : k = n := by omega
      go_wp2
      go_ret
      exact ⟨-1, rfl, .inl ⟨rfl, HI.out.1⟩, HI.out.2⟩
set_option maxRecDepth 100000 in
set_option maxHeartbeats 1000000 in
theorem containsFalse_any (g n c : Nat) (xs : List Bool) (w : World) (hn : xs.length = n) (hx : ∀ i, i < n → w.cell? ⟨g, i, none⟩ = some (.bool (xs.getD i false))) (hn1 : n ≤ 1000) :
    Calls Tryd.prog 65 #[.slice (some ⟨g, 0, none⟩) n c, .bool false] w fun e w' => ∃ b : Bool, e = .returned (.bool b) ∧ (b = true ↔ ∃ t, t < n ∧ xs.getD t false = false) ∧ w = w' := by
  have HI := Lib.hid (indexFalse_any g n c xs w hn hx hn1)
  clear hn hx
  go_enter Tryd.func65, Tryd.ntmps65
  go_wp2_with (fail)
  refine HI.out.mono ?_
  rintro e w1 ⟨r, rfl, hr, rfl⟩
  have HR := Lib.hid hr
  clear hr
  go_wp2
  go_ret
  refine ⟨_, rfl, ?_, rfl⟩
  rw [decide_eq_true_eq]
  rcases HR.out with ⟨rfl, h⟩ | ⟨h0, h⟩
  · exact ⟨fun h' => absurd h' (by omega), fun ⟨t, ht, h'⟩ => by rw [h t ht] at h'; exact absurd h' (by simp)⟩
  · exact ⟨fun _ => h, fun _ => h0⟩
end Go.Proofs.YthgafljbbkgldaaDoor
