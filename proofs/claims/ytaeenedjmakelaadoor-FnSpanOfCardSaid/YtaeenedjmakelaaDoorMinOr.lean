/- The contracts of cmp.Or[int], slices.Min and impl.byRising. -/
import Derived.Test.YtaeenedjmakelaaDoorQueueF
import Derived.Test.YtaeenedjmakelaaDoorKeepG
import Derived.Lib.MinMax
namespace Go.Proofs.YtaeenedjmakelaaDoor
open Go.RowKit

set_option maxRecDepth 100000 in
set_option maxHeartbeats 1000000 in
theorem cmpOr_any (v : Value) (x y : Int) (w : World) (hv : IntsV w v [x, y]) : Calls Tryd.prog 114 #[v] w fun e w' => e = .returned (.int .i64 (if x = 0 then y else x)) ∧ Grew w w' := by
  obtain ⟨a, b, o, c, rfl, ⟨hlc, hcb⟩, ha, HC⟩ := NumsV.shape hv
  obtain rfl := ha (by simp)
  have h0 := HC.out 0 (by simp)
  have h1 := HC.out 1 (by simp)
  simp only [List.getD_cons_zero, List.getD_cons_succ, Nat.add_zero, List.length_cons, List.length_nil] at h0 h1 hlc ⊢
  clear hv ha HC
  by_cases hx : x = 0
  · by_cases hy : y = 0
    · subst hx
      subst hy
      go_enter Tryd.func114, Tryd.ntmps114
      go_wp2
      go_loopw [8] (fun i wr => ∃ T : Nat, T ≤ 2 ∧ i = .int .i64 (T : Int) ∧ wr = w) (fun i _ => 2 - (intOf i).toNat)
      case atStart => exact ⟨0, by omega, rfl, rfl⟩
      case round =>
        obtain ⟨T, hT, rfl, rfl⟩ := hrel
        rcases T with _ | _ | T
        · go_wp2
          go_roundw
          case rel => exact ⟨1, by omega, by go_num, by trivial⟩
          case measure => simp [intOf]
        · go_wp2
          go_roundw
          case rel => exact ⟨2, by omega, by go_num, by trivial⟩
          case measure => simp [intOf]
        · obtain rfl : T = 0 := by omega
          go_wp2
          go_ret
          exact ⟨rfl, Grew.refl _⟩
    · subst hx
      go_enter Tryd.func114, Tryd.ntmps114
      go_wp2
      go_loopw [8] (fun i wr => ∃ T : Nat, T ≤ 1 ∧ i = .int .i64 (T : Int) ∧ wr = w) (fun i _ => 2 - (intOf i).toNat)
      case atStart => exact ⟨0, by omega, rfl, rfl⟩
      case round =>
        obtain ⟨T, hT, rfl, rfl⟩ := hrel
        rcases T with _ | T
        · go_wp2
          go_roundw
          case rel => exact ⟨1, by omega, by go_num, by trivial⟩
          case measure => simp [intOf]
        · obtain rfl : T = 0 := by omega
          have hb : (y != 0) = true := by simpa using hy
          go_wp2
          go_ret
          exact ⟨rfl, Grew.refl _⟩
  · rw [if_neg hx]
    have hb : (x != 0) = true := by simpa using hx
    go_enter Tryd.func114, Tryd.ntmps114
    go_wp2
    go_loopw [8] (fun i wr => i = .int .i64 0 ∧ wr = w) (fun i _ => 2 - (intOf i).toNat)
    case atStart => exact ⟨rfl, rfl⟩
    case round =>
      obtain ⟨rfl, rfl⟩ := hrel
      go_wp2
      go_ret
      exact ⟨rfl, Grew.refl _⟩

set_option maxRecDepth 100000 in
set_option maxHeartbeats 1000000 in
theorem slicesMin_any (v : Value) (xs : List Int) (w : World) (hv : IntsV w v xs) (h0 : 0 < xs.length) (hl : xs.length ≤ 1000) : Calls Tryd.prog 104 #[v] w fun e w' => e = .returned (.int .i64 (minU xs (xs.length - 1))) ∧ w = w' := by
  obtain ⟨a, b, o, c, rfl, ⟨hlc, hcb⟩, ha, HC⟩ := NumsV.shape hv
  obtain rfl := ha h0
  obtain ⟨n, en⟩ : ∃ n, xs.length = n := ⟨_, rfl⟩
  rw [en] at h0 hl hlc ⊢
  have HC' : Hid (∀ k, k < n → w.cell? ⟨b, o + k, none⟩ = some (.int .i64 (xs.getD k 0))) := Lib.hid fun k hk => HC.out k (by omega)
  have hc0 := HC'.out 0 h0
  rw [Nat.add_zero] at hc0
  obtain ⟨x0, ex0⟩ : ∃ x0, xs.getD 0 0 = x0 := ⟨_, rfl⟩
  have HX0 := Lib.hid ex0
  rw [ex0] at hc0
  clear hv ha HC en ex0
  go_enter Tryd.func104, Tryd.ntmps104
  go_wp2
  go_loopw [3, 4] (fun mv i wr => ∃ k : Nat, k < n ∧ i = .int .i64 ((k + 1 : Nat) : Int) ∧ (∃ y, mv = .int .i64 y ∧ Hid (y = minU xs k)) ∧ wr = w) (fun _ i _ => n - (intOf i).toNat)
  case atStart => exact ⟨0, h0, rfl, ⟨_, rfl, Lib.hid HX0.out.symm⟩, rfl⟩
  case round =>
    obtain ⟨k, hk, rfl, ⟨y, rfl, hy⟩, rfl⟩ := hrel
    by_cases hlt : k + 1 < n
    · have hck := HC'.out (k + 1) hlt
      obtain ⟨x, ex⟩ : ∃ x, xs.getD (k + 1) 0 = x := ⟨_, rfl⟩
      rw [ex] at hck
      have HX := Lib.hid ex
      clear ex
      go_wp2
      go_roundw
      case rel => exact ⟨k + 1, hlt, by go_num, ⟨_, rfl, Lib.hid (by rw [minU, HX.out, ← hy.out])⟩, by trivial⟩
      case measure => simp [intOf]; omega
    · obtain rfl : n = k + 1 := by omega
      go_wp2
      go_ret
      exact ⟨ret_int (by rw [Nat.add_sub_cancel]; exact hy.out), rfl⟩

theorem cmpI_neg {x y : Int} : cmpI x y < 0 ↔ x < y := by
  unfold cmpI
  split
  · omega
  · split <;> omega
theorem cmpI_zero {x y : Int} : cmpI x y = 0 ↔ x = y := by
  unfold cmpI
  split
  · omega
  · split <;> omega
set_option maxRecDepth 100000 in
set_option maxHeartbeats 8000000 in
theorem byRising_any (g c N a b : Nat) (p : List Int) (w : World) (hv : IntsV w (.slice (some ⟨g, 0, none⟩) N c) p) (hN : p.length = N) (ha : a < N) (hb : b < N) :
    Calls Tryd.prog 96 #[.slice (some ⟨g, 0, none⟩) N c, .int .i64 a, .int .i64 b] w fun e w' => (∃ r, e = .returned (.int .i64 r) ∧ (r < 0 ↔ ahead p a b = true)) ∧ Grew w w' := by
  have hca := NumsV.at hv a (by omega)
  have hcb := NumsV.at hv b (by omega)
  obtain ⟨x, ex⟩ : ∃ x, p.getD a 0 = x := ⟨_, rfl⟩
  obtain ⟨y, ey⟩ : ∃ y, p.getD b 0 = y := ⟨_, rfl⟩
  rw [ex] at hca
  rw [ey] at hcb
  have HA : Hid ((if cmpI x y = 0 then cmpI (a : Int) (b : Int) else cmpI x y) < 0 ↔ ahead p a b = true) := Lib.hid (by
    rw [ahead_iff, ex, ey]
    split
    · rename_i h
      rw [cmpI_zero] at h
      rw [cmpI_neg]
      omega
    · rename_i h
      rw [cmpI_zero] at h
      rw [cmpI_neg]
      omega)
  obtain ⟨C, eC⟩ : ∃ C : Int → Int → Int, ∀ u v, C u v = cmpI u v := ⟨cmpI, fun _ _ => rfl⟩
  have HCM : Hid (∀ u v W, Calls Tryd.prog 115 #[.int .i64 u, .int .i64 v] W fun e w' => e = .returned (.int .i64 (C u v)) ∧ W = w') := Lib.hid fun u v W => by rw [eC]; exact compare_any u v W
  rw [← eC, ← eC] at HA
  have HOR := Lib.hid fun v W h => cmpOr_any v (C x y) (C (a : Int) (b : Int)) W h
  have hai : (a : Int) < (N : Int) := by omega
  have hbi : (b : Int) < (N : Int) := by omega
  clear ex ey eC hv hN
  go_enter Tryd.func96, Tryd.ntmps96
  have HIV : Hid (∀ W, Grew w W → IntsV ((W.alloc (.cells #[.int .i64 (C x y), .int .i64 (C (a : Int) (b : Int))] 3))) (.slice (some ⟨W.heap.size, 0, none⟩) 2 2) [C x y, C (a : Int) (b : Int)]) := Lib.hid fun W _ => (IntsO.lit 3 W.heap.size W [C x y, C (a : Int) (b : Int)] #[.int .i64 (C x y), .int .i64 (C (a : Int) (b : Int))] rfl (Nat.le_refl _) (show 2 ≤ maxLen by decide)).toV
  have HAL : Hid (∀ W, Grew w W → W.cell? ⟨g, a, none⟩ = some (.int .i64 x) ∧ W.cell? ⟨g, b, none⟩ = some (.int .i64 y)) := Lib.hid fun W hW => ⟨hW.cell hca, hW.cell hcb⟩
  obtain ⟨r, er⟩ : ∃ r, (if C x y = 0 then C (a : Int) (b : Int) else C x y) = r := ⟨_, rfl⟩
  rw [er] at HA HOR
  clear er
  go_wp2_with (fail)
  go_region_held3 (fun W => W.cell? ⟨g, a, none⟩ = some (.int .i64 x) ∧ W.cell? ⟨g, b, none⟩ = some (.int .i64 y))
    (first
      | exact ⟨hca, hcb⟩
      | assumption
      | exact HAL.out _ (((Grew.refl w).alloc _).drew)
      | exact HAL.out _ ((((Grew.refl w).alloc _).drew).trans hgo))
    (first
      | (go_at_call 115; refine (HCM.out _ _ _).mono ?_; rintro e w1 ⟨rfl, rfl⟩)
      | (go_at_call 114; refine (HOR.out _ _ (NumsV.grew (HIV.out _ (Grew.refl w)) (Grew.refl _).drew)).mono ?_; rintro e w3 ⟨rfl, hgo⟩))
  have HG := Lib.hid ((((Grew.refl w).alloc _).drew).trans hgo)
  clear hgo
  go_wp2
  go_ret
  exact ⟨⟨r, rfl, HA.out⟩, HG.out⟩
end Go.Proofs.YtaeenedjmakelaaDoor
