/- The contract of laws.equalBools. -/
import Derived.Test.YthljmolkicfdaaaBoolApp
namespace Go.Proofs.Ythljmolkicfdaaa
open Go.RowKit

/-- v reads as the bools xs. -/
def BoolsV (w : World) (v : Value) (xs : List Bool) : Prop :=
  ∃ a b o c, v = .slice a xs.length c ∧ (xs.length ≤ c ∧ c ≤ 9223372036854775807) ∧ ∀ i, i < xs.length → a = some ⟨b, o, none⟩ ∧ w.cell? ⟨b, o + i, none⟩ = some (.bool (xs.getD i false))
theorem BoolsV.grew {w w' : World} {v : Value} {xs : List Bool} (h : BoolsV w v xs) (hg : Grew w w') : BoolsV w' v xs := by
  obtain ⟨a, b, o, c, e, hl, hc⟩ := h
  exact ⟨a, b, o, c, e, hl, fun i hi => ⟨(hc i hi).1, hg.cell (hc i hi).2⟩⟩
theorem BoolsV.shape {w : World} {v : Value} {xs : List Bool} (h : BoolsV w v xs) : ∃ a b o c, v = .slice a xs.length c ∧ (xs.length ≤ c ∧ c ≤ 9223372036854775807) ∧ (0 < xs.length → a = some ⟨b, o, none⟩) ∧
    Hid (∀ i, i < xs.length → w.cell? ⟨b, o + i, none⟩ = some (.bool (xs.getD i false))) := by
  obtain ⟨a, b, o, c, e, hl, hc⟩ := h
  exact ⟨a, b, o, c, e, hl, fun h0 => (hc 0 h0).1, Lib.hid fun i hi => (hc i hi).2⟩
theorem BoolsO.toV {E lo hi : Nat} {w : World} {v : Value} {xs : List Bool} (h : BoolsO E lo hi w v xs) : BoolsV w v xs := by
  rcases h.shape with ⟨rfl, rfl⟩ | ⟨g, c, rfl, _, _, h5, h6⟩
  · exact ⟨none, 0, 0, 0, rfl, ⟨Nat.le_refl _, by omega⟩, fun _ h => absurd h (Nat.not_lt_zero _)⟩
  · refine ⟨_, g, 0, c, rfl, ⟨h5, by unfold maxLen at h6; omega⟩, fun i hi => ⟨rfl, ?_⟩⟩
    rw [Nat.zero_add]
    exact (h.at rfl hi).1
theorem take_eq_snocB {xs ys : List Bool} {k : Nat} (h1 : k < xs.length) (h2 : k < ys.length) (h : xs.take k = ys.take k) (he : xs.getD k false = ys.getD k false) : xs.take (k + 1) = ys.take (k + 1) := take_eq_snoc false h1 h2 h he

set_option maxRecDepth 100000 in
set_option maxHeartbeats 1000000 in
theorem equalBools_any (v1 v2 : Value) (xs ys : List Bool) (w : World) (hv1 : BoolsV w v1 xs) (hv2 : BoolsV w v2 ys) :
    Calls Try.prog 23 #[v1, v2] w (QuietBool (decide (xs = ys)) w) := by
  obtain ⟨a, b, o, c, rfl, ⟨hlc, hcb⟩, ha, HC⟩ := hv1.shape
  obtain ⟨a2, b2, o2, c2, rfl, ⟨hlc2, hcb2⟩, ha2, HC2⟩ := hv2.shape
  have HA := Lib.hid ha
  have HA2 := Lib.hid ha2
  clear hv1 hv2 ha ha2
  by_cases hl : xs.length = ys.length
  · have hn : ((xs.length : Int) != (ys.length : Int)) = false := by simp [hl]
    have HL := Lib.hid hl
    clear hl
    go_enter Try.func23, Try.ntmps23
    go_wp2
    clear hn
    go_loopw [5] (fun i wr => ∃ k : Nat, k ≤ xs.length ∧ i = .int .i64 k ∧ Hid (xs.take k = ys.take k ∧ ∃ n, wr = w.drewN n)) (fun i _ => xs.length - (intOf i).toNat)
    case atStart => exact ⟨0, Nat.zero_le _, rfl, rfl, 0, rfl⟩
    case round =>
      obtain ⟨k, hk, rfl, HI⟩ := hrel
      have HW := Lib.hid (quiet_grew HI.out.2)
      by_cases hlt : k < xs.length
      · have hlt2 : k < ys.length := by have := HL.out; omega
        obtain rfl := HA.out (by omega)
        obtain rfl := HA2.out (by omega)
        have hc1 := HW.out.cell (HC.out k hlt)
        have hc2 := HW.out.cell (HC2.out k hlt2)
        obtain ⟨x, ex⟩ : ∃ x, xs.getD k false = x := ⟨_, rfl⟩
        obtain ⟨y, ey⟩ : ∃ y, ys.getD k false = y := ⟨_, rfl⟩
        rw [ex] at hc1
        rw [ey] at hc2
        have HE := Lib.hid (And.intro ex ey)
        have r1 : (k : Int) < xs.length := by omega
        have r2 : (k : Int) < ys.length := by omega
        have r3 : (0 : Int) ≤ k := by omega
        clear ex ey
        cases x <;> cases y
        case false.false | true.true =>
          go_wp2
          go_quiet (fail)
          go_wp2
          go_roundw
          case rel => exact ⟨k + 1, by omega, by go_num, take_eq_snocB hlt hlt2 HI.out.1 (by rw [HE.out.1, HE.out.2]), quiet_step HI.out.2 _⟩
          case measure => simp [intOf]; omega
        all_goals
          go_wp2
          go_quiet (fail)
          go_wp2
          go_ret
          refine ⟨ret_bool ?_, quiet_step HI.out.2 _⟩
          have : xs ≠ ys := fun e => by
            have h1 := HE.out.1
            have h2 := HE.out.2
            rw [e, h2] at h1
            cases h1
          simp [this]
      · go_wp2
        go_ret
        refine ⟨ret_bool ?_, HI.out.2⟩
        have := HI.out.1
        rw [List.take_of_length_le (by omega), List.take_of_length_le (by have := HL.out; omega)] at this
        simp [this]
  · have hn : ((xs.length : Int) != (ys.length : Int)) = true := by simp; omega
    have HL := Lib.hid hl
    clear hl
    go_enter Try.func23, Try.ntmps23
    go_wp2
    go_ret
    refine ⟨ret_bool ?_, 0, rfl⟩
    have : xs ≠ ys := fun e => HL.out (by rw [e])
    simp [this]
end Go.Proofs.Ythljmolkicfdaaa
