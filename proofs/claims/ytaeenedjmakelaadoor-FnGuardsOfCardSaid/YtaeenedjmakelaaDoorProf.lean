/- The contracts of impl.ValidProfile, spec.validProfile and spec.ValidProfile. -/
import Derived.Test.YtaeenedjmakelaaDoorHeights
namespace Go.Proofs.YtaeenedjmakelaaDoor
open Go.RowKit

def vProf (xs : List Int) : Bool := vHts 9 xs
theorem vProf_iff (xs : List Int) : vProf xs = true ↔ 1 ≤ xs.length ∧ xs.length ≤ 9 ∧ ∀ i, i < xs.length → 0 ≤ xs.getD i 0 ∧ xs.getD i 0 ≤ 12 := by
  simp only [vProf, vHts, Bool.and_eq_true, decide_eq_true_eq, List.all_eq_true, okH]
  constructor
  · rintro ⟨⟨h1, h2⟩, h3⟩
    refine ⟨h1, by omega, fun i hi => ?_⟩
    have := h3 xs[i] (List.getElem_mem hi)
    simpa [hi] using this
  · rintro ⟨h1, h2, h3⟩
    refine ⟨⟨h1, by omega⟩, fun x hx => ?_⟩
    obtain ⟨i, hi, rfl⟩ := List.getElem_of_mem hx
    have := h3 i hi
    simpa [hi] using this

set_option maxRecDepth 100000 in
theorem ValidProfile_any (v : Value) (xs : List Int) (w : World) (hv : IntsV w v xs) :
    Calls Tryd.prog 48 #[v] w fun e w' => e = .returned (.bool (vProf xs)) ∧ w = w' := by
  have HV : Hid (Calls Tryd.prog 81 #[v, .int .i64 9, .int .i64 12] w fun e w' => e = .returned (.bool (vProf xs)) ∧ w = w') := Lib.hid (validNumbers_any v xs 9 12 w hv)
  obtain ⟨a, b, o, c, rfl, _, _, _⟩ := hv.shape
  clear hv
  go_enter Tryd.func48, Tryd.ntmps48
  go_wp2_with (fail)
  refine HV.out.mono ?_
  rintro e w1 ⟨rfl, rfl⟩
  go_wp2
  go_ret
  exact ⟨rfl, rfl⟩

set_option maxRecDepth 100000 in
set_option maxHeartbeats 1000000 in
theorem sValidProfile0_any (v : Value) (xs : List Int) (w : World) (hv : IntsV w v xs) :
    Calls Tryd.prog 44 #[v] w fun e w' => e = .returned (.bool (vProf xs)) ∧ w = w' := by
  obtain ⟨a, b, o, c, rfl, ⟨hlc, hcb⟩, ha, HC⟩ := hv.shape
  have HA := Lib.hid ha
  clear ha hv
  go_enter Tryd.func44, Tryd.ntmps44
  go_wp2
  go_loop [3] (fun i => ∃ k : Nat, k ≤ xs.length ∧ i = .int .i64 k ∧ Hid ((xs.take k).all okH = true)) (fun i => xs.length - (intOf i).toNat)
  case atStart => exact ⟨0, Nat.zero_le _, rfl, Lib.hid rfl⟩
  case round =>
    obtain ⟨k, hk, rfl, HI⟩ := hrel
    by_cases hlt : k < xs.length
    · obtain rfl := HA.out (by omega)
      have hck := HC.out k hlt
      obtain ⟨x, ex⟩ : ∃ x, xs.getD k 0 = x := ⟨_, rfl⟩
      rw [ex] at hck
      have HX := Lib.hid ex
      clear ex
      cases hb : inR x 0 12 with
      | true =>
        have HB := Lib.hid hb
        clear hb
        go_wp2_with (fail)
        refine (inRange_any _ _ _ _).mono ?_
        rw [HB.out]
        rintro e w1 ⟨rfl, rfl⟩
        go_wp2
        go_round
        case rel => exact ⟨k + 1, by omega, by go_num, Lib.hid (by rw [all_snoc _ _ 0 _ hlt, HI.out, HX.out, ← inR_okH, HB.out]; rfl)⟩
        case measure => simp [intOf]; omega
      | false =>
        have HB := Lib.hid hb
        clear hb
        go_wp2_with (fail)
        refine (inRange_any _ _ _ _).mono ?_
        rw [HB.out]
        rintro e w1 ⟨rfl, rfl⟩
        go_wp2
        go_ret
        have hf : xs.all okH = false := all_false okH xs 0 k hlt (by rw [HX.out, ← inR_okH, HB.out])
        exact ⟨by simp [vProf, vHts, hf], rfl⟩
    · go_wp2_with (fail)
      refine (inRange_any _ _ _ _).mono ?_
      rintro e w1 ⟨rfl, rfl⟩
      have := all_take _ _ _ (by omega) HI.out
      have HB : Hid (inR xs.length 1 9 = vProf xs) := by
        show _ = _
        unfold vProf vHts inR
        rw [this, Bool.and_true]
        congr 1
        simp
        omega
      clear this
      go_wp2
      go_ret
      exact ⟨ret_bool HB.out, rfl⟩

end Go.Proofs.YtaeenedjmakelaaDoor
