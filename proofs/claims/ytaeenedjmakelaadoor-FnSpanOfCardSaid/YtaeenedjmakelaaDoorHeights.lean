/- The contracts of impl.validNumbers and spec.inRange. -/
import Derived.Test.YtaeenedjmakelaaDoorRows
import Derived.Test.YtaeenedjmakelaaDoorBase
namespace Go.Proofs.YtaeenedjmakelaaDoor
open Go.RowKit

def okH (h : Int) : Bool := decide (0 ≤ h) && decide (h ≤ 12)
def vHts (m : Int) (xs : List Int) : Bool := decide (1 ≤ xs.length) && decide ((xs.length : Int) ≤ m) && xs.all okH

def okN (g h : Int) : Bool := decide (0 ≤ h) && decide (h ≤ g)
def vNums (m g : Int) (xs : List Int) : Bool := decide (1 ≤ xs.length) && decide ((xs.length : Int) ≤ m) && xs.all (okN g)
theorem vNums_hts (m : Int) (xs : List Int) : vNums m 12 xs = vHts m xs := rfl

set_option maxRecDepth 100000 in
set_option maxHeartbeats 400000 in
theorem validNumbers_any (v : Value) (xs : List Int) (m g : Int) (w : World) (hv : IntsV w v xs) :
    Calls Tryd.prog 81 #[v, .int .i64 m, .int .i64 g] w fun e w' => e = .returned (.bool (vNums m g xs)) ∧ w = w' := by
  obtain ⟨a, b, o, c, rfl, ⟨hlc, hcb⟩, ha, HC⟩ := hv.shape
  by_cases hr : 1 ≤ xs.length ∧ (xs.length : Int) ≤ m
  · obtain ⟨h1, h2⟩ := hr
    obtain rfl := ha h1
    clear ha hv
    go_enter Tryd.func81, Tryd.ntmps81
    go_wp2
    go_loop [20] (fun i => ∃ k : Nat, k ≤ xs.length ∧ i = .int .i64 k ∧ Hid ((xs.take k).all (okN g) = true)) (fun i => xs.length - (intOf i).toNat)
    case atStart => exact ⟨0, Nat.zero_le _, rfl, Lib.hid rfl⟩
    case round =>
      obtain ⟨k, hk, rfl, HA⟩ := hrel
      by_cases hlt : k < xs.length
      · have hck := HC.out k hlt
        obtain ⟨v, hv⟩ : ∃ v, xs.getD k 0 = v := ⟨_, rfl⟩
        rw [hv] at hck
        have HV := Lib.hid hv
        clear hv
        by_cases ht : 0 ≤ v ∧ v ≤ g
        · obtain ⟨t1, t2⟩ := ht
          go_wp2
          go_round
          case rel => exact ⟨k + 1, by omega, by go_num, Lib.hid (by rw [all_snoc _ _ 0 _ hlt, HA.out, HV.out]; simp [okN, t1, t2])⟩
          case measure => simp [intOf]; omega
        · have hf : xs.all (okN g) = false := all_false (okN g) xs 0 k hlt (by rw [HV.out]; simp [okN]; omega)
          have HF := Lib.hid hf
          clear hf
          by_cases t1 : 0 ≤ v
          all_goals
            go_wp2
            go_ret
            exact ⟨by simp [vNums, HF.out], rfl⟩
      · go_wp2
        go_ret
        refine ⟨?_, rfl⟩
        have := all_take _ _ _ (by omega) HA.out
        simp [vNums, this]; omega
  · clear ha hv
    go_enter Tryd.func81, Tryd.ntmps81
    by_cases h1 : 1 ≤ xs.length
    all_goals
      go_wp2
      go_ret
      refine ⟨?_, rfl⟩
      simp [vNums]; omega

def inR (n l h : Int) : Bool := decide (l ≤ n) && decide (n ≤ h)
set_option maxRecDepth 100000 in
set_option maxHeartbeats 400000 in
theorem inRange_any (n l h : Int) (w : World) : Calls Tryd.prog 79 #[.int .i64 n, .int .i64 l, .int .i64 h] w fun e w' => e = .returned (.bool (inR n l h)) ∧ w = w' := by
  by_cases h1 : l ≤ n
  all_goals
    go_enter Tryd.func79, Tryd.ntmps79
    go_wp2
    go_ret
    exact ⟨by simp [inR]; try omega, rfl⟩

theorem inR_okH (v : Int) : inR v 0 12 = okH v := rfl
end Go.Proofs.YtaeenedjmakelaaDoor
