/- The contracts of impl.climbsOf, steepestOf: rules as function values. -/
import Derived.Test.YtfndejjaedandabDoorBase
import Derived.Test.YtfndejjaedandabDoorWayM
namespace Go.Proofs.YtfndejjaedandabDoor
open Go.RowKit

/-- Function fk tells the rule f. -/
def RuleV (fk : Nat) (f : Int → Int → Int) : Prop :=
  ∀ (d r : Int) (W : World), -12 ≤ d → d ≤ 12 → 0 ≤ r → r ≤ 1000 → Calls Tryd.prog fk #[.int .i64 d, .int .i64 r] W fun e w' => e = .returned (.int .i64 (f d r)) ∧ w' = W

set_option maxRecDepth 100000 in
set_option maxHeartbeats 400000 in
theorem climbsOf_any : RuleV 32 upF := by
  intro d r W h1 h2 h3 h4
  have HF : Hid (upF d r = max d 0 + r) := Lib.hid rfl
  by_cases hd : d < 0
  all_goals
    go_enter Tryd.func32, Tryd.ntmps32
    go_wp2
    go_ret
    refine ⟨ret_int ?_, rfl⟩
    rw [HF.out]
    try omega

set_option maxRecDepth 100000 in
set_option maxHeartbeats 400000 in
theorem steepestOf_any : RuleV 40 steepF := by
  intro d r W h1 h2 h3 h4
  have HF : Hid (steepF d r = max (max d (-d)) r) := Lib.hid rfl
  go_enter Tryd.func40, Tryd.ntmps40
  go_wp2
  all_goals
    go_ret
    refine ⟨ret_int ?_, rfl⟩
    rw [HF.out]
    try omega
end Go.Proofs.YtfndejjaedandabDoor
