/- The contract of isSteeperThan. -/
import Derived.Test.YthljmolkicfdaaaTilt
namespace Go.Proofs.Ythljmolkicfdaaa
open Go.RowKit

set_option maxRecDepth 100000 in
set_option maxHeartbeats 400000 in
theorem isSteeperThan_any (u a u2 a2 : Int) (w : World) (hu : -10000 ≤ u ∧ u ≤ 10000) (ha : -10000 ≤ a ∧ a ≤ 10000) (hu2 : -10000 ≤ u2 ∧ u2 ≤ 10000) (ha2 : -10000 ≤ a2 ∧ a2 ≤ 10000) :
    Calls Try.prog 44 #[.agg #[.int .i64 u, .int .i64 a], .agg #[.int .i64 u2, .int .i64 a2]] w fun e w' => e = .returned (.bool (decide (u2 * a < u * a2))) ∧ Grew w w' := by
  have h1 : -100000000 ≤ u * a2 ∧ u * a2 ≤ 100000000 := by
    have := mul_bd u a2 10000 10000 (by omega) (by omega)
    omega
  have h2 : -100000000 ≤ u2 * a ∧ u2 * a ≤ 100000000 := by
    have := mul_bd u2 a 10000 10000 (by omega) (by omega)
    omega
  have e1 : IntKind.i64.wrap (u * a2) = u * a2 := wrap_small _ (by omega) (by omega)
  have e2 : IntKind.i64.wrap (u2 * a) = u2 * a := wrap_small _ (by omega) (by omega)
  go_enter Try.func44, Try.ntmps44
  go_wp2
  go_ret
  exact ⟨rfl, ((Grew.refl w).alloc _).alloc _⟩
end Go.Proofs.Ythljmolkicfdaaa
