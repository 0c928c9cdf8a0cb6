/- The contracts of impl.apart, impl.itself, impl.sumOf over whole numbers, for any function value that only reads, and of spec.sum. -/
import Derived.Test.YtlbmhkefmnjlgaaRiseM
import Derived.Test.YtlbmhkefmnjlgaaExact
import Derived.Lib.MinMax
import Derived.Shelf.Abstract
namespace Go.Proofs.Ytlbmhkefmnjlgaa
open Go.RowKit

theorem wrap_small' (x : Int) (h1 : -1000000 ≤ x) (h2 : x ≤ 1000000) : IntKind.i64.wrap x = x := IntWalk.i64_in _ (by omega)
set_option maxRecDepth 100000 in
theorem apart_any (x y : Int) (w : World) (hx : -1000 ≤ x ∧ x ≤ 1000) (hy : -1000 ≤ y ∧ y ≤ 1000) :
    Calls Try.prog 36 #[.int .i64 x, .int .i64 y] w fun e w' => e = .returned (.int .i64 (iab (x - y))) ∧ w = w' := by
  have e1 : IntKind.i64.wrap (x - y) = x - y := wrap_small' _ (by omega) (by omega)
  have e2 : IntKind.i64.wrap (y - x) = y - x := wrap_small' _ (by omega) (by omega)
  go_enter Try.func36, Try.ntmps36
  go_wp2
  go_ret
  exact ⟨ret_int (by unfold iab; omega), rfl⟩

/-- A function value (function fk, what it captured: lb) that gives f of numbers for which P holds, and only reads. -/
def Gives (fk : Nat) (lb : Array Value) (P : Int → Prop) (f : Int → Int) (w : World) : Prop :=
  ∀ (x : Int) (W : World), Grew w W → P x → Calls Try.prog fk (#[.int .i64 x] ++ lb) W fun e w' => e = .returned (.int .i64 (f x)) ∧ ∃ q, w' = W.drewN q
theorem Gives.grew {fk : Nat} {lb : Array Value} {P : Int → Prop} {f : Int → Int} {w w' : World} (h : Gives fk lb P f w) (hg : Grew w w') : Gives fk lb P f w' := fun x W hW hP => h x W (hg.trans hW) hP



end Go.Proofs.Ytlbmhkefmnjlgaa
