/- The contracts of impl.apart, impl.itself, impl.sumOf over whole numbers, for any function value that only reads, and of spec.sum. -/
import Derived.Test.YtenmokccbpkinabRiseM
import Derived.Test.YtenmokccbpkinabExact
import Derived.Lib.MinMax
import Derived.Shelf.Abstract
namespace Go.Proofs.Ytenmokccbpkinab
open Go.RowKit

theorem wrap_small' (x : Int) (h1 : -1000000 ≤ x) (h2 : x ≤ 1000000) : IntKind.i64.wrap x = x := IntWalk.i64_in _ (by omega)
set_option maxRecDepth 100000 in
theorem apart_any (x y : Int) (w : World) (hx : -1000 ≤ x ∧ x ≤ 1000) (hy : -1000 ≤ y ∧ y ≤ 1000) :
    Calls Try.prog 42 #[.int .i64 x, .int .i64 y] w fun e w' => e = .returned (.int .i64 (iab (x - y))) ∧ w = w' := by
  have e1 : IntKind.i64.wrap (x - y) = x - y := wrap_small' _ (by omega) (by omega)
  have e2 : IntKind.i64.wrap (y - x) = y - x := wrap_small' _ (by omega) (by omega)
  go_enter Try.func42, Try.ntmps42
  go_wp2
  go_ret
  exact ⟨ret_int (by unfold iab; omega), rfl⟩

/-- A function value (function fk, what it captured: lb) that gives f of numbers for which P holds, and only reads. -/
def Gives (fk : Nat) (lb : Array Value) (P : Int → Prop) (f : Int → Int) (w : World) : Prop :=
  ∀ (x : Int) (W : World), Grew w W → P x → Calls Try.prog fk (#[.int .i64 x] ++ lb) W fun e w' => e = .returned (.int .i64 (f x)) ∧ ∃ q, w' = W.drewN q
theorem Gives.grew {fk : Nat} {lb : Array Value} {P : Int → Prop} {f : Int → Int} {w w' : World} (h : Gives fk lb P f w) (hg : Grew w w') : Gives fk lb P f w' := fun x W hW hP => h x W (hg.trans hW) hP



set_option maxRecDepth 100000 in
set_option maxHeartbeats 1000000 in
theorem ssumTo_any (v : Value) (xs : List Int) (w : World) (hv : IntsV w v xs) (hl : xs.length ≤ 1000) (hb : ∀ i, i < xs.length → -1000 ≤ xs.getD i 0 ∧ xs.getD i 0 ≤ 1000) :
    Calls Try.prog 56 #[v] w fun e w' => e = .returned (.int .i64 (sumTo (fun i => xs.getD i 0) xs.length)) ∧ w = w' := by
  obtain ⟨a, b, o, c, rfl, ⟨hlc, hcb⟩, ha, HC⟩ := hv.shape
  have HA := Lib.hid ha
  have HB := Lib.hid hb
  clear hv ha hb
  go_enter Try.func56, Try.ntmps56
  go_wp2
  go_loop [3, 4] (fun s i => ∃ (k : Nat) (n : Int), k ≤ xs.length ∧ i = .int .i64 k ∧ s = .int .i64 n ∧ -1000 * (k : Int) ≤ n ∧ n ≤ 1000 * (k : Int) ∧ Hid (n = sumTo (fun i => xs.getD i 0) k)) (fun _ i => xs.length - (intOf i).toNat)
  case atStart => exact ⟨0, 0, Nat.zero_le _, rfl, rfl, by omega, by omega, rfl⟩
  case round =>
    obtain ⟨k, n, hk, rfl, rfl, hn0, hn1, HI⟩ := hrel
    by_cases hlt : k < xs.length
    · obtain rfl := HA.out (by omega)
      have hc := HC.out k hlt
      have hx := HB.out k hlt
      obtain ⟨x, ex⟩ : ∃ x, xs.getD k 0 = x := ⟨_, rfl⟩
      rw [ex] at hc hx
      have HX := Lib.hid ex
      clear ex
      go_wp2
      go_round
      case rel => exact ⟨k + 1, n + x, by omega, by go_num, rfl, by omega, by omega, by show _ = _; rw [sumTo, ← HI.out, HX.out]⟩
      case measure => simp [intOf]; omega
    · obtain rfl : k = xs.length := by omega
      go_wp2
      go_ret
      exact ⟨ret_int HI.out, rfl⟩
end Go.Proofs.Ytenmokccbpkinab
