/- The contracts of impl.apart, impl.itself, impl.sumOf over whole numbers, for any function value that only reads, and of spec.sum. -/
import Derived.Test.YtkhgcfchaogccaaDoorRiseM
import Derived.Test.YtkhgcfchaogccaaDoorExact
import Derived.Lib.MinMax
import Derived.Shelf.Abstract
namespace Go.Proofs.YtkhgcfchaogccaaDoor
open Go.RowKit

theorem wrap_small' (x : Int) (h1 : -1000000 ≤ x) (h2 : x ≤ 1000000) : IntKind.i64.wrap x = x := IntWalk.i64_in _ (by omega)

/-- A function value (function fk, what it captured: lb) that gives f of numbers for which P holds, and only reads. -/
def Gives (fk : Nat) (lb : Array Value) (P : Int → Prop) (f : Int → Int) (w : World) : Prop :=
  ∀ (x : Int) (W : World), Grew w W → P x → Calls Tryd.prog fk (#[.int .i64 x] ++ lb) W fun e w' => e = .returned (.int .i64 (f x)) ∧ ∃ q, w' = W.drewN q
theorem Gives.grew {fk : Nat} {lb : Array Value} {P : Int → Prop} {f : Int → Int} {w w' : World} (h : Gives fk lb P f w) (hg : Grew w w') : Gives fk lb P f w' := fun x W hW hP => h x W (hg.trans hW) hP

set_option maxRecDepth 100000 in
set_option maxHeartbeats 1000000 in
theorem sumOf_any (fk : Nat) (lb : Array Value) (eg : ∀ (args : Array Value) (w : World), (callFunc fk args).run Tryd.prog w = .ok (.enter fk args) w) (P : Int → Prop) (f : Int → Int)
    (v : Value) (xs : List Int) (w : World) (hv : IntsV w v xs) (hl : xs.length ≤ 1000) (hC : Gives fk lb P f w) (hP : ∀ i, i < xs.length → P (xs.getD i 0)) (hb : ∀ i, i < xs.length → -1000 ≤ f (xs.getD i 0) ∧ f (xs.getD i 0) ≤ 1000) :
    Calls Tryd.prog 48 #[.func (.func fk) #[] lb, v] w fun e w' => e = .returned (.int .i64 (sumTo (fun i => f (xs.getD i 0)) xs.length)) ∧ ∃ q, w' = w.drewN q := by
  obtain ⟨a, b, o, c, rfl, ⟨hlc, hcb⟩, ha, HC⟩ := hv.shape
  have HA := Lib.hid ha
  have HB := Lib.hid hb
  have HF := Lib.hid (And.intro hC hP)
  clear hv ha hb hC hP
  go_enter Tryd.func48, Tryd.ntmps48
  go_wp2
  go_loopw [5, 10] (fun s i wr => ∃ (k : Nat) (n : Int), k ≤ xs.length ∧ i = .int .i64 k ∧ s = .int .i64 n ∧ -1000 * (k : Int) ≤ n ∧ n ≤ 1000 * (k : Int) ∧ Hid (n = sumTo (fun i => f (xs.getD i 0)) k ∧ ∃ q, wr = w.drewN q)) (fun _ i _ => xs.length - (intOf i).toNat)
  case atStart => exact ⟨0, 0, Nat.zero_le _, rfl, rfl, by omega, by omega, rfl, 0, rfl⟩
  case round =>
    obtain ⟨k, n, hk, rfl, rfl, hn0, hn1, HI⟩ := hrel
    by_cases hlt : k < xs.length
    · obtain rfl := HA.out (by omega)
      have hg := quiet_grew HI.out.2
      have hc := hg.cell (HC.out k hlt)
      have hx := HB.out k hlt
      have HP := Lib.hid (HF.out.2 k hlt)
      obtain ⟨x, ex⟩ : ∃ x, xs.getD k 0 = x := ⟨_, rfl⟩
      rw [ex] at hc hx HP
      have HX := Lib.hid ex
      have HCK := Lib.hid (HF.out.1 x wr hg HP.out)
      obtain ⟨y, ey⟩ : ∃ y, f x = y := ⟨_, rfl⟩
      rw [ey] at hx HCK
      have HY := Lib.hid ey
      clear ex ey hg HP
      go_wp2_with (fail)
      refine HCK.out.mono ?_
      rintro e w2 ⟨rfl, hq⟩
      have HQ := Lib.hid hq
      clear hq
      go_wp2
      go_roundw
      case rel => exact ⟨k + 1, n + y, by omega, by go_num, rfl, by omega, by omega, by rw [sumTo, ← HI.out.1, HX.out, HY.out], by obtain ⟨r, hr⟩ := HQ.out; rw [hr]; exact quiet_step HI.out.2 r⟩
      case measure => simp [intOf]; omega
    · obtain rfl : k = xs.length := by omega
      go_wp2
      go_ret
      exact ⟨ret_int HI.out.1, HI.out.2⟩


end Go.Proofs.YtkhgcfchaogccaaDoor
