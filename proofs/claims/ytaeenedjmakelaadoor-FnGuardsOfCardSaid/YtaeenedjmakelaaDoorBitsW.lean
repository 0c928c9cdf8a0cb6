/- The contracts of math/bits.OnesCount and TrailingZeros at small numbers. -/
import Derived.Test.YtaeenedjmakelaaDoorGuardM
namespace Go.Proofs.YtaeenedjmakelaaDoor
open Go.RowKit

def popA (x : Int) : Int := IntKind.u64.wrap (bits BinOp.and IntKind.u64 (x / 2) 6148914691236517205 + bits BinOp.and IntKind.u64 x 6148914691236517205)
def popB (x : Int) : Int := IntKind.u64.wrap (bits BinOp.and IntKind.u64 (x / 4) 3689348814741910323 + bits BinOp.and IntKind.u64 x 3689348814741910323)
def popC (x : Int) : Int := bits BinOp.and IntKind.u64 (IntKind.u64.wrap (x / 16 + x)) 1085102592571150095
def popD (x : Int) : Int := IntKind.u64.wrap (x + x / 256)
def popE (x : Int) : Int := IntKind.u64.wrap (x + x / 65536)
def popF (x : Int) : Int := IntKind.u64.wrap (x + x / 4294967296)
def popG (x : Int) : Int := bits BinOp.and IntKind.i64 (wrap64 x) 127
theorem pop_chk : ∀ x : Nat, x < 512 → popG (popF (popE (popD (popC (popB (popA x)))))) = ((memL x).length : Nat) := by decide +kernel
/-- The number of trailing zeros, as the table tells it. -/
def ctzL (x : Nat) : Nat := ((List.range 9).find? fun k => x.testBit k).getD 64
theorem low_chk : ∀ x : Nat, x < 512 → x ≠ 0 → memL x = ((ctzL x : Nat) : Int) :: memL (x &&& (x - 1)) ∧ ctzL x < 9 ∧ x &&& (x - 1) < x := by decide +kernel
set_option maxRecDepth 100000 in
set_option maxHeartbeats 1000000 in
theorem ones64_any (x : Nat) (hx : x < 512) (w : World) :
    Calls Tryd.prog 83 #[.int .u64 x] w fun e w' => e = .returned (.int .i64 ((memL x).length : Nat)) ∧ w' = w := by
  have h := pop_chk x hx
  obtain ⟨a, ea⟩ : ∃ a, popA x = a := ⟨_, rfl⟩
  rw [ea] at h
  obtain ⟨b, eb⟩ : ∃ b, popB a = b := ⟨_, rfl⟩
  rw [eb] at h
  obtain ⟨c, ec⟩ : ∃ c, popC b = c := ⟨_, rfl⟩
  rw [ec] at h
  obtain ⟨d, ed⟩ : ∃ d, popD c = d := ⟨_, rfl⟩
  rw [ed] at h
  obtain ⟨f, ef⟩ : ∃ f, popE d = f := ⟨_, rfl⟩
  rw [ef] at h
  obtain ⟨g, eg⟩ : ∃ g, popF f = g := ⟨_, rfl⟩
  rw [eg] at h
  obtain ⟨k, ek⟩ : ∃ k, popG g = k := ⟨_, rfl⟩
  rw [ek] at h
  have HX := Lib.hid h
  unfold popA at ea
  unfold popB at eb
  unfold popC at ec
  unfold popD at ed
  unfold popE at ef
  unfold popF at eg
  unfold popG at ek
  clear hx h
  go_enter Tryd.func83, Tryd.ntmps83
  go_wp2
  go_ret
  exact ⟨ret_int (by first | exact HX.out | exact ek.trans HX.out), rfl⟩
set_option maxRecDepth 100000 in
set_option maxHeartbeats 1000000 in
theorem onesCount_any (x : Nat) (hx : x < 512) (w : World) :
    Calls Tryd.prog 50 #[.int .u64 x] w fun e w' => e = .returned (.int .i64 ((memL x).length : Nat)) ∧ w' = w := by
  have HC := Lib.hid (ones64_any x hx w)
  clear hx
  go_enter Tryd.func50, Tryd.ntmps50
  go_wp2_with (fail)
  refine HC.out.mono ?_
  rintro e w' ⟨rfl, rfl⟩
  go_wp2
  go_ret
  exact ⟨rfl, rfl⟩
/-- The table of math/bits for trailing zeros, where it lies. -/
def deBruijnL : List Nat := [0, 1, 56, 2, 57, 49, 28, 3, 61, 58, 42, 50, 38, 29, 17, 4, 62, 47, 59, 36, 45, 43, 51, 22, 53, 39, 33, 30, 24, 18, 12, 5, 63, 55, 48, 27, 60, 41, 37, 16, 46, 35, 44, 21, 52, 32, 23, 11, 54, 26, 40, 15, 34, 20, 31, 10, 25, 14, 19, 9, 13, 8, 7, 6]
def Deb (w : World) : Prop := ∀ j, j < 64 → w.cell? ⟨3, j, none⟩ = some (.int .u8 (deBruijnL.getD j 0))
theorem Deb.grew {w w' : World} (h : Deb w) (hg : Grew w w') : Deb w' := fun j hj => hg.cell (h j hj)
theorem deb_chk : ∀ x : Nat, x < 512 → x ≠ 0 → ∃ j : Nat, j < 64 ∧ IntKind.u64.wrap (bits BinOp.and IntKind.u64 (x : Int) (IntKind.u64.wrap (-(x : Int))) * 285870213051353865) / 288230376151711744 = (j : Int) ∧ deBruijnL.getD j 0 = ctzL x := by
  intro x hx h0
  have h : ∀ x : Nat, x < 512 → x ≠ 0 → (IntKind.u64.wrap (bits BinOp.and IntKind.u64 (x : Int) (IntKind.u64.wrap (-(x : Int))) * 285870213051353865) / 288230376151711744).toNat < 64 ∧ 0 ≤ IntKind.u64.wrap (bits BinOp.and IntKind.u64 (x : Int) (IntKind.u64.wrap (-(x : Int))) * 285870213051353865) / 288230376151711744 ∧ deBruijnL.getD (IntKind.u64.wrap (bits BinOp.and IntKind.u64 (x : Int) (IntKind.u64.wrap (-(x : Int))) * 285870213051353865) / 288230376151711744).toNat 0 = ctzL x := by decide +kernel
  obtain ⟨h1, h2, h3⟩ := h x hx h0
  exact ⟨_, h1, (Int.toNat_of_nonneg h2).symm, h3⟩
set_option maxRecDepth 100000 in
set_option maxHeartbeats 1000000 in
theorem ctz64_any (x : Nat) (hx : x < 512) (h0 : x ≠ 0) (w : World) (hD : Deb w) :
    Calls Tryd.prog 113 #[.int .u64 x] w fun e w' => e = .returned (.int .i64 (ctzL x : Nat)) ∧ w' = w := by
  obtain ⟨j, hj, key, hk⟩ := deb_chk x hx h0
  have hcell := hD j hj
  rw [hk] at hcell
  have hx0 : ((x : Int) == 0) = false := by simp; omega
  have hji : (j : Int) < 64 := by omega
  have hk9 : ctzL x < 9 := (low_chk x hx h0).2.1
  obtain ⟨k, ek⟩ : ∃ k, ctzL x = k := ⟨_, rfl⟩
  rw [ek] at hcell hk9 ⊢
  clear hx h0 hD hk ek
  go_enter Tryd.func113, Tryd.ntmps113
  go_wp2_with (simp only [key])
  go_ret
  exact ⟨rfl, rfl⟩
set_option maxRecDepth 100000 in
set_option maxHeartbeats 1000000 in
theorem ctz_any (x : Nat) (hx : x < 512) (h0 : x ≠ 0) (w : World) (hD : Deb w) :
    Calls Tryd.prog 84 #[.int .u64 x] w fun e w' => e = .returned (.int .i64 (ctzL x : Nat)) ∧ w' = w := by
  have HC := Lib.hid (ctz64_any x hx h0 w hD)
  clear hx h0 hD
  go_enter Tryd.func84, Tryd.ntmps84
  go_wp2_with (fail)
  refine HC.out.mono ?_
  rintro e w' ⟨rfl, rfl⟩
  go_wp2
  go_ret
  exact ⟨rfl, rfl⟩
end Go.Proofs.YtaeenedjmakelaaDoor
