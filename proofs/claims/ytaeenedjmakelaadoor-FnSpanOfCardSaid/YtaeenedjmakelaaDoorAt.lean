/- The contract of spec.at. -/
import Derived.Test.YtaeenedjmakelaaDoorCells
import Derived.Test.YtaeenedjmakelaaDoorAround
namespace Go.Proofs.YtaeenedjmakelaaDoor
open Go.RowKit

set_option maxRecDepth 100000 in
set_option maxHeartbeats 1000000 in
theorem at_any (v : Value) (h : List (List Int)) (I : Nat) (w : World) (hv : RowsV w v h) (hg : vGrid h = true) (hI : I < h.length * (h.getD 0 []).length) :
    Calls Tryd.prog 93 #[v, .int .i64 I] w fun e w' => e = .returned (.int .i64 (h.flatten.getD I 0)) ∧ ∃ q, w' = w.drewN q := by
  have G := Grid.of hg
  have HV := Lib.hid (flat_at G I hI)
  obtain ⟨a, b, o, c, rfl, ⟨hlc, hcb⟩, ha, HC⟩ := hv.shape
  obtain rfl := ha G.n1
  obtain ⟨u0, hcu0, hu0⟩ := HC.out 0 G.n1
  rw [Nat.add_zero] at hcu0
  obtain ⟨r, hr⟩ : ∃ r, I / (h.getD 0 []).length = r := ⟨_, rfl⟩
  obtain ⟨q, hq⟩ : ∃ q, I % (h.getD 0 []).length = q := ⟨_, rfl⟩
  have hrn := div_lt_of _ _ I hI
  have hqm := Nat.mod_lt I G.m1
  rw [hr] at hrn
  rw [hq] at hqm
  obtain ⟨u, hcu, hu⟩ := HC.out r hrn
  have hlr := G.len r hrn
  rw [hr, hq] at HV
  obtain ⟨z, ez⟩ : ∃ z, h.flatten.getD I 0 = z := ⟨_, rfl⟩
  rw [ez] at HV ⊢
  obtain ⟨row, er⟩ : ∃ row, h.getD r [] = row := ⟨_, rfl⟩
  rw [er] at hu hlr HV
  obtain ⟨m, em⟩ : ∃ m, (h.getD 0 []).length = m := ⟨_, rfl⟩
  obtain ⟨a0, b0, o0, c0, rfl, _, _, _⟩ := hu0.shape
  obtain ⟨a1, b1, o1, c1, rfl, ⟨hlc1, hcb1⟩, ha1, HC1⟩ := hu.shape
  have hm1 := G.m1
  have hm5 := G.m5
  have hn1 := G.n1
  have hn5 := G.n5
  rw [em] at hlr hm1 hm5 hqm hr hq hcu0 hI
  have hI25 : I < 25 := Nat.lt_of_lt_of_le hI (Nat.mul_le_mul hn5 hm5)
  obtain rfl := ha1 (by omega)
  have hce := HC1.out q (by omega)
  have hzz : row.getD q 0 = z := HV.out.symm
  rw [hzz] at hce
  rw [hlr] at hcu
  have t1 : (I : Int).tdiv m = (r : Int) := by rw [← hr]; exact (Int.ofNat_tdiv _ _).symm
  have t2 : (I : Int).tmod m = (q : Int) := by rw [← hq]; exact (Int.ofNat_tmod _ _).symm
  have t3 : (I : Int) / m = (r : Int) := by rw [← hr]; rfl
  have t4 : (I : Int) % m = (q : Int) := by rw [← hq]; rfl
  have hm0 : ((m : Int) == 0) = false := beq_eq_false_iff_ne.2 (by omega)
  have h0n : 0 < h.length := hn1
  have h0n' : (0 : Int) < h.length := by omega
  clear hv hg hI G HV ha hu0 hu er ez em ha1 hzz hr hq HC1 HC
  go_enter Tryd.func93, Tryd.ntmps93
  go_wp2
  go_region
  all_goals
    go_wp2
    go_ret
    exact ⟨rfl, by first | exact ⟨0, rfl⟩ | exact ⟨1, rfl⟩ | exact ⟨_, rfl⟩⟩
end Go.Proofs.YtaeenedjmakelaaDoor
