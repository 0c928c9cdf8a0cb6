/- The contract of spec.touching. -/
import Derived.Test.YtaeenedjmakelaaDoorPieceT
import Derived.Test.YtaeenedjmakelaaDoorAt
namespace Go.Proofs.YtaeenedjmakelaaDoor
open Go.RowKit

/-- Two cells with a side, or a corner, in common, or one. -/
def touchB (m : Nat) (cor : Bool) (i k : Nat) : Bool :=
  if cor = true then decide ((((i / m : Nat) : Int) - (k / m : Nat)) * (((i / m : Nat) : Int) - (k / m : Nat)) ≤ 1) && decide ((((i % m : Nat) : Int) - (k % m : Nat)) * (((i % m : Nat) : Int) - (k % m : Nat)) ≤ 1) else touchS m i k
theorem sq_le4 {d : Int} (h : -4 ≤ d ∧ d ≤ 4) : 0 ≤ d * d ∧ d * d ≤ 16 := by
  have : d = -4 ∨ d = -3 ∨ d = -2 ∨ d = -1 ∨ d = 0 ∨ d = 1 ∨ d = 2 ∨ d = 3 ∨ d = 4 := by omega
  rcases this with rfl | rfl | rfl | rfl | rfl | rfl | rfl | rfl | rfl <;> decide
set_option maxRecDepth 100000 in
set_option maxHeartbeats 2000000 in
theorem touching_any (v : Value) (h : List (List Int)) (i k : Nat) (cor : Bool) (w : World) (hv : RowsV w v h) (hg : vGrid h = true) (hi : i < h.length * (h.getD 0 []).length) (hk : k < h.length * (h.getD 0 []).length) :
    Calls Tryd.prog 109 #[v, .int .i64 i, .int .i64 k, .bool cor] w fun e w' => e = .returned (.bool (touchB (h.getD 0 []).length cor i k)) ∧ Grew w w' := by
  have G := Grid.of hg
  have hn1 := G.n1
  have hn5 := G.n5
  have hm1 := G.m1
  have hm5 := G.m5
  obtain ⟨a, b, o, c, rfl, _, ha, HC⟩ := hv.shape
  obtain rfl := ha hn1
  obtain ⟨u0, hcu0, hu0⟩ := HC.out 0 hn1
  rw [Nat.add_zero] at hcu0
  obtain ⟨a0, b0, o0, c0, rfl, _, _, _⟩ := hu0.shape
  obtain ⟨m, em⟩ : ∃ m, (h.getD 0 []).length = m := ⟨_, rfl⟩
  rw [em] at hi hk hm1 hm5 hcu0 ⊢
  have hdiv : ∀ i, i < h.length * m → i / m ≤ 4 ∧ i % m ≤ 4 := fun i hi => by
    have h1 : i / m < h.length := Nat.div_lt_of_lt_mul (by rw [Nat.mul_comm]; exact hi)
    have h2 : i % m < m := Nat.mod_lt _ (by omega)
    omega
  obtain ⟨hd1, hd2⟩ := hdiv i hi
  obtain ⟨hd3, hd4⟩ := hdiv k hk
  have hN25 : h.length * m ≤ 25 := Nat.mul_le_mul hn5 hm5
  have hi25 : i < 25 := by omega
  have hk25 : k < 25 := by omega
  have HT : Hid (∀ dr dc : Int, ((i / m : Nat) : Int) - (k / m : Nat) = dr → ((i % m : Nat) : Int) - (k % m : Nat) = dc → touchB m cor i k = if cor = true then decide (dr * dr ≤ 1) && decide (dc * dc ≤ 1) else decide (dr * dr + dc * dc ≤ 1)) := Lib.hid fun dr dc h1 h2 => by
    unfold touchB touchS
    rw [h1, h2]
  obtain ⟨ri, eri⟩ : ∃ x, i / m = x := ⟨_, rfl⟩
  obtain ⟨qi, eqi⟩ : ∃ x, i % m = x := ⟨_, rfl⟩
  obtain ⟨rk, erk⟩ : ∃ x, k / m = x := ⟨_, rfl⟩
  obtain ⟨qk, eqk⟩ : ∃ x, k % m = x := ⟨_, rfl⟩
  have t1 : (i : Int).tdiv m = (ri : Int) := by rw [← eri]; exact (Int.ofNat_tdiv _ _).symm
  have t2 : (i : Int).tmod m = (qi : Int) := by rw [← eqi]; exact (Int.ofNat_tmod _ _).symm
  have t3 : (i : Int) / m = (ri : Int) := by rw [← eri]; rfl
  have t4 : (i : Int) % m = (qi : Int) := by rw [← eqi]; rfl
  have s1 : (k : Int).tdiv m = (rk : Int) := by rw [← erk]; exact (Int.ofNat_tdiv _ _).symm
  have s2 : (k : Int).tmod m = (qk : Int) := by rw [← eqk]; exact (Int.ofNat_tmod _ _).symm
  have s3 : (k : Int) / m = (rk : Int) := by rw [← erk]; rfl
  have s4 : (k : Int) % m = (qk : Int) := by rw [← eqk]; rfl
  rw [eri] at hd1
  rw [eqi] at hd2
  rw [erk] at hd3
  rw [eqk] at hd4
  rw [eri, erk, eqi, eqk] at HT
  obtain ⟨dr, edr⟩ : ∃ x : Int, (ri : Int) - rk = x := ⟨_, rfl⟩
  obtain ⟨dc, edc⟩ : ∃ x : Int, (qi : Int) - qk = x := ⟨_, rfl⟩
  have p1 := sq_le4 (d := dr) (by omega)
  have p2 := sq_le4 (d := dc) (by omega)
  have HT2 := Lib.hid (HT.out dr dc edr edc)
  obtain ⟨pr, epr⟩ : ∃ x : Int, dr * dr = x := ⟨_, rfl⟩
  obtain ⟨pc, epc⟩ : ∃ x : Int, dc * dc = x := ⟨_, rfl⟩
  rw [epr] at p1 HT2
  rw [epc] at p2 HT2
  obtain ⟨R, eR⟩ : ∃ R, touchB m cor i k = R := ⟨_, rfl⟩
  rw [eR] at HT2 ⊢
  have hm0 : ((m : Int) == 0) = false := beq_eq_false_iff_ne.2 (by omega)
  have h0n : (0 : Int) < h.length := by omega
  clear hv hg G HC hu0 ha em eri eqi erk eqk eR HT hi hk hN25 hdiv
  cases cor with
  | true =>
    rw [if_pos rfl] at HT2
    by_cases hc1 : pr ≤ 1
    all_goals
      by_cases hc2 : pc ≤ 1
      all_goals
        go_enter Tryd.func109, Tryd.ntmps109
        go_wp2
        go_quiet (fail)
        go_wp2
        go_quiet (fail)
        go_wp2
        go_ret
        exact ⟨ret_bool (by rw [HT2.out]; simp [hc1, hc2]), by first | exact ((Grew.refl _).drewN _).drewN _ | exact (Grew.refl _).drewN _ | exact Grew.refl _⟩
  | false =>
    rw [if_neg (by decide)] at HT2
    by_cases hc1 : pr + pc ≤ 1
    all_goals
      go_enter Tryd.func109, Tryd.ntmps109
      go_wp2
      go_quiet (fail)
      go_wp2
      go_quiet (fail)
      go_wp2
      go_ret
      exact ⟨ret_bool (by rw [HT2.out]; try simp [hc1]), by first | exact ((Grew.refl _).drewN _).drewN _ | exact (Grew.refl _).drewN _ | exact Grew.refl _⟩
end Go.Proofs.YtaeenedjmakelaaDoor
