/- The contracts of spec.squares and spec.CountsAt. -/
import Derived.Test.YtifldhdjopmpeaaLevel
namespace Go.Proofs.Ytifldhdjopmpeaa
open Go.RowKit

/-- What spec counts at a cell. -/
def sqv (t x0 x1 x2 x3 : Int) (A B : Prop) [Decidable A] [Decidable B] : Int :=
  if t < x0 then 1 - (if A ∧ t < x1 then 1 else 0) - (if B ∧ t < x2 then 1 else 0) + (if A ∧ B ∧ t < x1 ∧ t < x2 ∧ t < x3 then 1 else 0) else 0
def sqT (p : List Int) (t : Int) (m N k : Nat) : Int := sqv t (p.getD k 0) (p.getD (k + 1) 0) (p.getD (k + m) 0) (p.getD (k + m + 1) 0) (k % m + 1 < m) (k + m < N)

set_option maxRecDepth 100000 in
set_option maxHeartbeats 4000000 in
theorem squares_any (v : Value) (h : List (List Int)) (t : Int) (w : World) (hv : RowsV w v h) (hg : vGrid h = true) :
    Calls Try.prog 47 #[v, .int .i64 t] w fun e w' => e = .returned (.int .i64 (sumTo (sqT h.flatten t (h.getD 0 []).length h.flatten.length) h.flatten.length)) ∧ Grew w w' := by
  have HR := Lib.hid hv
  have G := Grid.of hg
  have hn1 := G.n1
  have hm1 := G.m1
  have hm5 := G.m5
  obtain ⟨p, ep⟩ : ∃ p, h.flatten = p := ⟨_, rfl⟩
  have hpl := flat_grid_len G
  obtain ⟨N, eN⟩ : ∃ N, p.length = N := ⟨_, rfl⟩
  obtain ⟨a, b, o, c0, rfl, ⟨hlc, hcb⟩, ha, HC0⟩ := hv.shape
  obtain rfl := ha (by omega)
  obtain ⟨u0, hcu0, hu0⟩ := HC0.out 0 (by omega)
  rw [Nat.add_zero] at hcu0
  rw [ep, eN] at hpl
  have HCE : Hid (∀ W, Grew w W → Calls Try.prog 50 #[.slice (some ⟨b, o, none⟩) h.length c0] W fun e w' => e = .returned (.int .i64 N) ∧ W = w') := fun W hW => by
    have := cells_any _ h W (HR.out.grew hW) G.n1 (Nat.le_trans G.n5 (by decide)) (Nat.le_trans G.m5 (by decide))
    rwa [← hpl] at this
  have HAT : Hid (∀ (I : Nat) (W : World), Grew w W → I < N → Calls Try.prog 51 #[.slice (some ⟨b, o, none⟩) h.length c0, .int .i64 I] W fun e w' => e = .returned (.int .i64 (p.getD I 0)) ∧ ∃ q, w' = W.drewN q) := fun I W hW hI => by
    have := at_any _ h I W (HR.out.grew hW) hg (by rw [← hpl]; exact hI)
    rwa [ep] at this
  have hN25 : N ≤ 25 := by rw [hpl]; exact Nat.mul_le_mul G.n5 G.m5
  obtain ⟨m, em⟩ : ∃ m, (h.getD 0 []).length = m := ⟨_, rfl⟩
  obtain ⟨a0, b0, o0, cc0, rfl, _, _, _⟩ := hu0.shape
  rw [em] at hcu0 hm5 hm1 hpl
  have HNM := Lib.hid hpl
  have hmod : ∀ k : Nat, k < N → k % m + 1 < m → k + 1 < N := fun k hk hc => by
    rw [hpl] at hk ⊢
    have h1 := Nat.div_lt_of_lt_mul (by rw [Nat.mul_comm] at hk; exact hk : k < m * h.length)
    have h2 := Nat.div_add_mod k m
    have h3 : m * (k / m + 1) ≤ m * h.length := Nat.mul_le_mul_left m h1
    rw [Nat.mul_add, Nat.mul_one] at h3
    rw [Nat.mul_comm h.length m]
    omega
  have hmod2 : ∀ k : Nat, k + m < N → k % m + 1 < m → k + m + 1 < N := fun k hk hc => by
    refine hmod (k + m) hk ?_
    rw [Nat.add_mod_right]
    exact hc
  have HMOD := Lib.hid (And.intro hmod hmod2)
  have HGOAL : Hid (sumTo (sqT h.flatten t (h.getD 0 []).length h.flatten.length) h.flatten.length = sumTo (sqT p t m N) N) := by show _ = _; rw [ep, em, eN]
  rw [HGOAL.out]
  have hm0 : ((m : Int) == 0) = false := beq_eq_false_iff_ne.2 (by omega)
  have h0n : 0 < h.length := hn1
  have h0n' : (0 : Int) < h.length := by omega
  clear hv hg G ep hpl eN em ha HC0 hu0 hmod hmod2 HR HGOAL
  go_enter Try.func47, Try.ntmps47
  go_wp2
  go_loopw [6, 7] (fun s i wr => ∃ (k : Nat) (n : Int), k ≤ N ∧ i = .int .i64 k ∧ s = .int .i64 n ∧ -(k : Int) ≤ n ∧ n ≤ 2 * (k : Int) ∧ Hid (n = sumTo (sqT p t m N) k ∧ Grew w wr)) (fun _ i _ => N - (intOf i).toNat)
  case atStart => exact ⟨0, 0, Nat.zero_le _, rfl, rfl, by omega, by omega, rfl, Grew.refl _⟩
  case round =>
    obtain ⟨k, n, hk, rfl, rfl, hn0, hn1, HI⟩ := hrel
    go_wp2_with (fail)
    refine (HCE.out wr HI.out.2).mono ?_
    rintro e w2 ⟨rfl, rfl⟩
    by_cases hlt : k < N
    · obtain ⟨c, ec⟩ : ∃ c, k % m = c := ⟨_, rfl⟩
      obtain ⟨x0, ex0⟩ : ∃ x, p.getD k 0 = x := ⟨_, rfl⟩
      obtain ⟨x1, ex1⟩ : ∃ x, p.getD (k + 1) 0 = x := ⟨_, rfl⟩
      obtain ⟨x2, ex2⟩ : ∃ x, p.getD (k + m) 0 = x := ⟨_, rfl⟩
      obtain ⟨x3, ex3⟩ : ∃ x, p.getD (k + m + 1) 0 = x := ⟨_, rfl⟩
      have HT : Hid (sqT p t m N k = sqv t x0 x1 x2 x3 (c + 1 < m) (k + m < N)) := by
        show _ = _
        unfold sqT
        subst ec ex0 ex1 ex2 ex3
        rfl
      have t2 : (k : Int).tmod m = (c : Int) := by rw [← ec]; exact (Int.ofNat_tmod _ _).symm
      have t4 : (k : Int) % m = (c : Int) := by rw [← ec]; rfl
      have hcm : c < m := by rw [← ec]; exact Nat.mod_lt _ hm1
      have H0 : Hid (∀ W, Grew w W → Calls Try.prog 51 #[.slice (some ⟨b, o, none⟩) h.length c0, .int .i64 (k : Int)] W fun e w' => e = .returned (.int .i64 x0) ∧ ∃ q, w' = W.drewN q) := fun W hW => by
        have := HAT.out k W hW hlt
        rwa [ex0] at this
      have H1 : Hid (c + 1 < m → ∀ W, Grew w W → Calls Try.prog 51 #[.slice (some ⟨b, o, none⟩) h.length c0, .int .i64 ((k : Int) + 1)] W fun e w' => e = .returned (.int .i64 x1) ∧ ∃ q, w' = W.drewN q) := fun hc W hW => by
        have := HAT.out (k + 1) W hW (HMOD.out.1 k hlt (by rw [ec]; exact hc))
        rwa [ex1, show ((k + 1 : Nat) : Int) = (k : Int) + 1 by omega] at this
      have H2 : Hid (k + m < N → ∀ W, Grew w W → Calls Try.prog 51 #[.slice (some ⟨b, o, none⟩) h.length c0, .int .i64 ((k : Int) + m)] W fun e w' => e = .returned (.int .i64 x2) ∧ ∃ q, w' = W.drewN q) := fun hc W hW => by
        have := HAT.out (k + m) W hW hc
        rwa [ex2, show ((k + m : Nat) : Int) = (k : Int) + m by omega] at this
      have H3 : Hid (k + m < N → c + 1 < m → ∀ W, Grew w W → Calls Try.prog 51 #[.slice (some ⟨b, o, none⟩) h.length c0, .int .i64 ((k : Int) + m + 1)] W fun e w' => e = .returned (.int .i64 x3) ∧ ∃ q, w' = W.drewN q) := fun hc1 hc2 W hW => by
        have := HAT.out (k + m + 1) W hW (HMOD.out.2 k hc1 (by rw [ec]; exact hc2))
        rwa [ex3, show ((k + m + 1 : Nat) : Int) = (k : Int) + m + 1 by omega] at this
      clear ec ex0 ex1 ex2 ex3
      have HQ2 := Lib.hid HI.out.2
      go_wp2_with (fail)
      refine (H0.out _ HQ2.out).mono ?_
      rintro e w3 ⟨rfl, hq⟩
      have HQ3 := Lib.hid (HQ2.out.trans (quiet_grew hq))
      clear hq
      by_cases htx : t < x0
      · by_cases hA : c + 1 < m
        · by_cases h1 : t < x1
          · by_cases hB : k + m < N
            · by_cases h2 : t < x2
              · by_cases h3 : t < x3
                · go_wp2_with (fail)
                  refine (H1.out hA _ HQ3.out).mono ?_
                  rintro e w4 ⟨rfl, hq⟩
                  have HQ4 := Lib.hid (HQ3.out.trans (quiet_grew hq))
                  clear hq
                  go_wp2_with (fail)
                  refine (HCE.out _ HQ4.out).mono ?_
                  rintro e w9 ⟨rfl, rfl⟩
                  go_wp2_with (fail)
                  refine (H2.out hB _ HQ4.out).mono ?_
                  rintro e w5 ⟨rfl, hq⟩
                  have HQ5 := Lib.hid (HQ4.out.trans (quiet_grew hq))
                  clear hq
                  go_wp2_with (fail)
                  refine (HCE.out _ HQ5.out).mono ?_
                  rintro e w9 ⟨rfl, rfl⟩
                  go_wp2_with (fail)
                  refine (H1.out hA _ HQ5.out).mono ?_
                  rintro e w6 ⟨rfl, hq⟩
                  have HQ6 := Lib.hid (HQ5.out.trans (quiet_grew hq))
                  clear hq
                  go_wp2_with (fail)
                  refine (H2.out hB _ HQ6.out).mono ?_
                  rintro e w7 ⟨rfl, hq⟩
                  have HQ7 := Lib.hid (HQ6.out.trans (quiet_grew hq))
                  clear hq
                  go_wp2_with (fail)
                  refine (H3.out hB hA _ HQ7.out).mono ?_
                  rintro e w8 ⟨rfl, hq⟩
                  have HQ8 := Lib.hid (HQ7.out.trans (quiet_grew hq))
                  clear hq
                  go_wp2
                  go_roundw
                  case rel => exact ⟨k + 1, n + (0), by omega, by go_num, by go_num, by omega, by omega, by rw [sumTo, ← HI.out.1, HT.out]; unfold sqv; repeat' split <;> omega, HQ8.out⟩
                  case measure => simp [intOf]; omega
                · go_wp2_with (fail)
                  refine (H1.out hA _ HQ3.out).mono ?_
                  rintro e w4 ⟨rfl, hq⟩
                  have HQ4 := Lib.hid (HQ3.out.trans (quiet_grew hq))
                  clear hq
                  go_wp2_with (fail)
                  refine (HCE.out _ HQ4.out).mono ?_
                  rintro e w9 ⟨rfl, rfl⟩
                  go_wp2_with (fail)
                  refine (H2.out hB _ HQ4.out).mono ?_
                  rintro e w5 ⟨rfl, hq⟩
                  have HQ5 := Lib.hid (HQ4.out.trans (quiet_grew hq))
                  clear hq
                  go_wp2_with (fail)
                  refine (HCE.out _ HQ5.out).mono ?_
                  rintro e w9 ⟨rfl, rfl⟩
                  go_wp2_with (fail)
                  refine (H1.out hA _ HQ5.out).mono ?_
                  rintro e w6 ⟨rfl, hq⟩
                  have HQ6 := Lib.hid (HQ5.out.trans (quiet_grew hq))
                  clear hq
                  go_wp2_with (fail)
                  refine (H2.out hB _ HQ6.out).mono ?_
                  rintro e w7 ⟨rfl, hq⟩
                  have HQ7 := Lib.hid (HQ6.out.trans (quiet_grew hq))
                  clear hq
                  go_wp2_with (fail)
                  refine (H3.out hB hA _ HQ7.out).mono ?_
                  rintro e w8 ⟨rfl, hq⟩
                  have HQ8 := Lib.hid (HQ7.out.trans (quiet_grew hq))
                  clear hq
                  go_wp2
                  go_roundw
                  case rel => exact ⟨k + 1, n + (-1), by omega, by go_num, by go_num, by omega, by omega, by rw [sumTo, ← HI.out.1, HT.out]; unfold sqv; repeat' split <;> omega, HQ8.out⟩
                  case measure => simp [intOf]; omega
              · go_wp2_with (fail)
                refine (H1.out hA _ HQ3.out).mono ?_
                rintro e w4 ⟨rfl, hq⟩
                have HQ4 := Lib.hid (HQ3.out.trans (quiet_grew hq))
                clear hq
                go_wp2_with (fail)
                refine (HCE.out _ HQ4.out).mono ?_
                rintro e w9 ⟨rfl, rfl⟩
                go_wp2_with (fail)
                refine (H2.out hB _ HQ4.out).mono ?_
                rintro e w5 ⟨rfl, hq⟩
                have HQ5 := Lib.hid (HQ4.out.trans (quiet_grew hq))
                clear hq
                go_wp2_with (fail)
                refine (HCE.out _ HQ5.out).mono ?_
                rintro e w9 ⟨rfl, rfl⟩
                go_wp2_with (fail)
                refine (H1.out hA _ HQ5.out).mono ?_
                rintro e w6 ⟨rfl, hq⟩
                have HQ6 := Lib.hid (HQ5.out.trans (quiet_grew hq))
                clear hq
                go_wp2_with (fail)
                refine (H2.out hB _ HQ6.out).mono ?_
                rintro e w7 ⟨rfl, hq⟩
                have HQ7 := Lib.hid (HQ6.out.trans (quiet_grew hq))
                clear hq
                go_wp2
                go_roundw
                case rel => exact ⟨k + 1, n + (0), by omega, by go_num, by go_num, by omega, by omega, by rw [sumTo, ← HI.out.1, HT.out]; unfold sqv; repeat' split <;> omega, HQ7.out⟩
                case measure => simp [intOf]; omega
            · go_wp2_with (fail)
              refine (H1.out hA _ HQ3.out).mono ?_
              rintro e w4 ⟨rfl, hq⟩
              have HQ4 := Lib.hid (HQ3.out.trans (quiet_grew hq))
              clear hq
              go_wp2_with (fail)
              refine (HCE.out _ HQ4.out).mono ?_
              rintro e w9 ⟨rfl, rfl⟩
              go_wp2_with (fail)
              refine (HCE.out _ HQ4.out).mono ?_
              rintro e w9 ⟨rfl, rfl⟩
              go_wp2
              go_roundw
              case rel => exact ⟨k + 1, n + (0), by omega, by go_num, by go_num, by omega, by omega, by rw [sumTo, ← HI.out.1, HT.out]; unfold sqv; repeat' split <;> omega, HQ4.out⟩
              case measure => simp [intOf]; omega
          · by_cases hB : k + m < N
            · by_cases h2 : t < x2
              · go_wp2_with (fail)
                refine (H1.out hA _ HQ3.out).mono ?_
                rintro e w4 ⟨rfl, hq⟩
                have HQ4 := Lib.hid (HQ3.out.trans (quiet_grew hq))
                clear hq
                go_wp2_with (fail)
                refine (HCE.out _ HQ4.out).mono ?_
                rintro e w9 ⟨rfl, rfl⟩
                go_wp2_with (fail)
                refine (H2.out hB _ HQ4.out).mono ?_
                rintro e w5 ⟨rfl, hq⟩
                have HQ5 := Lib.hid (HQ4.out.trans (quiet_grew hq))
                clear hq
                go_wp2_with (fail)
                refine (HCE.out _ HQ5.out).mono ?_
                rintro e w9 ⟨rfl, rfl⟩
                go_wp2_with (fail)
                refine (H1.out hA _ HQ5.out).mono ?_
                rintro e w6 ⟨rfl, hq⟩
                have HQ6 := Lib.hid (HQ5.out.trans (quiet_grew hq))
                clear hq
                go_wp2
                go_roundw
                case rel => exact ⟨k + 1, n + (0), by omega, by go_num, by go_num, by omega, by omega, by rw [sumTo, ← HI.out.1, HT.out]; unfold sqv; repeat' split <;> omega, HQ6.out⟩
                case measure => simp [intOf]; omega
              · go_wp2_with (fail)
                refine (H1.out hA _ HQ3.out).mono ?_
                rintro e w4 ⟨rfl, hq⟩
                have HQ4 := Lib.hid (HQ3.out.trans (quiet_grew hq))
                clear hq
                go_wp2_with (fail)
                refine (HCE.out _ HQ4.out).mono ?_
                rintro e w9 ⟨rfl, rfl⟩
                go_wp2_with (fail)
                refine (H2.out hB _ HQ4.out).mono ?_
                rintro e w5 ⟨rfl, hq⟩
                have HQ5 := Lib.hid (HQ4.out.trans (quiet_grew hq))
                clear hq
                go_wp2_with (fail)
                refine (HCE.out _ HQ5.out).mono ?_
                rintro e w9 ⟨rfl, rfl⟩
                go_wp2_with (fail)
                refine (H1.out hA _ HQ5.out).mono ?_
                rintro e w6 ⟨rfl, hq⟩
                have HQ6 := Lib.hid (HQ5.out.trans (quiet_grew hq))
                clear hq
                go_wp2
                go_roundw
                case rel => exact ⟨k + 1, n + (1), by omega, by go_num, by go_num, by omega, by omega, by rw [sumTo, ← HI.out.1, HT.out]; unfold sqv; repeat' split <;> omega, HQ6.out⟩
                case measure => simp [intOf]; omega
            · go_wp2_with (fail)
              refine (H1.out hA _ HQ3.out).mono ?_
              rintro e w4 ⟨rfl, hq⟩
              have HQ4 := Lib.hid (HQ3.out.trans (quiet_grew hq))
              clear hq
              go_wp2_with (fail)
              refine (HCE.out _ HQ4.out).mono ?_
              rintro e w9 ⟨rfl, rfl⟩
              go_wp2_with (fail)
              refine (HCE.out _ HQ4.out).mono ?_
              rintro e w9 ⟨rfl, rfl⟩
              go_wp2
              go_roundw
              case rel => exact ⟨k + 1, n + (1), by omega, by go_num, by go_num, by omega, by omega, by rw [sumTo, ← HI.out.1, HT.out]; unfold sqv; repeat' split <;> omega, HQ4.out⟩
              case measure => simp [intOf]; omega
        · by_cases hB : k + m < N
          · by_cases h2 : t < x2
            · go_wp2_with (fail)
              refine (HCE.out _ HQ3.out).mono ?_
              rintro e w9 ⟨rfl, rfl⟩
              go_wp2_with (fail)
              refine (H2.out hB _ HQ3.out).mono ?_
              rintro e w4 ⟨rfl, hq⟩
              have HQ4 := Lib.hid (HQ3.out.trans (quiet_grew hq))
              clear hq
              go_wp2
              go_roundw
              case rel => exact ⟨k + 1, n + (0), by omega, by go_num, by go_num, by omega, by omega, by rw [sumTo, ← HI.out.1, HT.out]; unfold sqv; repeat' split <;> omega, HQ4.out⟩
              case measure => simp [intOf]; omega
            · go_wp2_with (fail)
              refine (HCE.out _ HQ3.out).mono ?_
              rintro e w9 ⟨rfl, rfl⟩
              go_wp2_with (fail)
              refine (H2.out hB _ HQ3.out).mono ?_
              rintro e w4 ⟨rfl, hq⟩
              have HQ4 := Lib.hid (HQ3.out.trans (quiet_grew hq))
              clear hq
              go_wp2
              go_roundw
              case rel => exact ⟨k + 1, n + (1), by omega, by go_num, by go_num, by omega, by omega, by rw [sumTo, ← HI.out.1, HT.out]; unfold sqv; repeat' split <;> omega, HQ4.out⟩
              case measure => simp [intOf]; omega
          · go_wp2_with (fail)
            refine (HCE.out _ HQ3.out).mono ?_
            rintro e w9 ⟨rfl, rfl⟩
            go_wp2
            go_roundw
            case rel => exact ⟨k + 1, n + (1), by omega, by go_num, by go_num, by omega, by omega, by rw [sumTo, ← HI.out.1, HT.out]; unfold sqv; repeat' split <;> omega, HQ3.out⟩
            case measure => simp [intOf]; omega
      · go_wp2
        go_roundw
        case rel => exact ⟨k + 1, n + 0, by omega, by go_num, by go_num, by omega, by omega, by rw [sumTo, ← HI.out.1, HT.out]; unfold sqv; repeat' split <;> omega, HQ3.out⟩
        case measure => simp [intOf]; omega
    · obtain rfl : k = N := by omega
      go_wp2
      go_ret
      exact ⟨ret_int (by rw [HI.out.1]), HI.out.2⟩
end Go.Proofs.Ytifldhdjopmpeaa
