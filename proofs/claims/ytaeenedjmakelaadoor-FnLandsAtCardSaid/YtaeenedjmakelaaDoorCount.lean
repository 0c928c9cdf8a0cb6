/- The contract of impl.countBlocks. -/
import Derived.Test.YtaeenedjmakelaaDoorMin
import Derived.Test.YtaeenedjmakelaaDoorSGrid
import Derived.Test.YtaeenedjmakelaaDoorTurns
import Derived.Test.YtaeenedjmakelaaDoorSumTo
import Derived.WalkMore
import Derived.Deep.LoopGhost
namespace Go.Proofs.YtaeenedjmakelaaDoor
open Go.RowKit

/-- Row i of a block is all higher than t. -/
def rowB (h : List (List Int)) (t : Int) (C : Nat) (r c : Nat) : Bool := (List.range C).all fun j => decide (t < (h.getD r []).getD (c + j) 0)
/-- A block of R rows and C columns is all higher than t. -/
def blkB (h : List (List Int)) (t : Int) (R C : Nat) (r c : Nat) : Bool := (List.range R).all fun i => rowB h t C (r + i) c
def blocksL (h : List (List Int)) (t : Int) (R C n m : Nat) : Int := sumTo (fun r => sumTo (fun c => if blkB h t R C r c = true then 1 else 0) (m + 1 - C)) (n + 1 - R)
theorem blk_succ (h : List (List Int)) (t : Int) (i C r c : Nat) : blkB h t (i + 1) C r c = (blkB h t i C r c && rowB h t C (r + i) c) := by
  unfold blkB
  rw [List.range_succ, List.all_append]
  simp
theorem blk_false {h : List (List Int)} {t : Int} {i R C r c : Nat} (hi : i < R) (hr : rowB h t C (r + i) c = false) : blkB h t R C r c = false := by
  unfold blkB
  rw [List.all_eq_false]
  exact ⟨i, List.mem_range.2 hi, by simp [hr]⟩
theorem row_min {h : List (List Int)} {t m : Int} {C r c : Nat} {xs : List Int} (hl : xs.length = C) (hx : ∀ j, j < C → xs.getD j 0 = (h.getD r []).getD (c + j) 0) (hm : IsMin xs m) : rowB h t C r c = decide (t < m) := by
  obtain ⟨⟨i, hi, ei⟩, hall⟩ := hm
  rw [Bool.eq_iff_iff, decide_eq_true_eq]
  unfold rowB
  simp only [List.all_eq_true, List.mem_range, decide_eq_true_eq]
  constructor
  · intro h1
    have := h1 i (by omega)
    rw [← hx i (by omega), ei] at this
    exact this
  · intro h1 j hj
    have := hall j (by omega)
    rw [hx j hj] at this
    omega

theorem RowsV.cutR {w : World} {b o n c : Nat} {h : List (List Int)} (hv : RowsV w (.slice (some ⟨b, o, none⟩) n c) h) (r : Nat) (hr : r < h.length) : ∃ u, w.cell? ⟨b, o + r, none⟩ = some u ∧ IntsV w u (h.getD r []) := by
  obtain ⟨a', b', o', c', e, hl, hc⟩ := hv
  obtain ⟨h1, h2⟩ := hc r hr
  simp only [Value.slice.injEq] at e
  rw [h1] at e
  simp only [Option.some.injEq, Addr.mk.injEq] at e
  obtain ⟨⟨rfl, rfl, _⟩, _, _⟩ := e
  exact h2

def pieceL (p : List Int) (A m : Nat) : List Int := (List.range m).map fun i => p.getD (A + i) 0
theorem pieceL_len (p : List Int) (A m : Nat) : (pieceL p A m).length = m := by simp [pieceL]
theorem pieceL_at (p : List Int) (A m i : Nat) (hi : i < m) : (pieceL p A m).getD i 0 = p.getD (A + i) 0 := by
  simp [pieceL, hi]
theorem IntsV.pieceC {w : World} {b o n c : Nat} {p : List Int} (h : IntsV w (.slice (some ⟨b, o, none⟩) n c) p) (A m c' : Nat) (hm : A + m ≤ p.length) (h1 : m ≤ c') (h2 : c' ≤ 9223372036854775807) : IntsV w (.slice (some ⟨b, o + A, none⟩) m c') (pieceL p A m) := by
  obtain ⟨a', b', o', c2, e, hl, hc⟩ := h
  have hcl := pieceL_len p A m
  refine ⟨_, b, o + A, c', by rw [hcl], ⟨by omega, h2⟩, fun i hi => ⟨rfl, ?_⟩⟩
  rw [hcl] at hi
  obtain ⟨h1, h2⟩ := hc (A + i) (by omega)
  simp only [Value.slice.injEq] at e
  rw [h1] at e
  simp only [Option.some.injEq, Addr.mk.injEq] at e
  obtain ⟨⟨rfl, rfl, _⟩, _, _⟩ := e
  rw [pieceL_at p A m i hi, Nat.add_assoc]
  exact h2

set_option maxRecDepth 100000 in
set_option maxHeartbeats 4000000 in
theorem countBlocks_any (v : Value) (h : List (List Int)) (R C : Nat) (t : Int) (w : World) (hv : RowsV w v h) (hg : vGrid h = true) (hR1 : 1 ≤ R) (hR2 : R ≤ 2) (hC1 : 1 ≤ C) (hC2 : C ≤ 2) :
    Calls Tryd.prog 78 #[v, .int .i64 R, .int .i64 C, .int .i64 t] w fun e w' => e = .returned (.int .i64 (blocksL h t R C h.length (h.getD 0 []).length)) ∧ w = w' := by
  have G := Grid.of hg
  have hn5 := G.n5
  have hn1 := G.n1
  have hm5 := G.m5
  have hm1 := G.m1
  obtain ⟨a, b, o, c0, rfl, ⟨hlc, hcb⟩, ha, HC⟩ := hv.shape
  obtain rfl := ha (by omega)
  obtain ⟨u0, hcu0, hu0⟩ := HC.out 0 (by omega)
  rw [Nat.add_zero] at hcu0
  obtain ⟨m, em⟩ : ∃ m, (h.getD 0 []).length = m := ⟨_, rfl⟩
  obtain ⟨a0, b0, o0, cc0, rfl, _, _, _⟩ := hu0.shape
  rw [em] at hcu0 hm5 hm1 G ⊢
  have HV := Lib.hid hv
  have HLEN := Lib.hid G.len
  have hn0 : 0 < h.length := by omega
  have hi0 : (0 : Int) < h.length := by omega
  obtain ⟨n, en⟩ : ∃ n, h.length = n := ⟨_, rfl⟩
  have HN := Lib.hid en
  have e1 : (h.length : Int) - R + 1 = ((n + 1 - R : Nat) : Int) := by omega
  have e2 : (m : Int) - C + 1 = ((m + 1 - C : Nat) : Int) := by omega
  obtain ⟨NR, eNR⟩ : ∃ NR, n + 1 - R = NR := ⟨_, rfl⟩
  obtain ⟨MC, eMC⟩ : ∃ MC, m + 1 - C = MC := ⟨_, rfl⟩
  rw [eNR] at e1
  rw [eMC] at e2
  have HF : Hid (blocksL h t R C h.length m = sumTo (fun r => sumTo (fun c => if blkB h t R C r c = true then 1 else 0) MC) NR) := by
    show _ = _
    unfold blocksL
    rw [en, eMC, eNR]
  have hNR : NR + R ≤ n + 1 ∧ NR ≤ 5 := by omega
  have hMC : MC + C ≤ m + 1 ∧ MC ≤ 5 := by omega
  have HNR := Lib.hid (And.intro eNR eMC)
  clear hv hg G ha HC hu0 em en eNR eMC
  go_enter Tryd.func78, Tryd.ntmps78
  go_wp2
  go_loop [9, 19] (fun s i => ∃ (k : Nat) (q : Int), k ≤ NR ∧ i = .int .i64 k ∧ s = .int .i64 q ∧ 0 ≤ q ∧ q ≤ 5 * (k : Int) ∧ Hid (q = sumTo (fun r => sumTo (fun c => if blkB h t R C r c = true then 1 else 0) MC) k)) (fun _ i => NR - (intOf i).toNat)
  case atStart => exact ⟨0, 0, Nat.zero_le _, rfl, rfl, Int.le_refl _, Int.le_refl _, rfl⟩
  case round =>
    obtain ⟨k, q, hk, rfl, rfl, hq0, hq1, HI⟩ := hrel
    by_cases hlt : k < NR
    · go_wp2
      go_step3
      go_wp2
      go_step3
      go_wp2
      go_loop [9, 29] (fun s i => ∃ (j : Nat) (q2 : Int), j ≤ MC ∧ i = .int .i64 j ∧ s = .int .i64 (q + q2) ∧ 0 ≤ q2 ∧ q2 ≤ (j : Int) ∧ Hid (q2 = sumTo (fun c => if blkB h t R C k c = true then 1 else 0) j)) (fun _ i => MC - (intOf i).toNat)
      case atStart => exact ⟨0, 0, Nat.zero_le _, rfl, by simp, Int.le_refl _, Int.le_refl _, rfl⟩
      case round =>
        obtain ⟨j, q2, hj, rfl, rfl, hq20, hq21, HI2⟩ := hrel
        by_cases hltj : j < MC
        · go_wp2
          go_loop [39] (fun s => ∃ i : Nat, i ≤ R ∧ s = .int .i64 i ∧ Hid (blkB h t i C k j = true)) (fun s => R - (intOf s).toNat)
          case atStart => exact ⟨0, Nat.zero_le _, rfl, by show _ = _; simp [blkB]⟩
          case round =>
            obtain ⟨i, hi, rfl, HB⟩ := hrel
            by_cases hlti : i < R
            · obtain ⟨u1, hcu1, hu1⟩ := HV.out.cutR (k + i) (by rw [HN.out]; omega)
              have hl1 := HLEN.out (k + i) (by rw [HN.out]; omega)
              obtain ⟨a1, b1, o1, c1, rfl, ⟨hc11, hc12⟩, ha1, _⟩ := hu1.shape
              obtain rfl := ha1 (by omega)
              rw [hl1] at hcu1 hc11
              have hcu1' : w.cell? ⟨b, o + k + i, none⟩ = some (.slice (some ⟨b1, o1, none⟩) m c1) := by rw [Nat.add_assoc]; exact hcu1
              have hpc := IntsV.pieceC hu1 j C (c1 - j) (by omega) (by omega) (by omega)
              have HM := Lib.hid (slicesMin_any _ _ w hpc (by rw [pieceL_len]; omega))
              have HL1 := Lib.hid hl1
              clear hcu1 hpc hu1 ha1 hl1
              go_wp2_with (fail)
              refine HM.out.mono ?_
              rintro e w1 ⟨mn, rfl, hmin, rfl⟩
              have hrow := row_min (h := h) (t := t) (r := k + i) (c := j) (pieceL_len _ _ _) (fun x hx => pieceL_at _ _ _ x hx) hmin
              clear hmin
              by_cases hmt : mn ≤ t
              · have HR : Hid (rowB h t C (k + i) j = false) := by rw [hrow]; exact decide_eq_false (by omega)
                clear hrow
                go_wp2
                go_round
                case rel => exact ⟨j + 1, q2, by omega, by go_num, rfl, by omega, by omega, by show _ = _; rw [sumTo, ← HI2.out, if_neg (by rw [blk_false hlti HR.out]; simp), Int.add_zero]⟩
                case measure => simp [intOf]; omega
              · have HR : Hid (rowB h t C (k + i) j = true) := by rw [hrow]; exact decide_eq_true (by omega)
                clear hrow
                go_wp2
                go_round
                case rel => exact ⟨i + 1, by omega, by go_num, by show _ = _; rw [blk_succ, HB.out, HR.out]; rfl⟩
                case measure => simp [intOf]; omega
            · obtain rfl : i = R := by omega
              go_wp2
              go_round
              case rel => exact ⟨j + 1, q2 + 1, by omega, by go_num, by go_num, by omega, by omega, by show _ = _; rw [sumTo, ← HI2.out, if_pos HB.out]⟩
              case measure => simp [intOf]; omega
        · obtain rfl : j = MC := by omega
          go_wp2
          go_round
          case rel => exact ⟨k + 1, q + q2, by omega, by go_num, rfl, by omega, by omega, by show _ = _; rw [sumTo, ← HI.out, ← HI2.out]⟩
          case measure => simp [intOf]; omega
    · obtain rfl : k = NR := by omega
      go_wp2
      go_ret
      exact ⟨ret_int (by rw [HF.out]; exact HI.out), rfl⟩
end Go.Proofs.YtaeenedjmakelaaDoor
