/- laws.plusOf at greater numbers; how great the sums of smooth heights are. -/
import Derived.Test.YtlifjhhjkcmneaaSumF
import Derived.Test.YtlifjhhjkcmneaaFrac2
namespace Go.Proofs.Ytlifjhhjkcmneaa
open Go.RowKit

set_option maxRecDepth 100000 in
set_option maxHeartbeats 1000000 in
theorem plusOf2_any (x1 y1 x2 y2 : Nat) (w : World) (h1 : x1 ≤ 10000000000) (h2 : y1 ≤ 100000000) (h3 : x2 ≤ 10000) (h4 : y2 ≤ 9) (h5 : 1 ≤ y1) (h6 : 1 ≤ y2) :
    Calls Try.prog 23 #[frV ((x1 : Int), (y1 : Int)), frV ((x2 : Int), (y2 : Int))] w fun e w' => e = .returned (frV (frL (x1 * y2 + x2 * y1) (y1 * y2))) ∧ Grew w w' := by
  have p1 : x1 * y2 ≤ 10000000000 * 9 := Nat.mul_le_mul h1 h4
  have p2 : x2 * y1 ≤ 10000 * 100000000 := Nat.mul_le_mul h3 h2
  have p3 : y1 * y2 ≤ 100000000 * 9 := Nat.mul_le_mul h2 h4
  have p4 : 1 ≤ y1 * y2 := Nat.mul_pos h5 h6
  have HL := Lib.hid (fun W => lfracOf_any (x1 * y2 + x2 * y1) (y1 * y2) W (by omega) (by omega) p4)
  have c1 : (x1 : Int) * (y2 : Int) = ((x1 * y2 : Nat) : Int) := by simp
  have c2 : (x2 : Int) * (y1 : Int) = ((x2 * y1 : Nat) : Int) := by simp
  have c3 : (y1 : Int) * (y2 : Int) = ((y1 * y2 : Nat) : Int) := by simp
  obtain ⟨A, eA⟩ : ∃ A, x1 * y2 = A := ⟨_, rfl⟩
  obtain ⟨B, eB⟩ : ∃ B, x2 * y1 = B := ⟨_, rfl⟩
  obtain ⟨C, eC⟩ : ∃ C, y1 * y2 = C := ⟨_, rfl⟩
  rw [eA] at HL c1 p1 ⊢
  rw [eB] at HL c2 p2 ⊢
  rw [eC] at HL c3 p3 ⊢
  obtain ⟨S, eS⟩ : ∃ S, A + B = S := ⟨_, rfl⟩
  have c4 : (A : Int) + (B : Int) = (S : Int) := by omega
  rw [eS] at HL ⊢
  have w1' : IntKind.i64.wrap (A : Int) = A := wrap_12 _ (by omega) (by omega)
  have w2' : IntKind.i64.wrap (B : Int) = B := wrap_12 _ (by omega) (by omega)
  have w3' : IntKind.i64.wrap (C : Int) = C := wrap_12 _ (by omega) (by omega)
  have w4' : IntKind.i64.wrap (S : Int) = S := wrap_12 _ (by omega) (by omega)
  obtain ⟨F, eF⟩ : ∃ F, frL S C = F := ⟨_, rfl⟩
  rw [eF] at HL ⊢
  obtain ⟨f1, f2⟩ := F
  clear eA eB eC eS eF p4
  unfold frV at HL ⊢
  go_enter Try.func23, Try.ntmps23
  go_wp2_with (fail)
  refine (HL.out _).mono ?_
  rintro e w3 ⟨rfl, hg3⟩
  have hB3 : w3.heap[w.heap.size + 2]? = some (.cells #[.int .i64 0, .int .i64 0] 29 (0, 0)) := by
    rw [hg3.block (by simp)]
    have := heap_alloc_new ((w.alloc (.cells #[.int .i64 x1, .int .i64 y1] 29)).alloc (.cells #[.int .i64 x2, .int .i64 y2] 29)) (.cells #[.int .i64 0, .int .i64 0] 29)
    simpa using this
  have hz0 : w3.cell? ⟨w.heap.size + 2, 0, none⟩ = some (.int .i64 0) := by simp [World.cell?, hB3]
  have hz1 : w3.cell? ⟨w.heap.size + 2, 1, none⟩ = some (.int .i64 0) := by simp [World.cell?, hB3]
  have hf0 : w3.frozen? ⟨w.heap.size + 2, 0, none⟩ = false := by simp [World.frozen?, hB3]
  have hf1 : w3.frozen? ⟨w.heap.size + 2, 1, none⟩ = false := by simp [World.frozen?, hB3]
  have HG3 : Hid (Grew w w3) := ((((Grew.refl w).alloc _).alloc _).alloc _).trans hg3
  have HB3 := Lib.hid hB3
  clear hg3 hB3
  go_wp2
  exact bodyPost_ret (v := .agg #[.int .i64 f1, .int .i64 f2]) (results_cell_row (P := Try.prog) rfl _ _ (w.heap.size + 2) 29 _ (0, 0) _ rfl (two_heapF HB3.out) Try.underlying29 rfl (by kernel_rfl)) rfl ⟨rfl, two_grewF (by omega) HG3.out⟩

theorem sumS_bd {p : List Int} (hp : vProf p = true) : ∀ k, k ≤ p.length → ∃ x y : Nat, sumS p k = ((x : Int), (y : Int)) ∧ 1 ≤ y ∧ y ≤ 9 ^ k ∧ x ≤ 12 * k * 9 ^ k
  | 0, _ => ⟨0, 1, rfl, by decide, by decide, by decide⟩
  | k + 1, hk => by
    obtain ⟨x, y, e, h1, h2, h3⟩ := sumS_bd hp k (by omega)
    obtain ⟨_, _, a, b, hab, hb1, hb2, eb⟩ := bestF_is p k (by omega)
    have hb := mF_bd hp a b hb2
    have ho := mF_one p a b (by omega)
    rw [← eb] at hb ho
    obtain ⟨x2, y2, e2⟩ : ∃ x2 y2 : Nat, bestF' p k = ((x2 : Int), (y2 : Int)) := by
      rw [eb]; exact frL_nat _ _
    rw [e2] at hb ho
    simp only at hb ho
    have es : sumS p (k + 1) = frL (x * y2 + x2 * y) (y * y2) := by rw [sumS, e, e2]; rfl
    have hbd := frL_bd (x * y2 + x2 * y) (y * y2)
    have hpo := frL_pos' (u := x * y2 + x2 * y) (d := y * y2) (Nat.mul_pos h1 (by omega))
    obtain ⟨u, v, euv⟩ := frL_nat (x * y2 + x2 * y) (y * y2)
    rw [euv] at hbd hpo
    simp only at hbd hpo
    have q1 : y * y2 ≤ 9 ^ k * 9 := Nat.mul_le_mul h2 (by omega)
    have q2 : x * y2 ≤ 12 * k * 9 ^ k * 9 := Nat.mul_le_mul h3 (by omega)
    have q3 : x2 * y ≤ 108 * 9 ^ k := Nat.mul_le_mul (by omega) h2
    have q4 : 12 * (k + 1) * 9 ^ (k + 1) = 12 * k * 9 ^ k * 9 + 108 * 9 ^ k := by rw [Nat.pow_succ]; grind
    have q5 : 9 ^ (k + 1) = 9 ^ k * 9 := Nat.pow_succ _ _
    refine ⟨u, v, by rw [es, euv], by omega, by omega, by omega⟩
theorem sumS_small {p : List Int} (hp : vProf p = true) (k : Nat) (hk : k ≤ p.length) (h8 : k ≤ 8) : ∃ x y : Nat, sumS p k = ((x : Int), (y : Int)) ∧ 1 ≤ y ∧ y ≤ 100000000 ∧ x ≤ 10000000000 := by
  obtain ⟨x, y, e, h1, h2, h3⟩ := sumS_bd hp k hk
  have hm : 9 ^ k ≤ 9 ^ 8 := Nat.pow_le_pow_right (by decide) h8
  have hq : 12 * k * 9 ^ k ≤ 12 * 8 * 9 ^ 8 := Nat.mul_le_mul (by omega) hm
  have : 9 ^ 8 = 43046721 := by decide
  exact ⟨x, y, e, h1, by omega, by omega⟩
end Go.Proofs.Ytlifjhhjkcmneaa
