/- Comparing and adding fractions: cmp.Compare[int], impl.compareFracs, spec.less, laws.lessOf, laws.plusOf, impl.fracOf. -/
import Derived.Test.YtlifjhhjkcmneaaFrac
namespace Go.Proofs.Ytlifjhhjkcmneaa
open Go.RowKit

theorem mulF (x y : Int) (hx : -1000000000 ≤ x ∧ x ≤ 1000000000) (hy : -100000000 ≤ y ∧ y ≤ 100000000) : IntKind.i64.wrap (x * y) = x * y := by
  have h : (x * y).natAbs ≤ 1000000000 * 100000000 := by rw [Int.natAbs_mul]; exact Nat.mul_le_mul (by omega) (by omega)
  exact IntWalk.i64_in _ (by omega)
def cmpF (x y : Int) : Int := if x < y then -1 else if y < x then 1 else 0

set_option maxRecDepth 100000 in
set_option maxHeartbeats 400000 in
theorem isNaNF_any (x : Int) (w : World) : Calls Try.prog 100 #[.int .i64 x] w fun e w' => e = .returned (.bool false) ∧ w = w' := by
  go_enter Try.func100, Try.ntmps100
  go_wp2
  go_ret
  exact ⟨ret_bool (by simp), rfl⟩
set_option maxRecDepth 100000 in
set_option maxHeartbeats 400000 in
theorem compareF_any (x y : Int) (w : World) : Calls Try.prog 93 #[.int .i64 x, .int .i64 y] w fun e w' => e = .returned (.int .i64 (cmpF x y)) ∧ w = w' := by
  have HX := Lib.hid (isNaNF_any x w)
  have HY := Lib.hid (isNaNF_any y w)
  have HC : Hid (cmpF x y = if x < y then -1 else if y < x then 1 else 0) := Lib.hid rfl
  obtain ⟨R, eR⟩ : ∃ R, cmpF x y = R := ⟨_, rfl⟩
  rw [eR] at HC ⊢
  clear eR
  by_cases h1 : x < y
  · have HC2 : Hid (R = -1) := Lib.hid (by rw [HC.out, if_pos h1])
    clear HC
    go_enter Try.func93, Try.ntmps93
    go_wp2_with (fail)
    refine HX.out.mono ?_
    rintro e w1 ⟨rfl, rfl⟩
    go_wp2_with (fail)
    refine HY.out.mono ?_
    rintro e w1 ⟨rfl, rfl⟩
    go_wp2
    go_ret
    exact ⟨ret_int HC2.out.symm, rfl⟩
  · by_cases h2 : y < x
    · have HC2 : Hid (R = 1) := Lib.hid (by rw [HC.out, if_neg h1, if_pos h2])
      clear HC
      go_enter Try.func93, Try.ntmps93
      go_wp2_with (fail)
      refine HX.out.mono ?_
      rintro e w1 ⟨rfl, rfl⟩
      go_wp2_with (fail)
      refine HY.out.mono ?_
      rintro e w1 ⟨rfl, rfl⟩
      go_wp2
      go_ret
      exact ⟨ret_int HC2.out.symm, rfl⟩
    · have HC2 : Hid (R = 0) := Lib.hid (by rw [HC.out, if_neg h1, if_neg h2])
      clear HC
      go_enter Try.func93, Try.ntmps93
      go_wp2_with (fail)
      refine HX.out.mono ?_
      rintro e w1 ⟨rfl, rfl⟩
      go_wp2_with (fail)
      refine HY.out.mono ?_
      rintro e w1 ⟨rfl, rfl⟩
      go_wp2
      go_ret
      exact ⟨ret_int HC2.out.symm, rfl⟩

set_option maxRecDepth 100000 in
set_option maxHeartbeats 400000 in
theorem compareFracs_any (a1 a2 b1 b2 : Int) (w : World) (h1 : -1000000 ≤ a1 ∧ a1 ≤ 1000000) (h2 : -1000000 ≤ a2 ∧ a2 ≤ 1000000) (h3 : -1000000 ≤ b1 ∧ b1 ≤ 1000000) (h4 : -1000000 ≤ b2 ∧ b2 ≤ 1000000) :
    Calls Try.prog 65 #[frV (a1, a2), frV (b1, b2)] w fun e w' => e = .returned (.int .i64 (cmpF (a1 * b2) (b1 * a2))) ∧ Grew w w' := by
  have HC := Lib.hid fun W => compareF_any (a1 * b2) (b1 * a2) W
  have e1 : IntKind.i64.wrap (a1 * b2) = a1 * b2 := mulF _ _ (by omega) (by omega)
  have e2 : IntKind.i64.wrap (b1 * a2) = b1 * a2 := mulF _ _ (by omega) (by omega)
  obtain ⟨R, eR⟩ : ∃ R, cmpF (a1 * b2) (b1 * a2) = R := ⟨_, rfl⟩
  rw [eR] at HC ⊢
  clear eR
  unfold frV
  have hG : Hid (Grew w ((w.alloc (.cells #[.int .i64 a1, .int .i64 a2] 29)).alloc (.cells #[.int .i64 b1, .int .i64 b2] 29))) := Lib.hid (((Grew.refl w).alloc _).alloc _)
  go_enter Try.func65, Try.ntmps65
  go_wp2_with (fail)
  refine (HC.out _).mono ?_
  rintro e w3 ⟨rfl, rfl⟩
  go_wp2
  go_ret
  exact ⟨rfl, hG.out⟩

set_option maxRecDepth 100000 in
set_option maxHeartbeats 400000 in
theorem sless_any (a1 a2 b1 b2 : Int) (w : World) (h1 : -1000000 ≤ a1 ∧ a1 ≤ 1000000) (h2 : -1000000 ≤ a2 ∧ a2 ≤ 1000000) (h3 : -1000000 ≤ b1 ∧ b1 ≤ 1000000) (h4 : -1000000 ≤ b2 ∧ b2 ≤ 1000000) :
    Calls Try.prog 67 #[frV (a1, a2), frV (b1, b2)] w fun e w' => e = .returned (.bool (decide (a1 * b2 < b1 * a2))) ∧ Grew w w' := by
  have e1 : IntKind.i64.wrap (a1 * b2) = a1 * b2 := mulF _ _ (by omega) (by omega)
  have e2 : IntKind.i64.wrap (b1 * a2) = b1 * a2 := mulF _ _ (by omega) (by omega)
  unfold frV
  have hG : Hid (Grew w ((w.alloc (.cells #[.int .i64 a1, .int .i64 a2] 29)).alloc (.cells #[.int .i64 b1, .int .i64 b2] 29))) := Lib.hid (((Grew.refl w).alloc _).alloc _)
  go_enter Try.func67, Try.ntmps67
  go_wp2
  go_ret
  exact ⟨rfl, hG.out⟩

set_option maxRecDepth 100000 in
set_option maxHeartbeats 400000 in
theorem llessOf_any (a1 a2 b1 b2 : Int) (w : World) (h1 : -1000000 ≤ a1 ∧ a1 ≤ 1000000) (h2 : -1000000 ≤ a2 ∧ a2 ≤ 1000000) (h3 : -1000000 ≤ b1 ∧ b1 ≤ 1000000) (h4 : -1000000 ≤ b2 ∧ b2 ≤ 1000000) :
    Calls Try.prog 22 #[frV (a1, a2), frV (b1, b2)] w fun e w' => e = .returned (.bool (decide (a1 * b2 < b1 * a2))) ∧ Grew w w' := by
  have e1 : IntKind.i64.wrap (a1 * b2) = a1 * b2 := mulF _ _ (by omega) (by omega)
  have e2 : IntKind.i64.wrap (b1 * a2) = b1 * a2 := mulF _ _ (by omega) (by omega)
  unfold frV
  have hG : Hid (Grew w ((w.alloc (.cells #[.int .i64 a1, .int .i64 a2] 29)).alloc (.cells #[.int .i64 b1, .int .i64 b2] 29))) := Lib.hid (((Grew.refl w).alloc _).alloc _)
  go_enter Try.func22, Try.ntmps22
  go_wp2
  go_ret
  exact ⟨rfl, hG.out⟩

set_option maxRecDepth 100000 in
set_option maxHeartbeats 1000000 in
theorem fracOf_any (u d : Nat) (w : World) (hu : u ≤ 1000000000000000) (hd : d ≤ 1000000000000000) (hd1 : 1 ≤ d) :
    Calls Try.prog 90 #[.int .i64 u, .int .i64 d] w fun e w' => e = .returned (frV (frL u d)) ∧ Grew w w' := by
  have hg1 := gcd_one (u := u) hd1
  unfold frL frV
  have hgd : Nat.gcd u d ≤ d := Nat.gcd_le_right _ hd1
  have hcm : Nat.gcd d u = Nat.gcd u d := Nat.gcd_comm _ _
  obtain ⟨g, eg⟩ : ∃ g, Nat.gcd u d = g := ⟨_, rfl⟩
  rw [eg] at hg1 hgd hcm ⊢
  have hgn : ¬ g = 0 := by omega
  have hq1 : (u : Int) / (g : Int) = ((u / g : Nat) : Int) := (Int.natCast_ediv u g).symm
  have hq2 : (d : Int) / (g : Int) = ((d / g : Nat) : Int) := (Int.natCast_ediv d g).symm
  have hl1 : u / g ≤ u := Nat.div_le_self _ _
  have hl2 : d / g ≤ d := Nat.div_le_self _ _
  obtain ⟨a, ea⟩ : ∃ a, u / g = a := ⟨_, rfl⟩
  obtain ⟨b, eb⟩ : ∃ b, d / g = b := ⟨_, rfl⟩
  rw [ea] at hq1 hl1 ⊢
  rw [eb] at hq2 hl2 ⊢
  have hq3 : Int.tdiv (u : Int) (g : Int) = ((a : Nat) : Int) := by rw [Int.tdiv_eq_ediv_of_nonneg (by omega)]; exact hq1
  have hq4 : Int.tdiv (d : Int) (g : Int) = ((b : Nat) : Int) := by rw [Int.tdiv_eq_ediv_of_nonneg (by omega)]; exact hq2
  have w1' : IntKind.i64.wrap (a : Int) = (a : Int) := wrap_12 _ (by omega) (by omega)
  have w2' : IntKind.i64.wrap (b : Int) = (b : Int) := wrap_12 _ (by omega) (by omega)
  have HGC := Lib.hid hcm
  clear eg ea eb hcm
  go_enter Try.func90, Try.ntmps90
  go_wp2
  go_loopw [5, 6] (fun fv rv wr => ∃ x y : Nat, fv = .int .i64 x ∧ rv = .int .i64 y ∧ x ≤ 1000000000000000 ∧ y ≤ 1000000000000000 ∧ Hid (Nat.gcd x y = g ∧ Grew (w.alloc (.cells #[.int .i64 0, .int .i64 0] 29)) wr)) (fun _ b _ => (intOf b).toNat)
  case atStart => exact ⟨d, u, rfl, rfl, hd, hu, HGC.out, Grew.refl _⟩
  case round =>
    obtain ⟨x, y, rfl, rfl, hx, hy, HI⟩ := hrel
    by_cases hy0 : y = 0
    · subst hy0
      have hxg : x = g := by have := HI.out.1; rwa [Nat.gcd_zero_right] at this
      subst hxg
      have hB2 : wr.heap[w.heap.size]? = some (.cells #[.int .i64 0, .int .i64 0] 29 (0, 0)) := by rw [HI.out.2.block (by simp)]; exact heap_alloc_new w _
      have HB2 := Lib.hid (And.intro hB2 (((Grew.refl w).alloc (.cells #[.int .i64 0, .int .i64 0] 29)).trans HI.out.2))
      clear hB2
      go_wp2
      go_still_tail 7, (by kernel_rfl)
      change wpList _ _ _ _ _ wr.drew
      obtain ⟨W3, hW3⟩ : ∃ W3, wr.drew = W3 := ⟨_, rfl⟩
      have hB3 : W3.heap[w.heap.size]? = some (.cells #[.int .i64 0, .int .i64 0] 29 (0, 0)) := by rw [← hW3]; exact HB2.out.1
      have hz0 : W3.cell? ⟨w.heap.size, 0, none⟩ = some (.int .i64 0) := by simp [World.cell?, hB3]
      have hz1 : W3.cell? ⟨w.heap.size, 1, none⟩ = some (.int .i64 0) := by simp [World.cell?, hB3]
      have hf0 : W3.frozen? ⟨w.heap.size, 0, none⟩ = false := by simp [World.frozen?, hB3]
      have hf1 : W3.frozen? ⟨w.heap.size, 1, none⟩ = false := by simp [World.frozen?, hB3]
      have HG3 : Hid (Grew w W3) := by rw [← hW3]; exact HB2.out.2.drew
      have HB3 := Lib.hid hB3
      rw [hW3]
      clear hW3 hB3 HB2
      go_wp2
      exact bodyPost_ret (v := .agg #[.int .i64 (a : Int), .int .i64 (b : Int)]) (results_cell_row (P := Try.prog) rfl _ _ w.heap.size 29 _ (0, 0) _ rfl (two_heapF HB3.out) Try.underlying29 rfl (by kernel_rfl)) rfl ⟨rfl, two_grewF (Nat.le_refl _) HG3.out⟩
    · have hne : ((y : Int) != 0) = true := by simp [hy0]
      have hyn : ¬ y = 0 := hy0
      have hmod := tmod_nat x y
      have hlt : x % y < y := Nat.mod_lt _ (by omega)
      obtain ⟨z, ez⟩ : ∃ z, x % y = z := ⟨_, rfl⟩
      have HG : Hid (Nat.gcd y z = g) := by rw [← ez, gcd_step]; exact HI.out.1
      rw [ez] at hmod hlt
      have w3' : IntKind.i64.wrap (z : Int) = (z : Int) := wrap_12 _ (by omega) (by omega)
      clear ez hy0
      go_wp2
      go_quiet (fail)
      go_wp2
      go_roundw
      case rel => exact ⟨y, z, rfl, rfl, hy, by omega, HG.out, HI.out.2.drewN _⟩
      case measure => simp [intOf]; omega

set_option maxRecDepth 100000 in
set_option maxHeartbeats 1000000 in
theorem plusOf_any (x1 y1 x2 y2 : Nat) (w : World) (h1 : x1 ≤ 1000000000) (h2 : y1 ≤ 100000000) (h3 : x2 ≤ 10000) (h4 : y2 ≤ 9) (h5 : 1 ≤ y1) (h6 : 1 ≤ y2) :
    Calls Try.prog 23 #[frV ((x1 : Int), (y1 : Int)), frV ((x2 : Int), (y2 : Int))] w fun e w' => e = .returned (frV (frL (x1 * y2 + x2 * y1) (y1 * y2))) ∧ Grew w w' := by
  have p1 : x1 * y2 ≤ 1000000000 * 9 := Nat.mul_le_mul h1 h4
  have p2 : x2 * y1 ≤ 10000 * 100000000 := Nat.mul_le_mul h3 h2
  have p3 : y1 * y2 ≤ 100000000 * 9 := Nat.mul_le_mul h2 h4
  have p4 : 1 ≤ y1 * y2 := Nat.mul_pos h5 h6
  have HL := Lib.hid (fun W => lfracOf_any (x1 * y2 + x2 * y1) (y1 * y2) W (by omega) (by omega) p4)
  have c1 : (x1 : Int) * (y2 : Int) = ((x1 * y2 : Nat) : Int) := by simp
  have c2 : (x2 : Int) * (y1 : Int) = ((x2 * y1 : Nat) : Int) := by simp
  have c3 : (y1 : Int) * (y2 : Int) = ((y1 * y2 : Nat) : Int) := by simp
  obtain ⟨A, eA⟩ : ∃ A, x1 * y2 = A := ⟨_, rfl⟩
  obtain ⟨B, eB⟩ : ∃ B, x2 * y1 = B := ⟨_, rfl⟩
  obtain ⟨C, eC⟩ : ∃ C, y1 * y2 = C := ⟨_, rfl⟩
  rw [eA] at HL c1 p1 ⊢
  rw [eB] at HL c2 p2 ⊢
  rw [eC] at HL c3 p3 ⊢
  obtain ⟨S, eS⟩ : ∃ S, A + B = S := ⟨_, rfl⟩
  have c4 : (A : Int) + (B : Int) = (S : Int) := by omega
  rw [eS] at HL ⊢
  have w1' : IntKind.i64.wrap (A : Int) = A := wrap_12 _ (by omega) (by omega)
  have w2' : IntKind.i64.wrap (B : Int) = B := wrap_12 _ (by omega) (by omega)
  have w3' : IntKind.i64.wrap (C : Int) = C := wrap_12 _ (by omega) (by omega)
  have w4' : IntKind.i64.wrap (S : Int) = S := wrap_12 _ (by omega) (by omega)
  obtain ⟨F, eF⟩ : ∃ F, frL S C = F := ⟨_, rfl⟩
  rw [eF] at HL ⊢
  obtain ⟨f1, f2⟩ := F
  clear eA eB eC eS eF p4
  unfold frV at HL ⊢
  go_enter Try.func23, Try.ntmps23
  go_wp2_with (fail)
  refine (HL.out _).mono ?_
  rintro e w3 ⟨rfl, hg3⟩
  have hB3 : w3.heap[w.heap.size + 2]? = some (.cells #[.int .i64 0, .int .i64 0] 29 (0, 0)) := by
    rw [hg3.block (by simp)]
    have := heap_alloc_new ((w.alloc (.cells #[.int .i64 x1, .int .i64 y1] 29)).alloc (.cells #[.int .i64 x2, .int .i64 y2] 29)) (.cells #[.int .i64 0, .int .i64 0] 29)
    simpa using this
  have hz0 : w3.cell? ⟨w.heap.size + 2, 0, none⟩ = some (.int .i64 0) := by simp [World.cell?, hB3]
  have hz1 : w3.cell? ⟨w.heap.size + 2, 1, none⟩ = some (.int .i64 0) := by simp [World.cell?, hB3]
  have hf0 : w3.frozen? ⟨w.heap.size + 2, 0, none⟩ = false := by simp [World.frozen?, hB3]
  have hf1 : w3.frozen? ⟨w.heap.size + 2, 1, none⟩ = false := by simp [World.frozen?, hB3]
  have HG3 : Hid (Grew w w3) := ((((Grew.refl w).alloc _).alloc _).alloc _).trans hg3
  have HB3 := Lib.hid hB3
  clear hg3 hB3
  go_wp2
  exact bodyPost_ret (v := .agg #[.int .i64 f1, .int .i64 f2]) (results_cell_row (P := Try.prog) rfl _ _ (w.heap.size + 2) 29 _ (0, 0) _ rfl (two_heapF HB3.out) Try.underlying29 rfl (by kernel_rfl)) rfl ⟨rfl, two_grewF (by omega) HG3.out⟩
end Go.Proofs.Ytlifjhhjkcmneaa
