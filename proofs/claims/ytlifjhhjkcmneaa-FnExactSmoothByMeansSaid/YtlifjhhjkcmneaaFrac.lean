/- Fractions: the contracts of impl.fracOf, cmp.Compare, compareFracs, spec.gcd, frac, less, laws.divisor, fracOf, plusOf, lessOf. -/
import Derived.Test.YtlifjhhjkcmneaaFr
import Derived.StillTailTactics
import Derived.Lib.MinMax
namespace Go.Proofs.Ytlifjhhjkcmneaa
open Go.RowKit

/-- The fraction u / d in lowest terms. -/
def frL (u d : Nat) : Int × Int := (((u / Nat.gcd u d : Nat) : Int), ((d / Nat.gcd u d : Nat) : Int))
theorem gcd_step (a b : Nat) : Nat.gcd b (a % b) = Nat.gcd a b := by rw [Nat.gcd_comm b, ← Nat.gcd_rec, Nat.gcd_comm]
theorem tmod_nat (a b : Nat) : Int.tmod (a : Int) (b : Int) = ((a % b : Nat) : Int) := (Int.ofNat_tmod a b).symm
theorem gcd_one {u d : Nat} (hd : 1 ≤ d) : 1 ≤ Nat.gcd u d := Nat.gcd_pos_of_pos_right u hd
theorem two_heapF {W : World} {g : Nat} {z0 z1 u0 u1 : Value} {T : TypeId} (h : W.heap[g]? = some (.cells #[z0, z1] T (0, 0))) :
    ((W.setCell ⟨g, 0, none⟩ u0).setCell ⟨g, 1, none⟩ u1).heap[g]? = some (.cells #[u0, u1] T (0, 0)) := by
  rw [heap_setCell_same _ _ 1 _ _ _ (heap_setCell_same _ _ 0 _ _ _ h)]
  rfl
theorem two_grewF {w W : World} {p q : Value} {b : Nat} (hb : w.heap.size ≤ b) (h : Grew w W) : Grew w ((W.setCell ⟨b, 0, none⟩ p).setCell ⟨b, 1, none⟩ q) :=
  Below.setCell (Below.setCell h (p := ⟨b, 0, none⟩) (by show _ ≤ b; omega) _) (p := ⟨b, 1, none⟩) (by show _ ≤ b; omega) _
theorem wrap_12 (x : Int) (h1 : -1000000000000000000 ≤ x) (h2 : x ≤ 1000000000000000000) : IntKind.i64.wrap x = x := IntWalk.i64_in _ (by omega)

set_option maxRecDepth 100000 in
set_option maxHeartbeats 1000000 in
theorem sgcd_any (u d : Nat) (w : World) (hu : u ≤ 1000000000000000) (hd : d ≤ 1000000000000000) :
    Calls Try.prog 91 #[.int .i64 u, .int .i64 d] w fun e w' => e = .returned (.int .i64 (Nat.gcd u d : Nat)) ∧ ∃ q, w' = w.drewN q := by
  go_enter Try.func91, Try.ntmps91
  go_wp2
  go_loopw [0, 1] (fun a b wr => ∃ x y : Nat, a = .int .i64 x ∧ b = .int .i64 y ∧ x ≤ 1000000000000000 ∧ y ≤ 1000000000000000 ∧ Hid (Nat.gcd x y = Nat.gcd u d ∧ ∃ q, wr = w.drewN q)) (fun _ b _ => (intOf b).toNat)
  case atStart => exact ⟨u, d, rfl, rfl, hu, hd, rfl, 0, rfl⟩
  case round =>
    obtain ⟨x, y, rfl, rfl, hx, hy, HI⟩ := hrel
    by_cases hy0 : y = 0
    · subst hy0
      have HE : Hid (max (x : Int) (-(x : Int)) = (Nat.gcd u d : Nat)) := by
        have := HI.out.1
        rw [Nat.gcd_zero_right] at this
        show _ = _
        rw [← this]; omega
      have w1' : IntKind.i64.wrap (-(x : Int)) = -(x : Int) := wrap_12 _ (by omega) (by omega)
      go_wp2
      go_ret
      exact ⟨ret_int HE.out, HI.out.2⟩
    · have hne : ((y : Int) != 0) = true := by simp [hy0]
      have hyi : (y : Int) ≠ 0 := by omega
      have hmod := tmod_nat x y
      have hlt : x % y < y := Nat.mod_lt _ (by omega)
      obtain ⟨z, ez⟩ : ∃ z, x % y = z := ⟨_, rfl⟩
      have HG : Hid (Nat.gcd y z = Nat.gcd u d) := by rw [← ez, gcd_step]; exact HI.out.1
      rw [ez] at hmod hlt
      have w1' : IntKind.i64.wrap (z : Int) = (z : Int) := wrap_12 _ (by omega) (by omega)
      clear ez hy0
      go_wp2
      try go_quiet (fail)
      try go_wp2
      go_roundw
      case rel => exact ⟨y, z, rfl, rfl, hy, by omega, HG.out, by first | exact quiet_step HI.out.2 _ | exact HI.out.2⟩
      case measure => simp [intOf]; omega

set_option maxRecDepth 100000 in
set_option maxHeartbeats 1000000 in
theorem ldivisor_any (u d : Nat) (w : World) (hu : u ≤ 1000000000000000) (hd : d ≤ 1000000000000000) :
    Calls Try.prog 62 #[.int .i64 u, .int .i64 d] w fun e w' => e = .returned (.int .i64 (Nat.gcd u d : Nat)) ∧ ∃ q, w' = w.drewN q := by
  go_enter Try.func62, Try.ntmps62
  go_wp2
  go_loopw [0, 1] (fun a b wr => ∃ x y : Nat, a = .int .i64 x ∧ b = .int .i64 y ∧ x ≤ 1000000000000000 ∧ y ≤ 1000000000000000 ∧ Hid (Nat.gcd x y = Nat.gcd u d ∧ ∃ q, wr = w.drewN q)) (fun _ b _ => (intOf b).toNat)
  case atStart => exact ⟨u, d, rfl, rfl, hu, hd, rfl, 0, rfl⟩
  case round =>
    obtain ⟨x, y, rfl, rfl, hx, hy, HI⟩ := hrel
    by_cases hy0 : y = 0
    · subst hy0
      have HE : Hid (max (x : Int) (-(x : Int)) = (Nat.gcd u d : Nat)) := by
        have := HI.out.1
        rw [Nat.gcd_zero_right] at this
        show _ = _
        rw [← this]; omega
      have w1' : IntKind.i64.wrap (-(x : Int)) = -(x : Int) := wrap_12 _ (by omega) (by omega)
      go_wp2
      go_ret
      exact ⟨ret_int HE.out, HI.out.2⟩
    · have hne : ((y : Int) != 0) = true := by simp [hy0]
      have hyi : (y : Int) ≠ 0 := by omega
      have hmod := tmod_nat x y
      have hlt : x % y < y := Nat.mod_lt _ (by omega)
      obtain ⟨z, ez⟩ : ∃ z, x % y = z := ⟨_, rfl⟩
      have HG : Hid (Nat.gcd y z = Nat.gcd u d) := by rw [← ez, gcd_step]; exact HI.out.1
      rw [ez] at hmod hlt
      have w1' : IntKind.i64.wrap (z : Int) = (z : Int) := wrap_12 _ (by omega) (by omega)
      clear ez hy0
      go_wp2
      try go_quiet (fail)
      try go_wp2
      go_roundw
      case rel => exact ⟨y, z, rfl, rfl, hy, by omega, HG.out, by first | exact quiet_step HI.out.2 _ | exact HI.out.2⟩
      case measure => simp [intOf]; omega

set_option maxRecDepth 100000 in
set_option maxHeartbeats 1000000 in
theorem sfrac_any (u d : Nat) (w : World) (hu : u ≤ 1000000000000000) (hd : d ≤ 1000000000000000) (hd1 : 1 ≤ d) :
    Calls Try.prog 61 #[.int .i64 u, .int .i64 d] w fun e w' => e = .returned (frV (frL u d)) ∧ Grew w w' := by
  have hg1 := gcd_one (u := u) hd1
  have HGC := Lib.hid (fun W => sgcd_any u d W hu hd)
  unfold frL frV
  have hgd : Nat.gcd u d ≤ d := Nat.gcd_le_right _ hd1
  obtain ⟨g, eg⟩ : ∃ g, Nat.gcd u d = g := ⟨_, rfl⟩
  rw [eg] at hg1 HGC hgd ⊢
  have hgn : ¬ g = 0 := by omega
  have hq1 : (u : Int) / (g : Int) = ((u / g : Nat) : Int) := (Int.natCast_ediv u g).symm
  have hq2 : (d : Int) / (g : Int) = ((d / g : Nat) : Int) := (Int.natCast_ediv d g).symm
  have hl1 : u / g ≤ u := Nat.div_le_self _ _
  have hl2 : d / g ≤ d := Nat.div_le_self _ _
  obtain ⟨a, ea⟩ : ∃ a, u / g = a := ⟨_, rfl⟩
  obtain ⟨b, eb⟩ : ∃ b, d / g = b := ⟨_, rfl⟩
  rw [ea] at hq1 hl1 ⊢
  rw [eb] at hq2 hl2 ⊢
  have hq3 : Int.tdiv (u : Int) (g : Int) = ((a : Nat) : Int) := by rw [Int.tdiv_eq_ediv_of_nonneg (by omega)]; exact hq1
  have hq4 : Int.tdiv (d : Int) (g : Int) = ((b : Nat) : Int) := by rw [Int.tdiv_eq_ediv_of_nonneg (by omega)]; exact hq2
  have w1' : IntKind.i64.wrap (a : Int) = (a : Int) := wrap_12 _ (by omega) (by omega)
  have w2' : IntKind.i64.wrap (b : Int) = (b : Int) := wrap_12 _ (by omega) (by omega)
  clear eg ea eb
  go_enter Try.func61, Try.ntmps61
  go_wp2_with (fail)
  refine (HGC.out _).mono ?_
  rintro e w1 ⟨rfl, hq⟩
  have HQ : Hid (Grew (w.alloc (.cells #[.int .i64 0, .int .i64 0] 29)) w1) := quiet_grew hq
  have hB2 : w1.heap[w.heap.size]? = some (.cells #[.int .i64 0, .int .i64 0] 29 (0, 0)) := by rw [HQ.out.block (by simp)]; exact heap_alloc_new w _
  have HB2 := Lib.hid (And.intro hB2 (((Grew.refl w).alloc (.cells #[.int .i64 0, .int .i64 0] 29)).trans HQ.out))
  clear hq hB2
  go_wp2
  go_still_tail 7, (by kernel_rfl)
  change wpList _ _ _ _ _ w1.drew
  obtain ⟨W3, hW3⟩ : ∃ W3, w1.drew = W3 := ⟨_, rfl⟩
  have hB3 : W3.heap[w.heap.size]? = some (.cells #[.int .i64 0, .int .i64 0] 29 (0, 0)) := by rw [← hW3]; exact HB2.out.1
  have hz0 : W3.cell? ⟨w.heap.size, 0, none⟩ = some (.int .i64 0) := by simp [World.cell?, hB3]
  have hz1 : W3.cell? ⟨w.heap.size, 1, none⟩ = some (.int .i64 0) := by simp [World.cell?, hB3]
  have hf0 : W3.frozen? ⟨w.heap.size, 0, none⟩ = false := by simp [World.frozen?, hB3]
  have hf1 : W3.frozen? ⟨w.heap.size, 1, none⟩ = false := by simp [World.frozen?, hB3]
  have HG3 : Hid (Grew w W3) := by rw [← hW3]; exact HB2.out.2.drew
  have HB3 := Lib.hid hB3
  rw [hW3]
  clear hW3 hB3 HB2
  go_wp2
  exact bodyPost_ret (v := .agg #[.int .i64 (a : Int), .int .i64 (b : Int)]) (results_cell_row (P := Try.prog) rfl _ _ w.heap.size 29 _ (0, 0) _ rfl (two_heapF HB3.out) Try.underlying29 rfl (by kernel_rfl)) rfl ⟨rfl, two_grewF (Nat.le_refl _) HG3.out⟩

set_option maxRecDepth 100000 in
set_option maxHeartbeats 1000000 in
theorem lfracOf_any (u d : Nat) (w : World) (hu : u ≤ 1000000000000000) (hd : d ≤ 1000000000000000) (hd1 : 1 ≤ d) :
    Calls Try.prog 21 #[.int .i64 u, .int .i64 d] w fun e w' => e = .returned (frV (frL u d)) ∧ Grew w w' := by
  have hg1 := gcd_one (u := u) hd1
  have HGC := Lib.hid (fun W => ldivisor_any u d W hu hd)
  unfold frL frV
  have hgd : Nat.gcd u d ≤ d := Nat.gcd_le_right _ hd1
  obtain ⟨g, eg⟩ : ∃ g, Nat.gcd u d = g := ⟨_, rfl⟩
  rw [eg] at hg1 HGC hgd ⊢
  have hgn : ¬ g = 0 := by omega
  have hq1 : (u : Int) / (g : Int) = ((u / g : Nat) : Int) := (Int.natCast_ediv u g).symm
  have hq2 : (d : Int) / (g : Int) = ((d / g : Nat) : Int) := (Int.natCast_ediv d g).symm
  have hl1 : u / g ≤ u := Nat.div_le_self _ _
  have hl2 : d / g ≤ d := Nat.div_le_self _ _
  obtain ⟨a, ea⟩ : ∃ a, u / g = a := ⟨_, rfl⟩
  obtain ⟨b, eb⟩ : ∃ b, d / g = b := ⟨_, rfl⟩
  rw [ea] at hq1 hl1 ⊢
  rw [eb] at hq2 hl2 ⊢
  have hq3 : Int.tdiv (u : Int) (g : Int) = ((a : Nat) : Int) := by rw [Int.tdiv_eq_ediv_of_nonneg (by omega)]; exact hq1
  have hq4 : Int.tdiv (d : Int) (g : Int) = ((b : Nat) : Int) := by rw [Int.tdiv_eq_ediv_of_nonneg (by omega)]; exact hq2
  have w1' : IntKind.i64.wrap (a : Int) = (a : Int) := wrap_12 _ (by omega) (by omega)
  have w2' : IntKind.i64.wrap (b : Int) = (b : Int) := wrap_12 _ (by omega) (by omega)
  clear eg ea eb
  go_enter Try.func21, Try.ntmps21
  go_wp2_with (fail)
  refine (HGC.out _).mono ?_
  rintro e w1 ⟨rfl, hq⟩
  have HQ : Hid (Grew (w.alloc (.cells #[.int .i64 0, .int .i64 0] 29)) w1) := quiet_grew hq
  have hB2 : w1.heap[w.heap.size]? = some (.cells #[.int .i64 0, .int .i64 0] 29 (0, 0)) := by rw [HQ.out.block (by simp)]; exact heap_alloc_new w _
  have HB2 := Lib.hid (And.intro hB2 (((Grew.refl w).alloc (.cells #[.int .i64 0, .int .i64 0] 29)).trans HQ.out))
  clear hq hB2
  go_wp2
  go_still_tail 7, (by kernel_rfl)
  change wpList _ _ _ _ _ w1.drew
  obtain ⟨W3, hW3⟩ : ∃ W3, w1.drew = W3 := ⟨_, rfl⟩
  have hB3 : W3.heap[w.heap.size]? = some (.cells #[.int .i64 0, .int .i64 0] 29 (0, 0)) := by rw [← hW3]; exact HB2.out.1
  have hz0 : W3.cell? ⟨w.heap.size, 0, none⟩ = some (.int .i64 0) := by simp [World.cell?, hB3]
  have hz1 : W3.cell? ⟨w.heap.size, 1, none⟩ = some (.int .i64 0) := by simp [World.cell?, hB3]
  have hf0 : W3.frozen? ⟨w.heap.size, 0, none⟩ = false := by simp [World.frozen?, hB3]
  have hf1 : W3.frozen? ⟨w.heap.size, 1, none⟩ = false := by simp [World.frozen?, hB3]
  have HG3 : Hid (Grew w W3) := by rw [← hW3]; exact HB2.out.2.drew
  have HB3 := Lib.hid hB3
  rw [hW3]
  clear hW3 hB3 HB2
  go_wp2
  exact bodyPost_ret (v := .agg #[.int .i64 (a : Int), .int .i64 (b : Int)]) (results_cell_row (P := Try.prog) rfl _ _ w.heap.size 29 _ (0, 0) _ rfl (two_heapF HB3.out) Try.underlying29 rfl (by kernel_rfl)) rfl ⟨rfl, two_grewF (Nat.le_refl _) HG3.out⟩
end Go.Proofs.Ytlifjhhjkcmneaa
