/- The contracts of impl.lineBetween, isSteeperThan, tilted and slices.Max. -/
import Derived.Test.YtaeenedjmakelaaDoorCopyI
import Derived.RegionTactic
import Derived.ChangeAlike
import Derived.Lib.MinMax
import Derived.StillTailTactics
import Derived.Deep.RegionLaw
import Derived.OpenShut
namespace Go.Proofs.YtaeenedjmakelaaDoor
open Go.RowKit

theorem wrap_small (x : Int) (h0 : -9223372036854775808 ≤ x) (h1 : x ≤ 9223372036854775807) : IntKind.i64.wrap x = x := by
  rw [IntKind.wrap_i64]; omega

theorem mul_bd (x y : Int) (A B : Nat) (hx : x.natAbs ≤ A) (hy : y.natAbs ≤ B) : (x * y).natAbs ≤ A * B := by
  rw [Int.natAbs_mul]; exact Nat.mul_le_mul hx hy

/-- A struct of two numbers was stored into its new block. -/
theorem two_heap {W : World} {g : Nat} {z0 z1 u0 u1 : Value} {T : TypeId} (h : W.heap[g]? = some (.cells #[z0, z1] T (0, 0))) :
    ((W.setCell ⟨g, 0, none⟩ u0).setCell ⟨g, 1, none⟩ u1).heap[g]? = some (.cells #[u0, u1] T (0, 0)) := by
  rw [heap_setCell_same _ _ 1 _ _ _ (heap_setCell_same _ _ 0 _ _ _ h)]
  rfl
theorem two_grew {w W : World} {p q : Value} {b : Nat} (hb : w.heap.size ≤ b) (h : Grew w W) : Grew w ((W.setCell ⟨b, 0, none⟩ p).setCell ⟨b, 1, none⟩ q) :=
  Below.setCell (Below.setCell h (p := ⟨b, 0, none⟩) (by show _ ≤ b; omega) _) (p := ⟨b, 1, none⟩) (by show _ ≤ b; omega) _

set_option maxRecDepth 100000 in
set_option maxHeartbeats 400000 in
theorem lineBetween_any (v : Value) (p : List Int) (i k : Nat) (w : World) (hv : IntsV w v p) (hi : i < p.length) (hk : k < p.length) (hl : p.length ≤ 1000) (hb : ∀ j, j < p.length → -1000 ≤ p.getD j 0 ∧ p.getD j 0 ≤ 1000) :
    Calls Tryd.prog 87 #[v, .int .i64 i, .int .i64 k] w fun e w' => e = .returned (.agg #[.int .i64 (p.getD k 0 - p.getD i 0), .int .i64 ((k : Int) - i)]) ∧ Grew w w' := by
  obtain ⟨a, b, o, c, rfl, ⟨hlc, hcb⟩, ha, HC⟩ := hv.shape
  obtain rfl := ha (by omega)
  have hci := HC.out i hi
  have hck := HC.out k hk
  have hbi := hb i hi
  have hbk := hb k hk
  obtain ⟨x, ex⟩ : ∃ x, p.getD i 0 = x := ⟨_, rfl⟩
  obtain ⟨y, ey⟩ : ∃ y, p.getD k 0 = y := ⟨_, rfl⟩
  rw [ex] at hci hbi ⊢
  rw [ey] at hck hbk ⊢
  clear hv ha hb ex ey HC
  have r1 : (i : Int) < p.length := by omega
  have r2 : (k : Int) < p.length := by omega
  have r3 : (0 : Int) ≤ i := by omega
  have r4 : (0 : Int) ≤ k := by omega
  have e1 : IntKind.i64.wrap (y - x) = y - x := wrap_small _ (by omega) (by omega)
  have e2 : IntKind.i64.wrap ((k : Int) - i) = (k : Int) - i := wrap_small _ (by omega) (by omega)
  go_enter Tryd.func87, Tryd.ntmps87
  go_wp2
  obtain ⟨W2, hW2⟩ : ∃ W2, w.alloc (.cells #[.int .i64 0, .int .i64 0] 83) = W2 := ⟨_, rfl⟩
  have hg2 : Grew w W2 := by rw [← hW2]; exact (Grew.refl w).alloc _
  have hci2 := hg2.cell hci
  have hck2 := hg2.cell hck
  have hB2 : W2.heap[w.heap.size]? = some (.cells #[.int .i64 0, .int .i64 0] 83 (0, 0)) := by
    rw [← hW2]
    exact heap_alloc_new w _
  rw [hW2]
  have HB2 := Lib.hid (And.intro hB2 hg2)
  clear hW2 hB2 hg2 hci hck
  go_still_tail 13, (by kernel_rfl)
  change wpList _ _ _ _ _ W2.drew
  obtain ⟨W3, hW3⟩ : ∃ W3, W2.drew = W3 := ⟨_, rfl⟩
  have hB3 : W3.heap[w.heap.size]? = some (.cells #[.int .i64 0, .int .i64 0] 83 (0, 0)) := by rw [← hW3]; exact HB2.out.1
  have hz0 : W3.cell? ⟨w.heap.size, 0, none⟩ = some (.int .i64 0) := by simp [World.cell?, hB3]
  have hz1 : W3.cell? ⟨w.heap.size, 1, none⟩ = some (.int .i64 0) := by simp [World.cell?, hB3]
  have hf0 : W3.frozen? ⟨w.heap.size, 0, none⟩ = false := by simp [World.frozen?, hB3]
  have hf1 : W3.frozen? ⟨w.heap.size, 1, none⟩ = false := by simp [World.frozen?, hB3]
  have HG3 : Hid (Grew w W3) := by rw [← hW3]; exact HB2.out.2.drew
  have HB3 := Lib.hid hB3
  rw [hW3]
  clear hW3 hB3 hci2 hck2 HB2
  go_wp2
  exact bodyPost_ret (v := .agg #[.int .i64 (y - x), .int .i64 ((k : Int) - i)]) (results_cell_row (P := Tryd.prog) rfl _ _ w.heap.size 83 _ (0, 0) _ rfl (two_heap HB3.out) Tryd.underlying83 rfl (by kernel_rfl)) rfl ⟨rfl, two_grew (Nat.le_refl _) HG3.out⟩

/-- m is the greatest of xs. -/
def IsMax (xs : List Int) (m : Int) : Prop := (∃ i, i < xs.length ∧ xs.getD i 0 = m) ∧ ∀ i, i < xs.length → xs.getD i 0 ≤ m
def MaxPost (xs : List Int) (w : World) (e : Ending) (w' : World) : Prop := ∃ m, e = .returned (.int .i64 m) ∧ IsMax xs m ∧ w = w'

set_option maxRecDepth 100000 in
set_option maxHeartbeats 400000 in
theorem slicesMax_any (v : Value) (xs : List Int) (w : World) (hv : IntsV w v xs) (h1 : 1 ≤ xs.length) :
    Calls Tryd.prog 88 #[v] w (MaxPost xs w) := by
  obtain ⟨a, b, o, c, rfl, ⟨hlc, hcb⟩, ha, HC⟩ := hv.shape
  obtain rfl := ha h1
  clear hv ha
  have hc0 := HC.out 0 h1
  obtain ⟨x0, ex⟩ : ∃ x0, xs.getD 0 0 = x0 := ⟨_, rfl⟩
  rw [ex, Nat.add_zero] at hc0
  have HX := Lib.hid ex
  clear ex
  go_enter Tryd.func88, Tryd.ntmps88
  go_wp2
  go_loop [3, 4] (fun t i => ∃ (k : Nat) (m : Int), 1 ≤ k ∧ k ≤ xs.length ∧ i = .int .i64 k ∧ t = .int .i64 m ∧ Hid ((∃ j, j < k ∧ xs.getD j 0 = m) ∧ ∀ j, j < k → xs.getD j 0 ≤ m)) (fun _ i => xs.length - (intOf i).toNat)
  case atStart =>
    refine ⟨1, x0, Nat.le_refl _, h1, rfl, rfl, ⟨0, by omega, HX.out⟩, fun j hj => ?_⟩
    have e0 : j = 0 := by omega
    rw [e0, HX.out]
    exact Int.le_refl _
  case round =>
    obtain ⟨k, m, hk1, hk, rfl, rfl, HI⟩ := hrel
    by_cases hlt : k < xs.length
    · have hck := HC.out k hlt
      obtain ⟨x, ex⟩ : ∃ x, xs.getD k 0 = x := ⟨_, rfl⟩
      rw [ex] at hck
      have HE := Lib.hid ex
      clear ex
      go_wp2
      go_round
      case rel => exact ⟨k + 1, max m x, by omega, by omega, by go_num, rfl, by
        obtain ⟨⟨j, hj, ej⟩, hall⟩ := HI.out
        constructor
        · by_cases h : m ≤ x
          · exact ⟨k, by omega, by rw [HE.out]; omega⟩
          · exact ⟨j, by omega, by rw [ej]; omega⟩
        · intro i hi
          by_cases e : i = k
          · subst e; rw [HE.out]; omega
          · have := hall i (by omega); omega⟩
      case measure => simp [intOf]; omega
    · obtain rfl : k = xs.length := by omega
      go_wp2
      go_ret
      exact ⟨m, rfl, HI.out, rfl⟩

/-- The first k of xs tilted. -/
def tiltTo (xs : List Int) (u a : Int) (k : Nat) : List Int := (List.range xs.length).map fun (j : Nat) => if j < k then xs.getD j 0 * a - u * (j : Int) else xs.getD j 0
def tiltL (xs : List Int) (u a : Int) : List Int := (List.range xs.length).map fun (j : Nat) => xs.getD j 0 * a - u * (j : Int)
theorem tiltTo_len (xs : List Int) (u a : Int) (k : Nat) : (tiltTo xs u a k).length = xs.length := by simp [tiltTo]
theorem tiltL_len (xs : List Int) (u a : Int) : (tiltL xs u a).length = xs.length := by simp [tiltL]
theorem tiltL_at (xs : List Int) (u a : Int) (j : Nat) (h : j < xs.length) : (tiltL xs u a).getD j 0 = xs.getD j 0 * a - u * j := by simp [tiltL, h]
theorem tiltTo_at (xs : List Int) (u a : Int) (j : Nat) (h : j < xs.length) : (tiltTo xs u a j).getD j 0 = xs.getD j 0 := by simp [tiltTo, h]
theorem tiltTo_zero (xs : List Int) (u a : Int) : tiltTo xs u a 0 = xs := by
  apply List.ext_getElem
  · simp [tiltTo]
  · intro i h1 h2
    simp [tiltTo, h2]
theorem tiltTo_all (xs : List Int) (u a : Int) : tiltTo xs u a xs.length = tiltL xs u a := by
  unfold tiltTo tiltL
  exact List.map_congr_left fun i hi => by rw [if_pos (List.mem_range.1 hi)]
theorem tiltTo_set (xs : List Int) (u a : Int) (j : Nat) (_hj : j < xs.length) : (tiltTo xs u a j).set j (xs.getD j 0 * a - u * j) = tiltTo xs u a (j + 1) := by
  apply List.ext_getElem
  · simp [tiltTo]
  · intro i h1 h2
    simp only [tiltTo, List.getElem_set, List.getElem_map, List.getElem_range]
    by_cases e : j = i
    · subst e; simp
    · rw [if_neg e]
      by_cases h : i < j
      · rw [if_pos h, if_pos (by omega)]
      · rw [if_neg h, if_neg (by omega)]

def TiltPost (xs : List Int) (u a : Int) (w : World) (e : Ending) (w' : World) : Prop := ∃ g c, e = .returned (.slice (some ⟨g, 0, none⟩) xs.length c) ∧ IntsO 3 w.heap.size w'.heap.size w' (.slice (some ⟨g, 0, none⟩) xs.length c) (tiltL xs u a) ∧ Grew w w'

set_option maxRecDepth 100000 in
set_option maxHeartbeats 1000000 in
theorem tilted_any (v : Value) (xs : List Int) (u a : Int) (w : World) (hv : IntsV w v xs) (h9 : xs.length ≤ 9) (hu : u.natAbs ≤ 1000) (ha : a.natAbs ≤ 1000) (hb : ∀ j, j < xs.length → (xs.getD j 0).natAbs ≤ 1000) :
    Calls Tryd.prog 86 #[v, .agg #[.int .i64 u, .int .i64 a]] w (TiltPost xs u a w) := by
  have HB := Lib.hid hb
  have HV := Lib.hid hv
  obtain ⟨sa, sb, so, sc, rfl, ⟨hlc, hcb⟩, _, _⟩ := hv.shape
  clear hv hb
  go_enter Tryd.func86, Tryd.ntmps86
  have hlen : xs.length ≤ 17592186044416 := by omega
  have hm : xs.length ≤ maxLen := by unfold maxLen; omega
  go_wp2_with (first
    | (at_make; refine wpList_make_ints rfl (.tmp 8) (.tmp 8) 22 rfl Tryd.underlying22 Tryd.infoE rfl rfl rfl rfl hlen ?_; intro w1 hO1 hg1 hs1; simp only [World.size_alloc] at hO1 hs1; have H1 := Lib.hid (And.intro hO1 hg1); clear hO1 hg1)
    | (refine wpList_copy_ints rfl (.tmp 10) (.tmp 11) 22 rfl 3 Tryd.underlying22 Tryd.infoE (w.heap.size + 1) xs.length (.slice sa xs.length sc) (by rfl) (by rfl) xs (List.replicate xs.length 0) rfl (by simp) (w.heap.size + 1) w1.heap.size (w.alloc (.cells #[.int .i64 u, .int .i64 a] 83)) H1.out.1 (HV.out.grew (((Grew.refl w).alloc _).trans H1.out.2)) H1.out.2 (by simp) hm ?_; intro w2 hO2 hg2 hs2; have H2' := Lib.hid (And.intro hO2 hg2); clear hO2 hg2 hs2 H1))
  have H2 : Hid (IntsO 3 (w.heap.size + 1) w1.heap.size w2 (.slice (some ⟨w.heap.size + 1, 0, none⟩) xs.length xs.length) (tiltTo xs u a 0) ∧ Grew (w.alloc (.cells #[.int .i64 u, .int .i64 a] 83)) w2) := by
    rw [tiltTo_zero]; exact H2'.out
  clear H2'
  go_loopw [15] (fun i wr => ∃ k : Nat, k ≤ xs.length ∧ i = .int .i64 k ∧ Hid (IntsO 3 (w.heap.size + 1) w1.heap.size wr (.slice (some ⟨w.heap.size + 1, 0, none⟩) xs.length xs.length) (tiltTo xs u a k) ∧ Grew (w.alloc (.cells #[.int .i64 u, .int .i64 a] 83)) wr)) (fun i _ => xs.length - (intOf i).toNat)
  case atStart => exact ⟨0, Nat.zero_le _, rfl, H2⟩
  case round =>
    obtain ⟨k, hk, rfl, HI⟩ := hrel
    clear H2
    by_cases hlt : k < xs.length
    · have hub : wr.cell? ⟨w.heap.size, 0, none⟩ = some (.int .i64 u) := HI.out.2.cell (by simp)
      have hab : wr.cell? ⟨w.heap.size, 1, none⟩ = some (.int .i64 a) := HI.out.2.cell (by simp)
      obtain ⟨hel, hfr⟩ := HI.out.1.at rfl (i := k) (by rw [tiltTo_len]; exact hlt)
      rw [tiltTo_at xs u a k hlt] at hel
      have hxb := HB.out k hlt
      obtain ⟨x, ex⟩ : ∃ x, xs.getD k 0 = x := ⟨_, rfl⟩
      rw [ex] at hel hxb
      have HX := Lib.hid ex
      have m1 := mul_bd x a 1000 1000 hxb ha
      have m2 := mul_bd u k 1000 9 hu (by omega)
      have e1 : IntKind.i64.wrap (x * a) = x * a := wrap_small _ (by omega) (by omega)
      have e2 : IntKind.i64.wrap (u * k) = u * k := wrap_small _ (by omega) (by omega)
      have e3 : IntKind.i64.wrap (x * a - u * k) = x * a - u * k := wrap_small _ (by omega) (by omega)
      have r1 : (k : Int) < xs.length := by omega
      have r2 : (0 : Int) ≤ k := by omega
      clear ex m1 m2 hxb
      go_wp2
      go_still_tail 15, (by kernel_rfl)
      change wpList _ _ _ _ _ wr.drew
      obtain ⟨W3, hW3⟩ : ∃ W3, wr.drew = W3 := ⟨_, rfl⟩
      have hel3 : W3.cell? ⟨w.heap.size + 1, k, none⟩ = some (.int .i64 x) := by rw [← hW3]; exact hel
      have hfr3 : W3.frozen? ⟨w.heap.size + 1, k, none⟩ = false := by rw [← hW3]; exact hfr
      have H3 : Hid (IntsO 3 (w.heap.size + 1) w1.heap.size W3 (.slice (some ⟨w.heap.size + 1, 0, none⟩) xs.length xs.length) (tiltTo xs u a k) ∧ Grew (w.alloc (.cells #[.int .i64 u, .int .i64 a] 83)) W3) := by
        rw [← hW3]; exact ⟨HI.out.1.grew ((Grew.refl _).drew), HI.out.2.drew⟩
      rw [hW3]
      clear hW3 hel hfr hub hab
      go_wp2
      clear e1 e2 e3
      go_roundw
      case rel => exact ⟨k + 1, by omega, by go_num, by
        have := H3.out.1.set rfl k (x * a - u * k)
        rw [← HX.out, tiltTo_set xs u a k hlt, HX.out] at this
        exact this, Within.grew (lo := w.heap.size + 1) (hi := w.heap.size + 2) H3.out.2 ((Within.refl _ _ _).setCell (p := ⟨w.heap.size + 1, k, none⟩) (Nat.le_refl _) (Nat.lt_succ_self _) _) (by simp)⟩
      case measure => simp [intOf]; omega
    · obtain rfl : k = xs.length := by omega
      go_wp2
      go_ret
      have hO := HI.out.1
      rw [tiltTo_all] at hO
      exact ⟨_, _, rfl, ⟨ownsRow_base hO.1 (by omega), fun g e => (World.ownsRow.lt hO.1 g e).2⟩, ((Grew.refl w).alloc _).trans HI.out.2⟩
end Go.Proofs.YtaeenedjmakelaaDoor
