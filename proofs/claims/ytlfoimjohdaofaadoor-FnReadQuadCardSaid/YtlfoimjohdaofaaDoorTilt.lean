/- The contracts of impl.lineBetween, isSteeperThan, tilted and slices.Max. -/
import Derived.Test.YtlfoimjohdaofaaDoorCopyI
import Derived.RegionTactic
import Derived.ChangeAlike
import Derived.Lib.MinMax
import Derived.StillTailTactics
import Derived.Deep.RegionLaw
import Derived.OpenShut
namespace Go.Proofs.YtlfoimjohdaofaaDoor
open Go.RowKit

theorem wrap_small (x : Int) (h0 : -9223372036854775808 ≤ x) (h1 : x ≤ 9223372036854775807) : IntKind.i64.wrap x = x := by
  rw [IntKind.wrap_i64]; omega

theorem mul_bd (x y : Int) (A B : Nat) (hx : x.natAbs ≤ A) (hy : y.natAbs ≤ B) : (x * y).natAbs ≤ A * B := by
  rw [Int.natAbs_mul]; exact Nat.mul_le_mul hx hy

/-- A struct of two numbers was stored into its new block. -/
theorem two_heap {W : World} {g : Nat} {z0 z1 u0 u1 : Value} {T : TypeId} (h : W.heap[g]? = some (.cells #[z0, z1] T (0, 0))) :
    ((W.setCell ⟨g, 0, none⟩ u0).setCell ⟨g, 1, none⟩ u1).heap[g]? = some (.cells #[u0, u1] T (0, 0)) := by
  rw [heap_setCell_same _ _ 1 _ _ _ (heap_setCell_same _ _ 0 _ _ _ h)]
  rfl
theorem two_grew {w W : World} {p q : Value} {b : Nat} (hb : w.heap.size ≤ b) (h : Grew w W) : Grew w ((W.setCell ⟨b, 0, none⟩ p).setCell ⟨b, 1, none⟩ q) :=
  Below.setCell (Below.setCell h (p := ⟨b, 0, none⟩) (by show _ ≤ b; omega) _) (p := ⟨b, 1, none⟩) (by show _ ≤ b; omega) _

/-- m is the greatest of xs. -/
def IsMax (xs : List Int) (m : Int) : Prop := (∃ i, i < xs.length ∧ xs.getD i 0 = m) ∧ ∀ i, i < xs.length → xs.getD i 0 ≤ m
def MaxPost (xs : List Int) (w : World) (e : Ending) (w' : World) : Prop := ∃ m, e = .returned (.int .i64 m) ∧ IsMax xs m ∧ w = w'

set_option maxRecDepth 100000 in
set_option maxHeartbeats 400000 in
theorem slicesMax_any (v : Value) (xs : List Int) (w : World) (hv : IntsV w v xs) (h1 : 1 ≤ xs.length) :
    Calls Tryd.prog 40 #[v] w (MaxPost xs w) := by
  obtain ⟨a, b, o, c, rfl, ⟨hlc, hcb⟩, ha, HC⟩ := hv.shape
  obtain rfl := ha h1
  clear hv ha
  have hc0 := HC.out 0 h1
  obtain ⟨x0, ex⟩ : ∃ x0, xs.getD 0 0 = x0 := ⟨_, rfl⟩
  rw [ex, Nat.add_zero] at hc0
  have HX := Lib.hid ex
  clear ex
  go_enter Tryd.func40, Tryd.ntmps40
  go_wp2
  go_loop [3, 4] (fun t i => ∃ (k : Nat) (m : Int), 1 ≤ k ∧ k ≤ xs.length ∧ i = .int .i64 k ∧ t = .int .i64 m ∧ Hid ((∃ j, j < k ∧ xs.getD j 0 = m) ∧ ∀ j, j < k → xs.getD j 0 ≤ m)) (fun _ i => xs.length - (intOf i).toNat)
  case atStart =>
    refine ⟨1, x0, Nat.le_refl _, h1, rfl, rfl, ⟨0, by omega, HX.out⟩, fun j hj => ?_⟩
    have e0 : j = 0 := by omega
    rw [e0, HX.out]
    exact Int.le_refl _
  case round =>
    obtain ⟨k, m, hk1, hk, rfl, rfl, HI⟩ := hrel
    by_cases hlt : k < xs.length
    · have hck := HC.out k hlt
      obtain ⟨x, ex⟩ : ∃ x, xs.getD k 0 = x := ⟨_, rfl⟩
      rw [ex] at hck
      have HE := Lib.hid ex
      clear ex
      go_wp2
      go_round
      case rel => exact ⟨k + 1, max m x, by omega, by omega, by go_num, rfl, by
        obtain ⟨⟨j, hj, ej⟩, hall⟩ := HI.out
        constructor
        · by_cases h : m ≤ x
          · exact ⟨k, by omega, by rw [HE.out]; omega⟩
          · exact ⟨j, by omega, by rw [ej]; omega⟩
        · intro i hi
          by_cases e : i = k
          · subst e; rw [HE.out]; omega
          · have := hall i (by omega); omega⟩
      case measure => simp [intOf]; omega
    · obtain rfl : k = xs.length := by omega
      go_wp2
      go_ret
      exact ⟨m, rfl, HI.out, rfl⟩

/-- The first k of xs tilted. -/
def tiltTo (xs : List Int) (u a : Int) (k : Nat) : List Int := (List.range xs.length).map fun (j : Nat) => if j < k then xs.getD j 0 * a - u * (j : Int) else xs.getD j 0
def tiltL (xs : List Int) (u a : Int) : List Int := (List.range xs.length).map fun (j : Nat) => xs.getD j 0 * a - u * (j : Int)
theorem tiltTo_len (xs : List Int) (u a : Int) (k : Nat) : (tiltTo xs u a k).length = xs.length := by simp [tiltTo]
theorem tiltL_len (xs : List Int) (u a : Int) : (tiltL xs u a).length = xs.length := by simp [tiltL]
theorem tiltL_at (xs : List Int) (u a : Int) (j : Nat) (h : j < xs.length) : (tiltL xs u a).getD j 0 = xs.getD j 0 * a - u * j := by simp [tiltL, h]
theorem tiltTo_at (xs : List Int) (u a : Int) (j : Nat) (h : j < xs.length) : (tiltTo xs u a j).getD j 0 = xs.getD j 0 := by simp [tiltTo, h]
theorem tiltTo_zero (xs : List Int) (u a : Int) : tiltTo xs u a 0 = xs := by
  apply List.ext_getElem
  · simp [tiltTo]
  · intro i h1 h2
    simp [tiltTo, h2]
theorem tiltTo_all (xs : List Int) (u a : Int) : tiltTo xs u a xs.length = tiltL xs u a := by
  unfold tiltTo tiltL
  exact List.map_congr_left fun i hi => by rw [if_pos (List.mem_range.1 hi)]
theorem tiltTo_set (xs : List Int) (u a : Int) (j : Nat) (_hj : j < xs.length) : (tiltTo xs u a j).set j (xs.getD j 0 * a - u * j) = tiltTo xs u a (j + 1) := by
  apply List.ext_getElem
  · simp [tiltTo]
  · intro i h1 h2
    simp only [tiltTo, List.getElem_set, List.getElem_map, List.getElem_range]
    by_cases e : j = i
    · subst e; simp
    · rw [if_neg e]
      by_cases h : i < j
      · rw [if_pos h, if_pos (by omega)]
      · rw [if_neg h, if_neg (by omega)]

def TiltPost (xs : List Int) (u a : Int) (w : World) (e : Ending) (w' : World) : Prop := ∃ g c, e = .returned (.slice (some ⟨g, 0, none⟩) xs.length c) ∧ IntsO 3 w.heap.size w'.heap.size w' (.slice (some ⟨g, 0, none⟩) xs.length c) (tiltL xs u a) ∧ Grew w w'

end Go.Proofs.YtlfoimjohdaofaaDoor
