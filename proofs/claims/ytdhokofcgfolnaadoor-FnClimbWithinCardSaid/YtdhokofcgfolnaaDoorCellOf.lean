/- The contract of spec.cellOf. -/
import Derived.Test.YtdhokofcgfolnaaDoorSomeG
namespace Go.Proofs.YtdhokofcgfolnaaDoor
open Go.RowKit

def CellPost (w0 w : World) (rb p : Nat) (e : Ending) (w' : World) : Prop := ∃ (n : Int) (q : Nat), e = .returned (.int .i64 n) ∧ (-1 ≤ n ∧ n ≤ 36) ∧ Rdr w0 w' rb q ∧ q ≤ p + 10 ∧ Within rb (rb + 1) w w'

set_option maxRecDepth 100000 in
set_option maxHeartbeats 2000000 in
theorem cellOf_any (w0 w : World) (rb p lo hi : Nat) (v : Value) (H : List (List Int)) (hr : Rdr w0 w rb p) (hp : p ≤ 1000) (hO : RowsO 27 3 lo hi w v H) (hD : Drawn H) :
    Calls Tryd.prog 47 #[.pointer (some ⟨rb, 0, none⟩), v] w (CellPost w0 w rb p) := by
  have HR := Lib.hid hr
  have hrl := hr.lt
  by_cases h0 : H.length = 0
  · obtain rfl : H = [] := List.eq_nil_of_length_eq_zero h0
    obtain ⟨a, b, o, c, rfl, _, _, _⟩ := hO.toV.shape
    clear hO hr hD
    go_enter Tryd.func47, Tryd.ntmps47
    go_wp2
    go_ret
    exact ⟨0, p, rfl, by omega, HR.out, by omega, Within.refl _ _ _⟩
  · obtain ⟨g, c, rfl, hgl, hgh, hlc, hcc⟩ := hO.pos (by omega)
    obtain ⟨u, hcu, hu⟩ := hO.at rfl (i := 0) (by omega)
    have hm5 := (hD.2.1 0 (by omega)).1
    have hn6 := hD.1
    obtain ⟨row, er⟩ : ∃ row, H.getD 0 [] = row := ⟨_, rfl⟩
    rw [er] at hu hm5
    obtain ⟨a1, b1, o1, c1, rfl, _, _, _⟩ := hu.toV.shape
    have ht : ((H.length : Int) == 0) = false := beq_eq_false_iff_ne.2 (by omega)
    have hn0 : 0 < H.length := by omega
    obtain ⟨n, en⟩ : ∃ n : Int, (H.length : Int) * (row.length : Int) = n := ⟨_, rfl⟩
    have e : (H.length : Int) * (row.length : Int) = ((H.length * row.length : Nat) : Int) := by simp
    have hb : 0 ≤ n ∧ n ≤ 30 := by
      rw [← en, e]
      have : H.length * row.length ≤ 6 * 5 := Nat.mul_le_mul hn6 hm5
      omega
    have q0 : 0 ≤ (H.length : Int) * (row.length : Int) := by rw [en]; omega
    have q1 : (H.length : Int) * (row.length : Int) ≤ 30 := by rw [en]; omega
    clear hO hr hD hu h0 er e
    go_enter Tryd.func47, Tryd.ntmps47
    go_wp2_with (fail)
    clear q0 q1 en
    refine (pick_any w0 _ rb p n HR.out (by omega) (by omega)).mono ?_
    rintro e w1 ⟨x1, rfl, hx1, hy1, hr1, hw1⟩
    have HF1 := Lib.hid (And.intro hr1 hw1)
    have hx1' : x1 ≤ 30 := by omega
    clear hr1 hw1 hy1
    go_wp2_with (fail)
    refine (pick_any w0 _ rb (p + 1) n HF1.out.1 (by omega) (by omega)).mono ?_
    rintro e w2 ⟨x2, rfl, hx2, hy2, hr2, hw2⟩
    have HF2 := Lib.hid (And.intro hr2 (HF1.out.2.trans hw2))
    have hx2' : x2 ≤ 30 := by omega
    clear hr2 hw2 hy2
    go_wp2_with (fail)
    refine (pick_any w0 _ rb (p + 2) n HF2.out.1 (by omega) (by omega)).mono ?_
    rintro e w3 ⟨x3, rfl, hx3, hy3, hr3, hw3⟩
    have HF3 := Lib.hid (And.intro hr3 (HF2.out.2.trans hw3))
    have hs3 := (HF2.out.2.trans hw3).size
    have hx3' : x3 ≤ 30 := by omega
    clear hr3 hw3 hy3
    go_wp2_with (fail)
    refine (one_any w0 _ rb (p + 3) (w3.heap.size + 1) _ [x1, x2, x3, 0, n - 1, n, -1] (HF3.out.1.later ((Grew.refl _).alloc _)) (by omega) (IntsO.lit _ _ w3 [x1, x2, x3, 0, n - 1, n, -1] _ rfl (by omega) (by simp [maxLen])) (by simp) (by simp)).mono ?_
    rintro e w4 ⟨x, hx, rfl, hr4, hw4⟩
    have hx' : -1 ≤ x ∧ x ≤ 36 := by
      simp at hx
      omega
    have HF4 := Lib.hid (And.intro hr4 (HF3.out.2.trans ((((Grew.refl w3).alloc _).within _ _).trans hw4)))
    clear hx hr4 hw4
    go_wp2
    go_ret
    exact ⟨x, p + 4, rfl, hx', HF4.out.1, by omega, HF4.out.2⟩
end Go.Proofs.YtdhokofcgfolnaaDoor
