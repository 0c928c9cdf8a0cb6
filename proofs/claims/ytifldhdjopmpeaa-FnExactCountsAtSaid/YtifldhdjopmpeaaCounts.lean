/- The contracts of impl.CountsAt and spec.CountsAt. -/
import Derived.Test.YtifldhdjopmpeaaCountL
namespace Go.Proofs.Ytifldhdjopmpeaa
open Go.RowKit

def countX (h : List (List Int)) (t : Int) : Int := if vLevel h t = true then countL h t h.length (h.getD 0 []).length else 0

set_option maxRecDepth 100000 in
set_option maxHeartbeats 1000000 in
theorem CountsAt_any (v : Value) (h : List (List Int)) (t : Int) (w : World) (hv : RowsV w v h) :
    Calls Try.prog 19 #[v, .int .i64 t] w fun e w' => e = .returned (.int .i64 (countX h t)) ∧ Grew w w' := by
  have HV := Lib.hid (validLevel_any v h t w hv)
  have HR := Lib.hid hv
  obtain ⟨a, b, o, c, rfl, _, _, _⟩ := hv.shape
  clear hv
  unfold countX
  cases hp : vLevel h t with
  | false =>
    have HP := Lib.hid hp
    clear hp
    go_enter Try.func19, Try.ntmps19
    go_wp2_with (fail)
    refine HV.out.mono ?_
    rw [HP.out]
    rintro e w1 ⟨rfl, rfl⟩
    go_wp2
    go_ret
    exact ⟨ret_int (by simp), Grew.refl _⟩
  | true =>
    have hg := vLevel_grid hp
    have G := Grid.of hg
    have HB : Hid (∀ R C : Nat, 1 ≤ R → R ≤ 2 → 1 ≤ C → C ≤ 2 → Calls Try.prog 45 #[.slice a h.length c, .int .i64 R, .int .i64 C, .int .i64 t] w fun e w' => e = .returned (.int .i64 (blocksL h t R C h.length (h.getD 0 []).length)) ∧ w = w') :=
      fun R C h1 h2 h3 h4 => countBlocks_any _ h R C t w HR.out hg h1 h2 h3 h4
    have b11 := blocks_bd h t 1 1 h.length (h.getD 0 []).length G.n5 G.m5 (by omega) (by omega)
    have b12 := blocks_bd h t 1 2 h.length (h.getD 0 []).length G.n5 G.m5 (by omega) (by omega)
    have b21 := blocks_bd h t 2 1 h.length (h.getD 0 []).length G.n5 G.m5 (by omega) (by omega)
    have b22 := blocks_bd h t 2 2 h.length (h.getD 0 []).length G.n5 G.m5 (by omega) (by omega)
    have HC : Hid (countL h t h.length (h.getD 0 []).length = blocksL h t 1 1 h.length (h.getD 0 []).length - (blocksL h t 1 2 h.length (h.getD 0 []).length + blocksL h t 2 1 h.length (h.getD 0 []).length) + blocksL h t 2 2 h.length (h.getD 0 []).length) := Lib.hid rfl
    have H11 := Lib.hid (HB.out 1 1 (by omega) (by omega) (by omega) (by omega))
    have H12 := Lib.hid (HB.out 1 2 (by omega) (by omega) (by omega) (by omega))
    have H21 := Lib.hid (HB.out 2 1 (by omega) (by omega) (by omega) (by omega))
    have H22 := Lib.hid (HB.out 2 2 (by omega) (by omega) (by omega) (by omega))
    obtain ⟨c11, e11⟩ : ∃ x, blocksL h t 1 1 h.length (h.getD 0 []).length = x := ⟨_, rfl⟩
    obtain ⟨c12, e12⟩ : ∃ x, blocksL h t 1 2 h.length (h.getD 0 []).length = x := ⟨_, rfl⟩
    obtain ⟨c21, e21⟩ : ∃ x, blocksL h t 2 1 h.length (h.getD 0 []).length = x := ⟨_, rfl⟩
    obtain ⟨c22, e22⟩ : ∃ x, blocksL h t 2 2 h.length (h.getD 0 []).length = x := ⟨_, rfl⟩
    rw [e11] at b11 H11 HC
    rw [e12] at b12 H12 HC
    rw [e21] at b21 H21 HC
    rw [e22] at b22 H22 HC
    have HP := Lib.hid hp
    clear hp hg G HB e11 e12 e21 e22
    go_enter Try.func19, Try.ntmps19
    go_wp2_with (fail)
    refine HV.out.mono ?_
    rw [HP.out]
    rintro e w1 ⟨rfl, rfl⟩
    go_wp2_with (fail)
    refine H11.out.mono ?_
    rintro e w2 ⟨rfl, rfl⟩
    go_wp2_with (fail)
    refine H12.out.mono ?_
    rintro e w3 ⟨rfl, rfl⟩
    go_wp2_with (fail)
    refine H21.out.mono ?_
    rintro e w4 ⟨rfl, rfl⟩
    go_wp2_with (fail)
    refine H22.out.mono ?_
    rintro e w5 ⟨rfl, rfl⟩
    go_wp2
    go_ret
    exact ⟨ret_int (by first | exact HC.out.symm | (rw [if_pos rfl, HC.out])), Grew.refl _⟩

set_option maxRecDepth 100000 in
set_option maxHeartbeats 1000000 in
theorem SCountsAt_any (v : Value) (h : List (List Int)) (t : Int) (w : World) (hv : RowsV w v h) :
    Calls Try.prog 20 #[v, .int .i64 t] w fun e w' => e = .returned (.int .i64 (countX h t)) ∧ Grew w w' := by
  have HV := Lib.hid (validTop_any v h t w hv)
  have HR := Lib.hid hv
  obtain ⟨a, b, o, c, rfl, _, _, _⟩ := hv.shape
  clear hv
  unfold countX
  cases hp : vLevel h t with
  | false =>
    have HP := Lib.hid hp
    clear hp
    go_enter Try.func20, Try.ntmps20
    go_wp2_with (fail)
    refine HV.out.mono ?_
    rw [HP.out]
    rintro e w1 ⟨rfl, hg1⟩
    have HG1 := Lib.hid hg1
    clear hg1
    go_wp2
    go_ret
    exact ⟨ret_int (by simp), HG1.out⟩
  | true =>
    have hg := vLevel_grid hp
    have G := Grid.of hg
    have HS : Hid (∀ W, Grew w W → Calls Try.prog 47 #[.slice a h.length c, .int .i64 t] W fun e w' => e = .returned (.int .i64 (countL h t h.length (h.getD 0 []).length)) ∧ Grew W w') := fun W hW => by
      have := squares_any _ h t W (HR.out.grew hW) hg
      rwa [flat_grid_len G, squares_blocks G] at this
    have HP := Lib.hid hp
    clear hp hg G
    go_enter Try.func20, Try.ntmps20
    go_wp2_with (fail)
    refine HV.out.mono ?_
    rw [HP.out]
    rintro e w1 ⟨rfl, hg1⟩
    have HG1 := Lib.hid hg1
    clear hg1
    go_wp2_with (fail)
    refine (HS.out _ HG1.out).mono ?_
    rintro e w2 ⟨rfl, hg2⟩
    have HG2 := Lib.hid (HG1.out.trans hg2)
    clear hg2
    go_wp2
    go_ret
    exact ⟨ret_int (by first | rfl | (rw [if_pos rfl])), HG2.out⟩
end Go.Proofs.Ytifldhdjopmpeaa
