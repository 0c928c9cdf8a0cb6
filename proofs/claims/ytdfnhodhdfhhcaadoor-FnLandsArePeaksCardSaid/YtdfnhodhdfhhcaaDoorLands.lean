/- The contract of impl.LandsAt: how many searches begin. -/
import Derived.Test.YtdfnhodhdfhhcaaDoorPiecesW
import Derived.Test.YtdfnhodhdfhhcaaDoorPieceT
namespace Go.Proofs.YtdfnhodhdfhhcaaDoor
open Go.RowKit

/-- How many pieces the cells above t have. -/
noncomputable def landsX (h : List (List Int)) (t : Int) : Int := if vLevel h t = true then cntT (h.length * (h.getD 0 []).length) (touchS (h.getD 0 []).length) (above h.flatten t) (h.length * (h.getD 0 []).length) else -1
set_option maxRecDepth 100000 in
set_option maxHeartbeats 1000000 in
theorem LandsAt_any (v : Value) (h : List (List Int)) (t : Int) (w : World) (hv : RowsV w v h) (hS : Steps w) :
    Calls Tryd.prog 18 #[v, .int .i64 t] w fun e w' => e = .returned (.int .i64 (landsX h t)) ∧ Grew w w' := by
  have HV := Lib.hid (validLevel_any v h t w hv)
  have HR := Lib.hid (And.intro hv hS)
  obtain ⟨a, b, o, c, rfl, _, _, _⟩ := hv.shape
  clear hv hS
  unfold landsX
  cases hp : vLevel h t with
  | false =>
    have HP := Lib.hid hp
    clear hp
    go_enter Tryd.func18, Tryd.ntmps18
    go_wp2_with (fail)
    refine HV.out.mono ?_
    rw [HP.out]
    rintro e w1 ⟨rfl, rfl⟩
    go_wp2
    go_ret
    exact ⟨ret_int (by simp), Grew.refl _⟩
  | true =>
    have hg := vLevel_grid hp
    have G := Grid.of hg
    have hpl := flat_grid_len G
    have hn5 := G.n5
    have hm5 := G.m5
    have HP := Lib.hid (And.intro hp (And.intro hg hpl))
    have HN := Lib.hid (And.intro hn5 hm5)
    clear hp hg hpl G hn5 hm5
    go_enter Tryd.func18, Tryd.ntmps18
    go_wp2_with (fail)
    refine HV.out.mono ?_
    rw [HP.out.1]
    rintro e w1 ⟨rfl, rfl⟩
    go_wp2_with (fail)
    refine (higherThan_any _ h t w HR.out.1 HP.out.2.1).mono ?_
    rintro e w2 ⟨lb, rfl, hT, hg2⟩
    rw [HP.out.2.2] at hT
    have H2 := Lib.hid (And.intro hT hg2)
    clear hT hg2
    go_wp2_with (fail)
    refine (piecesOf_any _ h h.length (h.getD 0 []).length (above h.flatten t) _ lb (enters_of Tryd.func59 (by kernel_rfl) rfl) w2 (HR.out.1.grew H2.out.2) HP.out.2.1 (HR.out.2.grew H2.out.2) rfl rfl H2.out.1).mono ?_
    rintro e w3 ⟨v3, f, rfl, hO3, hF3, hg3⟩
    obtain ⟨a3, c3, rfl⟩ := hO3.sh
    have HG3 := Lib.hid (H2.out.2.trans hg3)
    have hc := pieces_cnt HN.out.1 HN.out.2 hF3 _ (Nat.le_refl _)
    obtain ⟨K, eK⟩ : ∃ K, (piecesT f (whereL (h.length * (h.getD 0 []).length) (above h.flatten t))).length = K := ⟨_, rfl⟩
    rw [eK] at hc ⊢
    have HK := Lib.hid hc
    clear hO3 hg3 eK hc hF3
    go_wp2
    go_ret
    exact ⟨ret_int HK.out, HG3.out⟩
end Go.Proofs.YtdfnhodhdfhhcaaDoor
