/- The law FnHolesAt returns true. -/
import Derived.Test.YtdfnhodhdfhhcaaDoorHolesF
import Derived.Test.YtdfnhodhdfhhcaaDoorDrawsL
import Derived.Test.YtdfnhodhdfhhcaaDoorFlipped
namespace Go.Proofs.YtdfnhodhdfhhcaaDoor
open Go.RowKit

set_option maxRecDepth 100000 in
set_option maxHeartbeats 4000000 in
theorem FnHolesAt_any (v : Value) (bs : List Int) (w : World) (hv : NumsV .u8 w v bs) (hb : ∀ i, i < bs.length → 0 ≤ bs.getD i 0 ∧ bs.getD i 0 ≤ 255) (hS : Tc.Steps w) :
    Calls Tryd.prog 7 #[v] w fun e w' => e = .returned (.bool true) ∧ Grew w w' := by
  have HD := Lib.hid (DrawHolesAt_any v bs w hv hb)
  have HS := Lib.hid hS
  obtain ⟨a, b, o, c, rfl, ⟨hlc, hcb⟩, _, _⟩ := hv.shape
  clear hv hb hS
  by_cases hbig : 1048576 < bs.length
  · go_enter Tryd.func7, Tryd.ntmps7
    go_wp2
    go_ret
    exact ⟨rfl, Grew.refl _⟩
  · go_enter Tryd.func7, Tryd.ntmps7
    go_wp2_with (fail)
    refine HD.out.mono ?_
    rintro e w1 ⟨v1, h, t, rfl, hO, hd, ht, hg1⟩
    have HV := Lib.hid (And.intro hO.toV hg1)
    have HS1 : Hid (Tc.Steps w1) := Lib.hid (HS.out.grew hg1)
    obtain ⟨a3, c3, rfl⟩ := hO.sh
    clear hO hd hg1 HD
    cases hp : vLevel h t with
    | false =>
      have HX : Hid (holesX h t = -1) := Lib.hid (by unfold holesX; rw [hp]; rfl)
      clear hp
      go_wp2_with (fail)
      (with_reducible refine (HolesAt_any _ h t _ HV.out.1 HS1.out).mono ?_)
      rw [HX.out]
      rintro e w2 ⟨rfl, hg2⟩
      have HG2 := Lib.hid hg2
      clear hg2
      go_wp2_with (fail)
      (with_reducible refine (SHolesAt_any _ h t _ (HV.out.1.grew HG2.out)).mono ?_)
      rw [HX.out]
      rintro e w3 ⟨rfl, hg3⟩
      have HG3 := Lib.hid (HG2.out.trans hg3)
      clear hg3
      go_wp2_with (fail)
      (with_reducible refine (SHolesAt_any _ h t _ (HV.out.1.grew HG3.out)).mono ?_)
      rw [HX.out]
      rintro e w4 ⟨rfl, hg4⟩
      have HG4 := Lib.hid (HV.out.2.trans (HG3.out.trans hg4))
      clear hg4
      go_wp2
      go_ret
      exact ⟨rfl, HG4.out⟩
    | true =>
      have hg := vLevel_grid hp
      have G := Grid.of hg
      have hn1 := G.n1
      have HHO := Lib.hid (HolesAt_yes _ h t w1 HV.out.1 hp HS1.out)
      obtain ⟨X, eX⟩ : ∃ X, holesN h t = X := ⟨_, rfl⟩
      have HX : Hid (holesX h t = X) := Lib.hid (by unfold holesX; rw [if_pos hp]; exact eX)
      have HE := Lib.hid eX
      have HFX : Hid (holesX (flipL h) t = X) := Lib.hid (by rw [holes_flip hg]; exact HX.out)
      have HFL : Hid (∀ W, Grew w1 W → Calls Tryd.prog 27 #[.slice a3 h.length c3] W (NewRows W (flipL h))) := Lib.hid fun W hW => flipped_any _ h W (HV.out.1.grew hW) hg
      have HP := Lib.hid hp
      clear hp hg G eX
      go_wp2_with (fail)
      refine HHO.out.mono ?_
      rintro e w2 ⟨f, F, rfl, hg2⟩
      have hb := (holesT_le h.length (h.getD 0 []).length (piecesT f (whereL (h.length * (h.getD 0 []).length) (below h.flatten t))) (piecesT f (whereL (h.length * (h.getD 0 []).length) (below h.flatten t))).length).1
      rw [holesN_eq HP.out F, HE.out] at hb ⊢
      have HTH : Hid (¬ (2 < h.length ∧ 2 < (h.getD 0 []).length) → X = 0) := Lib.hid fun h2 => by rw [← HE.out]; exact holes_thin HP.out F h2
      have HG2 := Lib.hid hg2
      clear hg2 F HHO
      go_wp2_with (fail)
      (with_reducible refine (SHolesAt_any _ h t _ (HV.out.1.grew HG2.out)).mono ?_)
      rw [HX.out]
      rintro e w3 ⟨rfl, hg3⟩
      have HG3 := Lib.hid (HG2.out.trans hg3)
      clear hg3
      have exx : (X != X) = false := by simp
      have hX0 : ¬ X < 0 := by omega
      obtain ⟨a5, b5, o5, c5, e5, _, ha5, HC5⟩ := HV.out.1.shape
      obtain rfl := ha5 (by omega)
      simp only [Value.slice.injEq, true_and] at e5
      obtain ⟨rfl, rfl⟩ := e5
      obtain ⟨u0, hcu0, hu0⟩ := HC5.out 0 (by omega)
      rw [Nat.add_zero] at hcu0
      obtain ⟨a0, b0, o0, c0, rfl, _, _, _⟩ := hu0.shape
      have hrow := HG3.out.cell hcu0
      have hi0 : (0 : Int) < h.length := by omega
      obtain ⟨m, em⟩ : ∃ m, (h.getD 0 []).length = m := ⟨_, rfl⟩
      rw [em] at hrow HTH
      have hxx : (X == X) = true := by simp
      clear ha5 HC5 hu0 hcu0 em hb
      by_cases hn : 2 < h.length
      · by_cases hm : 2 < m
        · have hn' : (2 : Int) < h.length := by omega
          have hm' : (2 : Int) < m := by omega
          go_wp2_with (fail)
          refine (HFL.out _ HG3.out).mono ?_
          rintro e w5 ⟨v5, rfl, hO5, hg5⟩
          have H5 := Lib.hid (And.intro hO5.toV (HG3.out.trans hg5))
          obtain ⟨a6, c6, rfl⟩ := hO5.sh
          clear hO5 hg5
          go_wp2_with (fail)
          (with_reducible refine (HolesAt_any _ (flipL h) t _ H5.out.1 (HS1.out.grew H5.out.2)).mono ?_)
          rw [HFX.out]
          rintro e w6 ⟨rfl, hg6⟩
          have HG6 := Lib.hid (HV.out.2.trans (H5.out.2.trans hg6))
          clear hg6
          go_wp2
          go_ret
          exact ⟨ret_bool (by first | rfl | (simp; done)), HG6.out⟩
        · have hX := HTH.out (fun hh => hm hh.2)
          subst hX
          have hn' : (2 : Int) < h.length := by omega
          have hm' : ¬ (2 : Int) < m := by omega
          go_wp2_with (fail)
          refine (HFL.out _ HG3.out).mono ?_
          rintro e w5 ⟨v5, rfl, hO5, hg5⟩
          have H5 := Lib.hid (And.intro hO5.toV (HG3.out.trans hg5))
          obtain ⟨a6, c6, rfl⟩ := hO5.sh
          clear hO5 hg5
          go_wp2_with (fail)
          (with_reducible refine (HolesAt_any _ (flipL h) t _ H5.out.1 (HS1.out.grew H5.out.2)).mono ?_)
          rw [HFX.out]
          rintro e w6 ⟨rfl, hg6⟩
          have HG6 := Lib.hid (HV.out.2.trans (H5.out.2.trans hg6))
          clear hg6
          go_wp2
          go_ret
          exact ⟨ret_bool (by first | rfl | (simp; done)), HG6.out⟩
      · have hX := HTH.out (fun hh => hn hh.1)
        subst hX
        have hn' : ¬ (2 : Int) < h.length := by omega
        go_wp2_with (fail)
        refine (HFL.out _ HG3.out).mono ?_
        rintro e w5 ⟨v5, rfl, hO5, hg5⟩
        have H5 := Lib.hid (And.intro hO5.toV (HG3.out.trans hg5))
        obtain ⟨a6, c6, rfl⟩ := hO5.sh
        clear hO5 hg5
        go_wp2_with (fail)
        (with_reducible refine (HolesAt_any _ (flipL h) t _ H5.out.1 (HS1.out.grew H5.out.2)).mono ?_)
        rw [HFX.out]
        rintro e w6 ⟨rfl, hg6⟩
        have HG6 := Lib.hid (HV.out.2.trans (H5.out.2.trans hg6))
        clear hg6
        go_wp2
        go_ret
        exact ⟨ret_bool (by first | rfl | (simp; done)), HG6.out⟩
end Go.Proofs.YtdfnhodhdfhhcaaDoor
