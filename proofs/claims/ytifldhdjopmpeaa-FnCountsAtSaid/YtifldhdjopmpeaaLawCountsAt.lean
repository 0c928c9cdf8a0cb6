/- The law FnCountsAt returns true. -/
import Derived.Test.YtifldhdjopmpeaaCounts
import Derived.Test.YtifldhdjopmpeaaDrawsL
import Derived.Test.YtifldhdjopmpeaaFlipped
namespace Go.Proofs.Ytifldhdjopmpeaa
open Go.RowKit

set_option maxRecDepth 100000 in
set_option maxHeartbeats 4000000 in
theorem FnCountsAt_any (v : Value) (bs : List Int) (w : World) (hv : NumsV .u8 w v bs) (hb : ∀ i, i < bs.length → 0 ≤ bs.getD i 0 ∧ bs.getD i 0 ≤ 255) :
    Calls Try.prog 4 #[v] w fun e w' => e = .returned (.bool true) ∧ Grew w w' := by
  have HD := Lib.hid (DrawCountsAt_any v bs w hv hb)
  obtain ⟨a, b, o, c, rfl, ⟨hlc, hcb⟩, _, _⟩ := hv.shape
  clear hv hb
  by_cases hbig : 1048576 < bs.length
  · go_enter Try.func4, Try.ntmps4
    go_wp2
    go_ret
    exact ⟨rfl, Grew.refl _⟩
  · go_enter Try.func4, Try.ntmps4
    go_wp2_with (fail)
    refine HD.out.mono ?_
    rintro e w1 ⟨v1, h, t, rfl, hO, hd, ht, hg1⟩
    have HV := Lib.hid (And.intro hO.toV hg1)
    obtain ⟨a3, c3, rfl⟩ := hO.sh
    obtain ⟨X, eX⟩ : ∃ X, countX h t = X := ⟨_, rfl⟩
    have HX := Lib.hid eX
    have HVG : Hid (∀ W, Grew w1 W → Calls Try.prog 14 #[.slice a3 h.length c3] W fun e w' => e = .returned (.bool (vGrid h)) ∧ W = w') := fun W hW => ValidGrid_any _ h W (HV.out.1.grew hW)
    clear hO hd hg1 HD eX
    go_wp2_with (fail)
    (with_reducible refine (CountsAt_any _ h t _ HV.out.1).mono ?_)
    rw [HX.out]
    rintro e w2 ⟨rfl, hg2⟩
    have HG2 := Lib.hid hg2
    clear hg2
    go_wp2_with (fail)
    (with_reducible refine (SCountsAt_any _ h t _ (HV.out.1.grew HG2.out)).mono ?_)
    rw [HX.out]
    rintro e w3 ⟨rfl, hg3⟩
    have HG3 := Lib.hid (HG2.out.trans hg3)
    clear hg3
    have exx : (X != X) = false := by simp
    have hlast : ∀ W, Grew w1 W → Calls Try.prog 20 #[.slice a3 h.length c3, .int .i64 t] W fun e w' => e = .returned (.int .i64 X) ∧ Grew W w' := fun W hW => by
      have := SCountsAt_any _ h t W (HV.out.1.grew hW)
      rwa [HX.out] at this
    have HL := Lib.hid hlast
    clear hlast
    go_wp2_with (fail)
    refine (HVG.out _ HG3.out).mono ?_
    cases hp : vGrid h with
    | false =>
      rintro e w4 ⟨rfl, rfl⟩
      clear hp
      go_wp2_with (fail)
      refine (HL.out _ HG3.out).mono ?_
      rintro e w5 ⟨rfl, hg5⟩
      have HG5 := Lib.hid (HV.out.2.trans (HG3.out.trans hg5))
      clear hg5
      go_wp2
      go_ret
      exact ⟨ret_bool (by simp), HG5.out⟩
    | true =>
      rintro e w4 ⟨rfl, rfl⟩
      have HP := Lib.hid hp
      clear hp
      by_cases h1 : t < -1
      · go_wp2_with (fail)
        refine (HL.out _ HG3.out).mono ?_
        rintro e w5 ⟨rfl, hg5⟩
        have HG5 := Lib.hid (HV.out.2.trans (HG3.out.trans hg5))
        clear hg5
        go_wp2
        go_ret
        exact ⟨ret_bool (by simp), HG5.out⟩
      · by_cases h2 : 12 < t
        · go_wp2_with (fail)
          refine (HL.out _ HG3.out).mono ?_
          rintro e w5 ⟨rfl, hg5⟩
          have HG5 := Lib.hid (HV.out.2.trans (HG3.out.trans hg5))
          clear hg5
          go_wp2
          go_ret
          exact ⟨ret_bool (by simp), HG5.out⟩
        · have G := Grid.of HP.out
          have lv : ∀ s : Int, -1 ≤ s → s ≤ 12 → ∀ H : List (List Int), vGrid H = true → countX H s = countL H s H.length (H.getD 0 []).length := fun s a b H hH => by
            unfold countX
            rw [if_pos (by simp only [vLevel, hH, inR, Bool.true_and, Bool.and_eq_true, decide_eq_true_eq]; exact ⟨a, b⟩)]
          have HLO : Hid (countX h (-1) = 1) := by show _ = _; rw [lv _ (by omega) (by omega) h HP.out, count_low G]
          have HHI : Hid (countX h 12 = 0) := by show _ = _; rw [lv _ (by omega) (by omega) h HP.out, count_high G]
          have gf := flip_grid G
          have HFL : Hid (countX (flipL h) t = X) := by
            show _ = _
            rw [lv t (by omega) (by omega) _ (Grid.to gf), flipL_len rfl, gf.len 0 gf.n1, count_flip G, ← HX.out, lv t (by omega) (by omega) h HP.out]
          clear G lv gf
          go_wp2_with (fail)
          (with_reducible refine (CountsAt_any _ h (-1) _ (HV.out.1.grew HG3.out)).mono ?_)
          rw [HLO.out]
          rintro e w5 ⟨rfl, hg5⟩
          have HG5 := Lib.hid (HG3.out.trans hg5)
          clear hg5
          go_wp2_with (fail)
          (with_reducible refine (CountsAt_any _ h 12 _ (HV.out.1.grew HG5.out)).mono ?_)
          rw [HHI.out]
          rintro e w6 ⟨rfl, hg6⟩
          have HG6 := Lib.hid (HG5.out.trans hg6)
          clear hg6
          go_wp2_with (fail)
          refine (flipped_any _ h w6 (HV.out.1.grew HG6.out) HP.out).mono ?_
          rintro e w7 ⟨v7, rfl, hO7, hg7⟩
          have H7 := Lib.hid (And.intro hO7.toV (HG6.out.trans hg7))
          obtain ⟨a7, c7, rfl⟩ := hO7.sh
          clear hO7 hg7
          go_wp2_with (fail)
          (with_reducible refine (CountsAt_any _ (flipL h) t _ H7.out.1).mono ?_)
          rw [HFL.out]
          rintro e w8 ⟨rfl, hg8⟩
          have HG8 := Lib.hid (HV.out.2.trans (H7.out.2.trans hg8))
          clear hg8
          go_wp2
          go_ret
          exact ⟨ret_bool (by first | (simp; done) | rfl), HG8.out⟩
end Go.Proofs.Ytifldhdjopmpeaa
