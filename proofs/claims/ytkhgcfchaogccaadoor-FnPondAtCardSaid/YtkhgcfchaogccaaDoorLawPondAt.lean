/- The law FnPondAt returns true. -/
import Derived.Test.YtkhgcfchaogccaaDoorPondLaw
import Derived.Test.YtkhgcfchaogccaaDoorSPondA
import Derived.Test.YtkhgcfchaogccaaDoorDraws9
import Derived.Test.YtkhgcfchaogccaaDoorRowOf
namespace Go.Proofs.YtkhgcfchaogccaaDoor
open Go.RowKit

set_option maxRecDepth 100000 in
set_option maxHeartbeats 4000000 in
theorem FnPondAt_any (v : Value) (bs : List Int) (w : World) (hv : NumsV .u8 w v bs) (hb : ∀ i, i < bs.length → 0 ≤ bs.getD i 0 ∧ bs.getD i 0 ≤ 255) (hS : Steps w) :
    Calls Tryd.prog 3 #[v] w fun e w' => e = .returned (.bool true) ∧ Grew w w' := by
  have HD := Lib.hid (DrawPondAt_any v bs w hv hb)
  have HS := Lib.hid hS
  obtain ⟨a, b, o, c, rfl, ⟨hlc, hcb⟩, _, _⟩ := hv.shape
  clear hv hb hS
  by_cases hbig : 1048576 < bs.length
  · go_enter Tryd.func3, Tryd.ntmps3
    go_wp2
    go_ret
    exact ⟨rfl, Grew.refl _⟩
  · go_enter Tryd.func3, Tryd.ntmps3
    go_wp2_with (fail)
    refine HD.out.mono ?_
    rintro e w1 ⟨v1, H, i, s, rfl, hO, hd, hs, hg1⟩
    have HV := Lib.hid (And.intro hO.toV (And.intro hg1 (HS.out.grew hg1)))
    obtain ⟨a3, n3, c3, rfl⟩ : ∃ a n c, v1 = .slice a n c := by
      rcases hO.shape with ⟨rfl, _⟩ | ⟨g, c, rfl, _⟩ <;> exact ⟨_, _, _, rfl⟩
    clear hO hd hg1 HD
    have HPI := Lib.hid fun (t : Int) W hW => PondAt_any _ H i t W (HV.out.1.grew hW) (HV.out.2.2.grew hW)
    have HPS := Lib.hid fun (t : Int) W hW => SPondAt_any _ H i t W (HV.out.1.grew hW)
    have HLI := Lib.hid fun (t : Int) W hW => LevelFor_any _ H i t W (HV.out.1.grew hW) (HV.out.2.2.grew hW)
    have HLS := Lib.hid fun (t : Int) W hW => SLevelFor_any _ H i t W (HV.out.1.grew hW)
    obtain ⟨X, eX⟩ : ∃ X, pondAX H i s = X := ⟨_, rfl⟩
    obtain ⟨Y, eY⟩ : ∃ Y, pondBX H i s = Y := ⟨_, rfl⟩
    have HX := Lib.hid (And.intro eX eY)
    clear eX eY
    have hxx : (X != X) = false := by simp
    have hyy : (Y != Y) = false := by simp
    go_wp2_with (fail)
    refine (HPI.out s _ (Grew.refl _)).mono ?_
    rw [HX.out.1, HX.out.2]
    rintro e w2 ⟨rfl, hg2⟩
    have H2 := Lib.hid hg2
    clear hg2
    go_wp2_with (fail)
    refine (HPS.out s _ H2.out).mono ?_
    rw [HX.out.1, HX.out.2]
    rintro e w3 ⟨rfl, hg3⟩
    have H3 := Lib.hid (H2.out.trans hg3)
    clear hg3
    by_cases hn : X < 0
    · have hxe : (X == X) = true := by simp
      have hye : (Y == Y) = true := by simp
      go_wp2
      go_ret
      exact ⟨rfl, HV.out.2.1.trans H3.out⟩
    · have hok : pondOk H i s = true := by
        refine Classical.byContradiction fun h => hn ?_
        rw [← HX.out.1]
        exact pondAX_neg.2 h
      obtain ⟨hg, h0, hI, hIl, hs1, hs2⟩ := pondOk_yes hok
      have hlaw := pond_law hok
      have hsm := pondOk_small hok
      rw [HX.out.1, HX.out.2] at hlaw hsm
      have G := Grid.of hg
      have HRW := Lib.hid fun W hW => rowOf_any _ H W (HV.out.1.grew hW) (Nat.le_trans G.n5 (by decide)) (fun r hr => by have := G.len r hr; have := G.m1; have := G.m5; omega)
      obtain ⟨I, rfl⟩ := Int.eq_ofNat_of_zero_le h0
      rw [Int.toNat_natCast] at hlaw hIl
      obtain ⟨p, ep⟩ : ∃ p, H.flatten = p := ⟨_, rfl⟩
      rw [ep] at hlaw hIl HRW
      obtain ⟨P, eP⟩ : ∃ P, p.getD I 0 = P := ⟨_, rfl⟩
      obtain ⟨X2, eX2⟩ : ∃ X2, pondAX H I (s + 1) = X2 := ⟨_, rfl⟩
      obtain ⟨Y2, eY2⟩ : ∃ Y2, pondBX H I (s + 1) = Y2 := ⟨_, rfl⟩
      rw [eP, eX2, eY2] at hlaw
      have HX2 := Lib.hid (And.intro eX2 eY2)
      have HEP := Lib.hid eP
      obtain ⟨hxy, hz, hup⟩ := hlaw
      have q1 : IntKind.i64.wrap (s + 1) = s + 1 := wrap_p _ (by omega) (by omega)
      have q2 : IntKind.i64.wrap (Y + X) = Y + X := wrap_p _ (by omega) (by omega)
      have HZ := Lib.hid hz
      have HUP := Lib.hid hup
      have HIL := Lib.hid hIl
      clear hok hg h0 hI hs1 hs2 hsm G ep eP eX2 eY2 hz hup hIl
      go_wp2_with (fail)
      refine (HPI.out (s + 1) _ H3.out).mono ?_
      rw [HX2.out.1, HX2.out.2]
      rintro e w4 ⟨rfl, hg4⟩
      have H4 := Lib.hid (H3.out.trans hg4)
      clear hg4
      go_wp2_with (fail)
      refine (HRW.out _ H4.out).mono ?_
      rintro e w5 ⟨g5, c5, rfl, hO5, hg5⟩
      have hIl := HIL.out
      have hcI := (hO5.at rfl hIl).1
      rw [HEP.out] at hcI
      have H5 := Lib.hid (H4.out.trans hg5)
      have r1 : (I : Int) < p.length := by omega
      have r2 : (0 : Int) ≤ I := by omega
      clear hO5 hg5
      by_cases hX0 : X = 0
      · have hsP : s ≤ P := HZ.out.1 hX0
        have hXb : (X == 0) = true := by simp [hX0]
        have HX0 := Lib.hid hX0
        clear hX0
        by_cases h12 : s = 12
        · have h12b : (s == 12) = true := by simp [h12]
          clear h12
          go_wp2
          go_ret
          exact ⟨rfl, HV.out.2.1.trans H5.out⟩
        · have h12b : (s == 12) = false := beq_eq_false_iff_ne.2 h12
          have hu := HUP.out.resolve_left h12
          have hu1 := hu.1
          have hu2 := hu.2
          clear h12 hu
          go_wp2
          go_ret
          exact ⟨rfl, HV.out.2.1.trans H5.out⟩
      · have hsP : ¬ s ≤ P := fun h => hX0 (HZ.out.2 h)
        have hXb : (X == 0) = false := beq_eq_false_iff_ne.2 hX0
        have hsd : decide (s ≤ P) = false := decide_eq_false hsP
        have HSD := Lib.hid hsd
        clear hX0
        by_cases h12 : s = 12
        · have h12b : (s == 12) = true := by simp [h12]
          clear h12
          go_wp2
          go_ret
          refine ⟨?_, HV.out.2.1.trans H5.out⟩
          first | rfl | (show Ending.returned (.bool (!decide (s ≤ P))) = _; rw [HSD.out]; rfl)
        · have h12b : (s == 12) = false := beq_eq_false_iff_ne.2 h12
          have hu := HUP.out.resolve_left h12
          have hu1 := hu.1
          have hu2 := hu.2
          clear h12 hu
          go_wp2
          go_ret
          refine ⟨?_, HV.out.2.1.trans H5.out⟩
          first | rfl | (show Ending.returned (.bool (!decide (s ≤ P))) = _; rw [HSD.out]; rfl)
end Go.Proofs.YtkhgcfchaogccaaDoor
