/- The law FnFurthestOf returns true. -/
import Derived.Test.YthljmolkicfdaaaFurthest
import Derived.Test.YthljmolkicfdaaaDrawsP2
import Derived.Test.YthljmolkicfdaaaEqualB
namespace Go.Proofs.Ythljmolkicfdaaa
open Go.RowKit

set_option maxRecDepth 100000 in
set_option maxHeartbeats 1000000 in
theorem FnFurthestOf_any (v : Value) (bs : List Int) (w : World) (hv : NumsV .u8 w v bs) (hb : ∀ i, i < bs.length → 0 ≤ bs.getD i 0 ∧ bs.getD i 0 ≤ 255) :
    Calls Try.prog 4 #[v] w fun e w' => e = .returned (.bool true) ∧ Grew w w' := by
  have HD := Lib.hid (DrawFurthestOf_any v bs w hv hb)
  obtain ⟨a, b, o, c, rfl, ⟨hlc, hcb⟩, _, _⟩ := hv.shape
  clear hv hb
  by_cases hbig : 1048576 < bs.length
  · go_enter Try.func4, Try.ntmps4
    go_wp2
    go_ret
    exact ⟨rfl, Grew.refl _⟩
  · go_enter Try.func4, Try.ntmps4
    go_wp2_with (fail)
    refine HD.out.mono ?_
    rintro e w1 ⟨v1, p, i, rfl, hO, hd, hi, hg1⟩
    have HV := Lib.hid (And.intro hO.toV hg1)
    obtain ⟨a3, n3, c3, rfl⟩ : ∃ a n c, v1 = .slice a n c := by
      rcases hO.shape with ⟨rfl, _⟩ | ⟨g, c, rfl, _⟩ <;> exact ⟨_, _, _, rfl⟩
    clear hO hd hg1 HD
    go_wp2_with (fail)
    refine (FurthestOf_any _ p i _ HV.out.1).mono ?_
    by_cases hok : vProf p = true ∧ 0 ≤ i ∧ i < p.length
    · obtain ⟨n, rfl⟩ := Int.eq_ofNat_of_zero_le hok.2.1
      have hx : furX p n = furL p n := by unfold furX; rw [if_pos hok]; simp
      have hn : n < p.length := by omega
      have HP : Hid (vProf p = true ∧ n < p.length) := ⟨hok.1, hn⟩
      have h9 := (vProf_len hok.1).2
      have hsx : seenX p n = seenL p n := by unfold seenX; rw [if_pos hok]; simp
      have HSX := Lib.hid hsx
      have hF := (furL_sees p n hn).1
      rw [hx]
      have HX := Lib.hid hx
      obtain ⟨F, eF⟩ : ∃ F, furL p n = F := ⟨_, rfl⟩
      have HEF := Lib.hid eF
      rw [eF] at hF ⊢
      have hFn : ¬ (F : Int) < 0 := by omega
      clear hok hx hsx eF
      rintro e w2 ⟨rfl, hg2⟩
      have HG2 := Lib.hid (HV.out.2.trans hg2)
      have HV2 := Lib.hid (HV.out.1.grew hg2)
      clear hg2
      go_wp2_with (fail)
      refine (SFurthestOf_any _ p n _ HV2.out).mono ?_
      rw [HX.out, HEF.out]
      rintro e w3 ⟨rfl, hg3⟩
      have HG3 := Lib.hid (HG2.out.trans hg3)
      have HV3 := Lib.hid (HV2.out.grew hg3)
      clear hg3
      go_wp2_with (fail)
      refine (SeenFrom_any _ p n _ HV3.out).mono ?_
      rw [HSX.out]
      rintro e w4 ⟨v4, rfl, hO4, hg4⟩
      have HG4 := Lib.hid (HG3.out.trans hg4)
      have hsl := seenL_len p n
      rcases hO4.shape with ⟨rfl, e⟩ | ⟨g4, c4, rfl, _, _, hc4, hm4⟩
      · rw [e] at hsl; simp at hsl; omega
      rw [hsl] at hc4 hO4 ⊢
      unfold maxLen at hm4
      have HO4 := Lib.hid hO4
      have HSL := Lib.hid hsl
      clear hO4 hg4 hsl
      go_wp2
      go_loop [7, 8] (fun l k => ∃ (K L : Nat), K ≤ p.length ∧ k = .int .i64 K ∧ l = .int .i64 L ∧ Hid (K ≤ F ∨ L = F)) (fun _ k => p.length - (intOf k).toNat)
      case atStart => exact ⟨0, 0, Nat.zero_le _, rfl, rfl, .inl (Nat.zero_le _)⟩
      case round =>
        obtain ⟨K, L, hK, rfl, rfl, HI⟩ := hrel
        by_cases hlt : K < p.length
        · obtain ⟨hc, _⟩ := HO4.out.at rfl (i := K) (by rw [HSL.out]; exact hlt)
          rw [seenL_at p n K hlt] at hc
          have hfs := furL_sees p n HP.out.2
          rw [HEF.out] at hfs
          cases hb : seesB p (min n K) (max n K) with
          | true =>
            rw [hb] at hc
            have HB := Lib.hid hb
            have HFS := Lib.hid hfs
            clear hb hfs
            go_wp2
            go_round
            case rel => exact ⟨K + 1, K, by omega, by go_num, rfl, by
              show _ ∨ _
              by_cases hKF : K < F
              · exact .inl (by omega)
              · by_cases e : K = F
                · exact .inr e
                · have := HFS.out.2.2.2 K (by omega) hlt
                  rw [HB.out] at this
                  cases this⟩
            case measure => simp [intOf]; omega
          | false =>
            rw [hb] at hc
            have HB := Lib.hid hb
            have HFS := Lib.hid hfs
            clear hb hfs
            go_wp2
            go_round
            case rel => exact ⟨K + 1, L, by omega, by go_num, rfl, by
              show _ ∨ _
              rcases HI.out with h | h
              · by_cases e : K = F
                · have := HFS.out.2.2.1
                  rw [← e, HB.out] at this
                  cases this
                · exact .inl (by omega)
              · exact .inr h⟩
            case measure => simp [intOf]; omega
        · have hLF : L = F := by rcases HI.out with h | h <;> omega
          subst hLF
          go_wp2
          go_ret
          exact ⟨ret_bool (by simp), HG4.out⟩
    · have hx : furX p i = -1 := by unfold furX; rw [if_neg hok]
      rw [hx]
      have HX := Lib.hid hx
      clear hok hx
      rintro e w2 ⟨rfl, hg2⟩
      have HG2 := Lib.hid (HV.out.2.trans hg2)
      have HV2 := Lib.hid (HV.out.1.grew hg2)
      clear hg2
      go_wp2_with (fail)
      refine (SFurthestOf_any _ p i _ HV2.out).mono ?_
      rw [HX.out]
      rintro e w3 ⟨rfl, hg3⟩
      have HG3 := Lib.hid (HG2.out.trans hg3)
      have HV3 := Lib.hid (HV2.out.grew hg3)
      clear hg3
      go_wp2_with (fail)
      refine (SFurthestOf_any _ p i _ HV3.out).mono ?_
      rw [HX.out]
      rintro e w4 ⟨rfl, hg4⟩
      have HG4 := Lib.hid (HG3.out.trans hg4)
      clear hg4
      go_wp2
      go_ret
      exact ⟨ret_bool (by simp), HG4.out⟩
end Go.Proofs.Ythljmolkicfdaaa
