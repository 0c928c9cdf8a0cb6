/- The law FnReadQuad returns true. -/
import Derived.Test.YtlfoimjohdaofaaDoorDrawQ
import Derived.Test.YtlfoimjohdaofaaDoorEqualRows
import Derived.Test.YtlfoimjohdaofaaDoorLawExactReadQuad
namespace Go.Proofs.YtlfoimjohdaofaaDoor
open Go.RowKit

set_option maxRecDepth 100000 in
set_option maxHeartbeats 8000000 in
theorem FnReadQuad_any (v : Value) (bs : List Int) (w : World) (hv : NumsV .u8 w v bs) (hb : ∀ i, i < bs.length → 0 ≤ bs.getD i 0 ∧ bs.getD i 0 ≤ 255) (hE : ErrAs w) :
    Calls Tryd.prog 4 #[v] w fun e w' => e = .returned (.bool true) ∧ Grew w w' := by
  have HD := Lib.hid (DrawReadQuad_any v bs w hv hb)
  have HE := Lib.hid hE
  obtain ⟨a, b, o, c, rfl, ⟨hlc, hcb⟩, _, _⟩ := hv.shape
  clear hv hb hE
  by_cases hbig : 1048576 < bs.length
  · go_enter Tryd.func4, Tryd.ntmps4
    go_wp2
    go_ret
    exact ⟨rfl, Grew.refl _⟩
  · go_enter Tryd.func4, Tryd.ntmps4
    go_wp2_with (fail)
    refine HD.out.mono ?_
    rintro e w1 ⟨s, r, k, rfl, hts, hr, hk, hg1⟩
    have HG1 := Lib.hid hg1
    obtain ⟨M, ok, hX, hT, hM⟩ := readX_one s r k
    have HI : Hid (∀ W, Grew w W → Calls Tryd.prog 9 #[.string s, .int .i64 r, .int .i64 k] W (ReadY M ok W)) := Lib.hid fun W hW => (ReadQuad_any s r k W (by omega) (by omega) (HE.out.grew hW)).mono fun e w' h => hX _ _ _ h
    have HP : Hid (∀ W, Calls Tryd.prog 13 #[.string s, .int .i64 r, .int .i64 k] W (ReadY M ok W)) := Lib.hid fun W => (SReadQuad_any s r k W (by omega)).mono fun e w' h => hX _ _ _ h
    unfold ReadY at HI HP
    have HM := Lib.hid hM
    clear hts hr hk hg1 hX hT hM HD
    go_wp2_with (fail)
    refine (HI.out _ HG1.out).mono ?_
    rintro e w2 ⟨v2, rfl, hO2, hg2⟩
    have HO2 := Lib.hid hO2
    have HG2 := Lib.hid (HG1.out.trans hg2)
    obtain ⟨a2, c2, rfl⟩ := hO2.sh
    clear hO2 hg2
    go_wp2_with (fail)
    refine (HP.out _).mono ?_
    rintro e w3 ⟨v3, rfl, hO3, hg3⟩
    have HV3 := Lib.hid (And.intro (HO2.out.grew hg3) hO3.toV)
    have HG3 := Lib.hid (HG2.out.trans hg3)
    clear hO3 hg3
    go_wp2_with (fail)
    refine (equalRows_any _ _ M M _ HV3.out.1.toV HV3.out.2).mono ?_
    rw [decide_eq_true (rfl : M = M)]
    rintro e w4 ⟨rfl, hq⟩
    have HV4 := Lib.hid (And.intro (HV3.out.1.grew (quiet_grew hq)) (HV3.out.2.grew (quiet_grew hq)))
    have HG4 := Lib.hid (HG3.out.trans (quiet_grew hq))
    clear hq
    cases ok with
    | false =>
      go_wp2_with (fail)
      refine (equalRows_any _ _ M M _ HV4.out.1.toV HV4.out.2).mono ?_
      rw [decide_eq_true (rfl : M = M)]
      rintro e w5 ⟨rfl, hq⟩
      have HG5 := Lib.hid (HG4.out.trans (quiet_grew hq))
      clear hq
      go_wp2
      go_ret
      exact ⟨rfl, HG5.out⟩
    | true =>
      have hI : IsReadI s r k M := by
        rcases HM.out with ⟨_, h⟩ | ⟨h, _⟩
        · exact h
        · cases h
      obtain ⟨n, m, rfl, rfl, hB, G, hl, hQ⟩ := hI
      have HB := Lib.hid hB
      have HQD := Lib.hid (QuadOf_any _ M w4 HV4.out.1.toV)
      unfold TextPost at HQD
      rw [hQ] at HQD
      obtain ⟨g, cg, eg, -, -, -, -⟩ := HV4.out.1.pos (by have := G.n1; omega)
      obtain ⟨u, hcu, hU⟩ := HV4.out.1.at eg (i := 0) (by have := G.n1; omega)
      have hl0 := G.len 0 (by have := G.n1; omega)
      obtain ⟨au, cu, rfl⟩ : ∃ a c, u = .slice a m c := by
        obtain ⟨a, c, e⟩ := hU.pos (by rw [hl0]; exact G.m1)
        rw [hl0] at e
        exact ⟨_, _, e.1⟩
      injection eg with e1 e2 e3
      subst e1
      subst e3
      clear hU hl0 hQ hB e2 G
      rw [hl] at HQD ⊢
      have HN0 : Hid ((0 : Int) < n ∧ 0 < n) := Lib.hid (by have := HB.out; omega)
      have HCC := Lib.hid hcu
      clear hcu hl
      have htx : (s.toList == s.toList) = true := by simp
      go_wp2_with (fail)
      refine HQD.out.mono ?_
      rintro e w6 ⟨rfl, hg6⟩
      have HG6 := Lib.hid (HG4.out.trans hg6)
      have hc6 := hg6.cell HCC.out
      obtain ⟨hn0, hn1⟩ := HN0.out
      clear hg6
      go_wp2
      go_ret
      exact ⟨rfl, HG6.out⟩
end Go.Proofs.YtlfoimjohdaofaaDoor
