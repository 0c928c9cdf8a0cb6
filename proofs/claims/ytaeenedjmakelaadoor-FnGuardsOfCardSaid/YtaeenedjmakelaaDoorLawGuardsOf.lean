/- The law FnGuardsOf returns true. -/
import Derived.Test.YtaeenedjmakelaaDoorGuardL
import Derived.Test.YtaeenedjmakelaaDoorGuardI
import Derived.Test.YtaeenedjmakelaaDoorSGuard
import Derived.Test.YtaeenedjmakelaaDoorDrawsP
import Derived.Test.YtaeenedjmakelaaDoorEqualInts
namespace Go.Proofs.YtaeenedjmakelaaDoor
open Go.RowKit

theorem dec_selfG (X : List Int) : decide (X = X) = true := by simp
set_option maxRecDepth 100000 in
set_option maxHeartbeats 8000000 in
theorem FnGuardsOf_any (v : Value) (bs : List Int) (w : World) (hv : NumsV .u8 w v bs) (hb : ∀ i, i < bs.length → 0 ≤ bs.getD i 0 ∧ bs.getD i 0 ≤ 255) (hDe : Deb w) :
    Calls Tryd.prog 4 #[v] w fun e w' => e = .returned (.bool true) ∧ Grew w w' := by
  have HD := Lib.hid (DrawGuardsOf_any v bs w hv hb)
  have HDE := Lib.hid hDe
  obtain ⟨a, b, o, c, rfl, ⟨hlc, hcb⟩, _, _⟩ := hv.shape
  clear hv hb hDe
  by_cases hbig : 1048576 < bs.length
  · go_enter Tryd.func4, Tryd.ntmps4
    go_wp2
    go_ret
    exact ⟨rfl, Grew.refl _⟩
  · go_enter Tryd.func4, Tryd.ntmps4
    go_wp2_with (fail)
    refine HD.out.mono ?_
    rintro e w1 ⟨v1, p, rfl, hO, hd, hg1⟩
    have HV := Lib.hid (And.intro hO.toV hg1)
    obtain ⟨a3, c3, rfl⟩ := hO.sh
    obtain ⟨R, eR⟩ : ∃ R, guardsX p = R := ⟨_, rfl⟩
    have HR := Lib.hid eR
    clear hO hd hg1 HD eR
    go_wp2_with (fail)
    refine (GuardsOf_any _ p _ HV.out.1 (HDE.out.grew HV.out.2)).mono ?_
    rw [HR.out]
    rintro e w2 ⟨v2, rfl, hO2, hg2⟩
    have H2 := Lib.hid (And.intro hO2 hg2)
    obtain ⟨a2, c2, rfl⟩ := hO2.sh
    clear hO2 hg2
    go_wp2_with (fail)
    refine (SGuardsOf_any _ p _ (HV.out.1.grew H2.out.2)).mono ?_
    rw [HR.out]
    rintro e w3 ⟨v3, rfl, hO3, hg3⟩
    have H3 := Lib.hid (And.intro hO3.toV (H2.out.2.trans hg3))
    have H23 := Lib.hid (H2.out.1.grew hg3)
    obtain ⟨a4, c4, rfl⟩ := hO3.sh
    clear hO3 hg3
    go_wp2_with (fail)
    refine (equalInts_any _ _ R R _ H23.out.toV H3.out.1).mono ?_
    rw [dec_selfG]
    rintro e w4 ⟨rfl, hq⟩
    have HG4 := Lib.hid (H3.out.2.trans (quiet_grew hq))
    have H24 := Lib.hid (H23.out.grew (quiet_grew hq))
    clear hq
    by_cases hS : R.length = 0
    · have hS' : ((R.length : Int) == 0) = true := by simp [hS]
      clear hS
      go_wp2_with (fail)
      refine (SGuardsOf_any _ p _ (HV.out.1.grew HG4.out)).mono ?_
      rw [HR.out]
      rintro e w5 ⟨v5, rfl, hO5, hg5⟩
      have H5 := Lib.hid (And.intro hO5.toV (HG4.out.trans hg5))
      have H25 := Lib.hid (H24.out.grew hg5)
      obtain ⟨a5, c5, rfl⟩ := hO5.sh
      clear hO5 hg5
      go_wp2_with (fail)
      refine (equalInts_any _ _ R R _ H25.out.toV H5.out.1).mono ?_
      rw [dec_selfG]
      rintro e w6 ⟨rfl, hq⟩
      have HG6 := Lib.hid (H5.out.2.trans (quiet_grew hq))
      clear hq
      go_wp2
      go_ret
      exact ⟨rfl, HV.out.2.trans HG6.out⟩
    · have hvp : vProf p = true := by
        cases h : vProf p with
        | true => rfl
        | false =>
          have := HR.out
          unfold guardsX at this
          rw [h, if_neg (by simp)] at this
          rw [← this] at hS
          exact absurd rfl hS
      obtain ⟨h1, h9⟩ := vProf_len hvp
      obtain ⟨f, ef⟩ : ∃ f, fewTo p (2 ^ p.length - 1) = f := ⟨_, rfl⟩
      have hRf : R = memL f := by rw [← HR.out, ← ef]; unfold guardsX; rw [if_pos hvp]
      have HFEW : Hid (∀ skip : Int, -1 ≤ skip → skip < R.length → allThr p R skip p.length = decide (skip < 0)) := Lib.hid fun skip g1 g2 => by
        rw [hRf] at g2 ⊢
        exact guards_few h9 ef.symm g1 g2
      have HASC : Hid (ascB R = true) := Lib.hid (by rw [hRf]; exact (memTo_asc f 9).1)
      have HAT : Hid (∀ j, j < R.length → ∃ i : Nat, R.getD j 0 = (i : Int) ∧ i < p.length) := Lib.hid fun j hj => by
        rw [hRf] at hj ⊢
        obtain ⟨i, g1, g2, _⟩ := memL_at hj
        have hlt : f < 2 ^ p.length := by rw [← ef]; exact fewTo_lt p _ (Nat.sub_le _ _)
        exact ⟨i, g1, Nat.lt_of_not_le fun h => by rw [testBit_high hlt h] at g2; cases g2⟩
      have hR9 : R.length ≤ 9 := by rw [hRf]; exact memTo_len f 9
      have HSF : Hid (∀ (i : Nat) (W : World), i < p.length → Grew w1 W → Calls Tryd.prog 18 #[.slice a3 p.length c3, .int .i64 i] W (SeenPost (seenL p i) W)) := Lib.hid fun i W hi hg => Seen_yes _ p i W (HV.out.1.grew hg) hvp hi
      have hS' : ((R.length : Int) == 0) = false := beq_eq_false_iff_ne.2 (by omega)
      obtain ⟨g7, cc7, e7, _, _, _, _⟩ := H24.out.pos (by omega)
      simp only [Value.slice.injEq] at e7
      obtain ⟨rfl, _, e3⟩ := e7
      obtain rfl : c2 = cc7 := e3
      have HC7 : Hid (∀ j, j < R.length → w4.cell? ⟨g7, j, none⟩ = some (.int .i64 (R.getD j 0))) := Lib.hid fun j hj => (H24.out.at rfl hj).1
      obtain ⟨l, el⟩ : ∃ l, R.length = l := ⟨_, rfl⟩
      obtain ⟨n, en⟩ : ∃ n, p.length = n := ⟨_, rfl⟩
      have HL := Lib.hid (And.intro el en)
      have HO4 : Hid (IntsV w4 (.slice (some ⟨g7, 0, none⟩) R.length c2) R) := Lib.hid H24.out.toV
      rw [el] at HFEW HAT hR9 hS' HC7 HO4 hS ⊢
      rw [en] at HFEW HAT HSF h1 h9 ⊢
      clear hvp ef hRf el en
      go_wp2_with (fail)
      go_loopw [5] (fun s' wr => ∃ sk : Int, -1 ≤ sk ∧ sk ≤ l ∧ s' = .int .i64 sk ∧ Hid (Grew w4 wr)) (fun s' _ => (l - intOf s').toNat)
      case atStart => exact ⟨-1, by omega, by omega, rfl, Grew.refl _⟩
      case round =>
        obtain ⟨sk, hk1, hk2, rfl, HI⟩ := hrel
        by_cases hlt : sk < l
        · have HALL := Lib.hid (HFEW.out sk hk1 hlt)
          have HI4 : Hid (Grew w4 wr) := HI
          go_wp2_with (fail)
          go_loopw [6, 7] (fun z' k' wi => ∃ (k : Nat) (z : Bool), k ≤ n ∧ k' = .int .i64 k ∧ z' = .bool z ∧ Hid (z = allThr p R sk k ∧ Grew w4 wi)) (fun _ k' _ => n - (intOf k').toNat)
          case atStart => exact ⟨0, true, Nat.zero_le _, rfl, rfl, rfl, HI4.out⟩
          case round =>
            obtain ⟨k, z, hkn, rfl, rfl, HJ⟩ := hrel
            by_cases hkl : k < n
            · have HJ4 : Hid (Grew w4 wr) := Lib.hid HJ.out.2
              have HNX : Hid (allThr p R sk (k + 1) = (z && thr p R sk k l)) := Lib.hid (by rw [allThr, ← HJ.out.1, HL.out.1])
              have hki : (k : Int) < n := by omega
              go_wp2_with (fail)
              go_loopw [8, 9] (fun y' x' wi => ∃ (x : Nat) (y : Bool), x ≤ l ∧ x' = .int .i64 x ∧ y' = .bool y ∧ Hid (y = thr p R sk k x ∧ Grew w4 wi)) (fun _ x' _ => l - (intOf x').toNat)
              case atStart => exact ⟨0, false, Nat.zero_le _, rfl, rfl, rfl, HJ4.out⟩
              case round =>
                obtain ⟨x, y, hxl, rfl, rfl, HX⟩ := hrel
                by_cases hxx : x < l
                · have hst : thr p R sk k (x + 1) = (y || (decide ((x : Int) ≠ sk) && (seenL p (R.getD x 0).toNat).getD k false)) := by rw [thr, ← HX.out.1]
                  have hxi : (x : Int) < l := by omega
                  have hwx : IntKind.i64.wrap ((x : Int) + 1) = ((x + 1 : Nat) : Int) := by rw [IntWalk.i64_in _ (by omega)]; omega
                  cases y with
                  | true =>
                    have HN : Hid (true = thr p R sk k (x + 1)) := Lib.hid (by rw [hst]; rfl)
                    clear hst
                    go_wp2
                    go_roundw
                    case rel => exact ⟨x + 1, true, by omega, by first | rfl | go_num, rfl, HN.out, HX.out.2⟩
                    case measure => simp [intOf]; omega
                  | false =>
                    by_cases hxs : (x : Int) = sk
                    · have HN : Hid (false = thr p R sk k (x + 1)) := Lib.hid (by rw [hst, decide_eq_false (fun h => h hxs)]; rfl)
                      have e1 : ((x : Int) == sk) = true := by simp [hxs]
                      have e2 : ((x : Int) != sk) = false := by simp [hxs]
                      clear hst hxs
                      go_wp2
                      go_roundw
                      case rel => exact ⟨x + 1, false, by omega, by first | rfl | go_num, rfl, HN.out, HX.out.2⟩
                      case measure => simp [intOf]; omega
                    · obtain ⟨i, ei, hi⟩ := HAT.out x hxx
                      rw [decide_eq_true hxs, ei, Int.toNat_natCast, Bool.true_and, Bool.false_or] at hst
                      have hcx := HX.out.2.cell (HC7.out x hxx)
                      rw [ei] at hcx
                      have HC := Lib.hid (HSF.out i wr hi (HG4.out.trans HX.out.2))
                      obtain ⟨y, ey⟩ : ∃ y, (seenL p i).getD k false = y := ⟨_, rfl⟩
                      have HY := Lib.hid ey
                      rw [ey] at hst
                      have HN := Lib.hid hst
                      have e1 : ((x : Int) == sk) = false := beq_eq_false_iff_ne.2 hxs
                      have e2 : ((x : Int) != sk) = true := by simp [hxs]
                      have r1 : (0 : Int) ≤ x := by omega
                      clear hst hxs ei ey
                      go_wp2_with (fail)
                      refine HC.out.mono ?_
                      rintro e w8 ⟨v8, rfl, hO8, hg8⟩
                      obtain ⟨a8, c8, rfl⟩ := hO8.sh
                      have hl8 : (seenL p i).length = n := by rw [seenL_len, HL.out.2]
                      obtain ⟨g8, rfl⟩ : ∃ g, a8 = some ⟨g, 0, none⟩ := by
                        rcases hO8.shape with ⟨e, e2⟩ | ⟨g, c, e, _⟩
                        · exact absurd (hl8.symm.trans (congrArg List.length e2)) (by show ¬ n = 0; omega)
                        · simp only [Value.slice.injEq] at e; exact ⟨g, e.1⟩
                      have hc8 := (hO8.at rfl (i := k) (by rw [hl8]; exact hkl)).1
                      rw [HY.out] at hc8
                      rw [hl8]
                      have HG8 := Lib.hid (HX.out.2.trans hg8)
                      have r2 : (0 : Int) ≤ k := by omega
                      clear hO8 hg8 hl8 HC
                      cases y
                      all_goals
                        go_wp2
                        go_roundw
                        case rel => exact ⟨x + 1, _, by omega, by first | rfl | go_num, rfl, HN.out.symm, HG8.out⟩
                        case measure => simp [intOf]; omega
                · obtain rfl : x = l := by omega
                  have HN2 : Hid (allThr p R sk (k + 1) = (z && y)) := Lib.hid (by rw [HNX.out, HX.out.1])
                  have hwk : IntKind.i64.wrap ((k : Int) + 1) = ((k + 1 : Nat) : Int) := by rw [IntWalk.i64_in _ (by omega)]; omega
                  cases z <;> cases y
                  all_goals
                    go_wp2
                    go_roundw
                    case rel => exact ⟨k + 1, _, by omega, by first | rfl | go_num, rfl, HN2.out.symm, HX.out.2⟩
                    case measure => simp [intOf]; omega
            · obtain rfl : k = n := by omega
              have HZ : Hid (z = decide (sk < 0)) := Lib.hid (HJ.out.1.trans HALL.out)
              have hws : IntKind.i64.wrap (sk + 1) = sk + 1 := IntWalk.i64_in _ (by omega)
              by_cases hs0 : sk < 0
              · obtain rfl : z = true := by rw [HZ.out]; exact decide_eq_true hs0
                have hds : decide (sk < 0) = true := decide_eq_true hs0
                go_wp2
                go_roundw
                case rel => exact ⟨sk + 1, by omega, by omega, by first | rfl | go_num | rw [hws], HJ.out.2⟩
                case measure => simp [intOf]; omega
              · obtain rfl : z = false := by rw [HZ.out]; exact decide_eq_false hs0
                have hds : decide (sk < 0) = false := decide_eq_false hs0
                go_wp2
                go_roundw
                case rel => exact ⟨sk + 1, by omega, by omega, by first | rfl | go_num | rw [hws], HJ.out.2⟩
                case measure => simp [intOf]; omega
        · obtain rfl : sk = l := by omega
          have HAS := Lib.hid (ascends_any _ R wr (HO4.out.grew HI.out))
          rw [HASC.out] at HAS
          go_wp2_with (fail)
          refine HAS.out.mono ?_
          rintro e w9 ⟨rfl, hq9⟩
          have HG9 := Lib.hid ((HV.out.2.trans HG4.out).trans (HI.out.trans (quiet_grew hq9)))
          clear hq9
          go_wp2
          go_ret
          exact ⟨rfl, HG9.out⟩
end Go.Proofs.YtaeenedjmakelaaDoor
