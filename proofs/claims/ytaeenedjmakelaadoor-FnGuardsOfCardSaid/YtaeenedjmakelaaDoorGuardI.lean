/- The contracts of impl.placesOf, seenBySet, sightsOf and GuardsOf: sets of places as numbers. -/
import Derived.Test.YtaeenedjmakelaaDoorBitsW
import Derived.Test.YtaeenedjmakelaaDoorSeen
import Derived.Test.YtaeenedjmakelaaDoorOwnP
import Derived.Test.YtaeenedjmakelaaDoorUints
namespace Go.Proofs.YtaeenedjmakelaaDoor
open Go.RowKit

set_option maxRecDepth 100000 in
set_option maxHeartbeats 1000000 in
theorem placesOf_any (x : Nat) (hx : x < 512) (w : World) (hD : Deb w) :
    Calls Tryd.prog 52 #[.int .u64 x] w (OwnP (memL x) w) := by
  have HD := Lib.hid hD
  have HX := Lib.hid hx
  clear hD hx
  go_enter Tryd.func52, Tryd.ntmps52
  go_wp2_with (fail)
  go_loopw [3, 4] (fun v r wr => ∃ (xs : List Int) (a : Option Addr) (c y : Nat), v = .slice a xs.length c ∧ xs.length ≤ 9 ∧ r = .int .u64 y ∧ Hid (memL x = xs ++ memL y ∧ y < 512 ∧ IntsO 3 w.heap.size wr.heap.size wr (.slice a xs.length c) xs ∧ Grew w wr)) (fun _ r _ => (intOf r).toNat)
  case atStart => exact ⟨[], none, 0, x, rfl, Nat.zero_le _, rfl, rfl, HX.out, IntsO.nilO _ _ _ _, Grew.refl _⟩
  case round =>
    obtain ⟨xs, a, c, y, rfl, hx9, rfl, HI⟩ := hrel
    by_cases h0 : y = 0
    · subst h0
      have e0 : xs = memL x := by
        have := HI.out.1
        have e : memL 0 = [] := by decide
        rw [e, List.append_nil] at this
        exact this.symm
      go_wp2
      go_ret
      rw [← e0]
      exact ⟨_, rfl, HI.out.2.2.1, HI.out.2.2.2⟩
    · have hy0 : ((y : Int) != 0) = true := by simp; omega
      have HC := Lib.hid (ctz_any y HI.out.2.1 h0 wr (HD.out.grew HI.out.2.2.2))
      obtain ⟨l1, l2, l3⟩ := low_chk y HI.out.2.1 h0
      have hlen : xs.length + 1 ≤ 9 := by
        have := congrArg List.length HI.out.1
        rw [l1, List.length_append, List.length_cons] at this
        have := memTo_len x 9
        have : (memL x).length ≤ 9 := this
        omega
      obtain ⟨k, ek⟩ : ∃ k, ctzL y = k := ⟨_, rfl⟩
      rw [ek] at HC l1
      obtain ⟨z, ez⟩ : ∃ z, y &&& (y - 1) = z := ⟨_, rfl⟩
      rw [ez] at l1 l3
      have hz : bits BinOp.and IntKind.u64 (y : Int) (IntKind.u64.wrap ((y : Int) - 1)) = (z : Int) := by
        have hy := HI.out.2.1
        have e1 : IntKind.u64.wrap ((y : Int) - 1) = ((y - 1 : Nat) : Int) := by rw [IntKind.wrap_u64]; omega
        rw [e1, bits_and_u64_nat y _ (by omega) (by omega), ez]
      have HL := Lib.hid (And.intro l1 l3)
      clear l1 l2 l3 ek ez
      go_wp2_with (fail)
      refine HC.out.mono ?_
      rintro e w2 ⟨rfl, rfl⟩
      have hsz : w.heap.size ≤ w2.heap.size := HI.out.2.2.2.size
      have HO := Lib.hid HI.out.2.2.1
      have hl2 : xs.length + 1 ≤ 17592186044416 := by omega
      go_wp2_with (at_builtin; refine wpList_append_int rfl (.tmp 12) (.tmp 15) 22 rfl Tryd.underlying22 Tryd.infoE rfl rfl rfl HO.out hl2 hsz ?_; intro g5 c5 w5 hO5 hW5 hS5)
      have HF : Hid (IntsO 3 w.heap.size w5.heap.size w5 (.slice (some ⟨g5, 0, none⟩) (xs.length + 1) c5) (xs ++ [(k : Int)]) ∧ Grew w w5) := ⟨hO5, Within.grew HI.out.2.2.2 hW5 (Nat.le_refl _)⟩
      clear hO5 hW5 hS5
      go_wp2
      go_roundw
      case rel => exact ⟨xs ++ [(k : Int)], some ⟨g5, 0, none⟩, c5, z, by simp, by simp; omega, by first | rfl | rw [hz], by
        rw [List.append_assoc]
        have := HI.out.1
        rw [HL.out.1] at this
        exact this, by have := HL.out.2; have := HI.out.2.1; omega, by rw [List.length_append]; exact HF.out.1, HF.out.2⟩
      case measure =>
        have := HL.out.2
        first | (simp [intOf]; omega) | (simp [intOf, hz]; omega)

def UPost (xs : List Int) (w : World) (e : Ending) (w' : World) : Prop := ∃ g c, e = .returned (.slice (some ⟨g, 0, none⟩) xs.length c) ∧ UO 47 w.heap.size w'.heap.size w' (.slice (some ⟨g, 0, none⟩) xs.length c) xs ∧ Grew w w'
set_option maxRecDepth 100000 in
set_option maxHeartbeats 2000000 in
theorem sightsOf_any (v : Value) (p : List Int) (w : World) (hv : IntsV w v p) (hp : vProf p = true) :
    Calls Tryd.prog 49 #[v] w (UPost (sightsL p p.length 0) w) := by
  obtain ⟨h1, h9⟩ := vProf_len hp
  have HV := Lib.hid hv
  have HP := Lib.hid hp
  obtain ⟨a, b, o, c, rfl, ⟨hlc, hcb⟩, ha, _⟩ := hv.shape
  obtain rfl := ha h1
  clear hv hp ha
  have hlen : p.length ≤ 17592186044416 := by omega
  go_enter Tryd.func49, Tryd.ntmps49
  go_wp2_with (at_make; refine wpList_make_uints rfl (.tmp 8) (.tmp 8) 45 rfl Tryd.underlying45 Tryd.infoU rfl rfl rfl rfl hlen ?_; intro w1 hO1 hg1 hs1; have H1 := Lib.hid (And.intro hO1 (And.intro hg1 hs1)); clear hO1 hg1 hs1)
  have H0 : Hid (UO 47 w.heap.size w1.heap.size w1 (.slice (some ⟨w.heap.size, 0, none⟩) p.length p.length) (sightsL p 0 0) ∧ Grew w w1) := Lib.hid ⟨by rw [sightsL_zero]; exact H1.out.1, H1.out.2.1⟩
  go_loopw [12] (fun i' wr => ∃ i : Nat, i ≤ p.length ∧ i' = .int .i64 i ∧ Hid (UO 47 w.heap.size w1.heap.size wr (.slice (some ⟨w.heap.size, 0, none⟩) p.length p.length) (sightsL p i 0) ∧ Grew w wr)) (fun i' _ => p.length - (intOf i').toNat)
  case atStart => exact ⟨0, Nat.zero_le _, rfl, H0⟩
  case round =>
    obtain ⟨i, hi, rfl, HI⟩ := hrel
    clear H0
    by_cases hlt : i < p.length
    · have HC := Lib.hid (Seen_yes _ p i wr (HV.out.grew HI.out.2) HP.out hlt)
      go_wp2_with (fail)
      refine HC.out.mono ?_
      rintro e w2 ⟨v2, rfl, hO2, hg2⟩
      obtain ⟨a2, c2, rfl⟩ := hO2.sh
      rw [seenL_len] at hO2 ⊢
      obtain ⟨g2, rfl⟩ : ∃ g, a2 = some ⟨g, 0, none⟩ := by
        rcases hO2.shape with ⟨e, e2⟩ | ⟨g, c, e, _⟩
        · exact absurd ((seenL_len p i).symm.trans (congrArg List.length e2)) (by show ¬ p.length = 0; omega)
        · simp only [Value.slice.injEq] at e; exact ⟨g, e.1⟩
      have hb2 := BoolsO.blk hO2
      have H2 := Lib.hid (And.intro hO2 (And.intro (HI.out.1.grew hg2) (And.intro (HI.out.2.trans hg2) hg2)))
      have hne : ¬ w.heap.size = g2 := by have := HI.out.2.size; have := hb2.1; have := (World.ownsRow.lt HI.out.1.1 w.heap.size rfl).2; omega
      obtain ⟨l2, hl2⟩ : ∃ l, wr.heap.size = l := ⟨_, rfl⟩
      rw [hl2] at H2
      have H2' : Hid (BoolsO 4 l2 w2.heap.size w2 (.slice (some ⟨g2, 0, none⟩) p.length c2) (seenL p i) ∧ UO 47 w.heap.size w1.heap.size w2 (.slice (some ⟨w.heap.size, 0, none⟩) p.length p.length) (sightsL p i 0) ∧ Grew w w2) := Lib.hid ⟨H2.out.1, H2.out.2.1, H2.out.2.2.1⟩
      have HLW : Hid (w.heap.size + 1 ≤ l2) := Lib.hid (by rw [← hl2]; exact (World.ownsRow.lt HI.out.1.1 w.heap.size rfl).2)
      clear hO2 hg2 HC HI hb2 hl2 H2
      go_wp2_with (fail)
      go_loopw [19] (fun k' wi => ∃ k : Nat, k ≤ p.length ∧ k' = .int .i64 k ∧ Hid (UO 47 w.heap.size w1.heap.size wi (.slice (some ⟨w.heap.size, 0, none⟩) p.length p.length) (sightsL p i k) ∧ Grew w wi ∧ BoolsO 4 l2 w2.heap.size wi (.slice (some ⟨g2, 0, none⟩) p.length c2) (seenL p i))) (fun k' _ => p.length - (intOf k').toNat)
      case atStart => exact ⟨0, Nat.zero_le _, rfl, H2'.out.2.1, H2'.out.2.2, H2'.out.1⟩
      case round =>
        obtain ⟨k, hk, rfl, HJ⟩ := hrel
        by_cases hlk : k < p.length
        · have hc1 := (HJ.out.2.2.at rfl (i := k) (by rw [seenL_len]; exact hlk)).1
          obtain ⟨z, ez⟩ : ∃ z, (seenL p i).getD k false = z := ⟨_, rfl⟩
          rw [ez] at hc1
          cases z with
          | false =>
            have HE := Lib.hid (sightsL_skip p i k ez)
            clear ez
            go_wp2
            go_roundw
            case rel => exact ⟨k + 1, by omega, by go_num, by rw [HE.out]; exact HJ.out.1, HJ.out.2.1, HJ.out.2.2⟩
            case measure => simp [intOf]; omega
          | true =>
            obtain ⟨hel, hfr⟩ := HJ.out.1.at rfl (i := i) (by rw [sightsL_len]; exact hlt)
            rw [sightsL_at p i k i hlt, if_neg (Nat.lt_irrefl i), if_pos rfl] at hel
            have hlt1 := sightTo_lt p i k
            have hs1 : sightTo p i (k + 1) = sightTo p i k ||| 2 ^ k := by rw [sightTo, if_pos ez]
            have hp2 : 2 ^ k ≤ 2 ^ 9 := Nat.pow_le_pow_right (by decide) (by omega)
            obtain ⟨q, eq⟩ : ∃ q, sightTo p i k = q := ⟨_, rfl⟩
            obtain ⟨u, eu⟩ : ∃ u, 2 ^ k = u := ⟨_, rfl⟩
            rw [eq] at hel hlt1 hs1
            rw [eu] at hlt1 hs1 hp2
            obtain ⟨q', eq'⟩ : ∃ q', q ||| u = q' := ⟨_, rfl⟩
            have hw2 : IntKind.u64.wrap ((2 : Int) ^ k) = (u : Int) := by
              have : ((2 : Int) ^ k) = ((2 ^ k : Nat) : Int) := by simp
              rw [this, eu, IntKind.wrap_u64]; omega
            have hor : bits BinOp.or IntKind.u64 (q : Int) (u : Int) = (q' : Int) := by rw [bits_or_u64_nat q u (by omega) (by omega), eq']
            have HE := Lib.hid (hs1.trans eq')
            have HU := Lib.hid eu
            have r1 : (i : Int) < p.length := by omega
            have r2 : (0 : Int) ≤ i := by omega
            have r3 : (0 : Int) ≤ k := by omega
            clear ez eq eu eq' hlt1 hs1 hp2
            go_wp2
            go_still_tail 8, (by kernel_rfl)
            change wpList _ _ _ _ _ wr.drew
            obtain ⟨W3, hW3⟩ : ∃ W3, wr.drew = W3 := ⟨_, rfl⟩
            have hel3 : W3.cell? ⟨w.heap.size, i, none⟩ = some (.int .u64 (q : Int)) := by rw [← hW3]; exact hel
            have hfr3 : W3.frozen? ⟨w.heap.size, i, none⟩ = false := by rw [← hW3]; exact hfr
            have H3 : Hid (UO 47 w.heap.size w1.heap.size W3 (.slice (some ⟨w.heap.size, 0, none⟩) p.length p.length) (sightsL p i k) ∧ Grew w W3 ∧ BoolsO 4 l2 w2.heap.size W3 (.slice (some ⟨g2, 0, none⟩) p.length c2) (seenL p i)) := by
              rw [← hW3]; exact ⟨HJ.out.1.grew ((Grew.refl _).drew), HJ.out.2.1.drew, HJ.out.2.2.grew ((Grew.refl _).drew)⟩
            rw [hW3]
            clear hW3 hel hfr hc1
            go_wp2
            go_roundw
            case rel => exact ⟨k + 1, by omega, by go_num, by
              have := H3.out.1.set rfl i (q' : Int)
              rw [← HE.out, sightsL_set] at this
              first | (rw [← HE.out]; exact this) | (rw [hw2, hor, ← HE.out]; exact this), Within.grew (lo := w.heap.size) (hi := w.heap.size + 1) H3.out.2.1 ((Within.refl _ _ _).setCell (p := ⟨w.heap.size, i, none⟩) (Nat.le_refl _) (Nat.lt_succ_self _) _) (Nat.le_refl _), H3.out.2.2.within ((Within.refl w.heap.size (w.heap.size + 1) _).setCell (p := ⟨w.heap.size, i, none⟩) (Nat.le_refl _) (Nat.lt_succ_self _) _) (.inr HLW.out)⟩
            case measure => simp [intOf]; omega
        · obtain rfl : k = p.length := by omega
          have HN : Hid (UO 47 w.heap.size w1.heap.size wr (.slice (some ⟨w.heap.size, 0, none⟩) p.length p.length) (sightsL p (i + 1) 0) ∧ Grew w wr) := Lib.hid ⟨by rw [← sightsL_next]; exact HJ.out.1, HJ.out.2.1⟩
          go_wp2
          go_roundw
          case rel => exact ⟨i + 1, by omega, by go_num, HN.out⟩
          case measure => simp [intOf]; omega
    · obtain rfl : i = p.length := by omega
      go_wp2
      go_ret
      have hO := HI.out.1
      exact ⟨w.heap.size, p.length, ret_slice (sightsL_len p p.length 0).symm, by rw [sightsL_len]; exact ⟨hO.1, fun g e => (World.ownsRow.lt hO.1 g e).2⟩, HI.out.2⟩
set_option maxRecDepth 100000 in
set_option maxHeartbeats 2000000 in
theorem seenBySet_any (g c n s : Nat) (p : List Int) (w : World) (hv : UO 47 0 w.heap.size w (.slice (some ⟨g, 0, none⟩) n c) (sightsL p p.length 0)) (hn : n = p.length) (h9 : p.length ≤ 9) (hs : s < 2 ^ p.length) (hD : Deb w) :
    Calls Tryd.prog 51 #[.slice (some ⟨g, 0, none⟩) n c, .int .u64 s] w fun e w' => e = .returned (.int .u64 (seenOf p (memL s) : Nat)) ∧ Grew w w' := by
  have hp9 : 2 ^ p.length ≤ 2 ^ 9 := Nat.pow_le_pow_right (by decide) h9
  have HC := Lib.hid (placesOf_any s (by omega) w hD)
  have HM : Hid (∀ j, j < (memL s).length → ∃ i : Nat, (memL s).getD j 0 = (i : Int) ∧ i < p.length) := Lib.hid fun j hj => by
    have hm : (memL s).getD j 0 ∈ memL s := by rw [List.getD_eq_getElem?_getD, List.getElem?_eq_getElem hj]; exact List.getElem_mem hj
    obtain ⟨i, hi, h1, e⟩ := mem_memTo.1 hm
    exact ⟨i, e, Nat.lt_of_not_le fun h => by rw [testBit_high hs h] at h1; cases h1⟩
  obtain ⟨M, eM⟩ : ∃ M, memL s = M := ⟨_, rfl⟩
  rw [eM] at HC HM ⊢
  have hM9 : M.length ≤ 9 := by rw [← eM]; exact memTo_len s 9
  have HS := Lib.hid hv
  have HP9 := Lib.hid hp9
  subst hn
  clear hv hD hs hp9 eM
  go_enter Tryd.func51, Tryd.ntmps51
  go_wp2_with (fail)
  refine HC.out.mono ?_
  rintro e w2 ⟨v2, rfl, hO2, hg2⟩
  obtain ⟨a2, c2, rfl⟩ := hO2.sh
  have hV2 := hO2.toV
  obtain ⟨a, b, o, c', e2, _, ha, HCC⟩ := hV2.shape
  simp only [Value.slice.injEq, true_and] at e2
  obtain ⟨rfl, rfl⟩ := e2
  have HA := Lib.hid ha
  have H2 := Lib.hid hg2
  obtain ⟨l, el⟩ : ∃ l, M.length = l := ⟨_, rfl⟩
  rw [el] at hM9 HM HA HCC ⊢
  have HEL := Lib.hid el
  clear hO2 hg2 HC hV2 ha el
  go_wp2_with (fail)
  go_loopw [5, 11] (fun x' j' wr => ∃ (j q : Nat), j ≤ l ∧ j' = .int .i64 j ∧ x' = .int .u64 q ∧ Hid (q = seenOf p (M.take j) ∧ ∃ n, wr = w2.drewN n)) (fun _ j' _ => l - (intOf j').toNat)
  case atStart => exact ⟨0, 0, Nat.zero_le _, rfl, rfl, by simp [seenOf], 0, rfl⟩
  case round =>
    obtain ⟨j, q, hj, rfl, rfl, HI⟩ := hrel
    have HQ := Lib.hid (quiet_grew HI.out.2)
    by_cases hlt : j < l
    · obtain ⟨i, ei, hi⟩ := HM.out j hlt
      obtain rfl := HA.out (by omega)
      have hc1 := HQ.out.cell (HCC.out j hlt)
      rw [ei] at hc1
      have hc2 := (((HS.out.grew H2.out).grew HQ.out).at rfl (i := i) (by rw [sightsL_len]; exact hi)).1
      rw [sightsL_at p _ _ i hi, if_pos hi] at hc2
      have hb1 := seenOf_lt p (M.take j)
      rw [← HI.out.1] at hb1
      have hb2 := sightTo_lt p i p.length
      have hnx : seenOf p (M.take (j + 1)) = q ||| sightTo p i p.length := by
        rw [HI.out.1, List.take_succ_eq_append_getElem (by rw [HEL.out]; exact hlt), seenOf_snoc]
        have : M[j]'(by rw [HEL.out]; exact hlt) = (i : Int) := by
          rw [← ei, List.getD_eq_getElem?_getD, List.getElem?_eq_getElem (by rw [HEL.out]; exact hlt)]; rfl
        rw [this, Int.toNat_natCast]
      obtain ⟨u, eu⟩ : ∃ u, sightTo p i p.length = u := ⟨_, rfl⟩
      rw [eu] at hc2 hb2 hnx
      obtain ⟨q', eq'⟩ : ∃ q', q ||| u = q' := ⟨_, rfl⟩
      have hor : bits BinOp.or IntKind.u64 (q : Int) (u : Int) = (q' : Int) := by
        have := HP9.out
        rw [bits_or_u64_nat q u (by omega) (by omega), eq']
      have HN := Lib.hid (hnx.trans eq')
      have r1 : (j : Int) < l := by omega
      have r2 : (0 : Int) ≤ j := by omega
      have r3 : (i : Int) < p.length := by omega
      have r4 : (0 : Int) ≤ i := by omega
      clear ei hb1 hb2 hnx eu eq'
      go_wp2
      go_roundw
      case rel => exact ⟨j + 1, q', by omega, by go_num, by first | rfl | rw [hor], HN.out.symm, by first | exact HI.out.2 | exact quiet_step HI.out.2 _⟩
      case measure => simp [intOf]; omega
    · obtain rfl : j = l := by omega
      have hq := HI.out.1
      rw [List.take_of_length_le (by rw [HEL.out]; exact Nat.le_refl _)] at hq
      have HQ2 := Lib.hid hq
      clear hq
      go_wp2
      go_ret
      exact ⟨congrArg (fun z : Nat => Ending.returned (.int .u64 (z : Int))) HQ2.out, H2.out.trans HQ.out⟩
set_option maxRecDepth 100000 in
set_option maxHeartbeats 1000000 in
theorem Guards_no (v : Value) (p : List Int) (w : World) (hv : IntsV w v p) (h : vProf p = false) :
    Calls Tryd.prog 12 #[v] w (OwnP [] w) := by
  have HV := Lib.hid (ValidProfile_any v p w hv)
  rw [h] at HV
  obtain ⟨a, b, o, c, rfl, ⟨hlc, hcb⟩, _, _⟩ := hv.shape
  clear hv h
  go_enter Tryd.func12, Tryd.ntmps12
  go_wp2_with (fail)
  refine HV.out.mono ?_
  rintro e w1 ⟨rfl, rfl⟩
  go_wp2
  go_ret
  exact ⟨_, rfl, IntsO.nilO _ _ _ _, Grew.refl _⟩
set_option maxRecDepth 100000 in
set_option maxHeartbeats 2000000 in
theorem Guards_yes (v : Value) (p : List Int) (w : World) (hv : IntsV w v p) (hp : vProf p = true) (hD : Deb w) :
    Calls Tryd.prog 12 #[v] w (OwnP (memL (fewTo p (2 ^ p.length - 1))) w) := by
  obtain ⟨h1, h9⟩ := vProf_len hp
  have HV := Lib.hid (ValidProfile_any v p w hv)
  rw [hp] at HV
  have HSI := Lib.hid (sightsOf_any v p w hv hp)
  have HD := Lib.hid hD
  have hp9 : 2 ^ p.length ≤ 2 ^ 9 := Nat.pow_le_pow_right (by decide) h9
  have hp0 := Nat.two_pow_pos p.length
  obtain ⟨U, eU⟩ : ∃ U, 2 ^ p.length = U := ⟨_, rfl⟩
  have hw2 : IntKind.u64.wrap ((2 : Int) ^ p.length) = (U : Int) := by
    have : ((2 : Int) ^ p.length) = ((2 ^ p.length : Nat) : Int) := by simp
    rw [this, eU, IntKind.wrap_u64]; omega
  obtain ⟨A, eA⟩ : ∃ A, U - 1 = A := ⟨_, rfl⟩
  have hA : IntKind.u64.wrap ((U : Int) - 1) = (A : Int) := by rw [IntKind.wrap_u64]; omega
  have HU := Lib.hid eU
  have HLT : Hid (∀ k, k ≤ U → fewTo p k < U) := Lib.hid fun k hk => by rw [← eU] at hk ⊢; exact fewTo_lt p k hk
  have hAU : A < U := by omega
  have hU9 : U ≤ 512 := by omega
  rw [eU, eA]
  have HA : Hid (fewTo p 0 = A) := Lib.hid (by rw [fewTo, eU, eA])
  have HSB : Hid (∀ (g c s : Nat) (W : World), UO 47 0 W.heap.size W (.slice (some ⟨g, 0, none⟩) p.length c) (sightsL p p.length 0) → s < U → Deb W → Calls Tryd.prog 51 #[.slice (some ⟨g, 0, none⟩) p.length c, .int .u64 s] W fun e w' => e = .returned (.int .u64 (seenOf p (memL s) : Nat)) ∧ Grew W w') :=
    Lib.hid fun g c s W h hs hd => seenBySet_any g c p.length s p W h rfl h9 (by rw [eU]; exact hs) hd
  have HCV : Hid (∀ s, s < U → decide (seenOf p (memL s) = A) = coversB p s) := Lib.hid fun s hs => by
    have := seen_all (s := s) h9 (by rw [eU]; exact hs)
    rwa [eU, eA] at this
  obtain ⟨a, b, o, c, rfl, ⟨hlc, hcb⟩, ha, _⟩ := hv.shape
  clear hv hp hD ha hp9 hp0 eU eA
  go_enter Tryd.func12, Tryd.ntmps12
  go_wp2_with (fail)
  refine HV.out.mono ?_
  rintro e w1 ⟨rfl, rfl⟩
  go_wp2_with (fail)
  refine HSI.out.mono ?_
  rintro e w2 ⟨g, c2, rfl, hO2, hg2⟩
  rw [sightsL_len] at hO2 ⊢
  have H2 := Lib.hid (And.intro (hO2.wide (Nat.zero_le _) (Nat.le_refl _)) hg2)
  clear hO2 hg2 HSI
  go_wp2_with (fail)
  clear hw2 hA
  go_loopw [5, 18] (fun f' s' wr => ∃ (s f : Nat), s ≤ A ∧ s' = .int .u64 s ∧ f' = .int .u64 f ∧ Hid (f = fewTo p s ∧ Grew w2 wr)) (fun _ s' _ => A - (intOf s').toNat)
  case atStart => exact ⟨0, A, Nat.zero_le _, rfl, rfl, HA.out.symm, Grew.refl _⟩
  case round =>
    obtain ⟨s, f, hs, rfl, rfl, HI⟩ := hrel
    by_cases hlt : s < A
    · have hfU : f < U := by rw [HI.out.1]; exact HLT.out s (by omega)
      have HO1 := Lib.hid (onesCount_any s (by omega) wr)
      have HO2 := Lib.hid (onesCount_any f (by omega) wr)
      have hstep : fewTo p (s + 1) = if (memL s).length < (memL f).length ∧ coversB p s = true then s else f := by rw [HI.out.1]; rfl
      obtain ⟨n1, e1⟩ : ∃ n1, (memL s).length = n1 := ⟨_, rfl⟩
      obtain ⟨n2, e2⟩ : ∃ n2, (memL f).length = n2 := ⟨_, rfl⟩
      rw [e1] at HO1 hstep
      rw [e2] at HO2 hstep
      have HST := Lib.hid hstep
      have hc := HCV.out s (by omega)
      have HSC := Lib.hid (HSB.out g c2 s wr (by
        have := H2.out.1.grew HI.out.2
        exact ⟨this.1, fun g' e => (World.ownsRow.lt this.1 g' e).2⟩) (by omega) (HD.out.grew (H2.out.2.trans HI.out.2)))
      obtain ⟨q, eq⟩ : ∃ q, seenOf p (memL s) = q := ⟨_, rfl⟩
      rw [eq] at HSC hc
      have HCB := Lib.hid hc
      have hsi : (s : Int) < A := by omega
      clear e1 e2 hstep hc eq hfU
      by_cases hl : n1 < n2
      · have hd : decide ((n1 : Int) < n2) = true := decide_eq_true (by omega)
        go_wp2_with (fail)
        refine HO1.out.mono ?_
        rintro e w3 ⟨rfl, rfl⟩
        go_wp2_with (fail)
        refine HO2.out.mono ?_
        rintro e w4 ⟨rfl, rfl⟩
        go_wp2_with (fail)
        refine HSC.out.mono ?_
        rintro e w5 ⟨rfl, hg5⟩
        have HG5 := Lib.hid (HI.out.2.trans hg5)
        clear hg5
        by_cases hq : q = A
        · have hn : Hid (s = fewTo p (s + 1)) := Lib.hid (by rw [HST.out, if_pos ⟨hl, by rw [← HCB.out]; exact decide_eq_true hq⟩])
          have hqi : ((q : Int) == (A : Int)) = true := by simp [hq]
          clear hq
          go_wp2
          go_roundw
          case rel => exact ⟨s + 1, s, by omega, by first | rfl | go_num, rfl, hn.out, HG5.out⟩
          case measure => simp [intOf]; omega
        · have hn : Hid (f = fewTo p (s + 1)) := Lib.hid (by rw [HST.out, if_neg (fun h => hq (of_decide_eq_true (by rw [HCB.out]; exact h.2)))])
          have hqi : ((q : Int) == (A : Int)) = false := by simp; omega
          clear hq
          go_wp2
          go_roundw
          case rel => exact ⟨s + 1, f, by omega, by first | rfl | go_num, rfl, hn.out, HG5.out⟩
          case measure => simp [intOf]; omega
      · have hd : decide ((n1 : Int) < n2) = false := decide_eq_false (by omega)
        have hn : Hid (f = fewTo p (s + 1)) := Lib.hid (by rw [HST.out, if_neg (fun h => hl h.1)])
        go_wp2_with (fail)
        refine HO1.out.mono ?_
        rintro e w3 ⟨rfl, rfl⟩
        go_wp2_with (fail)
        refine HO2.out.mono ?_
        rintro e w4 ⟨rfl, rfl⟩
        go_wp2
        go_roundw
        case rel => exact ⟨s + 1, f, by omega, by first | rfl | go_num, rfl, hn.out, HI.out.2⟩
        case measure => simp [intOf]; omega
    · obtain rfl : s = A := by omega
      have HPL := Lib.hid (placesOf_any f (by have := HLT.out s (by omega); rw [← HI.out.1] at this; omega) wr (HD.out.grew (H2.out.2.trans HI.out.2)))
      have HFE := Lib.hid HI.out.1
      go_wp2_with (fail)
      refine HPL.out.mono ?_
      rintro e w3 ⟨v3, rfl, hO3, hg3⟩
      have H3 := Lib.hid (And.intro hO3 hg3)
      clear hO3 hg3
      go_wp2
      go_ret
      rw [← HFE.out]
      exact ⟨_, rfl, H3.out.1.wide (H2.out.2.trans HI.out.2).size (Nat.le_refl _), (H2.out.2.trans HI.out.2).trans H3.out.2⟩
theorem GuardsOf_any (v : Value) (p : List Int) (w : World) (hv : IntsV w v p) (hD : Deb w) :
    Calls Tryd.prog 12 #[v] w (OwnP (guardsX p) w) := by
  unfold guardsX
  cases hp : vProf p with
  | true => rw [if_pos rfl]; exact Guards_yes v p w hv hp hD
  | false => rw [if_neg (by simp)]; exact Guards_no v p w hv hp
end Go.Proofs.YtaeenedjmakelaaDoor
