/- The contracts of impl.StandsOf and spec.StandsOf. -/
import Derived.Test.YtdjjimnfhfdjdaaDoorKeeps
import Derived.Test.YtdjjimnfhfdjdaaDoorSKeeps
import Derived.Test.YtdjjimnfhfdjdaaDoorUpside
namespace Go.Proofs.YtdjjimnfhfdjdaaDoor
open Go.RowKit

noncomputable def standsL (h : List (List Int)) : List Int := if vGrid h then keepsL (underL h) else []
theorem standsL_le (h : List (List Int)) : (standsL h).length ≤ 1000000 := by
  unfold standsL
  split
  · exact keepsL_le _
  · simp

set_option maxRecDepth 100000 in
set_option maxHeartbeats 2000000 in
theorem StandsOf_any (v : Value) (h : List (List Int)) (w : World) (hv : RowsV w v h) (hS : Steps w) :
    Calls Tryd.prog 36 #[v] w (OwnI w (standsL h)) := by
  have HK := ValidGrid_any v h w hv
  rw [standsL]
  cases hg : vGrid h with
  | false =>
    rw [hg] at HK
    have HK2 := Lib.hid HK
    rw [if_neg (by simp)]
    obtain ⟨a, b, o, c, rfl, _, _, _⟩ := hv.shape
    clear hv HK hg hS
    go_enter Tryd.func36, Tryd.ntmps36
    go_wp2_with (fail)
    refine HK2.out.mono ?_
    rintro e w1 ⟨rfl, rfl⟩
    have HG := Lib.hid (Grew.refl w)
    go_wp2
    go_ret
    exact ownI_nil HG.out
  | true =>
    rw [hg] at HK
    have HK2 := Lib.hid HK
    rw [if_pos rfl]
    have HU := Lib.hid fun W (hW : Grew w W) => upsideDown_any v h W (hv.grew hW) hg
    have HP := Lib.hid (fun v W (hW : Grew w W) a => KeepsOf_any v (underL h) W a (hS.grew hW))
    obtain ⟨R, eR⟩ : ∃ R, keepsL (underL h) = R := ⟨_, rfl⟩
    obtain ⟨U, eU⟩ : ∃ U, underL h = U := ⟨_, rfl⟩
    rw [eR] at HP ⊢
    rw [eU] at HU HP
    obtain ⟨a, b, o, c, rfl, _, _, _⟩ := hv.shape
    clear hv HK hg eR eU hS
    go_enter Tryd.func36, Tryd.ntmps36
    go_wp2_with (fail)
    refine HK2.out.mono ?_
    rintro e w1 ⟨rfl, rfl⟩
    have HG := Lib.hid (Grew.refl w)
    go_wp2_with (fail)
    refine (HU.out _ HG.out).mono ?_
    rintro e w2 ⟨v2, rfl, hO2, hg2⟩
    obtain ⟨a2, c2, rfl⟩ := hO2.sh
    have H2 := Lib.hid (And.intro hO2.toV (HG.out.trans hg2))
    clear hO2 hg2
    go_wp2_with (fail)
    refine (HP.out _ _ H2.out.2 H2.out.1).mono ?_
    rintro e w3 ho
    obtain ⟨a1, c1, rfl, hO, hG⟩ := ho.shape
    have H1 := Lib.hid (And.intro (hO.wide H2.out.2.size (Nat.le_refl _)) (H2.out.2.trans hG))
    clear ho hO hG
    go_wp2
    go_ret
    exact ⟨a1, c1, rfl, H1.out⟩

set_option maxRecDepth 100000 in
set_option maxHeartbeats 2000000 in
theorem SStandsOf_any (v : Value) (h : List (List Int)) (w : World) (hv : RowsV w v h) :
    Calls Tryd.prog 37 #[v] w (OwnI w (standsL h)) := by
  have HK := sValidGrid_any v h w hv
  rw [standsL]
  cases hg : vGrid h with
  | false =>
    rw [hg] at HK
    have HK2 := Lib.hid HK
    rw [if_neg (by simp)]
    obtain ⟨a, b, o, c, rfl, _, _, _⟩ := hv.shape
    clear hv HK hg
    go_enter Tryd.func37, Tryd.ntmps37
    go_wp2_with (fail)
    refine HK2.out.mono ?_
    rintro e w1 ⟨rfl, hG⟩
    have HG := Lib.hid hG
    clear hG
    go_wp2
    go_ret
    exact ownI_nil HG.out
  | true =>
    rw [hg] at HK
    have HK2 := Lib.hid HK
    rw [if_pos rfl]
    have HU := Lib.hid fun W (hW : Grew w W) => upside_any v h W (hv.grew hW) hg
    have HP := Lib.hid (fun v W (_ : Grew w W) a => SKeepsOf_any v (underL h) W a)
    obtain ⟨R, eR⟩ : ∃ R, keepsL (underL h) = R := ⟨_, rfl⟩
    obtain ⟨U, eU⟩ : ∃ U, underL h = U := ⟨_, rfl⟩
    rw [eR] at HP ⊢
    rw [eU] at HU HP
    obtain ⟨a, b, o, c, rfl, _, _, _⟩ := hv.shape
    clear hv HK hg eR eU
    go_enter Tryd.func37, Tryd.ntmps37
    go_wp2_with (fail)
    refine HK2.out.mono ?_
    rintro e w1 ⟨rfl, hG⟩
    have HG := Lib.hid hG
    clear hG
    go_wp2_with (fail)
    refine (HU.out _ HG.out).mono ?_
    rintro e w2 ⟨v2, rfl, hO2, hg2⟩
    obtain ⟨a2, c2, rfl⟩ := hO2.sh
    have H2 := Lib.hid (And.intro hO2.toV (HG.out.trans hg2))
    clear hO2 hg2
    go_wp2_with (fail)
    refine (HP.out _ _ H2.out.2 H2.out.1).mono ?_
    rintro e w3 ho
    obtain ⟨a1, c1, rfl, hO, hG⟩ := ho.shape
    have H1 := Lib.hid (And.intro (hO.wide H2.out.2.size (Nat.le_refl _)) (H2.out.2.trans hG))
    clear ho hO hG
    go_wp2
    go_ret
    exact ⟨a1, c1, rfl, H1.out⟩
end Go.Proofs.YtdjjimnfhfdjdaaDoor
