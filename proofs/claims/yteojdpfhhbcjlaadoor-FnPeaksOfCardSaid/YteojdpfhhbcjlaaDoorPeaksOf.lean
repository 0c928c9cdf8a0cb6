/- The contracts of PeaksOf and PitsOf, of both packages. -/
import Derived.Test.YteojdpfhhbcjlaaDoorEnds
namespace Go.Proofs.YteojdpfhhbcjlaaDoor
open Go.RowKit

noncomputable def peaksL (h : List (List Int)) : List Int := endsL ovUp h
noncomputable def pitsL (h : List (List Int)) : List Int := endsL ovDown h
theorem peaksL_le (h : List (List Int)) : (peaksL h).length ≤ 1000000 := endsL_le _ h
theorem pitsL_le (h : List (List Int)) : (pitsL h).length ≤ 1000000 := endsL_le _ h

set_option maxHeartbeats 1000000 in
theorem upClo_any (x y : Int) (W : World) : Calls Tryd.prog 63 (#[.int .i64 x, .int .i64 y] ++ #[]) W fun e w' => e = .returned (.bool (ovUp x y)) ∧ w' = W := by
  show Calls Tryd.prog 63 #[.int .i64 x, .int .i64 y] W _
  go_enter Tryd.func63, Tryd.ntmps63
  go_wp2
  go_ret
  exact ⟨ret_bool (by simp [ovUp]), rfl⟩
set_option maxHeartbeats 1000000 in
theorem downClo_any (x y : Int) (W : World) : Calls Tryd.prog 66 (#[.int .i64 x, .int .i64 y] ++ #[]) W fun e w' => e = .returned (.bool (ovDown x y)) ∧ w' = W := by
  show Calls Tryd.prog 66 #[.int .i64 x, .int .i64 y] W _
  go_enter Tryd.func66, Tryd.ntmps66
  go_wp2
  go_ret
  exact ⟨ret_bool (by simp [ovDown]), rfl⟩

set_option maxHeartbeats 1000000 in
theorem PeaksOf_any (v : Value) (h : List (List Int)) (w : World) (hv : RowsV w v h) (hS : Steps w) :
    Calls Tryd.prog 22 #[v] w (OwnI w (peaksL h)) := by
  have HF := Lib.hid (flatsWithout_any v h ovUp 63 #[] (enters_of Tryd.func63 (by kernel_rfl) rfl) w hv hS upClo_any)
  obtain ⟨R, eR⟩ : ∃ R, endsL ovUp h = R := ⟨_, rfl⟩
  rw [peaksL]
  rw [eR] at HF ⊢
  obtain ⟨a, b, o, c, rfl, _, _, _⟩ := hv.shape
  clear hv hS eR
  go_enter Tryd.func22, Tryd.ntmps22
  go_wp2_with (fail)
  refine HF.out.mono ?_
  rintro e w1 ho
  obtain ⟨a1, c1, rfl, hO, hG⟩ := ho.shape
  have H1 := Lib.hid (And.intro hO hG)
  clear ho hO hG
  go_wp2
  go_ret
  exact ⟨a1, c1, rfl, H1.out⟩
set_option maxHeartbeats 1000000 in
theorem PitsOf_any (v : Value) (h : List (List Int)) (w : World) (hv : RowsV w v h) (hS : Steps w) :
    Calls Tryd.prog 26 #[v] w (OwnI w (pitsL h)) := by
  have HF := Lib.hid (flatsWithout_any v h ovDown 66 #[] (enters_of Tryd.func66 (by kernel_rfl) rfl) w hv hS downClo_any)
  obtain ⟨R, eR⟩ : ∃ R, endsL ovDown h = R := ⟨_, rfl⟩
  rw [pitsL]
  rw [eR] at HF ⊢
  obtain ⟨a, b, o, c, rfl, _, _, _⟩ := hv.shape
  clear hv hS eR
  go_enter Tryd.func26, Tryd.ntmps26
  go_wp2_with (fail)
  refine HF.out.mono ?_
  rintro e w1 ho
  obtain ⟨a1, c1, rfl, hO, hG⟩ := ho.shape
  have H1 := Lib.hid (And.intro hO hG)
  clear ho hO hG
  go_wp2
  go_ret
  exact ⟨a1, c1, rfl, H1.out⟩

set_option maxHeartbeats 1000000 in
theorem SPeaksOf_any (v : Value) (h : List (List Int)) (w : World) (hv : RowsV w v h) :
    Calls Tryd.prog 24 #[v] w (OwnI w (peaksL h)) := by
  have HK := sValidGrid_any v h w hv
  rw [peaksL]
  cases hg : vGrid h with
  | false =>
    rw [hg] at HK
    have HK2 := Lib.hid HK
    rw [endsL_no hg]
    obtain ⟨a, b, o, c, rfl, _, _, _⟩ := hv.shape
    clear hv HK hg
    go_enter Tryd.func24, Tryd.ntmps24
    go_wp2_with (fail)
    refine HK2.out.mono ?_
    rintro e w1 ⟨rfl, hG⟩
    have HG := Lib.hid hG
    clear hG
    go_wp2
    go_ret
    exact ownI_nil HG.out
  | true =>
    rw [hg] at HK
    have HK2 := Lib.hid HK
    have HE := Lib.hid fun W (hW : Grew w W) => ends_any v h true W (hv.grew hW) hg
    obtain ⟨R, eR⟩ : ∃ R, endsL ovUp h = R := ⟨_, rfl⟩
    have HE2 : Hid (∀ W, Grew w W → Calls Tryd.prog 64 #[v, .bool true] W (OwnI W R)) := Lib.hid fun W hW => by
      have := HE.out W hW
      simp only [if_true] at this
      rwa [eR] at this
    rw [eR]
    obtain ⟨a, b, o, c, rfl, _, _, _⟩ := hv.shape
    clear hv HK hg HE eR
    go_enter Tryd.func24, Tryd.ntmps24
    go_wp2_with (fail)
    refine HK2.out.mono ?_
    rintro e w1 ⟨rfl, hG⟩
    have HG := Lib.hid hG
    clear hG
    go_wp2_with (fail)
    refine (HE2.out _ HG.out).mono ?_
    rintro e w2 ho
    obtain ⟨a1, c1, rfl, hO, hG⟩ := ho.shape
    have H1 := Lib.hid (And.intro (hO.wide HG.out.size (Nat.le_refl _)) (HG.out.trans hG))
    clear ho hO hG
    go_wp2
    go_ret
    exact ⟨a1, c1, rfl, H1.out⟩

set_option maxHeartbeats 1000000 in
theorem SPitsOf_any (v : Value) (h : List (List Int)) (w : World) (hv : RowsV w v h) :
    Calls Tryd.prog 31 #[v] w (OwnI w (pitsL h)) := by
  have HK := sValidGrid_any v h w hv
  rw [pitsL]
  cases hg : vGrid h with
  | false =>
    rw [hg] at HK
    have HK2 := Lib.hid HK
    rw [endsL_no hg]
    obtain ⟨a, b, o, c, rfl, _, _, _⟩ := hv.shape
    clear hv HK hg
    go_enter Tryd.func31, Tryd.ntmps31
    go_wp2_with (fail)
    refine HK2.out.mono ?_
    rintro e w1 ⟨rfl, hG⟩
    have HG := Lib.hid hG
    clear hG
    go_wp2
    go_ret
    exact ownI_nil HG.out
  | true =>
    rw [hg] at HK
    have HK2 := Lib.hid HK
    have HE := Lib.hid fun W (hW : Grew w W) => ends_any v h false W (hv.grew hW) hg
    obtain ⟨R, eR⟩ : ∃ R, endsL ovDown h = R := ⟨_, rfl⟩
    have HE2 : Hid (∀ W, Grew w W → Calls Tryd.prog 64 #[v, .bool false] W (OwnI W R)) := Lib.hid fun W hW => by
      have := HE.out W hW
      simp only [Bool.false_eq_true, if_false] at this
      rwa [eR] at this
    rw [eR]
    obtain ⟨a, b, o, c, rfl, _, _, _⟩ := hv.shape
    clear hv HK hg HE eR
    go_enter Tryd.func31, Tryd.ntmps31
    go_wp2_with (fail)
    refine HK2.out.mono ?_
    rintro e w1 ⟨rfl, hG⟩
    have HG := Lib.hid hG
    clear hG
    go_wp2_with (fail)
    refine (HE2.out _ HG.out).mono ?_
    rintro e w2 ho
    obtain ⟨a1, c1, rfl, hO, hG⟩ := ho.shape
    have H1 := Lib.hid (And.intro (hO.wide HG.out.size (Nat.le_refl _)) (HG.out.trans hG))
    clear ho hO hG
    go_wp2
    go_ret
    exact ⟨a1, c1, rfl, H1.out⟩
end Go.Proofs.YteojdpfhhbcjlaaDoor
