/- The contracts of AroundOf and OnEdge, of impl and of spec. -/
import Derived.Test.YtgecghngfonejaaDoorAround
import Derived.Test.YtgecghngfonejaaDoorSGrid
namespace Go.Proofs.YtgecghngfonejaaDoor
open Go.RowKit

def aroundOfL (h : List (List Int)) (i : Int) : List Int := if vCell h i then aroundL h.length (h.getD 0 []).length i.toNat else []
def edgeB (h : List (List Int)) (i : Int) : Bool := vCell h i && decide ((aroundL h.length (h.getD 0 []).length i.toNat).length < 4)
theorem vCell_yes {h : List (List Int)} {i : Int} (hc : vCell h i = true) : vGrid h = true ∧ 0 ≤ i ∧ i.toNat < h.length * (h.getD 0 []).length ∧ i < ((h.length * (h.getD 0 []).length : Nat) : Int) := by
  simp only [vCell, Bool.and_eq_true, decide_eq_true_eq] at hc
  have e : ((h.length * (h.getD 0 []).length : Nat) : Int) = (h.length : Int) * (h.getD 0 []).length := by simp
  refine ⟨hc.1.1, hc.1.2, by omega, by omega⟩
theorem OwnI.shape {w : World} {xs : List Int} {e : Ending} {w' : World} (h : OwnI w xs e w') : ∃ a c, e = .returned (.slice a xs.length c) ∧ IntsO 3 w.heap.size w'.heap.size w' (.slice a xs.length c) xs ∧ Grew w w' := h

set_option maxRecDepth 100000 in
set_option maxHeartbeats 1000000 in
theorem AroundOf_any (v : Value) (h : List (List Int)) (i : Int) (w : World) (hv : RowsV w v h) (hS : Steps w) :
    Calls Tryd.prog 41 #[v, .int .i64 i] w (OwnI w (aroundOfL h i)) := by
  have HK := Lib.hid (validCell_any v h i w hv)
  have HV := Lib.hid (And.intro hv hS)
  obtain ⟨a, b, o, c, rfl, _, _, _⟩ := hv.shape
  clear hv hS
  cases hc : vCell h i with
  | false =>
    have HK1 := HK.out
    rw [hc] at HK1
    have HK2 := Lib.hid HK1
    have HC := Lib.hid hc
    clear HK1 HK hc
    go_enter Tryd.func41, Tryd.ntmps41
    go_wp2_with (fail)
    refine HK2.out.mono ?_
    rintro e w' ⟨rfl, rfl⟩
    go_wp2
    go_ret
    rw [aroundOfL, HC.out]
    exact ⟨none, 0, rfl, ⟨World.ownsRow_nil _ _ _ _, fun g e => by simp [Value.ownBlock] at e⟩, Grew.refl _⟩
  | true =>
    have HK1 := HK.out
    rw [hc] at HK1
    have HK2 := Lib.hid HK1
    have HC := Lib.hid hc
    obtain ⟨hg, h0, hI, _⟩ := vCell_yes hc
    obtain ⟨I, rfl⟩ := Int.eq_ofNat_of_zero_le h0
    have HB := Lib.hid (cellsBeside_any _ h I w HV.out.1 hg hI HV.out.2)
    clear HK1 HK hc hg hI h0
    go_enter Tryd.func41, Tryd.ntmps41
    go_wp2_with (fail)
    refine HK2.out.mono ?_
    rintro e w' ⟨rfl, rfl⟩
    go_wp2_with (fail)
    refine HB.out.mono ?_
    rintro e w2 ⟨a2, c2, rfl, hO, hG⟩
    have HF := Lib.hid (And.intro hO hG)
    clear hO hG
    go_wp2
    go_ret
    rw [aroundOfL, HC.out]
    exact ⟨a2, c2, rfl, HF.out.1, HF.out.2⟩

set_option maxRecDepth 100000 in
set_option maxHeartbeats 1000000 in
theorem atEdge_any (v : Value) (h : List (List Int)) (I : Nat) (w : World) (hv : RowsV w v h) (hg : vGrid h = true) (hI : I < h.length * (h.getD 0 []).length) (hS : Steps w) :
    Calls Tryd.prog 70 #[v, .int .i64 I] w fun e w' => e = .returned (.bool (decide ((aroundL h.length (h.getD 0 []).length I).length < 4))) ∧ Grew w w' := by
  have HB := Lib.hid (cellsBeside_any v h I w hv hg hI hS)
  obtain ⟨a, b, o, c, rfl, _, _, _⟩ := hv.shape
  clear hv hg hI hS
  go_enter Tryd.func70, Tryd.ntmps70
  go_wp2_with (fail)
  refine HB.out.mono ?_
  rintro e w2 ⟨a2, c2, rfl, _, hG⟩
  have HF := Lib.hid hG
  clear hG
  obtain ⟨L, eL⟩ : ∃ L, (aroundL h.length (h.getD 0 []).length I).length = L := ⟨_, rfl⟩
  rw [eL]
  have HL := Lib.hid eL
  clear eL
  by_cases h4 : L < 4
  all_goals
    go_wp2
    go_ret
    refine ⟨ret_bool ?_, HF.out⟩
    rw [HL.out]
    simp; try omega

set_option maxRecDepth 100000 in
set_option maxHeartbeats 1000000 in
theorem OnEdge_any (v : Value) (h : List (List Int)) (i : Int) (w : World) (hv : RowsV w v h) (hS : Steps w) :
    Calls Tryd.prog 26 #[v, .int .i64 i] w fun e w' => e = .returned (.bool (edgeB h i)) ∧ Grew w w' := by
  have HK := Lib.hid (validCell_any v h i w hv)
  have HV := Lib.hid (And.intro hv hS)
  obtain ⟨a, b, o, c, rfl, _, _, _⟩ := hv.shape
  clear hv hS
  cases hc : vCell h i with
  | false =>
    have HK1 := HK.out
    rw [hc] at HK1
    have HK2 := Lib.hid HK1
    have HC := Lib.hid hc
    clear HK1 HK hc
    go_enter Tryd.func26, Tryd.ntmps26
    go_wp2_with (fail)
    refine HK2.out.mono ?_
    rintro e w' ⟨rfl, rfl⟩
    go_wp2
    go_ret
    exact ⟨ret_bool (by rw [edgeB, HC.out]; rfl), Grew.refl _⟩
  | true =>
    have HK1 := HK.out
    rw [hc] at HK1
    have HK2 := Lib.hid HK1
    have HC := Lib.hid hc
    obtain ⟨hg, h0, hI, _⟩ := vCell_yes hc
    obtain ⟨I, rfl⟩ := Int.eq_ofNat_of_zero_le h0
    have HB := Lib.hid (atEdge_any _ h I w HV.out.1 hg hI HV.out.2)
    have HE : Hid (edgeB h (I : Int) = decide ((aroundL h.length (h.getD 0 []).length I).length < 4)) := Lib.hid (by rw [edgeB, HC.out, Int.toNat_natCast, Bool.true_and])
    clear HK1 HK hc hg hI h0
    obtain ⟨bb, ebb⟩ : ∃ bb, decide ((aroundL h.length (h.getD 0 []).length I).length < 4) = bb := ⟨_, rfl⟩
    rw [ebb] at HB HE
    rw [HE.out]
    clear ebb
    go_enter Tryd.func26, Tryd.ntmps26
    go_wp2_with (fail)
    refine HK2.out.mono ?_
    rintro e w' ⟨rfl, rfl⟩
    go_wp2_with (fail)
    refine HB.out.mono ?_
    rintro e w2 ⟨rfl, hG⟩
    have HF := Lib.hid hG
    clear hG
    go_wp2
    go_ret
    exact ⟨rfl, HF.out⟩

theorem inR_cell {h : List (List Int)} {i : Int} (hg : vGrid h = true) : inR i 0 (((h.length * (h.getD 0 []).length : Nat) : Int) - 1) = vCell h i := by
  rw [vCell, hg, inR, Bool.true_and]
  congr 1
  have e : ((h.length * (h.getD 0 []).length : Nat) : Int) = (h.length : Int) * (h.getD 0 []).length := by simp
  rw [Bool.eq_iff_iff, decide_eq_true_eq, decide_eq_true_eq]
  omega
theorem vCell_no {h : List (List Int)} {i : Int} (hg : vGrid h = false) : vCell h i = false := by rw [vCell, hg]; rfl
theorem cells_le {h : List (List Int)} (hg : vGrid h = true) : h.length * (h.getD 0 []).length ≤ 25 := by
  have G := Grid.of hg
  have := Nat.mul_le_mul G.n5 G.m5
  exact this

set_option maxRecDepth 100000 in
set_option maxHeartbeats 1000000 in
theorem SAroundOf_any (v : Value) (h : List (List Int)) (i : Int) (w : World) (hv : RowsV w v h) :
    Calls Tryd.prog 43 #[v, .int .i64 i] w (OwnI w (aroundOfL h i)) := by
  have HK := Lib.hid (sValidGrid_any v h w hv)
  have HV := Lib.hid hv
  obtain ⟨a, b, o, c, rfl, _, _, _⟩ := hv.shape
  clear hv
  cases hg : vGrid h with
  | false =>
    have HK1 := HK.out
    rw [hg] at HK1
    have HK2 := Lib.hid HK1
    have HC := Lib.hid (vCell_no (i := i) hg)
    clear HK1 HK hg
    go_enter Tryd.func43, Tryd.ntmps43
    go_wp2_with (fail)
    refine HK2.out.mono ?_
    rintro e w' ⟨rfl, hG⟩
    have HG := Lib.hid hG
    clear hG
    go_wp2
    go_ret
    rw [aroundOfL, HC.out]
    exact ⟨none, 0, rfl, ⟨World.ownsRow_nil _ _ _ _, fun g e => by simp [Value.ownBlock] at e⟩, HG.out⟩
  | true =>
    have HK1 := HK.out
    rw [hg] at HK1
    have HK2 := Lib.hid HK1
    have HI := Lib.hid (inR_cell (i := i) hg)
    have G := Grid.of hg
    have HN := Lib.hid (fun (W : World) (hW : Grew w W) => cells_any _ h W (HV.out.grew hW) G.n1 (by have := G.n5; omega) (by have := G.m5; omega))
    have hp := cells_le hg
    have HGR := Lib.hid hg
    obtain ⟨p, ep⟩ : ∃ p, h.length * (h.getD 0 []).length = p := ⟨_, rfl⟩
    rw [ep] at hp
    have HI2 : Hid (inR i 0 ((p : Int) - 1) = vCell h i) := by rw [← ep]; exact HI.out
    have HN2 : Hid (∀ (W : World), Grew w W → Calls Tryd.prog 65 #[.slice a h.length c] W fun e w' => e = .returned (.int .i64 (p : Int)) ∧ W = w') := by rw [← ep]; exact HN.out
    have hcon := fun W => inRange_any i 0 ((p : Int) - 1) W
    rw [HI2.out] at hcon
    have HP := Lib.hid ep
    clear HK1 HK hg ep HI HN G
    cases hc : vCell h i with
    | false =>
      rw [hc] at hcon
      have HCON := Lib.hid hcon
      have HC := Lib.hid hc
      clear hc hcon
      go_enter Tryd.func43, Tryd.ntmps43
      go_wp2_with (fail)
      refine HK2.out.mono ?_
      rintro e w1 ⟨rfl, hG⟩
      have HG := Lib.hid hG
      clear hG
      go_wp2_with (fail)
      refine (HN2.out _ HG.out).mono ?_
      rintro e w2 ⟨rfl, rfl⟩
      go_wp2_with (fail)
      refine (HCON.out _).mono ?_
      rintro e w3 ⟨rfl, rfl⟩
      go_wp2
      go_ret
      rw [aroundOfL, HC.out]
      exact ⟨none, 0, rfl, ⟨World.ownsRow_nil _ _ _ _, fun g e => by simp [Value.ownBlock] at e⟩, HG.out⟩
    | true =>
      rw [hc] at hcon
      have HCON := Lib.hid hcon
      have HC := Lib.hid hc
      obtain ⟨_, h0, hI, _⟩ := vCell_yes hc
      obtain ⟨I, rfl⟩ := Int.eq_ofNat_of_zero_le h0
      have HB := Lib.hid (fun (W : World) (hW : Grew w W) => around_any _ h I W (HV.out.grew hW) HGR.out hI)
      clear hc hcon hI h0
      go_enter Tryd.func43, Tryd.ntmps43
      go_wp2_with (fail)
      refine HK2.out.mono ?_
      rintro e w1 ⟨rfl, hG⟩
      have HG := Lib.hid hG
      clear hG
      go_wp2_with (fail)
      refine (HN2.out _ HG.out).mono ?_
      rintro e w2 ⟨rfl, rfl⟩
      go_wp2_with (fail)
      refine (HCON.out _).mono ?_
      rintro e w3 ⟨rfl, rfl⟩
      go_wp2_with (fail)
      refine (HB.out _ HG.out).mono ?_
      rintro e w4 ⟨a2, c2, rfl, hO, hG4⟩
      have HF := Lib.hid (And.intro hO hG4)
      clear hO hG4
      go_wp2
      go_ret
      rw [aroundOfL, HC.out]
      exact ⟨a2, c2, rfl, HF.out.1.wide HG.out.size (Nat.le_refl _), HG.out.trans HF.out.2⟩

set_option maxRecDepth 100000 in
set_option maxHeartbeats 1000000 in
theorem sonEdge_any (v : Value) (h : List (List Int)) (I : Nat) (w : World) (hv : RowsV w v h) (hg : vGrid h = true) (hI : I < h.length * (h.getD 0 []).length) :
    Calls Tryd.prog 82 #[v, .int .i64 I] w fun e w' => e = .returned (.bool (decide ((aroundL h.length (h.getD 0 []).length I).length < 4))) ∧ Grew w w' := by
  have HB := Lib.hid (around_any _ h I w hv hg hI)
  obtain ⟨a, b, o, c, rfl, _, _, _⟩ := hv.shape
  clear hv hg hI
  go_enter Tryd.func82, Tryd.ntmps82
  go_wp2_with (fail)
  refine HB.out.mono ?_
  rintro e w2 ⟨a2, c2, rfl, _, hG⟩
  have HF := Lib.hid hG
  clear hG
  obtain ⟨L, eL⟩ : ∃ L, (aroundL h.length (h.getD 0 []).length I).length = L := ⟨_, rfl⟩
  rw [eL]
  have HL := Lib.hid eL
  clear eL
  by_cases h4 : L < 4
  all_goals
    go_wp2
    go_ret
    refine ⟨ret_bool ?_, HF.out⟩
    rw [HL.out]
    simp; try omega

set_option maxRecDepth 100000 in
set_option maxHeartbeats 1000000 in
theorem SOnEdge_any (v : Value) (h : List (List Int)) (i : Int) (w : World) (hv : RowsV w v h) :
    Calls Tryd.prog 47 #[v, .int .i64 i] w fun e w' => e = .returned (.bool (edgeB h i)) ∧ Grew w w' := by
  have HK := Lib.hid (sValidGrid_any v h w hv)
  have HV := Lib.hid hv
  obtain ⟨a, b, o, c, rfl, _, _, _⟩ := hv.shape
  clear hv
  cases hg : vGrid h with
  | false =>
    have HK1 := HK.out
    rw [hg] at HK1
    have HK2 := Lib.hid HK1
    have HC := Lib.hid (vCell_no (i := i) hg)
    clear HK1 HK hg
    go_enter Tryd.func47, Tryd.ntmps47
    go_wp2_with (fail)
    refine HK2.out.mono ?_
    rintro e w' ⟨rfl, hG⟩
    have HG := Lib.hid hG
    clear hG
    go_wp2
    go_ret
    exact ⟨ret_bool (by rw [edgeB, HC.out]; rfl), HG.out⟩
  | true =>
    have HK1 := HK.out
    rw [hg] at HK1
    have HK2 := Lib.hid HK1
    have HI := Lib.hid (inR_cell (i := i) hg)
    have G := Grid.of hg
    have HN := Lib.hid (fun (W : World) (hW : Grew w W) => cells_any _ h W (HV.out.grew hW) G.n1 (by have := G.n5; omega) (by have := G.m5; omega))
    have hp := cells_le hg
    have HGR := Lib.hid hg
    obtain ⟨p, ep⟩ : ∃ p, h.length * (h.getD 0 []).length = p := ⟨_, rfl⟩
    rw [ep] at hp
    have HI2 : Hid (inR i 0 ((p : Int) - 1) = vCell h i) := by rw [← ep]; exact HI.out
    have HN2 : Hid (∀ (W : World), Grew w W → Calls Tryd.prog 65 #[.slice a h.length c] W fun e w' => e = .returned (.int .i64 (p : Int)) ∧ W = w') := by rw [← ep]; exact HN.out
    have hcon := fun W => inRange_any i 0 ((p : Int) - 1) W
    rw [HI2.out] at hcon
    clear HK1 HK hg ep HI HN G
    cases hc : vCell h i with
    | false =>
      rw [hc] at hcon
      have HCON := Lib.hid hcon
      have HC := Lib.hid hc
      clear hc hcon
      go_enter Tryd.func47, Tryd.ntmps47
      go_wp2_with (fail)
      refine HK2.out.mono ?_
      rintro e w1 ⟨rfl, hG⟩
      have HG := Lib.hid hG
      clear hG
      go_wp2_with (fail)
      refine (HN2.out _ HG.out).mono ?_
      rintro e w2 ⟨rfl, rfl⟩
      go_wp2_with (fail)
      refine (HCON.out _).mono ?_
      rintro e w3 ⟨rfl, rfl⟩
      go_wp2
      go_ret
      exact ⟨ret_bool (by rw [edgeB, HC.out]; rfl), HG.out⟩
    | true =>
      rw [hc] at hcon
      have HCON := Lib.hid hcon
      have HC := Lib.hid hc
      obtain ⟨_, h0, hI, _⟩ := vCell_yes hc
      obtain ⟨I, rfl⟩ := Int.eq_ofNat_of_zero_le h0
      have HB := Lib.hid (fun (W : World) (hW : Grew w W) => sonEdge_any _ h I W (HV.out.grew hW) HGR.out hI)
      clear hc hcon hI h0
      go_enter Tryd.func47, Tryd.ntmps47
      go_wp2_with (fail)
      refine HK2.out.mono ?_
      rintro e w1 ⟨rfl, hG⟩
      have HG := Lib.hid hG
      clear hG
      go_wp2_with (fail)
      refine (HN2.out _ HG.out).mono ?_
      rintro e w2 ⟨rfl, rfl⟩
      go_wp2_with (fail)
      refine (HCON.out _).mono ?_
      rintro e w3 ⟨rfl, rfl⟩
      go_wp2_with (fail)
      refine (HB.out _ HG.out).mono ?_
      rintro e w4 ⟨rfl, hG4⟩
      have HF := Lib.hid hG4
      clear hG4
      go_wp2
      go_ret
      exact ⟨ret_bool (by rw [edgeB, HC.out]; rfl), HG.out.trans HF.out⟩
end Go.Proofs.YtgecghngfonejaaDoor
