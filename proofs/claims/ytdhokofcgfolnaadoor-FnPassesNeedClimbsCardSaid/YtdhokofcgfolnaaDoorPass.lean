/- The contract of impl.PassBetween. -/
import Derived.Test.YtdhokofcgfolnaaDoorFilledFrom
import Derived.Test.YtdhokofcgfolnaaDoorWays
namespace Go.Proofs.YtdhokofcgfolnaaDoor
open Go.RowKit

set_option maxRecDepth 100000 in
set_option maxHeartbeats 2000000 in
theorem PassBetween_any (v : Value) (h : List (List Int)) (i k : Int) (w : World) (hv : RowsV w v h) (hS : Steps w) :
    Calls Tryd.prog 29 #[v, .int .i64 i, .int .i64 k] w fun e w' => e = .returned (.int .i64 (passL h i k)) ∧ Grew w w' := by
  have HK := Lib.hid (validCell_any v h i w hv)
  have HJ := Lib.hid (validCell_any v h k w hv)
  cases hc : vCell h i with
  | false =>
    have HK1 := HK.out
    rw [hc] at HK1
    have HK2 := Lib.hid HK1
    rw [passL_no (by rw [hc]; rfl)]
    obtain ⟨a, b, o, c, rfl, _, _, _⟩ := hv.shape
    clear HK1 HK HJ hc hv hS
    go_enter Tryd.func29, Tryd.ntmps29
    go_wp2_with (fail)
    refine HK2.out.mono ?_
    rintro e w' ⟨rfl, rfl⟩
    go_wp2
    go_ret
    exact ⟨rfl, Grew.refl _⟩
  | true =>
    have HK1 := HK.out
    rw [hc] at HK1
    have HK2 := Lib.hid HK1
    cases hd : vCell h k with
    | false =>
      have HJ1 := HJ.out
      rw [hd] at HJ1
      have HJ2 := Lib.hid HJ1
      rw [passL_no (by rw [hc, hd]; rfl)]
      obtain ⟨a, b, o, c, rfl, _, _, _⟩ := hv.shape
      clear HK1 HK HJ HJ1 hc hd hv hS
      go_enter Tryd.func29, Tryd.ntmps29
      go_wp2_with (fail)
      refine HK2.out.mono ?_
      rintro e w' ⟨rfl, rfl⟩
      go_wp2_with (fail)
      refine HJ2.out.mono ?_
      rintro e w' ⟨rfl, rfl⟩
      go_wp2
      go_ret
      exact ⟨rfl, Grew.refl _⟩
    | true =>
      have HJ1 := HJ.out
      rw [hd] at HJ1
      have HJ2 := Lib.hid HJ1
      obtain ⟨hg, h0, hI, _⟩ := vCell_yes hc
      obtain ⟨_, k0, hK, _⟩ := vCell_yes hd
      obtain ⟨I, rfl⟩ := Int.eq_ofNat_of_zero_le h0
      obtain ⟨K, rfl⟩ := Int.eq_ofNat_of_zero_le k0
      rw [Int.toNat_natCast] at hI hK
      have G := Grid.of hg
      obtain ⟨n, en⟩ : ∃ n, h.length = n := ⟨_, rfl⟩
      obtain ⟨m, em⟩ : ∃ m, (h.getD 0 []).length = m := ⟨_, rfl⟩
      obtain ⟨N, eN⟩ : ∃ N, n * m = N := ⟨_, rfl⟩
      have hIN : I < N := by rw [← eN, ← en, ← em]; exact hI
      have hKN : K < N := by rw [← eN, ← en, ← em]; exact hK
      have hn5 := G.n5
      have hm5 := G.m5
      rw [en] at hn5
      rw [em] at hm5
      have hpn : ∀ i, i < n * m → 0 ≤ h.flatten.getD i 0 ∧ h.flatten.getD i 0 ≤ 12 := fun i hi => grid_num G i (by rw [en, em]; exact hi)
      have HR : Hid (∀ ws, LevelO n m (inO [(I : Int)]) h.flatten ws → passL h I K = ws.getD K 0) := Lib.hid fun ws W => by
        rw [passL_yes hg en em hc hd]
        refine (passN_of hn5 hm5 hpn (by rw [eN]; exact hIN) ?_ K).symm
        have e : inO [(I : Int)] = oneO I := by
          funext x
          simp [inO, oneO]
          omega
        rwa [e] at W
      have HF := Lib.hid fun vo W (hW : Grew w W) (ho : IntsV W vo [(I : Int)]) => filledFrom_any v vo h [(I : Int)] n m N W (hv.grew hW) ho (hS.grew hW) hg en em eN (by simp) (fun x hx => by
        rw [List.mem_singleton] at hx
        omega) (by simp)
      obtain ⟨p, ep⟩ : ∃ p, h.flatten = p := ⟨_, rfl⟩
      rw [ep] at HR HF
      obtain ⟨R, eR⟩ : ∃ R, passL h (I : Int) (K : Int) = R := ⟨_, rfl⟩
      rw [eR] at HR ⊢
      have hKi : (K : Int) < (N : Int) := by omega
      have hN25 : N ≤ 25 := by rw [← eN]; exact Nat.mul_le_mul hn5 hm5
      have hlit := IntsO.lit 3 w.heap.size w [(I : Int)] #[.int .i64 I] rfl (Nat.le_refl _) (show 1 ≤ maxLen by decide)
      have HL := Lib.hid (HF.out _ _ ((Grew.refl w).alloc _) hlit.toV)
      obtain ⟨a, b, o, c, rfl, _, _, _⟩ := hv.shape
      clear HK1 HK HJ HJ1 hc hd hv hS hg h0 k0 hI hK G en em eN ep eR hn5 hm5 hpn hlit HF
      go_enter Tryd.func29, Tryd.ntmps29
      go_wp2_with (fail)
      refine HK2.out.mono ?_
      rintro e w' ⟨rfl, rfl⟩
      go_wp2_with (fail)
      refine HJ2.out.mono ?_
      rintro e w' ⟨rfl, rfl⟩
      go_wp2_with (fail)
      refine HL.out.mono ?_
      rintro e w1 ⟨ws, hwl, hLv, a1, c1, rfl, hO1, hg1⟩
      have HRR : Hid (R = ws.getD K 0) := Lib.hid (HR.out ws hLv)
      obtain ⟨g1, c1', e1, _, _⟩ := hO1.pos (by rw [hwl]; omega)
      obtain ⟨rfl, rfl⟩ : a1 = some ⟨g1, 0, none⟩ ∧ c1 = c1' := by simpa using e1
      have hcK := (hO1.at rfl (i := K) (by rw [hwl]; exact hKN)).1
      rw [← HRR.out] at hcK
      rw [hwl]
      have H1 : Hid (Grew w w1) := Lib.hid (((Grew.refl w).alloc _).trans hg1)
      clear hO1 hg1 hLv hwl e1 HRR HL HR HK2 HJ2
      go_wp2
      go_ret
      exact ⟨rfl, H1.out⟩
end Go.Proofs.YtdhokofcgfolnaaDoor
