/- The walk of slices.BinarySearchFunc at pairs. -/
import Derived.Test.YtjibmfignifpcaaDoorQueueOf
import Derived.Deep.RegionHeld3
namespace Go.Proofs.YtjibmfignifpcaaDoor
open Go.RowKit

theorem half_lt {lo hi : Nat} (h : lo < hi) : lo ≤ (lo + hi) / 2 ∧ (lo + hi) / 2 < hi := by omega

set_option maxHeartbeats 20000000 in
theorem bsearch_any (a : Option Addr) (b o c : Nat) (q : List (Int × Int)) (x y : Int) (fk : Nat) (lb : Array Value) (eg : ∀ (args : Array Value) (w : World), (callFunc fk args).run Tryd.prog w = .ok (.enter fk args) w) (w : World)
    (hC : ∀ (c1 w1 c2 w2 : Int) (W : World), Calls Tryd.prog fk (#[.agg #[.int .i64 c1, .int .i64 w1], .agg #[.int .i64 c2, .int .i64 w2]] ++ lb) W fun e w' => e = .returned (.int .i64 (cmpI w1 w2)) ∧ Grew W w')
    (hlen : q.length ≤ 1000) (hcap : q.length ≤ c ∧ c ≤ 9223372036854775807) (ha : 0 < q.length → a = some ⟨b, o, none⟩)
    (hq : ∀ j, j < q.length → w.cell? ⟨b, o + j * 2, none⟩ = some (.int .i64 (q.getD j (0, 0)).1) ∧ w.cell? ⟨b, o + j * 2 + 1, none⟩ = some (.int .i64 (q.getD j (0, 0)).2))
    (hs : ∀ s t, s ≤ t → t < q.length → (q.getD s (0, 0)).2 ≤ (q.getD t (0, 0)).2) :
    Calls Tryd.prog 92 #[.slice a q.length c, .agg #[.int .i64 x, .int .i64 y], .func (.func fk) #[] lb] w
      fun e w' => ∃ (k : Nat) (bb : Bool), e = .returned (.tuple #[.int .i64 (k : Int), .bool bb]) ∧ k ≤ q.length ∧ (∀ t, t < k → (q.getD t (0, 0)).2 < y) ∧ (∀ t, k ≤ t → t < q.length → y ≤ (q.getD t (0, 0)).2) ∧ Grew w w' := by
  obtain ⟨n, en⟩ : ∃ n, q.length = n := ⟨_, rfl⟩
  rw [en] at hlen hcap ha hq hs ⊢
  have HC := Lib.hid hC
  have HA := Lib.hid ha
  have HQ := Lib.hid hq
  have HS := Lib.hid hs
  clear hC ha hq hs en
  obtain ⟨hc1, hc2⟩ := hcap
  go_enter Tryd.func92, Tryd.ntmps92
  go_wp2
  have H0 : Hid (Grew w (w.alloc (.cells #[.int .i64 x, .int .i64 y] 52)) ∧ (w.alloc (.cells #[.int .i64 x, .int .i64 y] 52)).cell? ⟨w.heap.size, 0, none⟩ = some (.int .i64 x) ∧ (w.alloc (.cells #[.int .i64 x, .int .i64 y] 52)).cell? ⟨w.heap.size, 1, none⟩ = some (.int .i64 y)) :=
    Lib.hid ⟨(Grew.refl w).alloc _, by simp, by simp⟩
  go_loopg [9, 10] n (fun kx s9 s10 wr => ∃ lo hi : Nat, s9 = .int .i64 lo ∧ s10 = .int .i64 hi ∧ lo ≤ hi ∧ hi ≤ n ∧ hi - lo ≤ kx ∧
    Hid (Grew w wr ∧ wr.cell? ⟨w.heap.size, 0, none⟩ = some (.int .i64 x) ∧ wr.cell? ⟨w.heap.size, 1, none⟩ = some (.int .i64 y) ∧ (∀ t, t < lo → (q.getD t (0, 0)).2 < y) ∧ (∀ t, hi ≤ t → t < n → y ≤ (q.getD t (0, 0)).2)))
  case atStart => exact ⟨0, n, rfl, rfl, Nat.zero_le _, Nat.le_refl _, by omega, H0.out.1, H0.out.2.1, H0.out.2.2, fun t ht => absurd ht (Nat.not_lt_zero _), fun t h1 h2 => by omega⟩
  case round =>
    clear H0
    obtain ⟨lo, hi, rfl, rfl, hlh, hin, hg, HI⟩ := hrel
    have hcx := HI.out.2.1
    have hcy := HI.out.2.2.1
    by_cases hlt : lo < hi
    · obtain ⟨hh1, hh2⟩ := half_lt hlt
      obtain ⟨he1, he2⟩ := HQ.out ((lo + hi) / 2) (by omega)
      have he1 := HI.out.1.cell he1
      have he2 := HI.out.1.cell he2
      obtain rfl := HA.out (by omega)
      obtain ⟨u, eu⟩ : ∃ u, (q.getD ((lo + hi) / 2) (0, 0)).1 = u := ⟨_, rfl⟩
      obtain ⟨v, ev⟩ : ∃ v, (q.getD ((lo + hi) / 2) (0, 0)).2 = v := ⟨_, rfl⟩
      rw [eu] at he1
      rw [ev] at he2
      have HV := Lib.hid ev
      have HCV := Lib.hid fun W => HC.out u v x y W
      have hcm : cmpI v y < 0 ↔ v < y := by
        unfold cmpI
        by_cases h1 : v < y
        · simp [h1]
        · by_cases h2 : y < v <;> simp [h1, h2]
      obtain ⟨R, eR⟩ : ∃ R, cmpI v y = R := ⟨_, rfl⟩
      rw [eR] at HCV hcm
      clear eu ev eR

      have HFW : Hid (∀ W, Grew wr W → Grew w W ∧ W.cell? ⟨w.heap.size, 0, none⟩ = some (.int .i64 x) ∧ W.cell? ⟨w.heap.size, 1, none⟩ = some (.int .i64 y)) := Lib.hid fun W hW => ⟨HI.out.1.trans hW, hW.cell HI.out.2.1, hW.cell HI.out.2.2.1⟩
      by_cases hvy : v < y
      · have hR : R < 0 := hcm.2 hvy
        have HLO : Hid (∀ t, t < (lo + hi) / 2 + 1 → (q.getD t (0, 0)).2 < y) := Lib.hid fun t ht => by
          have := HS.out t ((lo + hi) / 2) (by omega) (by omega)
          rw [HV.out] at this
          omega
        go_wp2
        go_region_with (go_at_fn fk; refine (HCV.out _).mono ?_; rintro e w' ⟨rfl, hgw⟩; have HGW : Hid (Grew wr w') := Lib.hid (by first | exact hgw | exact ((Grew.refl wr).drewN _).trans hgw | exact ((Grew.refl wr).drew).trans hgw); clear hgw)
        all_goals
          go_wp2
          go_roundg (hi - ((lo + hi) / 2 + 1))
          case measure => omega
          case rel =>
            obtain ⟨f1, f2, f3⟩ := HFW.out _ HGW.out
            exact ⟨(lo + hi) / 2 + 1, hi, by rw [show ((lo : Int) + (hi : Int)) / 2 + 1 = (((lo + hi) / 2 + 1 : Nat) : Int) by omega], rfl, by omega, hin, Nat.le_refl _, f1, f2, f3, HLO.out, HI.out.2.2.2.2⟩
      · have hR : ¬ R < 0 := fun h => hvy (hcm.1 h)
        have HHI : Hid (∀ t, (lo + hi) / 2 ≤ t → t < n → y ≤ (q.getD t (0, 0)).2) := Lib.hid fun t ht htn => by
          have := HS.out ((lo + hi) / 2) t ht htn
          rw [HV.out] at this
          omega
        go_wp2
        go_region_with (go_at_fn fk; refine (HCV.out _).mono ?_; rintro e w' ⟨rfl, hgw⟩; have HGW : Hid (Grew wr w') := Lib.hid (by first | exact hgw | exact ((Grew.refl wr).drewN _).trans hgw | exact ((Grew.refl wr).drew).trans hgw); clear hgw)
        all_goals
          go_wp2
          go_roundg ((lo + hi) / 2 - lo)
          case measure => omega
          case rel =>
            obtain ⟨f1, f2, f3⟩ := HFW.out _ HGW.out
            exact ⟨lo, (lo + hi) / 2, rfl, by rw [show ((lo : Int) + (hi : Int)) / 2 = (((lo + hi) / 2 : Nat) : Int) by omega], by omega, by omega, Nat.le_refl _, f1, f2, f3, HI.out.2.2.2.1, HHI.out⟩
    · obtain rfl : hi = lo := by omega
      have HF : Hid (∀ W, Grew wr W → (∀ t, t < hi → (q.getD t (0, 0)).2 < y) ∧ (∀ t, hi ≤ t → t < n → y ≤ (q.getD t (0, 0)).2) ∧ Grew w W) := Lib.hid fun W hW => ⟨HI.out.2.2.2.1, HI.out.2.2.2.2, HI.out.1.trans hW⟩
      by_cases hn : hi < n
      · obtain ⟨he1, he2⟩ := HQ.out hi hn
        have he1 := HI.out.1.cell he1
        have he2 := HI.out.1.cell he2
        obtain rfl := HA.out (by omega)
        obtain ⟨u, eu⟩ : ∃ u, (q.getD hi (0, 0)).1 = u := ⟨_, rfl⟩
        obtain ⟨v, ev⟩ : ∃ v, (q.getD hi (0, 0)).2 = v := ⟨_, rfl⟩
        rw [eu] at he1
        rw [ev] at he2
        have HCV := Lib.hid fun W => HC.out u v x y W
        obtain ⟨R, eR⟩ : ∃ R, cmpI v y = R := ⟨_, rfl⟩
        rw [eR] at HCV
        clear eu ev eR
        have hd : decide ((hi : Int) < (n : Int)) = true := decide_eq_true (by omega)
        have HKP : Hid (∀ W W' : World, (Grew wr W ∧ W.cell? ⟨b, o + hi * 2, none⟩ = some (.int .i64 u) ∧ W.cell? ⟨b, o + hi * 2 + 1, none⟩ = some (.int .i64 v) ∧ W.cell? ⟨w.heap.size, 0, none⟩ = some (.int .i64 x) ∧ W.cell? ⟨w.heap.size, 1, none⟩ = some (.int .i64 y)) → Grew W W' →
            (Grew wr W' ∧ W'.cell? ⟨b, o + hi * 2, none⟩ = some (.int .i64 u) ∧ W'.cell? ⟨b, o + hi * 2 + 1, none⟩ = some (.int .i64 v) ∧ W'.cell? ⟨w.heap.size, 0, none⟩ = some (.int .i64 x) ∧ W'.cell? ⟨w.heap.size, 1, none⟩ = some (.int .i64 y))) :=
          Lib.hid fun W W' h g => ⟨h.1.trans g, g.cell h.2.1, g.cell h.2.2.1, g.cell h.2.2.2.1, g.cell h.2.2.2.2⟩
        have HS0 : Hid (Grew wr wr.drew ∧ wr.drew.cell? ⟨b, o + hi * 2, none⟩ = some (.int .i64 u) ∧ wr.drew.cell? ⟨b, o + hi * 2 + 1, none⟩ = some (.int .i64 v) ∧ wr.drew.cell? ⟨w.heap.size, 0, none⟩ = some (.int .i64 x) ∧ wr.drew.cell? ⟨w.heap.size, 1, none⟩ = some (.int .i64 y)) :=
          Lib.hid (HKP.out wr wr.drew ⟨Grew.refl _, he1, he2, hcx, hcy⟩ ((Grew.refl _).drew))
        go_wp2
        go_region_held3 (fun W => Grew wr W ∧ W.cell? ⟨b, o + hi * 2, none⟩ = some (.int .i64 u) ∧ W.cell? ⟨b, o + hi * 2 + 1, none⟩ = some (.int .i64 v) ∧ W.cell? ⟨w.heap.size, 0, none⟩ = some (.int .i64 x) ∧ W.cell? ⟨w.heap.size, 1, none⟩ = some (.int .i64 y))
          (first
            | exact HS0.out
            | assumption
            | exact HKP.out _ _ (by assumption) hgw
            | exact HKP.out _ _ (by assumption) ((Grew.refl _).drew))
          (first
            | (go_at_fn fk; refine (HCV.out _).mono ?_; rintro e w' ⟨rfl, hgw⟩))
        all_goals
          have HGF := Lib.hid (And.left (by assumption : Grew wr _ ∧ _))
          go_wp2
          go_ret2
          exact ⟨hi, _, rfl, hin, HF.out _ HGF.out⟩
      · have hd : decide ((hi : Int) < (n : Int)) = false := decide_eq_false (by omega)
        go_wp2
        go_quiet (fail)
        go_wp2
        go_ret2
        exact ⟨hi, _, rfl, hin, HF.out _ ((Grew.refl _).drewN _)⟩
end Go.Proofs.YtjibmfignifpcaaDoor
