/- The contract of impl.FillByQueue. -/
import Derived.Test.YtgecghngfonejaaDoorFilledFrom
import Derived.Test.YtgecghngfonejaaDoorWhereG
namespace Go.Proofs.YtgecghngfonejaaDoor
open Go.RowKit

/-- The cells at the edge before k. -/
def rimL (n m : Nat) : Nat → List Int
  | 0 => []
  | k + 1 => if edgeL n m k then rimL n m k ++ [(k : Int)] else rimL n m k
theorem rimL_le (n m : Nat) : ∀ k, (rimL n m k).length ≤ k
  | 0 => Nat.le_refl _
  | k + 1 => by
    have := rimL_le n m k
    unfold rimL
    split
    · simp only [List.length_append, List.length_singleton]; omega
    · omega
theorem rimL_mem (n m : Nat) : ∀ k (x : Int), x ∈ rimL n m k ↔ ∃ i : Nat, i < k ∧ x = i ∧ edgeL n m i = true
  | 0, x => by simp [rimL]
  | k + 1, x => by
    have ih := rimL_mem n m k x
    unfold rimL
    split
    · rename_i he
      rw [List.mem_append, ih, List.mem_singleton]
      constructor
      · rintro (⟨i, h1, h2, h3⟩ | h)
        · exact ⟨i, by omega, h2, h3⟩
        · exact ⟨k, by omega, h, he⟩
      · rintro ⟨i, h1, h2, h3⟩
        by_cases e : i = k
        · subst e; exact .inr h2
        · exact .inl ⟨i, by omega, h2, h3⟩
    · rename_i he
      rw [ih]
      constructor
      · rintro ⟨i, h1, h2, h3⟩
        exact ⟨i, by omega, h2, h3⟩
      · rintro ⟨i, h1, h2, h3⟩
        refine ⟨i, ?_, h2, h3⟩
        by_cases e : i = k
        · subst e; exact absurd h3 he
        · omega
theorem rimL_nodup (n m : Nat) : ∀ k, (rimL n m k).Nodup
  | 0 => List.nodup_nil
  | k + 1 => by
    have ih := rimL_nodup n m k
    unfold rimL
    split
    · rw [List.nodup_append]
      refine ⟨ih, by simp, fun a ha b hb e => ?_⟩
      rw [rimL_mem] at ha
      obtain ⟨i, h1, h2, _⟩ := ha
      simp only [List.mem_singleton] at hb
      omega
    · exact ih
theorem rimL_yes {n m k : Nat} (h : edgeL n m k = true) : rimL n m (k + 1) = rimL n m k ++ [(k : Int)] := by rw [rimL, if_pos h]
theorem rimL_no {n m k : Nat} (h : edgeL n m k = false) : rimL n m (k + 1) = rimL n m k := by rw [rimL, if_neg (by rw [h]; simp)]
theorem rimL_pos {n m N : Nat} (hN : 0 < N) : 0 < (rimL n m N).length := by
  have : (0 : Int) ∈ rimL n m N := (rimL_mem n m N 0).2 ⟨0, hN, rfl, left_edge n m 0 (Nat.zero_mod m)⟩
  exact List.length_pos_of_mem this

theorem rimL_where (n m : Nat) : ∀ k, rimL n m k = whereL k (edgeL n m)
  | 0 => rfl
  | k + 1 => by
    rw [whereL_succ, ← rimL_where n m k]
    by_cases h : edgeL n m k = true
    · rw [if_pos h, rimL_yes h]
    · rw [if_neg h, rimL_no (by simpa using h), List.append_nil]
set_option maxRecDepth 100000 in
set_option maxHeartbeats 1000000 in
theorem edgeClo_any (B : Nat) (v : Value) (h : List (List Int)) (I : Nat) (W : World) (hB : W.cell? ⟨B, 0, none⟩ = some v) (hv : RowsV W v h) (hg : vGrid h = true) (hI : I < h.length * (h.getD 0 []).length) (hS : Steps W) :
    Calls Tryd.prog 69 #[.int .i64 I, .pointer (some ⟨B, 0, none⟩)] W fun e w' => e = .returned (.bool (edgeL h.length (h.getD 0 []).length I)) ∧ Grew W w' := by
  have HE := Lib.hid (atEdge_any v h I W hv hg hI hS)
  obtain ⟨a, b, o, c, rfl, _, _, _⟩ := hv.shape
  unfold edgeL
  obtain ⟨R, eR⟩ : ∃ R, decide ((aroundL h.length (h.getD 0 []).length I).length < 4) = R := ⟨_, rfl⟩
  rw [eR] at HE ⊢
  clear hv hg hI hS eR
  go_enter Tryd.func69, Tryd.ntmps69
  go_wp2_with (fail)
  refine HE.out.mono ?_
  rintro e w2 ⟨rfl, hg2⟩
  have HG := Lib.hid hg2
  clear hg2
  go_wp2
  go_ret
  exact ⟨rfl, HG.out⟩

set_option maxRecDepth 100000 in
set_option maxHeartbeats 4000000 in
theorem FillByQueue_any (v : Value) (h : List (List Int)) (w : World) (hv : RowsV w v h) (hS : Steps w) :
    Calls Tryd.prog 25 #[v] w (NewRows w (fillL h)) := by
  have HK := ValidGrid_any v h (w.alloc (.cells #[v] 23)) (hv.grew ((Grew.refl w).alloc _))
  cases hg : vGrid h with
  | false =>
    rw [hg] at HK
    have HK2 := Lib.hid HK
    rw [fillL_no hg]
    obtain ⟨a, b, o, c, rfl, _, _, _⟩ := hv.shape
    clear hv hS HK hg
    go_enter Tryd.func25, Tryd.ntmps25
    go_wp2_with (fail)
    refine HK2.out.mono ?_
    rintro e w1 ⟨rfl, rfl⟩
    go_wp2
    go_ret
    exact ⟨_, rfl, RowsO.nil _ _ _ _ _, (Grew.refl w).alloc _⟩
  | true =>
    rw [hg] at HK
    have HK2 := Lib.hid HK
    have G := Grid.of hg
    obtain ⟨n, en⟩ : ∃ n, h.length = n := ⟨_, rfl⟩
    obtain ⟨m, em⟩ : ∃ m, (h.getD 0 []).length = m := ⟨_, rfl⟩
    obtain ⟨N, eN⟩ : ∃ N, n * m = N := ⟨_, rfl⟩
    have hK := fun vo W (hW : Grew w W) (ho : IntsV W vo (rimL n m N)) => filledFrom_any v vo h (rimL n m N) n m N W (hv.grew hW) ho (hS.grew hW) hg en em eN (rimL_nodup n m N) (fun x hx => by
      obtain ⟨i, h1, h2, _⟩ := (rimL_mem n m N x).1 hx
      omega) (rimL_pos (by rw [← eN, ← en, ← em]; exact Nat.mul_pos G.n1 G.m1))
    have hpl := flat_grid_len G
    have hpn : ∀ i, i < N → 0 ≤ h.flatten.getD i 0 ∧ h.flatten.getD i 0 ≤ 12 := fun i hi => grid_num G i (by rw [en, em, eN]; exact hi)
    rw [en, em, eN] at hpl
    have HFY : ∀ ws, Level n m h.flatten ws → fillL h = shapeL ws m n := fun ws W => fillL_yes hg en em W
    obtain ⟨p, ep⟩ : ∃ p, h.flatten = p := ⟨_, rfl⟩
    rw [ep] at hK hpl hpn HFY
    have HY := Lib.hid HFY
    obtain ⟨R, eR⟩ : ∃ R, fillL h = R := ⟨_, rfl⟩
    rw [eR] at HY ⊢
    have HKK := Lib.hid hK
    have hn5 := G.n5
    have hn1 := G.n1
    have hm5 := G.m5
    have hm1 := G.m1
    rw [en] at hn5 hn1
    rw [em] at hm5 hm1
    have hN25 : N ≤ 25 := by rw [← eN]; exact Nat.mul_le_mul hn5 hm5
    have hN1 : 1 ≤ N := by rw [← eN]; exact Nat.mul_pos hn1 hm1
    have HNM := Lib.hid (And.intro hn5 (And.intro hm5 (And.intro eN (And.intro hpl (And.intro hm1 hpn)))))
    have HCW : Hid (∀ w1, Grew w w1 → w1.cell? ⟨w.heap.size, 0, none⟩ = some v → Calls Tryd.prog 68 #[v, .func (.func 69) #[] #[.pointer (some ⟨w.heap.size, 0, none⟩)]] w1 fun e w' => ∃ a c, e = .returned (.slice a (rimL n m N).length c) ∧ IntsO 3 w1.heap.size w'.heap.size w' (.slice a (rimL n m N).length c) (rimL n m N) ∧ Grew w1 w') := fun w1 hg1 hcB => by
      have := cellsWhereG_any v h N (edgeL n m) 69 #[.pointer (some ⟨w.heap.size, 0, none⟩)] (enters_of Tryd.func69 (by kernel_rfl) rfl) w1 (hv.grew hg1) hg (by rw [en, em, eN]) (fun I W hW hI => by
        have := edgeClo_any w.heap.size v h I W (hW.cell hcB) (hv.grew (hg1.trans hW)) hg (by rw [en, em, eN]; exact hI) (hS.grew (hg1.trans hW))
        rw [en, em] at this
        exact this)
      rw [← rimL_where] at this
      exact this
    obtain ⟨a, b, o, c, rfl, ⟨hlc, hcb⟩, ha, HCR⟩ := hv.shape
    obtain rfl := ha (by omega)
    obtain ⟨u0, hcu0, hu0⟩ := HCR.out 0 (by omega)
    rw [Nat.add_zero] at hcu0
    obtain ⟨a0, b0, o0, c0, rfl, _, _, _⟩ := hu0.shape
    rw [em] at hcu0
    have HCU := Lib.hid hcu0
    rw [en] at HK2 HKK HCW hlc ⊢
    have hn0 : (0 : Int) < (n : Int) := by omega
    clear hv hS HK hg G ha HCR hu0 hcu0 en em ep eN hK HFY hn5 hm5 hm1 hpl hpn eR
    go_enter Tryd.func25, Tryd.ntmps25
    go_wp2_with (fail)
    refine HK2.out.mono ?_
    rintro e w0 ⟨rfl, rfl⟩
    have HLV : Hid (∀ ws, LevelO n m (inO (rimL n m N)) p ws → R = shapeL ws m n) := Lib.hid fun ws W => HY.out ws (LevelO.level (fun i hi => by
      have := rimL_mem n m N i
      by_cases he : edgeL n m i = true
      · rw [he]; exact inO_iff.2 (this.2 ⟨i, by rw [← HNM.out.2.2.1]; exact hi, rfl, he⟩)
      · rw [Bool.eq_false_iff.2 he]
        refine Bool.eq_false_iff.2 fun h => he ?_
        obtain ⟨j, _, h2, h3⟩ := this.1 (inO_iff.1 h)
        have : i = j := by omega
        subst this; exact h3) W)
    have hmf : ∀ (fn : Fn) (first cap : Array Value) (w : World), (Instr.makeFunc fn first cap).run Tryd.prog w = .ok (.func fn first cap) w := fun _ _ _ _ => rfl
    go_wp2_with (fail)
    refine (HCW.out _ ((Grew.refl _).alloc _) (by simp)).mono ?_
    rintro e w1 ⟨a1, c1, rfl, hO1, hg1⟩
    have hcu := hg1.cell (((Grew.refl w).alloc (.cells #[.slice (some ⟨b, o, none⟩) n c] 23)).cell HCU.out)
    have hcB : w1.cell? ⟨w.heap.size, 0, none⟩ = some (.slice (some ⟨b, o, none⟩) n c) := hg1.cell (by simp)
    have HG1 : Hid (Grew w w1) := ((Grew.refl w).alloc _).trans hg1
    have HF := Lib.hid (HKK.out (.slice a1 (rimL n m N).length c1) w1.drew HG1.out.drew (hO1.grew (Grew.refl w1).drew).toV)
    have HIR := Lib.hid fun g c W ws (hO : IntsO 3 w1.drew.heap.size W.heap.size W (.slice (some ⟨g, 0, none⟩) N c) ws) => inRows_own hO HNM.out.1 HNM.out.2.2.2.2.1 HNM.out.2.1 HNM.out.2.2.1
    have HSL : Hid (∀ (a : Option Addr) (c : Nat) ws W, ws.length = N → IntsO 3 w1.drew.heap.size W.heap.size W (.slice a N c) ws → ∃ g, a = some ⟨g, 0, none⟩) := Lib.hid fun a c ws W hl hO => by
      obtain ⟨g, c', e, _⟩ := hO.pos (by rw [hl]; omega)
      simp only [Value.slice.injEq] at e
      exact ⟨g, e.1⟩
    obtain ⟨Q, eQ⟩ : ∃ Q, (rimL n m N).length = Q := ⟨_, rfl⟩
    rw [eQ] at HF ⊢
    have hn2 : 0 < n := by omega
    have hn3 : ¬ n = 0 := by omega
    have hn4 : ¬ (n : Int) ≤ 0 := by omega
    have hn5 : (0 : Int) ≤ 0 := Int.le_refl _
    clear hO1 hg1 HKK HCW HK2 eQ
    go_wp2_with (fail)
    go_region_held3 (fun W => W.cell? ⟨b, o, none⟩ = some (.slice a0 m c0) ∧ W.cell? ⟨w.heap.size, 0, none⟩ = some (.slice (some ⟨b, o, none⟩) n c))
      (first
        | exact ⟨hcu, hcB⟩
        | assumption
        | (rename_i hlast; exact ⟨hg4.cell hlast.1, hg4.cell hlast.2⟩)
        | exact ⟨hg4.cell hcu, hg4.cell hcB⟩
        | exact ⟨hg5.cell (hg4.cell hcu), hg5.cell (hg4.cell hcB)⟩)
      (first
        | (go_at_call 72; refine HF.out.mono ?_; rintro e w4 ⟨ws, hwl, hLv, a4, c4, rfl, hO4, hg4⟩; rw [hwl] at hO4 ⊢; obtain ⟨g4, rfl⟩ := HSL.out a4 c4 ws w4 hwl hO4)
        | (go_at_call 71; refine (HIR.out g4 c4 w4 ws hO4).mono ?_; rintro e w5 ⟨v5, rfl, hO5, hg5⟩; obtain ⟨a5', c5', rfl⟩ := hO5.sh))
    have HL : Hid (R = shapeL ws m n) := Lib.hid (HLV.out ws hLv)
    have HG4 := Lib.hid (HG1.out.drew.trans hg4)
    have H5 := Lib.hid (And.intro hO5 hg5)
    clear hO5 hg5 hO4 hg4 hLv
    go_wp2
    go_ret
    rw [HL.out]
    exact ⟨_, rfl, H5.out.1.wide HG4.out.size (Nat.le_refl _), HG4.out.trans H5.out.2⟩
end Go.Proofs.YtgecghngfonejaaDoor
