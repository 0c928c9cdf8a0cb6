/- The contract of impl.part.heightsIn. -/
import Derived.Test.YtlfoimjohdaofaaDoorQuadM
import Derived.Test.YtlfoimjohdaofaaDoorAppendInts
namespace Go.Proofs.YtlfoimjohdaofaaDoor
open Go.RowKit

/-- Numbers of the call's own. -/
def OwnHts (w : World) (xs : List Int) (e : Ending) (w' : World) : Prop := ∃ a c, e = .returned (.slice a xs.length c) ∧ IntsO 3 w.heap.size w'.heap.size w' (.slice a xs.length c) xs ∧ Grew w w'
set_option maxRecDepth 100000 in
set_option maxHeartbeats 4000000 in
theorem heightsIn_any (v : Value) (h : List (List Int)) (m t l b r : Nat) (w : World) (G : Grid h m) (hv : RowsV w v h) (htb : t ≤ b) (hb : b ≤ h.length) (hlr : l ≤ r) (hr : r ≤ m) :
    Calls Tryd.prog 38 #[.agg #[.int .i64 t, .int .i64 b, .int .i64 l, .int .i64 r], v] w (OwnHts w (htsL (cellS h) t l r (b - t))) := by
  have hh1 := G.n1
  have hh5 := G.n5
  have hm5 := G.m5
  have hm1 := G.m1
  have HROW : Hid (∀ i, i < h.length → ∀ W u, IntsV W u (h.getD i []) → ∃ g o c, u = .slice (some ⟨g, o, none⟩) m c ∧ m ≤ c ∧ c ≤ 9223372036854775807 ∧ ∀ j, j < m → W.cell? ⟨g, o + j, none⟩ = some (.int .i64 (cellS h i j))) := Lib.hid fun i hi W u hu => by
    obtain ⟨a1, b1, o1, c1, rfl, ⟨h1, h2⟩, ha1, HR⟩ := hu.shape
    rw [G.len i hi] at h1 ha1 HR ⊢
    obtain rfl := ha1 hm1
    exact ⟨b1, o1, c1, rfl, h1, h2, HR.out⟩
  obtain ⟨sa, sb, so, sc, rfl, ⟨hlc, hcb⟩, ha, HC⟩ := hv.shape
  obtain rfl := ha hh1
  obtain ⟨n, en⟩ : ∃ n, h.length = n := ⟨_, rfl⟩
  rw [en] at HROW hb hh1 hh5 hlc HC ⊢
  obtain ⟨f, ef⟩ : ∃ f, cellS h = f := ⟨_, rfl⟩
  rw [ef] at HROW ⊢
  have r1 : (t : Int) ≤ b := by omega
  have r2 : (b : Int) ≤ sc := by omega
  have r3 : (l : Int) ≤ r := by omega
  have hGA : Grew w (w.alloc (.cells #[.int .i64 t, .int .i64 b, .int .i64 l, .int .i64 r] 44)) := (Grew.refl w).alloc _
  by_cases hct : sc = t
  · have e0 : b - t = 0 := by omega
    have et : b = t := by omega
    subst et
    subst hct
    clear hv ha ef en
    rw [Nat.sub_self]
    go_enter Tryd.func38, Tryd.ntmps38
    go_wp2
    refine wp_loop_rounds 1 ?_
    rw [rounds_succ]
    go_wp2
    go_ret
    exact ⟨none, 0, rfl, ⟨World.ownsRow_nil _ _ _ _, fun g e => by simp [Value.ownBlock] at e⟩, hGA⟩
  · obtain ⟨K, eK⟩ : ∃ K, b - t = K := ⟨_, rfl⟩
    have HK : Hid (∀ k, k < K → t + k < n ∧ k < 5) := Lib.hid fun k hk => by omega
    have hK5 : K ≤ 5 := by omega
    have HCC : Hid (∀ k, k < K → ∃ u, w.cell? ⟨sb, so + t + k, none⟩ = some u ∧ IntsV w u (h.getD (t + k) [])) := Lib.hid fun k hk => by
      have := HC.out (t + k) (by omega)
      rwa [← Nat.add_assoc] at this
    have r4 : (t : Int) ≤ sc := by omega
    have HL5 : Hid (r - l ≤ 5) := Lib.hid (by omega)
    have HNX := Lib.hid (fun k => htsL_next f t l r k)
    have HLN := Lib.hid (fun k => htsL_len f t l r k)
    have HRP : Hid (∀ k (row : List Int), row.length = m → (∀ j, j < m → row.getD j 0 = f (t + k) j) → (row.drop l).take (r - l) = (List.range (r - l)).map fun j => f (t + k) (l + j)) := Lib.hid fun k row h1 h2 => row_part h1 hr h2
    have HVV := Lib.hid hv
    clear hv ha ef en HC
    rw [eK]
    go_enter Tryd.func38, Tryd.ntmps38
    go_wp2
    obtain ⟨W1, hW1⟩ : ∃ W1, w.alloc (.cells #[.int .i64 t, .int .i64 b, .int .i64 l, .int .i64 r] 44) = W1 := ⟨_, rfl⟩
    have HG1 : Hid (Grew w W1) := by rw [← hW1]; exact Lib.hid hGA
    have HB2 : Hid (W1.cell? ⟨w.heap.size, 2, none⟩ = some (.int .i64 l)) := by rw [← hW1]; simp [Hid]
    have HB3 : Hid (W1.cell? ⟨w.heap.size, 3, none⟩ = some (.int .i64 r)) := by rw [← hW1]; simp [Hid]
    rw [hW1]
    clear hW1 hGA eK
    go_loopg [5, 17] K (fun gk hv iv wr => ∃ (k : Nat) (a : Option Addr) (L c : Nat), hv = .slice a L c ∧ iv = .int .i64 (k : Int) ∧ k ≤ K ∧ K ≤ gk + k ∧ Hid (L = (htsL f t l r k).length) ∧ Hid (IntsO 3 W1.heap.size wr.heap.size wr (.slice a L c) (htsL f t l r k) ∧ Grew W1 wr))
    case atStart => exact ⟨0, none, 0, 0, rfl, rfl, Nat.zero_le _, Nat.le_refl _, rfl, ⟨World.ownsRow_nil _ _ _ _, fun g e => by simp [Value.ownBlock] at e⟩, Grew.refl _⟩
    case round =>
      obtain ⟨k, a, L, c, rfl, rfl, hk1, hk2, HLL, HI⟩ := hrel
      by_cases hlt : k < K
      · obtain ⟨u, hcu', hu'⟩ := HCC.out k hlt
        have hcu := (HG1.out.trans HI.out.2).cell hcu'
        have hu := hu'.grew (HG1.out.trans HI.out.2)
        obtain ⟨g, o, c', rfl, hmc, hc63, hcells⟩ := HROW.out (t + k) (HK.out k hlt).1 wr u hu
        have h2 := HI.out.2.cell HB2.out
        have h3 := HI.out.2.cell HB3.out
        have hki : (k : Int) < K := by omega
        have q1 : (r : Int) ≤ c' := by omega
        have q2 : (l : Int) ≤ c' := by omega
        obtain ⟨H1, eH1⟩ : ∃ X, htsL f t l r k = X := ⟨_, rfl⟩
        obtain ⟨YS, eYS⟩ : ∃ X, (List.range (r - l)).map (fun j => f (t + k) (l + j)) = X := ⟨_, rfl⟩
        have hnx := HNX.out k
        rw [eH1, eYS] at hnx
        have hl1 := HLN.out k
        rw [eH1] at hl1 HI HLL
        have hys : YS.length = r - l := by rw [← eYS]; simp
        have hyc : ∀ j, j < YS.length → wr.cell? ⟨g, o + l + j, none⟩ = some (.int .i64 (YS.getD j 0)) := fun j hj => by
          rw [hys] at hj
          have := hcells (l + j) (by omega)
          rw [← Nat.add_assoc] at this
          rw [this, ← eYS]
          simp [hj]
        have hb5 : k * (r - l) ≤ 5 * 5 := Nat.mul_le_mul (by omega) HL5.out
        have HYC := Lib.hid (And.intro hyc (And.intro hys (And.intro hnx (show H1.length + YS.length ≤ 17592186044416 by have := HL5.out; omega))))
        have HSZ := Lib.hid HI.out.2.size
        clear hcu' hu' hu hcells eH1 eYS hnx hl1 hyc hys hb5
        by_cases hcl : c' = l
        · have e0 : r = l := by omega
          have HY0 : Hid (YS = []) := Lib.hid (List.eq_nil_of_length_eq_zero (by rw [HYC.out.2.1]; omega))
          subst e0
          subst hcl
          go_wp2_with (at_builtin; refine wpList_append_rowOf (ys := []) rfl (.tmp 21) (.tmp 29) 28 rfl Tryd.underlying28 Tryd.infoI rfl rfl rfl (fun i hi => absurd hi (Nat.not_lt_zero _)) HI.out.1 (by have := HYC.out.2.2.2; simp; omega) HSZ.out ?_; intro a5 c5 w5 hO5 hW5)
          have HF : Hid (H1.length + ([] : List Int).length = (htsL f t c' c' (k + 1)).length ∧ IntsO 3 W1.heap.size w5.heap.size w5 (.slice a5 (H1.length + ([] : List Int).length) c5) (htsL f t c' c' (k + 1)) ∧ Grew W1 w5) := by
            rw [HYC.out.2.2.1, HY0.out]
            exact ⟨by simp, hO5, hW5.grew HI.out.2 (Nat.le_refl _)⟩
          clear hO5 hW5
          go_wp2
          go_roundg (gk - 1)
          case measure => omega
          case rel => exact ⟨k + 1, a5, _, c5, rfl, by go_num, by omega, by omega, HF.out.1, HF.out.2⟩
        · have q3 : (l : Int) ≤ r := by omega
          go_wp2_with (at_builtin; refine wpList_append_rowOf (ys := YS) (n := r - l) rfl (.tmp 21) (.tmp 29) 28 rfl Tryd.underlying28 Tryd.infoI rfl rfl HYC.out.2.1.symm HYC.out.1 HI.out.1 HYC.out.2.2.2 HSZ.out ?_; intro a5 c5 w5 hO5 hW5)
          have HF : Hid (H1.length + YS.length = (htsL f t l r (k + 1)).length ∧ IntsO 3 W1.heap.size w5.heap.size w5 (.slice a5 (H1.length + YS.length) c5) (htsL f t l r (k + 1)) ∧ Grew W1 w5) := by
            rw [HYC.out.2.2.1]
            exact ⟨by simp, hO5, hW5.grew HI.out.2 (Nat.le_refl _)⟩
          clear hO5 hW5
          go_wp2
          go_roundg (gk - 1)
          case measure => omega
          case rel => exact ⟨k + 1, a5, _, c5, rfl, by go_num, by omega, by omega, HF.out.1, HF.out.2⟩
      · obtain rfl : k = K := by omega
        have HF : Hid (IntsO 3 w.heap.size wr.heap.size wr (.slice a (htsL f t l r k).length c) (htsL f t l r k) ∧ Grew w wr) := by
          have h1 := HI.out.1
          rw [HLL.out] at h1
          exact ⟨h1.wide HG1.out.size (Nat.le_refl _), HG1.out.trans HI.out.2⟩
        have hLL := HLL.out
        subst hLL
        go_wp2
        go_ret
        exact ⟨_, _, rfl, HF.out⟩
end Go.Proofs.YtlfoimjohdaofaaDoor
