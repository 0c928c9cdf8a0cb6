/- The contract of impl.textOf. -/
import Derived.Test.YtlfoimjohdaofaaDoorQuarters
import Derived.Test.YtlfoimjohdaofaaDoorHeightsIn
import Derived.Test.YtlfoimjohdaofaaDoorMin
import Derived.Test.YtlfoimjohdaofaaDoorTilt
namespace Go.Proofs.YtlfoimjohdaofaaDoor
open Go.RowKit

theorem IsMin.mem {xs : List Int} {m : Int} (h : IsMin xs m) : m ∈ xs ∧ ∀ z, z ∈ xs → m ≤ z := by
  obtain ⟨⟨i, hi, e⟩, h2⟩ := h
  refine ⟨?_, fun z hz => ?_⟩
  · rw [← e]; simp [hi]
  · obtain ⟨j, hj, e2⟩ := List.getElem_of_mem hz
    have := h2 j hj
    simp [hj, e2] at this
    exact this
theorem IsMax.mem {xs : List Int} {m : Int} (h : IsMax xs m) : m ∈ xs ∧ ∀ z, z ∈ xs → z ≤ m := by
  obtain ⟨⟨i, hi, e⟩, h2⟩ := h
  refine ⟨?_, fun z hz => ?_⟩
  · rw [← e]; simp [hi]
  · obtain ⟨j, hj, e2⟩ := List.getElem_of_mem hz
    have := h2 j hj
    simp [hj, e2] at this
    exact this
def TextPost (s : ByteArray) (w : World) (e : Ending) (w' : World) : Prop := e = .returned (.string s) ∧ Grew w w'
theorem qT_none {f : Nat → Nat → Int} {k t l b r : Nat} (h : t = b ∨ l = r) : qT f (k + 1) t l b r = ⟨#[46]⟩ := by simp [qT, h]
theorem qT_even {f : Nat → Nat → Int} {k t l b r : Nat} (h : ¬ (t = b ∨ l = r)) (he : evenQ f t l b r = true) : qT f (k + 1) t l b r = numS (f t l).toNat ++ ⟨#[59]⟩ := by simp [qT, h, he]
theorem qT_more {f : Nat → Nat → Int} {k t l b r : Nat} (h : ¬ (t = b ∨ l = r)) (he : evenQ f t l b r = false) : qT f (k + 1) t l b r = ⟨#[40]⟩ ++ qT f k t l (midQ t b) (midQ l r) ++ qT f k t (midQ l r) (midQ t b) r ++ qT f k (midQ t b) l b (midQ l r) ++ qT f k (midQ t b) (midQ l r) b r ++ ⟨#[41]⟩ := by simp [qT, h, he]

theorem numS_size (n : Nat) : (numS n).size ≤ 2 := by
  unfold numS
  split
  · exact Nat.le_succ 1
  · exact Nat.le_refl 2
theorem qT_size (f : Nat → Nat → Int) (k : Nat) : ∀ t l b r, (qT f k t l b r).size + 1 ≤ 4 ^ k := by
  induction k with
  | zero => intro t l b r; exact Nat.le_refl 1
  | succ k ih =>
    intro t l b r
    have h4 : 1 ≤ 4 ^ k := Nat.one_le_pow _ _ (by decide)
    have h5 : 4 ^ (k + 1) = 4 * 4 ^ k := by rw [Nat.pow_succ, Nat.mul_comm]
    unfold qT
    split
    · show 1 + 1 ≤ _
      omega
    split
    · have := numS_size (f t l).toNat
      rw [ByteArray.size_append]
      show _ + 1 + 1 ≤ _
      omega
    · have h0 := ih t l (midQ t b) (midQ l r)
      have h1 := ih t (midQ l r) (midQ t b) r
      have h2 := ih (midQ t b) l b (midQ l r)
      have h3 := ih (midQ t b) (midQ l r) b r
      simp only [ByteArray.size_append]
      show 1 + _ + _ + _ + _ + 1 + 1 ≤ _
      omega

set_option maxRecDepth 100000 in
set_option maxHeartbeats 4000000 in
theorem textOf_any (v : Value) (h : List (List Int)) (m : Nat) (G : Grid h m) (k : Nat) : k ≤ 11 → ∀ (t l b r : Nat) (w : World), RowsV w v h → t ≤ b → b ≤ h.length → l ≤ r → r ≤ m → (b - t) + (r - l) < k →
    Calls Tryd.prog 20 #[v, .agg #[.int .i64 t, .int .i64 b, .int .i64 l, .int .i64 r]] w (TextPost (qT (cellS h) k t l b r) w) := by
  induction k with
  | zero => intro _ t l b r w hv htb hb hlr hr hk; omega
  | succ k ih =>
  intro hk11 t l b r w hv htb hb hlr hr hk
  have ih := ih (by omega)
  have HK11 := Lib.hid hk11
  clear hk11
  have HT := Lib.hid (fun W hW => heightsIn_any v h m t l b r W G hW htb hb hlr hr)
  have HQ := Lib.hid (fun W => quarters_any t l b r W htb (by have := G.n5; omega) hlr (by have := G.m5; omega))
  have HV := Lib.hid hv
  have HK := Lib.hid hk
  have IH := Lib.hid ih
  have HTB := Lib.hid htb
  have HB := Lib.hid hb
  have HLR := Lib.hid hlr
  have HR := Lib.hid hr
  clear hk ih hv
  unfold OwnHts at HT
  unfold QuartersPost at HQ
  unfold TextPost at IH ⊢
  obtain ⟨S, eS⟩ : ∃ S, qT (cellS h) (k + 1) t l b r = S := ⟨_, rfl⟩
  rw [eS]
  have HS := Lib.hid eS
  clear eS
  obtain ⟨XS, eXS⟩ : ∃ XS, htsL (cellS h) t l r (b - t) = XS := ⟨_, rfl⟩
  rw [eXS] at HT
  have HXS := Lib.hid eXS
  have HXL : Hid (XS.length = (b - t) * (r - l)) := by rw [← eXS]; exact Lib.hid (htsL_len _ _ _ _ _)
  clear eXS
  clear htb hb hlr hr
  go_enter Tryd.func20, Tryd.ntmps20
  go_wp2_with (fail)
  obtain ⟨W1, hW1⟩ : ∃ W1, w.alloc (.cells #[.int .i64 t, .int .i64 b, .int .i64 l, .int .i64 r] 44) = W1 := ⟨_, rfl⟩
  have HG1 : Hid (Grew w W1) := by rw [← hW1]; exact (Grew.refl w).alloc _
  have HB2 : Hid (∀ W, Grew W1 W → W.cell? ⟨w.heap.size, 0, none⟩ = some (.int .i64 t) ∧ W.cell? ⟨w.heap.size, 1, none⟩ = some (.int .i64 b) ∧ W.cell? ⟨w.heap.size, 2, none⟩ = some (.int .i64 l) ∧ W.cell? ⟨w.heap.size, 3, none⟩ = some (.int .i64 r)) := Lib.hid fun W hW => ⟨hW.cell (by rw [← hW1]; simp), hW.cell (by rw [← hW1]; simp), hW.cell (by rw [← hW1]; simp), hW.cell (by rw [← hW1]; simp)⟩
  rw [hW1]
  clear hW1
  with_reducible refine (HT.out _ (HV.out.grew HG1.out)).mono ?_
  rintro e w2 ⟨a, c, rfl, hO, hg2⟩
  have HO2 := Lib.hid hO
  have HG2 := Lib.hid hg2
  clear hO hg2
  by_cases h0 : t = b ∨ l = r
  · have hn : XS.length = 0 := by
      rw [HXL.out]
      rcases h0 with e0 | e0
      · have : b - t = 0 := by omega
        rw [this, Nat.zero_mul]
      · have : r - l = 0 := by omega
        rw [this, Nat.mul_zero]
    rw [hn]
    have HS2 : Hid (S = ⟨#[46]⟩) := Lib.hid (by rw [← HS.out]; exact qT_none h0)
    clear hn h0
    go_wp2
    go_ret
    exact ⟨by rw [HS2.out]; rfl, HG1.out.trans HG2.out⟩
  · have H0 := Lib.hid h0
    have HTL : Hid (t < b ∧ l < r) := Lib.hid (by have := HTB.out; have := HLR.out; omega)
    have hn : 0 < XS.length := by
      rw [HXL.out]
      have := HTB.out
      have := HLR.out
      exact Nat.mul_pos (by omega) (by omega)
    have HN := Lib.hid hn
    obtain ⟨g, c', e', -, -, -⟩ := HO2.out.pos hn
    cases e'
    obtain ⟨N, eN⟩ : ∃ N, (cellS h t l).toNat = N := ⟨_, rfl⟩
    have hc := G.num t (by have := HTB.out; have := HB.out; omega) l (by have := HLR.out; have := HR.out; omega)
    have hN : N ≤ 12 := by rw [← eN]; unfold cellS; omega
    have hN0 : XS.getD 0 0 = (N : Int) := by rw [← HXS.out, htsL_first _ _ _ _ _ (by have := HTB.out; omega) (by have := HLR.out; omega), ← eN]; unfold cellS; omega
    have HN12 := Lib.hid hN
    have HEN := Lib.hid eN
    have c0 : w2.cell? ⟨g, 0, none⟩ = some (.int .i64 (N : Int)) := by rw [← hN0]; simpa using (HO2.out.at rfl hn).1
    clear hc hN hN0 eN
    have hn0 : ¬ ((XS.length : Int) = 0) := by omega
    clear h0
    go_wp2_with (fail)
    refine (slicesMin_any _ XS _ HO2.out.toV HN.out).mono ?_
    rintro e3 w3 ⟨x, rfl, hx, rfl⟩
    go_wp2_with (fail)
    refine (slicesMax_any _ XS _ HO2.out.toV HN.out).mono ?_
    rintro e4 w4 ⟨y, rfl, hy, rfl⟩
    have HE : Hid ((x == y) = evenQ (cellS h) t l b r) := Lib.hid (even_minmax HTL.out.1 HTL.out.2 (by rw [HXS.out]; exact hx.mem) (by rw [HXS.out]; exact hy.mem))
    clear hx hy
    by_cases hxy : x = y
    · subst hxy
      have HS2 : Hid (S = numS N ++ ⟨#[59]⟩) := Lib.hid (by rw [← HS.out, ← HEN.out]; exact qT_even H0.out (by rw [← HE.out]; simp))
      have hz : ¬ 9223372036854775807 < (numS N).size + 1 := by have := numS_size N; omega
      go_wp2_with (fail)
      with_reducible refine (Itoa_any N _ HN12.out).mono ?_
      rintro e5 w5 ⟨rfl, rfl⟩
      go_wp2
      go_ret
      exact ⟨by rw [HS2.out]; rfl, HG1.out.trans HG2.out⟩
    · have HEV : Hid (evenQ (cellS h) t l b r = false) := Lib.hid (by rw [← HE.out]; simpa using hxy)
      have HM := Lib.hid (midQ_bd t b HTB.out)
      have HKB := Lib.hid (midQ_bd l r HLR.out)
      have HS3 : Hid (S = _) := Lib.hid (HS.out.symm.trans (qT_more H0.out HEV.out))
      obtain ⟨k0, k1, k2, k3⟩ := quarters_less (f := cellS h) HTB.out HLR.out HK.out HEV.out
      unfold quartL at HQ
      obtain ⟨M, eM⟩ : ∃ M, midQ t b = M := ⟨_, rfl⟩
      obtain ⟨K, eK⟩ : ∃ K, midQ l r = K := ⟨_, rfl⟩
      rw [eM] at HQ HM HS3 k0 k1 k2 k3
      rw [eK] at HQ HKB HS3 k0 k1 k2 k3
      clear eM eK
      have hc0 := fun W hW => IH.out t l M K W hW HM.out.1 (Nat.le_trans HM.out.2 HB.out) HKB.out.1 (Nat.le_trans HKB.out.2 HR.out) k0
      have hc1 := fun W hW => IH.out t K M r W hW HM.out.1 (Nat.le_trans HM.out.2 HB.out) HKB.out.2 HR.out k1
      have hc2 := fun W hW => IH.out M l b K W hW HM.out.2 HB.out HKB.out.1 (Nat.le_trans HKB.out.2 HR.out) k2
      have hc3 := fun W hW => IH.out M K b r W hW HM.out.2 HB.out HKB.out.2 HR.out k3
      clear k0 k1 k2 k3
      have h4k : 4 ^ k ≤ 4 ^ 10 := Nat.pow_le_pow_right (by decide) (by have := HK11.out; omega)
      have z0 := qT_size (cellS h) k t l M K
      have z1 := qT_size (cellS h) k t K M r
      have z2 := qT_size (cellS h) k M l b K
      have z3 := qT_size (cellS h) k M K b r
      obtain ⟨Q0, eQ0⟩ : ∃ Q0, qT (cellS h) k t l M K = Q0 := ⟨_, rfl⟩
      obtain ⟨Q1, eQ1⟩ : ∃ Q1, qT (cellS h) k t K M r = Q1 := ⟨_, rfl⟩
      obtain ⟨Q2, eQ2⟩ : ∃ Q2, qT (cellS h) k M l b K = Q2 := ⟨_, rfl⟩
      obtain ⟨Q3, eQ3⟩ : ∃ Q3, qT (cellS h) k M K b r = Q3 := ⟨_, rfl⟩
      rw [eQ0] at hc0 HS3 z0
      rw [eQ1] at hc1 HS3 z1
      rw [eQ2] at hc2 HS3 z2
      rw [eQ3] at hc3 HS3 z3
      have HZ : Hid (Q0.size ≤ 5000000 ∧ Q1.size ≤ 5000000 ∧ Q2.size ≤ 5000000 ∧ Q3.size ≤ 5000000) := by
        have h410 : (4 : Nat) ^ 10 = 1048576 := by decide
        rw [h410] at h4k
        exact Lib.hid (by omega)
      have HC0 := Lib.hid hc0
      have HC1 := Lib.hid hc1
      have HC2 := Lib.hid hc2
      have HC3 := Lib.hid hc3
      clear hc0 hc1 hc2 hc3 z0 z1 z2 z3 h4k eQ0 eQ1 eQ2 eQ3
      obtain ⟨d0, d1, d2, d3⟩ := HB2.out _ HG2.out
      go_wp2_with (fail)
      with_reducible refine (HQ.out _).mono ?_
      rintro e6 w6 ⟨v6, rfl, hP, hg6⟩
      obtain ⟨g6, c6, hv6, -, -⟩ := hP.pos (Nat.succ_pos _)
      have hv6' : v6 = .slice (some ⟨g6, 0, none⟩) 4 c6 := hv6
      subst hv6'
      have HP := Lib.hid hP
      have HG6 := Lib.hid hg6
      have HPC : Hid (∀ W, Grew w6 W → ∀ i, i < 16 → W.cell? ⟨g6, i, none⟩ = (flatP [(t, M, l, K), (t, M, K, r), (M, b, l, K), (M, b, K, r)])[i]?) := Lib.hid fun W hW i hi => (HP.out.grew hW).at i hi
      have HVC : Hid (∀ W, Grew w6 W → RowsV W v h) := Lib.hid fun W hW => HV.out.grew (HG1.out.trans (HG2.out.trans (HG6.out.trans hW)))
      clear hP hg6 hv6 d0 d1 d2 d3
      go_wp2_with (fail)
      refine wp_loop_rounds 5 ?_
      rw [rounds_succ]
      have f0 : w6.cell? ⟨g6, 0, none⟩ = some (.int .i64 t) := HPC.out _ (Grew.refl w6) 0 (by omega)
      have f1 : w6.cell? ⟨g6, 1, none⟩ = some (.int .i64 M) := HPC.out _ (Grew.refl w6) 1 (by omega)
      have f2 : w6.cell? ⟨g6, 2, none⟩ = some (.int .i64 l) := HPC.out _ (Grew.refl w6) 2 (by omega)
      have f3 : w6.cell? ⟨g6, 3, none⟩ = some (.int .i64 K) := HPC.out _ (Grew.refl w6) 3 (by omega)
      have hz : ¬ 9223372036854775807 < 1 + Q0.size := by have := HZ.out.1; omega
      go_wp2_with (fail)
      with_reducible refine (HC0.out _ (HVC.out _ (Grew.alloc (Grew.refl w6) _))).mono ?_
      rintro e7 w7 ⟨rfl, hg7⟩
      have HGD7 : Hid (Grew w6 w7) := Lib.hid ((Grew.alloc (Grew.refl w6) _).trans hg7)
      clear hg7 f0 f1 f2 f3
      go_wp2_with (fail)
      clear hz
      obtain ⟨s1, es⟩ : ∃ s, (⟨#[40]⟩ : ByteArray) ++ Q0 = s := ⟨_, rfl⟩
      have HZS1 : Hid (s1.size ≤ 5000001) := Lib.hid (by rw [← es, ByteArray.size_append]; have := HZ.out; show 1 + Q0.size ≤ _; omega)
      have HES1 := Lib.hid es
      rw [es]
      clear es
      rw [rounds_succ]
      have f0 : w7.cell? ⟨g6, 4, none⟩ = some (.int .i64 t) := HPC.out _ HGD7.out 4 (by omega)
      have f1 : w7.cell? ⟨g6, 5, none⟩ = some (.int .i64 M) := HPC.out _ HGD7.out 5 (by omega)
      have f2 : w7.cell? ⟨g6, 6, none⟩ = some (.int .i64 K) := HPC.out _ HGD7.out 6 (by omega)
      have f3 : w7.cell? ⟨g6, 7, none⟩ = some (.int .i64 r) := HPC.out _ HGD7.out 7 (by omega)
      have hz : ¬ 9223372036854775807 < s1.size + Q1.size := by have := HZS1.out; have := HZ.out; omega
      go_wp2_with (fail)
      with_reducible refine (HC1.out _ (HVC.out _ (Grew.alloc HGD7.out _))).mono ?_
      rintro e8 w8 ⟨rfl, hg8⟩
      have HGD8 : Hid (Grew w6 w8) := Lib.hid ((Grew.alloc HGD7.out _).trans hg8)
      clear hg8 f0 f1 f2 f3
      go_wp2_with (fail)
      clear hz
      obtain ⟨s2, es⟩ : ∃ s, s1 ++ Q1 = s := ⟨_, rfl⟩
      have HZS2 : Hid (s2.size ≤ 10000001) := Lib.hid (by rw [← es, ByteArray.size_append]; have := HZ.out; have := HZS1.out; show s1.size + Q1.size ≤ _; omega)
      have HES2 := Lib.hid es
      rw [es]
      clear es
      rw [rounds_succ]
      have f0 : w8.cell? ⟨g6, 8, none⟩ = some (.int .i64 M) := HPC.out _ HGD8.out 8 (by omega)
      have f1 : w8.cell? ⟨g6, 9, none⟩ = some (.int .i64 b) := HPC.out _ HGD8.out 9 (by omega)
      have f2 : w8.cell? ⟨g6, 10, none⟩ = some (.int .i64 l) := HPC.out _ HGD8.out 10 (by omega)
      have f3 : w8.cell? ⟨g6, 11, none⟩ = some (.int .i64 K) := HPC.out _ HGD8.out 11 (by omega)
      have hz : ¬ 9223372036854775807 < s2.size + Q2.size := by have := HZS2.out; have := HZ.out; omega
      go_wp2_with (fail)
      with_reducible refine (HC2.out _ (HVC.out _ (Grew.alloc HGD8.out _))).mono ?_
      rintro e9 w9 ⟨rfl, hg9⟩
      have HGD9 : Hid (Grew w6 w9) := Lib.hid ((Grew.alloc HGD8.out _).trans hg9)
      clear hg9 f0 f1 f2 f3
      go_wp2_with (fail)
      clear hz
      obtain ⟨s3, es⟩ : ∃ s, s2 ++ Q2 = s := ⟨_, rfl⟩
      have HZS3 : Hid (s3.size ≤ 15000001) := Lib.hid (by rw [← es, ByteArray.size_append]; have := HZ.out; have := HZS2.out; show s2.size + Q2.size ≤ _; omega)
      have HES3 := Lib.hid es
      rw [es]
      clear es
      rw [rounds_succ]
      have f0 : w9.cell? ⟨g6, 12, none⟩ = some (.int .i64 M) := HPC.out _ HGD9.out 12 (by omega)
      have f1 : w9.cell? ⟨g6, 13, none⟩ = some (.int .i64 b) := HPC.out _ HGD9.out 13 (by omega)
      have f2 : w9.cell? ⟨g6, 14, none⟩ = some (.int .i64 K) := HPC.out _ HGD9.out 14 (by omega)
      have f3 : w9.cell? ⟨g6, 15, none⟩ = some (.int .i64 r) := HPC.out _ HGD9.out 15 (by omega)
      have hz : ¬ 9223372036854775807 < s3.size + Q3.size := by have := HZS3.out; have := HZ.out; omega
      go_wp2_with (fail)
      with_reducible refine (HC3.out _ (HVC.out _ (Grew.alloc HGD9.out _))).mono ?_
      rintro e10 w10 ⟨rfl, hg10⟩
      have HGD10 : Hid (Grew w6 w10) := Lib.hid ((Grew.alloc HGD9.out _).trans hg10)
      clear hg10 f0 f1 f2 f3
      go_wp2_with (fail)
      clear hz
      obtain ⟨s4, es⟩ : ∃ s, s3 ++ Q3 = s := ⟨_, rfl⟩
      have HZS4 : Hid (s4.size ≤ 20000001) := Lib.hid (by rw [← es, ByteArray.size_append]; have := HZ.out; have := HZS3.out; show s3.size + Q3.size ≤ _; omega)
      have HES4 := Lib.hid es
      rw [es]
      clear es
      rw [rounds_succ]
      have hz : ¬ 9223372036854775807 < s4.size + 1 := by have := HZS4.out; omega
      go_wp2
      go_ret
      exact ⟨by rw [HS3.out, HES1.out, HES2.out, HES3.out, HES4.out]; rfl, HG1.out.trans (HG2.out.trans (HG6.out.trans HGD10.out))⟩
end Go.Proofs.YtlfoimjohdaofaaDoor
