/- The contract of spec.ReadQuad. -/
import Derived.Test.YtlfoimjohdaofaaDoorReadQuad
import Derived.Test.YtlfoimjohdaofaaDoorPaint
import Derived.Test.YtlfoimjohdaofaaDoorHeights
namespace Go.Proofs.YtlfoimjohdaofaaDoor
open Go.RowKit

set_option maxRecDepth 100000 in
set_option maxHeartbeats 8000000 in
theorem SReadQuad_any (s : ByteArray) (r c : Int) (w : World) (hs : s.size ≤ 9223372036854775807) :
    Calls Tryd.prog 13 #[.string s, .int .i64 r, .int .i64 c] w (ReadX s r c w) := by
  have HPQ : Hid (∀ e w', ReadX s r c w e w' ↔ (Grew w w' ∧ ((∃ v H, e = .returned (.tuple #[v, .bool true]) ∧ RowsO 28 3 w.heap.size w'.heap.size w' v H ∧ IsReadI s r c H) ∨ ((∀ H, ¬ IsReadI s r c H) ∧ e = .returned (.tuple #[.slice none 0 0, .bool false]))))) := Lib.hid fun _ _ => Iff.rfl
  have HR := Lib.hid (inRange_any r 1 5 w)
  have HC := Lib.hid (inRange_any c 1 5 w)
  by_cases hg : (1 ≤ r ∧ r ≤ 5) ∧ 1 ≤ c ∧ c ≤ 5
  · have hr : inR r 1 5 = true := by simp [inR]; omega
    have hc : inR c 1 5 = true := by simp [inR]; omega
    rw [hr] at HR
    rw [hc] at HC
    obtain ⟨n, rfl⟩ : ∃ n : Nat, r = n := ⟨r.toNat, by omega⟩
    obtain ⟨m, rfl⟩ : ∃ m : Nat, c = m := ⟨c.toNat, by omega⟩
    have HB : Hid ((1 ≤ n ∧ n ≤ 5) ∧ 1 ≤ m ∧ m ≤ 5) := Lib.hid (by omega)
    obtain ⟨N, eN⟩ : ∃ N, n * m = N := ⟨_, rfl⟩
    have hN25 : N ≤ 25 := by rw [← eN]; exact Nat.mul_le_mul HB.out.1.2 HB.out.2.2
    have hN0 : 0 < N := by rw [← eN]; exact Nat.mul_pos HB.out.1.1 HB.out.2.1
    have hw : IntKind.i64.wrap ((n : Int) * (m : Int)) = (N : Int) := by rw [← Int.natCast_mul, eN]; exact IntWalk.i64_in _ (by omega)
    have HS := Lib.hid hs
    have HEN := Lib.hid eN
    obtain ⟨z, ez⟩ : ∃ z, paintM s (s.size + 1) 0 0 0 n m (fun _ _ => 0) = z := ⟨_, rfl⟩
    have HZ := Lib.hid ez
    have HPA : Hid (∀ v W, IntsV W v (List.replicate N 0) → Calls Tryd.prog 32 #[v, .int .i64 m, .string s, .int .i64 0, .int .i64 0, .int .i64 0, .int .i64 n, .int .i64 m] W (PaintPost n m W z)) := Lib.hid fun v W hv => by
      have h1 := paint_any s hs n m HB.out.1.1 HB.out.1.2 HB.out.2.1 HB.out.2.2 (s.size + 1) 0 0 0 n m (fun _ _ => 0) v W (by omega) (Nat.zero_le _) (by rw [← flatF_zero, eN]; exact hv) (Nat.zero_le _) (Nat.le_refl _) (Nat.zero_le _) (Nat.le_refl _)
      rw [ez] at h1
      exact h1
    have HTS : Hid (Hts z.1) := Lib.hid (by rw [← ez]; exact (paintM_inv s (s.size + 1) 0 0 0 n m _ (fun i j => ⟨Int.le_refl _, by decide⟩)).1)
    have HEN2 : Hid (∀ e, z.2 = some e → e ≤ s.size) := Lib.hid fun e h => (paintM_endF s (s.size + 1) 0 0 0 n m (fun _ _ => 0) e (by rw [ez]; exact h)).2
    have HG : Hid (Grid (tabR n m z.1) m) := Lib.hid (tabR_grid HB.out.1.1 HB.out.1.2 HB.out.2.1 HB.out.2.2 HTS.out)
    have HIS : Hid (∀ H, IsReadI s (n : Int) (m : Int) H → z.2 = some s.size ∧ tabR n m z.1 = H ∧ quadX H = s) := Lib.hid fun H ⟨n', m', e1, e2, _, h⟩ => by
      obtain rfl : n' = n := by omega
      obtain rfl : m' = m := by omega
      obtain ⟨G, hl, hq⟩ := h
      have h0 := quadX_grid G
      have hd : (codes s).drop 0 = codes (qT (cellS H) 11 0 0 n' m') ++ [] := by
        rw [List.drop_zero, List.append_nil, ← hl, ← h0, hq]
      have h1 := paintM_qT s (cellS H) (cellS_hts G) 11 0 0 n' m' 0 (fun _ _ => 0) [] (s.size + 1) (Nat.zero_le _) (Nat.zero_le _) (by have := HB.out; omega) hd (by omega)
      rw [ez] at h1
      have h2 : (codes (qT (cellS H) 11 0 0 n' m')).length = s.size := by rw [← hl, ← h0, hq, codes_len]
      rw [h2, Nat.zero_add] at h1
      refine ⟨by rw [h1], by rw [h1]; exact tabR_over G hl, hq⟩
    clear hr hc hg ez eN hs
    unfold PaintPost at HPA
    go_enter Tryd.func13, Tryd.ntmps13
    go_wp2_with (fail)
    refine HR.out.mono ?_
    rintro e w1 ⟨rfl, rfl⟩
    go_wp2_with (fail)
    refine HC.out.mono ?_
    rintro e w1 ⟨rfl, rfl⟩
    go_wp2_with (at_make; refine wpList_make_ints rfl (.tmp 22) (.tmp 22) 28 rfl Tryd.underlying28 Tryd.infoI rfl rfl rfl rfl (by omega) ?_; intro w1 hO1 hg1 hs1)
    have H1 := Lib.hid (And.intro hO1 hg1)
    clear hO1 hg1 hw
    refine (HPA.out _ _ H1.out.1.toV).mono ?_
    rintro e w2 ⟨v2, rfl, hv2, hg2⟩
    have HG2 := Lib.hid (H1.out.2.trans hg2)
    have HSH := Lib.hid (shaped_any v2 (flatF n m z.1) n m w2 hv2 (flatF_len _ _ _) HB.out.1.2 HB.out.2.1 HB.out.2.2)
    rw [shapeL_flatF n m z.1 HB.out.2.1] at HSH
    clear hv2 hg2 hs1
    go_wp2_with (fail)
    refine HSH.out.mono ?_
    rintro e w3 ⟨v3, rfl, hO3, hg3⟩
    have HO3 := Lib.hid hO3
    have HG3 := Lib.hid (HG2.out.trans hg3)
    have HQD := Lib.hid (squad_any v3 (tabR n m z.1) m HG.out 11 (Nat.le_refl _) 0 0 n m w3 hO3.toV (Nat.zero_le _) (by rw [tabR_len]; exact Nat.le_refl _) (Nat.zero_le _) (Nat.le_refl _) (by have := HB.out; omega))
    unfold TextPost at HQD
    clear hO3 hg3 HSH
    by_cases hz : z.2 = some s.size
    · rw [hz]
      rw [show endI (some s.size) = (s.size : Int) from rfl]
      clear hz
      go_wp2_with (fail)
      refine HQD.out.mono ?_
      rintro e w4 ⟨rfl, hg4⟩
      have HG4 := Lib.hid hg4
      clear hg4
      obtain ⟨Z, eZ⟩ : ∃ Z, qT (cellS (tabR n m z.1)) 11 0 0 n m = Z := ⟨_, rfl⟩
      have HZZ : Hid (quadX (tabR n m z.1) = Z) := Lib.hid (by rw [quadX_grid HG.out, tabR_len, eZ])
      rw [eZ]
      clear eZ
      by_cases hq : Z = s
      · have HF : Hid (Grew w w4 ∧ RowsO 28 3 w.heap.size w4.heap.size w4 v3 (tabR n m z.1) ∧ IsReadI s (n : Int) (m : Int) (tabR n m z.1)) := Lib.hid ⟨HG3.out.trans HG4.out, (HO3.out.grew HG4.out).wide HG2.out.size HG4.out.size, n, m, rfl, rfl, HB.out, HG.out, tabR_len _ _ _, by rw [HZZ.out]; exact hq⟩
        have htx := txt_eq hq
        clear hq
        go_wp2
        go_ret2
        exact (HPQ.out _ _).2 ⟨HF.out.1, .inl ⟨_, _, rfl, HF.out.2⟩⟩
      · have HF : Hid (Grew w w4 ∧ ∀ H, ¬ IsReadI s (n : Int) (m : Int) H) := Lib.hid ⟨HG3.out.trans HG4.out, fun H h => hq (by
          obtain ⟨-, e2, e3⟩ := HIS.out H h
          rw [← HZZ.out, e2]
          exact e3)⟩
        have htx := txt_ne hq
        clear hq
        go_wp2
        go_ret2
        exact (HPQ.out _ _).2 ⟨HF.out.1, .inr ⟨HF.out.2, rfl⟩⟩
    · have HF : Hid (Grew w w3 ∧ ∀ H, ¬ IsReadI s (n : Int) (m : Int) H) := Lib.hid ⟨HG3.out, fun H h => hz (HIS.out H h).1⟩
      obtain ⟨E, eE⟩ : ∃ E, endI z.2 = E := ⟨_, rfl⟩
      have hne : ¬ (E = (s.size : Int)) := by
        rw [← eE]
        intro h
        apply hz
        cases hz2 : z.2 with
        | none => rw [hz2] at h; have h' : (-1 : Int) = (s.size : Int) := h; omega
        | some e => rw [hz2] at h; have h' : (e : Int) = (s.size : Int) := h; rw [show e = s.size by omega]
      rw [eE]
      have hnb : (E != (s.size : Int)) = true := by simp [hne]
      have hnc : (E == (s.size : Int)) = false := by simp [hne]
      clear hz eE hne
      go_wp2
      go_ret2
      exact (HPQ.out _ _).2 ⟨HF.out.1, .inr ⟨HF.out.2, rfl⟩⟩
  · have HN : Hid (∀ H, ¬ IsReadI s r c H) := Lib.hid fun H ⟨n, m, e1, e2, hb, _⟩ => hg (by omega)
    clear hs
    go_enter Tryd.func13, Tryd.ntmps13
    go_wp2_with (fail)
    refine HR.out.mono ?_
    rintro e w1 ⟨rfl, rfl⟩
    by_cases hr : 1 ≤ r ∧ r ≤ 5
    · have hr2 : inR r 1 5 = true := by simp [inR]; omega
      have hc2 : inR c 1 5 = false := by
        have : ¬ (1 ≤ c ∧ c ≤ 5) := fun h => hg ⟨hr, h⟩
        simp [inR]; omega
      rw [hr2]
      rw [hc2] at HC
      clear hg hr hr2 hc2
      go_wp2_with (fail)
      refine HC.out.mono ?_
      rintro e w1 ⟨rfl, rfl⟩
      go_wp2
      go_ret2
      exact (HPQ.out _ _).2 ⟨Grew.refl _, .inr ⟨HN.out, rfl⟩⟩
    · have hr2 : inR r 1 5 = false := by simp [inR]; omega
      rw [hr2]
      clear hg hr hr2
      go_wp2
      go_ret2
      exact (HPQ.out _ _).2 ⟨Grew.refl _, .inr ⟨HN.out, rfl⟩⟩
end Go.Proofs.YtlfoimjohdaofaaDoor
