/- The law FnGreatestPart returns true. -/
import Derived.Test.YtkeeonjbkfgeeaaSSumIn
import Derived.Test.YtkeeonjbkfgeeaaSGreat
import Derived.Test.YtkeeonjbkfgeeaaDraws11
namespace Go.Proofs.Ytkeeonjbkfgeeaa
open Go.RowKit

/-! The greatest part, part by part. -/
def P1 (h : List (List Int)) (s : Int) (n m t : Nat) (v : Int) : Prop := ∃ t' b l r : Nat, t' < t ∧ t' < b ∧ b ≤ n ∧ l < r ∧ r ≤ m ∧ v = valS h s t' l b r
def P2 (h : List (List Int)) (s : Int) (m t b : Nat) (v : Int) : Prop := ∃ b' l r : Nat, t < b' ∧ b' < b ∧ l < r ∧ r ≤ m ∧ v = valS h s t l b' r
def P3 (h : List (List Int)) (s : Int) (m t b l : Nat) (v : Int) : Prop := ∃ l' r : Nat, l' < l ∧ l' < r ∧ r ≤ m ∧ v = valS h s t l' b r
def P4 (h : List (List Int)) (s : Int) (t b l r : Nat) (v : Int) : Prop := ∃ r' : Nat, l < r' ∧ r' < r ∧ v = valS h s t l b r'
theorem Bst.more {P Q : Int → Prop} {x : Int} (h : Bst P x) (hq : ∀ v, ¬ Q v) : Bst (fun v => P v ∨ Q v) x := h.congr fun v => ⟨.inl, fun e => e.elim id fun e => absurd e (hq v)⟩
theorem br_0 (h : List (List Int)) (s : Int) (n m : Nat) : Bst (P1 h s n m 0) 0 := Bst.none fun v ⟨_, _, _, _, h, _⟩ => by omega
theorem br_2 {h : List (List Int)} {s : Int} {m t : Nat} {P : Int → Prop} {x : Int} (hb : Bst P x) : Bst (fun v => P v ∨ P2 h s m t (t + 1) v) x := hb.more fun v ⟨_, _, _, h1, h2, _⟩ => by omega
theorem br_3 {h : List (List Int)} {s : Int} {m t b : Nat} {P : Int → Prop} {x : Int} (hb : Bst P x) : Bst (fun v => P v ∨ P3 h s m t b 0 v) x := hb.more fun v ⟨_, _, h1, _⟩ => by omega
theorem br_4 {h : List (List Int)} {s : Int} {t b l : Nat} {P : Int → Prop} {x : Int} (hb : Bst P x) : Bst (fun v => P v ∨ P4 h s t b l (l + 1) v) x := hb.more fun v ⟨_, h1, h2, _⟩ => by omega
theorem br_n4 {h : List (List Int)} {s : Int} {t b l r : Nat} {P : Int → Prop} {x : Int} (hl : l < r) (hb : Bst (fun v => P v ∨ P4 h s t b l r v) x) : Bst (fun v => P v ∨ P4 h s t b l (r + 1) v) (max x (valS h s t l b r)) := by
  refine (hb.add _).congr fun v => ⟨?_, ?_⟩
  · rintro ((e | ⟨r', h1, h2, e⟩) | e)
    · exact .inl e
    · exact .inr ⟨r', h1, by omega, e⟩
    · exact .inr ⟨r, hl, by omega, e⟩
  · rintro (e | ⟨r', h1, h2, e⟩)
    · exact .inl (.inl e)
    · by_cases hr : r' = r
      · subst hr; exact .inr e
      · exact .inl (.inr ⟨r', h1, by omega, e⟩)
theorem br_n3 {h : List (List Int)} {s : Int} {m t b l : Nat} {P : Int → Prop} {x : Int} (hb : Bst (fun v => (P v ∨ P3 h s m t b l v) ∨ P4 h s t b l (m + 1) v) x) : Bst (fun v => P v ∨ P3 h s m t b (l + 1) v) x := by
  refine hb.congr fun v => ⟨?_, ?_⟩
  · rintro ((e | ⟨l', r, h1, h2, h3, e⟩) | ⟨r, h1, h2, e⟩)
    · exact .inl e
    · exact .inr ⟨l', r, by omega, h2, h3, e⟩
    · exact .inr ⟨l, r, by omega, h1, by omega, e⟩
  · rintro (e | ⟨l', r, h1, h2, h3, e⟩)
    · exact .inl (.inl e)
    · by_cases hr : l' = l
      · subst hr; exact .inr ⟨r, h2, by omega, e⟩
      · exact .inl (.inr ⟨l', r, by omega, h2, h3, e⟩)
theorem br_n2 {h : List (List Int)} {s : Int} {m t b : Nat} {P : Int → Prop} {x : Int} (ht : t < b) (hb : Bst (fun v => (P v ∨ P2 h s m t b v) ∨ P3 h s m t b m v) x) : Bst (fun v => P v ∨ P2 h s m t (b + 1) v) x := by
  refine hb.congr fun v => ⟨?_, ?_⟩
  · rintro ((e | ⟨b', l, r, h1, h2, h3, h4, e⟩) | ⟨l, r, h1, h2, h3, e⟩)
    · exact .inl e
    · exact .inr ⟨b', l, r, h1, by omega, h3, h4, e⟩
    · exact .inr ⟨b, l, r, ht, by omega, h2, h3, e⟩
  · rintro (e | ⟨b', l, r, h1, h2, h3, h4, e⟩)
    · exact .inl (.inl e)
    · by_cases hr : b' = b
      · subst hr; exact .inr ⟨l, r, by omega, h3, h4, e⟩
      · exact .inl (.inr ⟨b', l, r, h1, by omega, h3, h4, e⟩)
theorem br_n1 {h : List (List Int)} {s : Int} {n m t : Nat} {x : Int} (hb : Bst (fun v => P1 h s n m t v ∨ P2 h s m t (n + 1) v) x) : Bst (P1 h s n m (t + 1)) x := by
  refine hb.congr fun v => ⟨?_, ?_⟩
  · rintro (⟨t', b, l, r, h1, h2, e⟩ | ⟨b, l, r, h1, h2, h3, h4, e⟩)
    · exact ⟨t', b, l, r, by omega, h2, e⟩
    · exact ⟨t, b, l, r, by omega, h1, by omega, h3, h4, e⟩
  · rintro ⟨t', b, l, r, h1, h2, h3, h4, h5, e⟩
    by_cases ht : t' = t
    · subst ht; exact .inr ⟨b, l, r, h2, by omega, h4, h5, e⟩
    · exact .inl ⟨t', b, l, r, by omega, h2, h3, h4, h5, e⟩
theorem br_end {h : List (List Int)} {s : Int} {n m : Nat} {x : Int} (hb : Bst (P1 h s n m n) x) : x = greatL h s n m := by
  refine Bst.unique (P := IsVal h s n m) (hb.congr fun v => ⟨?_, ?_⟩) (greatL_best h s n m)
  · rintro ⟨t, b, l, r, _, h2, h3, h4, h5, e⟩
    exact ⟨t, b, l, r, h2, h3, h4, h5, e⟩
  · rintro ⟨t, b, l, r, h2, h3, h4, h5, e⟩
    exact ⟨t, b, l, r, by omega, h2, h3, h4, h5, e⟩
theorem valS_law (h : List (List Int)) (s : Int) (t l b r : Nat) (h1 : t ≤ b) (h2 : l ≤ r) : partS h t l b r - s * ((b : Int) - t) * ((r : Int) - l) = valS h s t l b r := by
  rw [← valS_is h s t l b r h1 h2, Int.mul_assoc]

set_option maxRecDepth 100000 in
set_option maxHeartbeats 8000000 in
theorem FnGreatestPart_any (v : Value) (bs : List Int) (w : World) (hv : NumsV .u8 w v bs) (hb : ∀ i, i < bs.length → 0 ≤ bs.getD i 0 ∧ bs.getD i 0 ≤ 255) :
    Calls Try.prog 5 #[v] w fun e w' => e = .returned (.bool true) ∧ Grew w w' := by
  have HD := Lib.hid (DrawGreatestPart_any v bs w hv hb)
  obtain ⟨a, b', o, c, rfl, ⟨hlc, hcb⟩, _, _⟩ := hv.shape
  clear hv hb
  by_cases hbig : 1048576 < bs.length
  · go_enter Try.func5, Try.ntmps5
    go_wp2
    go_ret
    exact ⟨rfl, Grew.refl _⟩
  · go_enter Try.func5, Try.ntmps5
    go_wp2_with (fail)
    refine HD.out.mono ?_
    rintro e w1 ⟨v1, H, s, rfl, hO, hd, ⟨hs0, hs1⟩, hg1⟩
    have HV := Lib.hid (And.intro hO.toV hg1)
    obtain ⟨a3, c3, rfl⟩ := hO.sh
    have HSI : Hid (∀ W, Grew w1 W → Calls Try.prog 24 #[.slice a3 H.length c3, .int .i64 s] W fun e w' => e = .returned (.int .i64 (greatX H s)) ∧ Grew W w') := Lib.hid fun W hW => SGreatestPart_any _ H s W (HV.out.1.grew hW)
    have HM := Lib.hid (GreatestPart_any _ H s w1 HV.out.1)
    obtain ⟨M, eM⟩ : ∃ M, greatX H s = M := ⟨_, rfl⟩
    rw [eM] at HM HSI
    have HEM := Lib.hid eM
    clear hO hd hg1 HD eM
    go_wp2_with (fail)
    refine HM.out.mono ?_
    rintro e w2 ⟨rfl, hg2⟩
    have HG2 := Lib.hid hg2
    clear hg2
    go_wp2_with (fail)
    refine (HSI.out _ HG2.out).mono ?_
    rintro e w3 ⟨rfl, hg3⟩
    have HG3 := Lib.hid (HG2.out.trans hg3)
    clear hg3
    have ebb : (M != M) = false := by simp
    have ebe : (M == M) = true := by simp
    by_cases hM : M < 0
    · go_wp2_with (fail)
      refine (HSI.out _ HG3.out).mono ?_
      rintro e w4 ⟨rfl, hg4⟩
      have HG4 := Lib.hid (HG3.out.trans hg4)
      clear hg4
      go_wp2
      go_ret
      exact ⟨rfl, HV.out.2.trans HG4.out⟩
    · have hg : vGrid H = true := by
        cases hx : vGrid H with
        | true => rfl
        | false =>
          exfalso
          apply hM
          rw [← HEM.out]
          unfold greatX
          rw [hx]
          simp
      have hs : 0 ≤ s ∧ s ≤ 12 := by
        by_cases hx : 0 ≤ s ∧ s ≤ 12
        · exact hx
        · exfalso
          apply hM
          rw [← HEM.out]
          unfold greatX
          rw [if_pos hg, if_neg hx]
          decide
      have G := Grid.of hg
      obtain ⟨m, em⟩ : ∃ m, (H.getD 0 []).length = m := ⟨_, rfl⟩
      obtain ⟨n, en⟩ : ∃ n, H.length = n := ⟨_, rfl⟩
      rw [em] at G
      have hn5 := G.n5
      have hn1 := G.n1
      have hm5 := G.m5
      have hm1 := G.m1
      rw [en] at hn5 hn1
      have hMe : M = greatL H s n m := by
        rw [← HEM.out]
        unfold greatX
        rw [if_pos hg, if_pos hs, em, en]
      have HIS : Hid (∀ (t l b r : Nat) W, t < b → b ≤ n → l < r → r ≤ m → Grew w1 W → Calls Try.prog 19 #[.slice a3 n c3, .int .i64 t, .int .i64 l, .int .i64 b, .int .i64 r] W fun e w' => e = .returned (.int .i64 (partS H t l b r)) ∧ Grew W w') := Lib.hid fun t l b r W h1 h2 h3 h4 hW => by
        have := SumIn_any _ H t l b r W (HV.out.1.grew hW)
        unfold sumX at this
        rw [if_pos (by simp only [vPart, Bool.and_eq_true, spanB_iff]; rw [em, en]; exact ⟨⟨hg, by omega, by omega, by omega⟩, by omega, by omega, by omega⟩), en] at this
        simpa using this
      have HRW : Hid (∃ bH oH a0 c0, a3 = some ⟨bH, oH, none⟩ ∧ ∀ W, Grew w1 W → W.cell? ⟨bH, oH, none⟩ = some (.slice a0 m c0)) := by
        obtain ⟨a', b', o', c', e', _, ha', HC'⟩ := HV.out.1.shape
        obtain ⟨u, hc, hu⟩ := HC'.out 0 (by omega)
        obtain ⟨ax, bx, ox, cx, rfl, _, _, _⟩ := hu.shape
        rw [em] at hc
        simp only [Value.slice.injEq] at e'
        exact ⟨b', o', ax, cx, by rw [e'.1]; exact ha' (by omega), fun W hW => by simpa using hW.cell hc⟩
      obtain ⟨bH, oH, a0, c0, rfl, hrow⟩ := HRW.out
      have HROW := Lib.hid hrow
      have HVB : Hid (∀ t l b r : Nat, b ≤ n → r ≤ m → -300 ≤ valS H s t l b r ∧ valS H s t l b r ≤ 300) := Lib.hid fun t l b r h1 h2 => valS_bd G s hs t l b r (by omega) h2
      have HPB : Hid (∀ t l b r : Nat, b ≤ n → r ≤ m → 0 ≤ partS H t l b r ∧ partS H t l b r ≤ 300) := Lib.hid fun t l b r h1 h2 => partS_bd G t l b r (by omega) h2
      have HVL := Lib.hid (fun (t l b r : Nat) (h1 : t ≤ b) (h2 : l ≤ r) => valS_law H s t l b r h1 h2)
      have HME := Lib.hid hMe
      have hn0 : (0 : Int) < n := by omega
      have hn0' : 0 < n := hn1
      obtain ⟨hs0', hs12⟩ := hs
      rw [en]
      clear hg G em en HM HSI HEM hMe HRW hrow hs0 hs1
      go_wp2
      clear hM ebb
      go_loopw [6, 7] (fun g i wr => ∃ (t : Nat) (x : Int), t ≤ n ∧ i = .int .i64 t ∧ g = .int .i64 x ∧ Hid (Bst (P1 H s n m t) x) ∧ Hid (0 ≤ x ∧ x ≤ 300) ∧ Hid (Grew w1 wr)) (fun _ i _ => n - (intOf i).toNat)
      case atStart => exact ⟨0, 0, Nat.zero_le _, rfl, rfl, br_0 H s n m, ⟨by omega, by omega⟩, HG3.out⟩
      case round =>
        obtain ⟨t, x, ht, rfl, rfl, HB, HX, HW⟩ := hrel
        by_cases hlt : t < n
        · have hti : (t : Int) < n := by omega
          have HB2 : Hid (Bst (fun v => P1 H s n m t v ∨ P2 H s m t (t + 1) v) x) := br_2 HB.out
          go_wp2
          go_loopw [6, 8] (fun g i wr => ∃ (b : Nat) (x : Int), t < b ∧ b ≤ n + 1 ∧ i = .int .i64 b ∧ g = .int .i64 x ∧ Hid (Bst (fun v => P1 H s n m t v ∨ P2 H s m t b v) x) ∧ Hid (0 ≤ x ∧ x ≤ 300) ∧ Hid (Grew w1 wr)) (fun _ i _ => n + 1 - (intOf i).toNat)
          case atStart => exact ⟨t + 1, x, by omega, by omega, by go_num, rfl, HB2.out, HX.out, HW.out⟩
          case round =>
            obtain ⟨b, x, htb, hbn, rfl, rfl, HB, HX, HW⟩ := hrel
            clear HB2
            by_cases hlb : b ≤ n
            · have hbi : (b : Int) ≤ n := by omega
              have HB3 : Hid (Bst (fun v => (P1 H s n m t v ∨ P2 H s m t b v) ∨ P3 H s m t b 0 v) x) := br_3 HB.out
              go_wp2
              go_loopw [6, 9] (fun g i wr => ∃ (l : Nat) (x : Int), l ≤ m ∧ i = .int .i64 l ∧ g = .int .i64 x ∧ Hid (Bst (fun v => (P1 H s n m t v ∨ P2 H s m t b v) ∨ P3 H s m t b l v) x) ∧ Hid (0 ≤ x ∧ x ≤ 300) ∧ Hid (Grew w1 wr)) (fun _ i _ => m - (intOf i).toNat)
              case atStart => exact ⟨0, x, Nat.zero_le _, rfl, rfl, HB3.out, HX.out, HW.out⟩
              case round =>
                obtain ⟨l, x, hlm, rfl, rfl, HB, HX, HW⟩ := hrel
                clear HB3
                have hc0 := HROW.out _ HW.out
                by_cases hll : l < m
                · have hli : (l : Int) < m := by omega
                  have HB4 : Hid (Bst (fun v => ((P1 H s n m t v ∨ P2 H s m t b v) ∨ P3 H s m t b l v) ∨ P4 H s t b l (l + 1) v) x) := br_4 HB.out
                  go_wp2
                  clear hc0
                  go_loopw [6, 10] (fun g i wr => ∃ (r : Nat) (x : Int), l < r ∧ r ≤ m + 1 ∧ i = .int .i64 r ∧ g = .int .i64 x ∧ Hid (Bst (fun v => ((P1 H s n m t v ∨ P2 H s m t b v) ∨ P3 H s m t b l v) ∨ P4 H s t b l r v) x) ∧ Hid (0 ≤ x ∧ x ≤ 300) ∧ Hid (Grew w1 wr)) (fun _ i _ => m + 1 - (intOf i).toNat)
                  case atStart => exact ⟨l + 1, x, by omega, by omega, by go_num, rfl, HB4.out, HX.out, HW.out⟩
                  case round =>
                    obtain ⟨r, x, hlr, hrm, rfl, rfl, HB, HX, HW⟩ := hrel
                    clear HB4
                    have hc0 := HROW.out _ HW.out
                    by_cases hlr2 : r ≤ m
                    · have hri : (r : Int) ≤ m := by omega
                      have HC := Lib.hid (HIS.out t l b r wr htb hlb hlr hlr2 HW.out)
                      have hnb := br_n4 hlr HB.out
                      have hvb := HVB.out t l b r hlb hlr2
                      have hpb := HPB.out t l b r hlb hlr2
                      have hvl := HVL.out t l b r (by omega) (by omega)
                      have hx := HX.out
                      have hbt : (0 : Int) ≤ (b : Int) - t := by omega
                      have hrl : (0 : Int) ≤ (r : Int) - l := by omega
                      have hq0 : 0 ≤ s * ((b : Int) - t) := Int.mul_nonneg hs0' hbt
                      have hq1 : s * ((b : Int) - t) ≤ 12 * 5 := Int.mul_le_mul hs12 (by omega) hbt (by omega)
                      have hp0 : 0 ≤ s * ((b : Int) - t) * ((r : Int) - l) := Int.mul_nonneg hq0 hrl
                      have hp1 : s * ((b : Int) - t) * ((r : Int) - l) ≤ 60 * 5 := Int.mul_le_mul (by omega) (by omega) hrl (by omega)
                      obtain ⟨ps, eps⟩ : ∃ p, partS H t l b r = p := ⟨_, rfl⟩
                      obtain ⟨val, eval⟩ : ∃ p, valS H s t l b r = p := ⟨_, rfl⟩
                      obtain ⟨q1, eq1⟩ : ∃ p, s * ((b : Int) - t) = p := ⟨_, rfl⟩
                      rw [eq1] at hq0 hq1 hp0 hp1 hvl
                      obtain ⟨q2, eq2⟩ : ∃ p, q1 * ((r : Int) - l) = p := ⟨_, rfl⟩
                      rw [eq2] at hp0 hp1 hvl
                      rw [eps] at HC hvl hpb
                      rw [eval] at hnb hvl hvb
                      have HNB : Hid (Bst (fun v => ((P1 H s n m t v ∨ P2 H s m t b v) ∨ P3 H s m t b l v) ∨ P4 H s t b l (r + 1) v) (max x (ps - q2))) := by rw [hvl]; exact hnb
                      have HXN : Hid (0 ≤ max x (ps - q2) ∧ max x (ps - q2) ≤ 300) := Lib.hid (by omega)
                      have wa : IntKind.i64.wrap (s * ((b : Int) - t)) = q1 := by rw [eq1]; exact IntWalk.i64_in _ (by omega)
                      have wb : IntKind.i64.wrap (q1 * ((r : Int) - l)) = q2 := by rw [eq2]; exact IntWalk.i64_in _ (by omega)
                      have wc : IntKind.i64.wrap (ps - q2) = ps - q2 := IntWalk.i64_in _ (by omega)
                      clear eps eval eq1 eq2 hnb hvl hvb hpb hq0 hq1 hp0 hp1 hx
                      go_wp2_with (fail)
                      refine HC.out.mono ?_
                      rintro e w5 ⟨rfl, hg5⟩
                      have HG5 := Lib.hid (HW.out.trans hg5)
                      clear hg5
                      go_wp2
                      clear wa wb wc
                      go_roundw
                      case rel => exact ⟨r + 1, max x (ps - q2), by omega, by omega, by go_num, rfl, HNB.out, HXN.out, HG5.out⟩
                      case measure => simp [intOf]; omega
                    · obtain rfl : r = m + 1 := by omega
                      have HBN : Hid (Bst (fun v => (P1 H s n m t v ∨ P2 H s m t b v) ∨ P3 H s m t b (l + 1) v) x) := br_n3 HB.out
                      have hri : ¬ ((m + 1 : Nat) : Int) ≤ m := by omega
                      go_wp2
                      clear hc0
                      go_roundw
                      case rel => exact ⟨l + 1, x, by omega, by go_num, rfl, HBN.out, HX.out, HW.out⟩
                      case measure => simp [intOf]; omega
                · obtain rfl : l = m := by omega
                  have HBN : Hid (Bst (fun v => P1 H s n l t v ∨ P2 H s l t (b + 1) v) x) := br_n2 htb HB.out
                  go_wp2
                  clear hc0
                  go_roundw
                  case rel => exact ⟨b + 1, x, by omega, by omega, by go_num, rfl, HBN.out, HX.out, HW.out⟩
                  case measure => simp [intOf]; omega
            · obtain rfl : b = n + 1 := by omega
              have HBN : Hid (Bst (P1 H s n m (t + 1)) x) := br_n1 HB.out
              have hri : ¬ ((n + 1 : Nat) : Int) ≤ n := by omega
              go_wp2
              go_roundw
              case rel => exact ⟨t + 1, x, by omega, by go_num, rfl, HBN.out, HX.out, HW.out⟩
              case measure => simp [intOf]; omega
        · obtain rfl : t = n := by omega
          have HE : Hid (x = M) := Lib.hid (by rw [HME.out]; exact br_end HB.out)
          go_wp2
          go_ret
          exact ⟨ret_bool (by simp [HE.out]), HV.out.2.trans HW.out⟩
end Go.Proofs.Ytkeeonjbkfgeeaa
