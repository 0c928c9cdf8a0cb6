/- The law FnQuadOf returns true. -/
import Derived.Test.YtlfoimjohdaofaaDoorDraws
import Derived.Test.YtlfoimjohdaofaaDoorEqualRows
import Derived.Test.YtlfoimjohdaofaaDoorLawExactReadQuad
namespace Go.Proofs.YtlfoimjohdaofaaDoor
open Go.RowKit

theorem drawn_many {H : List (List Int)} (hd : Drawn H) : H.length ≤ 1000 ∧ ∀ r, r < H.length → 1 ≤ (H.getD r []).length ∧ (H.getD r []).length ≤ 1000 :=
  ⟨by have := hd.1; omega, fun r hr => ⟨hd.2.2 r hr, by have := (hd.2.1 r hr).1; omega⟩⟩
/-- Are the first k numbers the first one? -/
def evenL (p : List Int) (k : Nat) : Bool := (p.take k).all fun x => x == p.getD 0 0
theorem evenL_next (p : List Int) (k : Nat) (hk : k < p.length) : evenL p (k + 1) = (evenL p k && (p.getD k 0 == p.getD 0 0)) := all_snoc _ p 0 k hk
theorem mem_grid {H : List (List Int)} {m : Nat} (G : Grid H m) (x : Int) : x ∈ H.flatten ↔ ∃ i j, i < H.length ∧ j < m ∧ x = cellS H i j := by
  rw [List.mem_flatten]
  constructor
  · rintro ⟨l, hl, hx⟩
    obtain ⟨i, hi, rfl⟩ := List.getElem_of_mem hl
    obtain ⟨j, hj, rfl⟩ := List.getElem_of_mem hx
    have h1 : H[i].length = m := by have := G.len i hi; simpa [hi] using this
    exact ⟨i, j, hi, by omega, by simp [cellS, hi, hj]⟩
  · rintro ⟨i, j, hi, hj, rfl⟩
    have h1 : H[i].length = m := by have := G.len i hi; simpa [hi] using this
    have hj' : j < H[i].length := by omega
    refine ⟨H[i], List.getElem_mem hi, ?_⟩
    have e : cellS H i j = H[i][j] := by simp [cellS, hi, hj']
    rw [e]
    exact List.getElem_mem hj'
theorem first_grid {H : List (List Int)} {m : Nat} (G : Grid H m) : H.flatten.getD 0 0 = cellS H 0 0 := by
  have h1 := G.n1
  have h2 := G.len 0 (by omega)
  have h3 := G.m1
  match H, h1, h2 with
  | [] :: t, _, h2 => simp at h2; omega
  | (x :: r) :: t, _, _ => rfl
theorem evenL_grid {H : List (List Int)} {m : Nat} (G : Grid H m) : evenL H.flatten H.flatten.length = evenQ (cellS H) 0 0 H.length m := by
  unfold evenL
  rw [List.take_length, Bool.eq_iff_iff, List.all_eq_true, evenQ_iff, first_grid G]
  constructor
  · intro h i j hi hj
    have h2 := h (cellS H i j) ((mem_grid G _).2 ⟨i, j, by omega, by omega, rfl⟩)
    rw [beq_iff_eq] at h2
    rw [Nat.zero_add, Nat.zero_add]
    exact h2
  · intro h x hx
    obtain ⟨i, j, hi, hj, rfl⟩ := (mem_grid G x).1 hx
    have h2 := h i j (by omega) (by omega)
    rw [Nat.zero_add, Nat.zero_add] at h2
    rw [beq_iff_eq]
    exact h2
/-- How the text of a grid begins. -/
theorem quadX_first {H : List (List Int)} {m : Nat} (G : Grid H m) : 0 < (quadX H).size ∧ (cdS (quadX H) 0 = 40 ↔ evenQ (cellS H) 0 0 H.length m = false) := by
  rw [quadX_grid G]
  have h0 : ¬ (0 = H.length ∨ 0 = m) := by have := G.n1; have := G.m1; omega
  have hn := cellS_hts G 0 0
  have hsz : ∀ s : ByteArray, 0 < (codes s).length → 0 < s.size := fun s h => by rw [codes_len] at h; exact h
  cases he : evenQ (cellS H) 0 0 H.length m with
  | true =>
    have e : qT (cellS H) 11 0 0 H.length m = numS (cellS H 0 0).toNat ++ ⟨#[59]⟩ := qT_even h0 he
    rw [e]
    have h1 := codes_num (cellS H 0 0).toNat (by omega)
    refine ⟨hsz _ ?_, ?_⟩
    · rw [codes_append, List.length_append]
      show 0 < _ + 1
      omega
    · constructor
      · intro h
        unfold cdS at h
        rw [codes_append, h1] at h
        split at h
        · simp at h; omega
        · simp at h
      · intro h; cases h
  | false =>
    have e : qT (cellS H) 11 0 0 H.length m = ⟨#[40]⟩ ++ qT (cellS H) 10 0 0 (midQ 0 H.length) (midQ 0 m) ++ qT (cellS H) 10 0 (midQ 0 m) (midQ 0 H.length) m ++ qT (cellS H) 10 (midQ 0 H.length) 0 H.length (midQ 0 m) ++ qT (cellS H) 10 (midQ 0 H.length) (midQ 0 m) H.length m ++ ⟨#[41]⟩ := qT_more h0 he
    rw [e]
    have e40 : codes ⟨#[40]⟩ = [40] := rfl
    refine ⟨hsz _ ?_, fun _ => rfl, fun _ => ?_⟩
    · simp only [codes_append, e40, List.length_append, List.length_cons]
      omega
    · unfold cdS
      simp only [codes_append, e40, List.append_assoc, List.cons_append, List.nil_append]
      rfl
set_option maxRecDepth 100000 in
set_option maxHeartbeats 8000000 in
theorem FnQuadOf_any (v : Value) (bs : List Int) (w : World) (hv : NumsV .u8 w v bs) (hb : ∀ i, i < bs.length → 0 ≤ bs.getD i 0 ∧ bs.getD i 0 ≤ 255) (hE : ErrAs w) :
    Calls Tryd.prog 3 #[v] w fun e w' => e = .returned (.bool true) ∧ Grew w w' := by
  have HD := Lib.hid (DrawQuadOf_any v bs w hv hb)
  have HE := Lib.hid hE
  obtain ⟨a, b, o, c, rfl, ⟨hlc, hcb⟩, _, _⟩ := hv.shape
  clear hv hb hE
  by_cases hbig : 1048576 < bs.length
  · go_enter Tryd.func3, Tryd.ntmps3
    go_wp2
    go_ret
    exact ⟨rfl, Grew.refl _⟩
  · go_enter Tryd.func3, Tryd.ntmps3
    go_wp2_with (fail)
    refine HD.out.mono ?_
    rintro e w1 ⟨v1, H, rfl, hO, hd, hg1⟩
    have HDD := Lib.hid (drawn_many hd)
    have HO := Lib.hid hO
    have HV := Lib.hid (And.intro hO.toV hg1)
    obtain ⟨Q, eQ⟩ : ∃ Q, quadX H = Q := ⟨_, rfl⟩
    have HQ := Lib.hid eQ
    have HI : Hid (∀ W, Grew w1 W → Calls Tryd.prog 7 #[v1] W fun e w' => e = .returned (.string Q) ∧ Grew W w') := Lib.hid fun W hW => by
      have := QuadOf_any v1 H W (HV.out.1.grew hW)
      unfold TextPost at this
      rwa [eQ] at this
    have HP : Hid (∀ W, Grew w1 W → Calls Tryd.prog 8 #[v1] W fun e w' => e = .returned (.string Q) ∧ Grew W w') := Lib.hid fun W hW => by
      have := SQuadOf_any v1 H W (HV.out.1.grew hW)
      unfold TextPost at this
      rwa [eQ] at this
    clear hO hd hg1 HD eQ
    have hqq : (Q.toList == Q.toList) = true := by simp
    go_wp2_with (fail)
    refine (HI.out _ (Grew.refl _)).mono ?_
    rintro e w2 ⟨rfl, hg2⟩
    have HG2 := Lib.hid hg2
    clear hg2
    go_wp2_with (fail)
    refine (HP.out _ HG2.out).mono ?_
    rintro e w3 ⟨rfl, hg3⟩
    have HG3 := Lib.hid (HG2.out.trans hg3)
    clear hg3
    cases hvg : vGrid H with
    | false =>
      have eQ : Q = ⟨#[]⟩ := by rw [← HQ.out]; unfold quadX; rw [hvg]; rfl
      have hq0 : Q.toList.isEmpty = true := by rw [eQ, ByteArray.toList_eq]; rfl
      clear eQ hvg
      go_wp2_with (fail)
      refine (HP.out _ HG3.out).mono ?_
      rintro e w4 ⟨rfl, hg4⟩
      have HG4 := Lib.hid (HG3.out.trans hg4)
      clear hg4
      go_wp2
      go_ret
      exact ⟨rfl, HV.out.2.trans HG4.out⟩
    | true =>
      have G := Grid.of hvg
      obtain ⟨m, em⟩ : ∃ m, (H.getD 0 []).length = m := ⟨_, rfl⟩
      rw [em] at G
      have HGR := Lib.hid G
      have hf := quadX_first G
      rw [HQ.out] at hf
      have hq0 : Q.toList.isEmpty = false := by
        have h1 := hf.1
        rw [ByteArray.toList_eq]
        cases hh : Q.data.toList with
        | nil =>
          have h2 := codes_len Q
          rw [codes, hh] at h2
          simp at h2
          omega
        | cons x y => rfl
      obtain ⟨d, ed⟩ : ∃ d, cdS Q 0 = d := ⟨_, rfl⟩
      have hi0 : ∀ W : World, (Instr.index 9 (.string Q) (.int .i64 0)).run Tryd.prog W = .ok (.int .u8 (d : Int)) W := fun W => by
        have := run_index_cd (P := Tryd.prog) (w := W) 9 Q 0 Tryd.underlying9 hf.1
        rw [ed] at this
        exact this
      obtain ⟨ev, eev⟩ : ∃ ev, evenQ (cellS H) 0 0 H.length m = ev := ⟨_, rfl⟩
      have HF : Hid (((d : Int) == 40) = !ev) := Lib.hid (by
        rw [← ed, ← eev]
        cases he : evenQ (cellS H) 0 0 H.length m with
        | true =>
          have : ¬ cdS Q 0 = 40 := fun h => by rw [he] at hf; have := hf.2.1 h; cases this
          simp
          omega
        | false =>
          have : cdS Q 0 = 40 := hf.2.2 he
          simp [this])
      have HEV : Hid (evenL H.flatten H.flatten.length = ev) := Lib.hid (by rw [evenL_grid G, eev])
      obtain ⟨M, ok, hX, -, hM⟩ := readX_one Q (H.length : Int) (m : Int)
      have hIR : IsReadI Q (H.length : Int) (m : Int) H := ⟨H.length, m, rfl, rfl, ⟨⟨G.n1, G.n5⟩, G.m1, G.m5⟩, G, rfl, HQ.out⟩
      have hMH : M = H ∧ ok = true := by
        rcases hM with ⟨h1, h2⟩ | ⟨_, _, h3⟩
        · exact ⟨h2.one hIR, h1⟩
        · exact absurd hIR (h3 H)
      obtain ⟨rfl, rfl⟩ := hMH
      have HRQ : Hid (∀ W, Grew w1 W → Calls Tryd.prog 9 #[.string Q, .int .i64 M.length, .int .i64 m] W (ReadY M true W)) := Lib.hid fun W hW => (ReadQuad_any Q _ _ W (by have := G.n5; omega) (by have := G.m5; omega) ((HE.out.grew HV.out.2).grew hW)).mono fun e w' h => hX _ _ _ h
      unfold ReadY at HRQ
      obtain ⟨g, c1, ev1, -, -, -, -⟩ := HO.out.pos (by have := G.n1; omega)
      subst ev1
      obtain ⟨u, hcu, hU⟩ := HO.out.at rfl (i := 0) (by have := G.n1; omega)
      obtain ⟨au, cu, rfl⟩ : ∃ a c, u = .slice a m c := by
        obtain ⟨a, c, e⟩ := hU.pos (by rw [em]; exact G.m1)
        rw [em] at e
        exact ⟨_, _, e.1⟩
      have hc0 := HG3.out.cell hcu
      have hn0 : (0 : Int) < M.length := by have := G.n1; omega
      have hn1 : 0 < M.length := by have := G.n1; omega
      clear hf ed eev hX hM hIR G em hvg hcu hU
      go_wp2_with (fail)
      refine (HRQ.out _ HG3.out).mono ?_
      rintro e w5 ⟨v5, rfl, hO5, hg5⟩
      have H5 := Lib.hid (And.intro hO5.toV (HG3.out.trans hg5))
      clear hO5 hg5 hc0 hn0 hn1 hq0
      go_wp2_with (fail)
      refine (rowOf_any _ M _ (HV.out.1.grew H5.out.2) HDD.out.1 HDD.out.2).mono ?_
      rintro e w6 ⟨g6, c6, rfl, hO6, hg6⟩
      have H6 := Lib.hid (And.intro hO6 (And.intro (H5.out.1.grew hg6) (H5.out.2.trans hg6)))
      obtain ⟨P, eP⟩ : ∃ P, M.flatten = P := ⟨_, rfl⟩
      rw [eP] at H6 HEV ⊢
      obtain ⟨LN, eLN⟩ : ∃ LN, P.length = LN := ⟨_, rfl⟩
      have HLN := Lib.hid eLN
      have HP1 : Hid (LN ≤ 25 ∧ 0 < LN) := Lib.hid (by
        have h1 := flat_grid_len HGR.out
        rw [eP, eLN] at h1
        have h2 : M.length * m ≤ 5 * 5 := Nat.mul_le_mul HGR.out.n5 HGR.out.m5
        have h3 := Nat.mul_pos HGR.out.n1 HGR.out.m1
        omega)
      rw [eLN] at H6 HEV ⊢
      clear hO6 hg6 eP eLN
      go_wp2
      go_loopw [8, 9] (fun bv iv wr => ∃ i : Nat, i ≤ LN ∧ iv = .int .i64 (i : Int) ∧ bv = .bool (evenL P i) ∧ Hid (Grew w6 wr)) (fun _ iv _ => LN - (intOf iv).toNat)
      case atStart => exact ⟨0, Nat.zero_le _, rfl, rfl, Grew.refl _⟩
      case round =>
        obtain ⟨i, hi, rfl, rfl, HG⟩ := hrel
        by_cases hlt : i < LN
        · obtain ⟨q1, -⟩ := (H6.out.1.grew HG.out).at rfl (i := i) (by rw [HLN.out]; exact hlt)
          obtain ⟨q2, -⟩ := (H6.out.1.grew HG.out).at rfl (i := 0) (by rw [HLN.out]; exact HP1.out.2)
          have hnx := evenL_next P i (by rw [HLN.out]; exact hlt)
          have hl0 : (0 : Int) < LN := by have := HP1.out.2; omega
          have hl1 : 0 < LN := HP1.out.2
          have hl2 : (i : Int) < LN := by omega
          have hl3 : LN ≤ 25 := HP1.out.1
          obtain ⟨x, ex⟩ : ∃ x, P.getD i 0 = x := ⟨_, rfl⟩
          obtain ⟨y, ey⟩ : ∃ y, P.getD 0 0 = y := ⟨_, rfl⟩
          rw [ex, ey] at hnx
          rw [ex] at q1
          rw [ey] at q2
          have HGN : Hid (∀ k, Grew w6 (wr.drewN k)) := Lib.hid fun k => HG.out.drewN k
          cases hev : evenL P i with
          | true =>
            rw [hev, Bool.true_and] at hnx
            have HNX := Lib.hid hnx
            clear hnx ex ey hev
            go_wp2
            go_quiet (fail)
            go_wp2
            go_roundw
            case rel => exact ⟨i + 1, by omega, by go_num, by rw [HNX.out], HGN.out _⟩
            case measure => simp [intOf]; omega
          | false =>
            rw [hev, Bool.false_and] at hnx
            have HNX := Lib.hid hnx
            clear hnx ex ey hev
            go_wp2
            go_quiet (fail)
            go_wp2
            go_roundw
            case rel => exact ⟨i + 1, by omega, by go_num, by rw [HNX.out], HGN.out _⟩
            case measure => simp [intOf]; omega
        · obtain rfl : i = LN := by omega
          rw [HEV.out]
          have HV8 := Lib.hid (And.intro (H6.out.2.1.grew HG.out) (HV.out.1.grew (H6.out.2.2.trans HG.out)))
          have hdn : ((d : Int) != 40) = ev := by rw [bne, HF.out, Bool.not_not]
          clear hi hlt
          go_wp2_with (fail)
          refine (equalRows_any _ _ M M _ HV8.out.1 HV8.out.2).mono ?_
          rw [decide_eq_true (rfl : M = M)]
          rintro e w9 ⟨rfl, hq⟩
          have HG9 : Hid (Grew w w9) := Lib.hid (HV.out.2.trans (H6.out.2.2.trans (HG.out.trans (quiet_grew hq))))
          clear hq
          cases ev
          all_goals
            go_wp2
            go_ret
            exact ⟨rfl, HG9.out⟩
end Go.Proofs.YtlfoimjohdaofaaDoor
