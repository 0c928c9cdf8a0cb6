/- FnPassesOverPits: for every input the law returns true, and the input reads as it did, where the table of steps reads as the program's text lays it; tied to that text. Its conditions: that one listed variable, tied. -/
import Derived.Test.YtdjjimnfhfdjdaaDoorKeepG
import Derived.Test.YtdjjimnfhfdjdaaDoorLawPitsOf
import Derived.Test.YtdjjimnfhfdjdaaDoorKeeps
import Derived.Test.YtdjjimnfhfdjdaaDoorSKeeps
import Derived.Test.YtdjjimnfhfdjdaaDoorFilledFrom
import Derived.Test.YtdjjimnfhfdjdaaDoorWays
import Derived.Test.YtdjjimnfhfdjdaaDoorCameRows
import Derived.Test.YtdjjimnfhfdjdaaDoorTied
import Derived.Test.YtdjjimnfhfdjdaaDoorWords
import Derived.Test.YtdjjimnfhfdjdaaDoorTie
import Derived.Test.YtdjjimnfhfdjdaaDoorCards
import Derived.SevenTiedAt
/- What the rises in pits are like: one pit keeps for ever, the others rise; passes between pits are over what they keep. -/
namespace Go.Proofs.YtdjjimnfhfdjdaaDoor
open Go.RowKit

theorem ahead_total {p : List Int} {x y : Nat} (h : x ≠ y) : ahead p x y = true ∨ ahead p y x = true := by
  rw [ahead_iff, ahead_iff]
  omega
theorem ahead_asym {p : List Int} {x y : Nat} (h : ahead p x y = true) : ahead p y x = false := by
  refine Bool.eq_false_iff.2 fun h2 => ?_
  rw [ahead_iff] at h h2
  omega
theorem ahead_irrefl {p : List Int} {x : Nat} : ahead p x x = false := by
  refine Bool.eq_false_iff.2 fun h => ?_
  rw [ahead_iff] at h
  omega
/-- There is one cell to which water comes first. -/
theorem first_exists (p : List Int) : ∀ N, 0 < N → ∃ r, r < N ∧ ∀ x, x < N → ahead p x r = false
  | 0, h => absurd h (Nat.lt_irrefl _)
  | 1, _ => ⟨0, by omega, fun x hx => by
    have : x = 0 := by omega
    subst this; exact ahead_irrefl⟩
  | N + 2, _ => by
    obtain ⟨r, h1, h2⟩ := first_exists p (N + 1) (by omega)
    cases ha : ahead p (N + 1) r with
    | false =>
      refine ⟨r, by omega, fun x hx => ?_⟩
      by_cases e : x = N + 1
      · subst e; exact ha
      · exact h2 x (by omega)
    | true =>
      refine ⟨N + 1, by omega, fun x hx => ?_⟩
      by_cases e : x = N + 1
      · subst e; exact ahead_irrefl
      · refine Bool.eq_false_iff.2 fun h => ?_
        have := h2 x (by omega)
        rw [Bool.eq_false_iff, ne_eq, ahead_iff] at this
        rw [ahead_iff] at h ha
        omega
theorem keptL_nodup (fs : List Int) (bs : List Bool) : ∀ k, (keptL fs bs k).Pairwise (fun a b => a < b)
  | 0 => List.Pairwise.nil
  | k + 1 => by
    have ih := keptL_nodup fs bs k
    by_cases h1 : fs.getD k 0 = k
    · cases h2 : bs.getD k false with
      | false =>
        rw [keptL_yes h1 h2, List.pairwise_append]
        refine ⟨ih, List.pairwise_singleton _ _, fun a ha b hb => ?_⟩
        obtain ⟨i, h3, h4, _⟩ := mem_keptL.1 ha
        rw [List.mem_singleton] at hb
        omega
      | true => rw [keptL_no (.inr h2)]; exact ih
    · rw [keptL_no (.inl h1)]; exact ih
theorem count_only {q : Int → Bool} {r : Int} : ∀ {l : List Int}, l.Pairwise (fun a b => a < b) → r ∈ l → (∀ x, x ∈ l → (q x = true ↔ x = r)) → (l.filter q).length = 1
  | [], _, h, _ => by cases h
  | a :: l, hl, h, hq => by
    have hp := List.pairwise_cons.1 hl
    have none : r ∉ l → (l.filter q).length = 0 := fun hr => by
      rw [List.length_eq_zero_iff, List.filter_eq_nil_iff]
      intro x hx h2
      exact hr (by rw [← (hq x (List.mem_cons_of_mem _ hx)).1 h2]; exact hx)
    by_cases e : a = r
    · subst e
      rw [List.filter_cons, if_pos ((hq a (List.mem_cons_self ..)).2 rfl), List.length_cons, none fun h2 => by have := hp.1 a h2; omega]
    · rw [List.filter_cons, if_neg (fun h2 => e ((hq a (List.mem_cons_self ..)).1 h2))]
      exact count_only hp.2 ((List.mem_cons.1 h).resolve_left fun e2 => e e2.symm) fun x hx => hq x (List.mem_cons_of_mem _ hx)

/-- What the pits of a grid are like, and what they keep. -/
structure PitF (n m N : Nat) (p P : List Int) : Prop where
  mem : ∀ k, k < P.length → ∃ i : Nat, P.getD k 0 = i ∧ i < N ∧ (keepN n m p i = -1 ∧ (∀ x, x < N → p.getD i 0 ≤ p.getD x 0) ∨ 0 < keepN n m p i)
  asc : ∀ a b, a < b → b < P.length → P.getD a 0 < P.getD b 0
  one : (P.filter fun y => decide (keepN n m p y.toNat = -1)).length = 1
  over : ∀ i x : Nat, i < N → x < N → ahead p x i = true → 0 ≤ keepN n m p i ∧ keepN n m p i ≤ passN n m p i x - p.getD i 0
theorem pit_facts {h : List (List Int)} {n m N : Nat} {p : List Int} (hg : vGrid h = true) (en : h.length = n) (em : (h.getD 0 []).length = m) (eN : n * m = N) (ep : h.flatten = p) : PitF n m N p (pitsL h) := by
  have G := Grid.of hg
  obtain ⟨bs, F, B, e⟩ := endsL_some (ov := ovDown) hg en em ep eN (beat_exists n m N p _ ovDown eN)
  obtain ⟨fs, efs⟩ : ∃ fs, flatsL n m (sameH p) = fs := ⟨_, rfl⟩
  rw [efs] at F B e
  have eP : pitsL h = keptL fs bs N := e
  rw [eP]
  have hn := G.n5
  have hm := G.m5
  have hN1 := Nat.mul_pos G.n1 G.m1
  rw [en] at hn hN1
  rw [em] at hm hN1
  rw [eN] at hN1
  have hp : ∀ i, i < n * m → 0 ≤ p.getD i 0 ∧ p.getD i 0 ≤ 12 := fun i hi => by rw [← ep]; exact grid_num G i (by rw [en, em]; exact hi)
  have hok : ∀ i, i < N → _ := fun i (hi : i < N) => bestU_ok hn hm hp (i := i) (by omega) (n * m) (Nat.le_refl _)
  have hmemk : ∀ k, k < (keptL fs bs N).length → (keptL fs bs N).getD k 0 ∈ keptL fs bs N := fun k hk => by
    rw [List.getD_eq_getElem?_getD, List.getElem?_eq_getElem hk]; exact List.getElem_mem hk
  -- the flat of a pit that is reached over cells no higher
  have stay : ∀ i, i < N → fs.getD i 0 = i → bs.getD i false = false → ∀ x, Way n m p (p.getD i 0) i x → fs.getD x 0 = i ∧ p.getD x 0 = p.getD i 0 := fun i hi h1 h2 x hw => by
    have hr := hw.2
    clear hw
    induction hr with
    | refl => exact ⟨h1, rfl⟩
    | @step j k hj hk he ih =>
      have hjN := hj.lt hn hm (by omega)
      rw [joinH_iff] at he
      have hkp : p.getD k 0 = p.getD j 0 := by
        by_cases hlt : p.getD k 0 < p.getD j 0
        · exfalso
          obtain ⟨s, hs1, hs2⟩ := List.getElem_of_mem hk
          have : bs.getD i false = true := (B.iff i (by omega)).2 ⟨j, s, k, .inl (by omega), hjN, hs1, by simp [hs1, hs2], by simpa [ovDown] using hlt, ih.1⟩
          rw [h2] at this; cases this
        · omega
      exact ⟨by rw [F.same j hjN k hk (sameH_iff.2 hkp.symm), ih.1], by rw [hkp, ih.2]⟩
  have over : ∀ i x : Nat, i < N → x < N → ahead p x i = true → 0 ≤ keepN n m p i ∧ keepN n m p i ≤ passN n m p i x - p.getD i 0 := fun i x hi hx ha => by
    rcases hok i hi with ⟨_, h2⟩ | ⟨_, h0, h3⟩
    · rw [h2 x (by omega)] at ha; cases ha
    · exact ⟨h0, h3 x (by omega) ha⟩
  refine ⟨fun k hk => ?_, fun a b hab hb => ?_, ?_, over⟩
  · obtain ⟨i, h1, h2, h3, h4⟩ := mem_keptL.1 (hmemk k hk)
    refine ⟨i, h1, h2, ?_⟩
    rcases hok i h2 with ⟨h5, h6⟩ | ⟨⟨x, h5, h6, h7⟩, h0, _⟩
    · refine .inl ⟨h5, fun x hx => ?_⟩
      have := h6 x (by omega)
      rw [Bool.eq_false_iff, ne_eq, ahead_iff] at this
      omega
    · refine .inr ?_
      have hge := (passN_ge hn hm hp (i := i) (k := x) (by omega) h5).1
      show 0 < bestU n m p i (n * m)
      by_cases e : passN n m p i x = p.getD i 0
      · exfalso
        have hw := passN_way hn hm hp (i := i) (k := x) (by omega) h5
        rw [e] at hw
        obtain ⟨h8, h9⟩ := stay i h2 h3 h4 x hw
        rw [ahead_iff] at h6
        obtain ⟨j, h10, h11, _⟩ := F.ok x h5
        omega
      · omega
  · have := List.pairwise_iff_getElem.1 (keptL_nodup fs bs N) a b (by omega) hb hab
    simpa [hb, show a < (keptL fs bs N).length by omega] using this
  · obtain ⟨r, hr1, hr2⟩ := first_exists p N hN1
    have hlow : ∀ x, x < N → p.getD r 0 ≤ p.getD x 0 := fun x hx => by
      have := hr2 x hx
      rw [Bool.eq_false_iff, ne_eq, ahead_iff] at this
      omega
    have hk := lowest_kept hn hm eN F B hr1 hlow
    have hfr : fs.getD r 0 = r := by
      obtain ⟨j, h1, h2, h3⟩ := F.ok r (by omega)
      have h4 := h3.high
      have h5 := hr2 j (by omega)
      rw [Bool.eq_false_iff, ne_eq, ahead_iff] at h5
      omega
    rw [hfr] at hk
    refine count_only (r := (r : Int)) (keptL_nodup fs bs N) hk fun y hy => ?_
    obtain ⟨i, rfl, h2, _⟩ := mem_keptL.1 hy
    rw [decide_eq_true_eq, Int.toNat_natCast]
    constructor
    · intro h5
      by_cases e : i = r
      · rw [e]
      · exfalso
        rcases ahead_total (p := p) e with h6 | h6
        · rw [hr2 i h2] at h6; cases h6
        · have := (over i r h2 hr1 h6).1
          omega
    · intro e
      have : i = r := by omega
      subst this
      rcases hok i hr1 with ⟨h5, _⟩ | ⟨⟨x, h5, h6, _⟩, _⟩
      · exact h5
      · rw [hr2 x (by omega)] at h6; cases h6
end Go.Proofs.YtdjjimnfhfdjdaaDoor
/- The law FnKeepsOf returns true. -/
namespace Go.Proofs.YtdjjimnfhfdjdaaDoor
open Go.RowKit

/-- How many of the first k keep for ever. -/
def everN (q : Int → Bool) (P : List Int) (k : Nat) : Nat := ((P.take k).filter q).length
theorem everN_next (q : Int → Bool) (P : List Int) (k : Nat) (hk : k < P.length) : everN q P (k + 1) = everN q P k + if q (P.getD k 0) then 1 else 0 := by
  unfold everN
  rw [List.take_succ_eq_append_getElem hk, List.filter_append, List.length_append]
  have : P.getD k 0 = P[k] := by simp [hk]
  rw [this]
  cases h : q P[k] <;> simp [h]
theorem everN_le (q : Int → Bool) (P : List Int) (k : Nat) : everN q P k ≤ k := by
  unfold everN
  exact Nat.le_trans (List.length_filter_le _ _) (by rw [List.length_take]; exact Nat.min_le_left _ _)

set_option maxRecDepth 100000 in
set_option maxHeartbeats 4000000 in
theorem FnKeepsOf_any (v : Value) (bs : List Int) (w : World) (hv : NumsV .u8 w v bs) (hb : ∀ i, i < bs.length → 0 ≤ bs.getD i 0 ∧ bs.getD i 0 ≤ 255) (hS : Steps w) :
    Calls Tryd.prog 7 #[v] w fun e w' => e = .returned (.bool true) ∧ Grew w w' := by
  have HD := Lib.hid (DrawKeepsOf_any v bs w hv hb)
  have HS := Lib.hid hS
  obtain ⟨a, b, o, c, rfl, ⟨hlc, hcb⟩, _, _⟩ := hv.shape
  clear hv hb hS
  by_cases hbig : 1048576 < bs.length
  · go_enter Tryd.func7, Tryd.ntmps7
    go_wp2
    go_ret
    exact ⟨rfl, Grew.refl _⟩
  · go_enter Tryd.func7, Tryd.ntmps7
    go_wp2_with (fail)
    refine HD.out.mono ?_
    rintro e w1 ⟨v1, H, rfl, hO, hd, hg1⟩
    have HV := Lib.hid (And.intro hO.toV hg1)
    obtain ⟨a1, c1, rfl⟩ := hO.sh
    obtain ⟨M, eM⟩ : ∃ M, keepsL H = M := ⟨_, rfl⟩
    have HM := Lib.hid eM
    clear hO hd hg1 HD
    go_wp2_with (fail)
    refine (KeepsOf_any _ H _ HV.out.1 (HS.out.grew HV.out.2)).mono ?_
    rw [eM]
    rintro e w2 ho2
    obtain ⟨a2, c2, rfl, hO2, hg2⟩ := ho2.shape
    have H2 := Lib.hid (And.intro hO2.toV hg2)
    clear hO2 hg2 ho2
    go_wp2_with (fail)
    refine (SKeepsOf_any _ H _ (HV.out.1.grew H2.out.2)).mono ?_
    rw [eM]
    rintro e w3 ho3
    obtain ⟨a3, c3, rfl, hO3, hg3⟩ := ho3.shape
    have H3 : Hid (IntsV w3 (.slice a2 M.length c2) M ∧ IntsV w3 (.slice a3 M.length c3) M ∧ RowsV w3 (.slice a1 H.length c1) H ∧ Grew w w3) :=
      Lib.hid ⟨H2.out.1.grew hg3, hO3.toV, HV.out.1.grew (H2.out.2.trans hg3), HV.out.2.trans (H2.out.2.trans hg3)⟩
    clear hO3 hg3 ho3 H2 HV eM
    go_wp2_with (fail)
    refine (equalInts_any _ _ M M _ H3.out.1 H3.out.2.1).mono ?_
    rw [decide_eq_true (rfl : M = M)]
    rintro e w4 ⟨rfl, hq4⟩
    have hg4 := quiet_grew hq4
    have H4 : Hid (IntsV w4 (.slice a2 M.length c2) M ∧ RowsV w4 (.slice a1 H.length c1) H ∧ Grew w w4) :=
      Lib.hid ⟨H3.out.1.grew hg4, H3.out.2.2.1.grew hg4, H3.out.2.2.2.trans hg4⟩
    clear hq4 hg4 H3
    have HVG := Lib.hid (ValidGrid_any _ H _ H4.out.2.1)
    cases hvg : vGrid H with
    | false =>
      have HVG2 := HVG.out
      rw [hvg] at HVG2
      have HVG3 := Lib.hid HVG2
      clear hvg HVG2 HVG
      go_wp2_with (fail)
      refine HVG3.out.mono ?_
      rintro e w5 ⟨rfl, rfl⟩
      go_wp2_with (fail)
      refine (SKeepsOf_any _ H _ H4.out.2.1).mono ?_
      rw [HM.out]
      rintro e w5 ho5
      obtain ⟨a5, c5, rfl, hO5, hg5⟩ := ho5.shape
      have H5 := Lib.hid (And.intro hO5.toV hg5)
      clear hO5 hg5 ho5
      go_wp2_with (fail)
      refine (equalInts_any _ _ M M _ (H4.out.1.grew H5.out.2) H5.out.1).mono ?_
      rw [decide_eq_true (rfl : M = M)]
      rintro e w6 ⟨rfl, hq6⟩
      have H6 := Lib.hid (quiet_grew hq6)
      clear hq6
      go_wp2
      go_ret
      exact ⟨rfl, H4.out.2.2.trans (H5.out.2.trans H6.out)⟩
    | true =>
      have HVG2 := HVG.out
      rw [hvg] at HVG2
      have HVG3 := Lib.hid HVG2
      have G := Grid.of hvg
      obtain ⟨n, en⟩ : ∃ n, H.length = n := ⟨_, rfl⟩
      obtain ⟨m, em⟩ : ∃ m, (H.getD 0 []).length = m := ⟨_, rfl⟩
      obtain ⟨N, eN⟩ : ∃ N, n * m = N := ⟨_, rfl⟩
      have hpl := flat_grid_len G
      rw [en, em, eN] at hpl
      obtain ⟨p, ep⟩ : ∃ p, H.flatten = p := ⟨_, rfl⟩
      rw [ep] at hpl
      have hn5 := G.n5
      have hm5 := G.m5
      rw [en] at hn5
      rw [em] at hm5
      have hN25 : N ≤ 25 := by rw [← eN]; exact Nat.mul_le_mul hn5 hm5
      have hPF := pit_facts hvg en em eN ep
      have hPl : (pitsL H).length ≤ N := by
        obtain ⟨bt, _, _, hE⟩ := endsL_some hvg en em ep eN (beat_exists n m N p (flatsL n m (sameH p)) ovDown eN)
        rw [show pitsL H = _ from hE]
        exact keptL_le _ _ _
      have hPI := fun W (hW : Grew w4 W) => PitsOf_any _ H W (H4.out.2.1.grew hW) (HS.out.grew (H4.out.2.2.trans hW))
      obtain ⟨P, eP⟩ : ∃ P, pitsL H = P := ⟨_, rfl⟩
      rw [eP] at hPF hPl hPI
      have hMe : M = P.map fun i => keepN n m p i.toNat := by rw [← HM.out, keepsL, eP, en, em, ep]
      have hR2 := fun W (hW : Grew w4 W) => rowOf_any _ H W (H4.out.2.1.grew hW) (by omega) (fun r hr => by
        have := G.len r hr
        have := G.m1
        have := G.m5
        omega)
      rw [ep] at hR2
      have HPF := Lib.hid hPF
      have HPI := Lib.hid hPI
      have HR2 := Lib.hid hR2
      have HPL := Lib.hid hpl
      have HAT : Hid (∀ k, k < P.length → M.getD k 0 = keepN n m p (P.getD k 0).toNat) := Lib.hid fun k hk => by rw [hMe]; exact getD_map' _ _ _ _ _ hk
      obtain ⟨ln, eln⟩ : ∃ ln, P.length = ln := ⟨_, rfl⟩
      have hMl : M.length = ln := by rw [hMe, List.length_map, eln]
      have HLN := Lib.hid (And.intro eln hMl)
      have HMV := Lib.hid H4.out.1
      have hgg := Lib.hid H4.out.2.2
      rw [hMl] at HMV ⊢
      rw [eln] at hPl
      clear hvg HVG HVG2 G en em eN hpl ep hn5 hm5 hPF hPI hR2 eP hMe eln hMl HM H4
      go_wp2_with (fail)
      refine HVG3.out.mono ?_
      rintro e w5 ⟨rfl, rfl⟩
      go_wp2_with (fail)
      refine (HPI.out _ (Grew.refl _)).mono ?_
      rintro e w6 ho6
      obtain ⟨a6, c6, rfl, hO6, hg6⟩ := ho6.shape
      rw [HLN.out.1] at hO6 ⊢
      have H6 := Lib.hid (And.intro hO6.toV hg6)
      clear hO6 hg6 ho6
      go_wp2_with (fail)
      refine (HR2.out _ H6.out.2).mono ?_
      rintro e w7 ⟨g7, c7, rfl, hO7, hg7⟩
      rw [HPL.out] at hO7 ⊢
      have H7 : Hid (IntsV w7 (.slice a2 ln c2) M ∧ IntsV w7 (.slice a6 ln c6) P ∧ IntsV w7 (.slice (some ⟨g7, 0, none⟩) N c7) p ∧ Grew w w7) :=
        Lib.hid ⟨HMV.out.grew (H6.out.2.trans hg7), NumsV.grew H6.out.1 hg7, hO7.toV, hgg.out.trans (H6.out.2.trans hg7)⟩
      clear hO7 hg7 H6 HR2 HPI HMV HVG3
      obtain ⟨a8, b8, o8, c8, e8, _, ha8, HC8⟩ := H7.out.1.shape
      rw [HLN.out.2] at e8 ha8 HC8
      obtain ⟨rfl, rfl⟩ : a2 = a8 ∧ c2 = c8 := by simpa using e8
      obtain ⟨a9, b9, o9, c9, e9, _, ha9, HC9⟩ := H7.out.2.1.shape
      rw [HLN.out.1] at e9 ha9 HC9
      obtain ⟨rfl, rfl⟩ : a6 = a9 ∧ c6 = c9 := by simpa using e9
      clear e8 e9
      go_wp2
      go_loopg [7, 8] ln (fun gk s i wr => ∃ k : Nat, k ≤ ln ∧ ln ≤ gk + k ∧ i = .int .i64 (k : Int) ∧ (∃ q : Nat, q ≤ k ∧ s = .int .i64 (q : Int) ∧ Hid (q = everN (fun y => decide (keepN n m p y.toNat = -1)) P k)) ∧ Hid (Grew w7 wr))
      case atStart => exact ⟨0, Nat.zero_le _, Nat.le_refl _, rfl, ⟨0, Nat.le_refl _, rfl, rfl⟩, Grew.refl _⟩
      case round =>
        obtain ⟨k, hk, hgk, rfl, ⟨q, hq, rfl, HQ⟩, HG⟩ := hrel
        by_cases hlt : k < ln
        · obtain rfl := ha8 (by omega)
          obtain rfl := ha9 (by omega)
          have hck := HG.out.cell (HC8.out k hlt)
          have hcp := HG.out.cell (HC9.out k hlt)
          rw [HAT.out k (by rw [HLN.out.1]; exact hlt)] at hck
          obtain ⟨I, eI, hI, hcase⟩ := HPF.out.mem k (by rw [HLN.out.1]; exact hlt)
          rw [eI] at hcp hck
          rw [Int.toNat_natCast] at hck
          have hnx := everN_next (fun y => decide (keepN n m p y.toNat = -1)) P k (by rw [HLN.out.1]; exact hlt)
          rw [eI] at hnx
          simp only [Int.toNat_natCast] at hnx
          obtain ⟨y, ey⟩ : ∃ y, keepN n m p I = y := ⟨_, rfl⟩
          rw [ey] at hck hcase
          simp only [ey] at hnx
          have hkl : (k : Int) < (ln : Int) := by omega
          rcases hcase with ⟨hy, hlow⟩ | hy
          · subst hy
            have HNX : Hid (q + 1 = everN (fun y => decide (keepN n m p y.toNat = -1)) P (k + 1)) := Lib.hid (by rw [hnx, ← HQ.out]; rfl)
            have HLOW := Lib.hid hlow
            have hpI := NumsV.at H7.out.2.2.1 I (by rw [HPL.out]; exact hI)
            have HPI := Lib.hid hpI
            have HCP := Lib.hid hcp
            have hIi : (I : Int) < (N : Int) := by omega
            have HGW := Lib.hid HG.out
            clear hnx hlow ey eI hcp hpI HG
            obtain ⟨go, rfl⟩ : ∃ go : Nat, go = gk := ⟨_, rfl⟩
            obtain ⟨wo, ewo⟩ : ∃ wo : World, wo = wr := ⟨_, rfl⟩
            go_wp2
            go_loopg [9] N (fun gj i wi => ∃ j : Nat, j ≤ N ∧ N ≤ gj + j ∧ i = .int .i64 (j : Int) ∧ Hid (∃ d, wi = wo.drewN d))
            case atStart => exact ⟨0, Nat.zero_le _, Nat.le_refl _, rfl, 0, by rw [ewo]; rfl⟩
            case round =>
              obtain ⟨j, hj, hgj, rfl, HJ⟩ := hrel
              have HG2 : Hid (Grew w7 wr) := Lib.hid (by
                obtain ⟨d, rfl⟩ := HJ.out
                rw [ewo]
                exact HGW.out.drewN d)
              by_cases hlt3 : j < N
              · have hcj := HG2.out.cell (NumsV.at H7.out.2.2.1 j (by rw [HPL.out]; exact hlt3))
                have hcI := HG2.out.cell HPI.out
                have hcK : wr.cell? ⟨b9, o9 + k, none⟩ = some (.int .i64 (I : Int)) := by
                  obtain ⟨d, rfl⟩ := HJ.out
                  rw [ewo]
                  exact ((Grew.refl _).drewN d).cell HCP.out
                obtain ⟨pj, epj⟩ : ∃ pj, p.getD j 0 = pj := ⟨_, rfl⟩
                obtain ⟨pI, epI⟩ : ∃ pI, p.getD I 0 = pI := ⟨_, rfl⟩
                have hle := HLOW.out j hlt3
                rw [epj] at hcj hle
                rw [epI] at hcI hle
                have hjN : (j : Int) < (N : Int) := by omega
                have hnlt : ¬ pj < pI := by omega
                have HJ2 : Hid (∀ d, ∃ d', wr.drewN d = wo.drewN d') := Lib.hid fun d => quiet_step HJ.out d
                clear epj epI HJ HG2
                go_wp2
                go_quiet (fail)
                go_wp2
                go_roundg (gk - 1)
                case measure => omega
                case rel => exact ⟨j + 1, by omega, by omega, by go_num, HJ2.out _⟩
              · obtain rfl : j = N := by omega
                have HG3 := Lib.hid HG2.out
                clear HJ HG2
                go_wp2
                go_roundg (go - 1)
                case measure => omega
                case rel => exact ⟨k + 1, by omega, by omega, by go_num, ⟨q + 1, by omega, by go_num, HNX.out⟩, HG3.out⟩
          · have hb1 : (y == -1) = false := beq_eq_false_iff_ne.2 (by omega)
            have hd1 : decide (y = -1) = false := decide_eq_false (by omega)
            rw [hd1] at hnx
            have HNX : Hid (q = everN (fun y => decide (keepN n m p y.toNat = -1)) P (k + 1)) := Lib.hid (by rw [hnx, ← HQ.out]; rfl)
            have hy2 : ¬ y ≤ 0 := by omega
            have HGW := Lib.hid HG.out
            clear hnx hd1 ey eI hcp HG
            go_wp2
            go_roundg (gk - 1)
            case measure => omega
            case rel => exact ⟨k + 1, by omega, by omega, by go_num, ⟨q, by omega, rfl, HNX.out⟩, HGW.out⟩
        · obtain rfl : k = ln := by omega
          have hq1 : q = 1 := by
            have := HPF.out.one
            rw [HQ.out, everN, List.take_of_length_le (by rw [HLN.out.1]; exact Nat.le_refl _)]
            exact this
          subst hq1
          have HF := Lib.hid (H7.out.2.2.2.trans HG.out)
          clear HQ HG
          go_wp2
          go_ret
          exact ⟨ret_bool (by simp), HF.out⟩
end Go.Proofs.YtdjjimnfhfdjdaaDoor
/- The contract of impl.PassBetween. -/
namespace Go.Proofs.YtdjjimnfhfdjdaaDoor
open Go.RowKit

set_option maxRecDepth 100000 in
set_option maxHeartbeats 2000000 in
theorem PassBetween_any (v : Value) (h : List (List Int)) (i k : Int) (w : World) (hv : RowsV w v h) (hS : Steps w) :
    Calls Tryd.prog 38 #[v, .int .i64 i, .int .i64 k] w fun e w' => e = .returned (.int .i64 (passL h i k)) ∧ Grew w w' := by
  have HK := Lib.hid (validCell_any v h i w hv)
  have HJ := Lib.hid (validCell_any v h k w hv)
  cases hc : vCell h i with
  | false =>
    have HK1 := HK.out
    rw [hc] at HK1
    have HK2 := Lib.hid HK1
    rw [passL_no (by rw [hc]; rfl)]
    obtain ⟨a, b, o, c, rfl, _, _, _⟩ := hv.shape
    clear HK1 HK HJ hc hv hS
    go_enter Tryd.func38, Tryd.ntmps38
    go_wp2_with (fail)
    refine HK2.out.mono ?_
    rintro e w' ⟨rfl, rfl⟩
    go_wp2
    go_ret
    exact ⟨rfl, Grew.refl _⟩
  | true =>
    have HK1 := HK.out
    rw [hc] at HK1
    have HK2 := Lib.hid HK1
    cases hd : vCell h k with
    | false =>
      have HJ1 := HJ.out
      rw [hd] at HJ1
      have HJ2 := Lib.hid HJ1
      rw [passL_no (by rw [hc, hd]; rfl)]
      obtain ⟨a, b, o, c, rfl, _, _, _⟩ := hv.shape
      clear HK1 HK HJ HJ1 hc hd hv hS
      go_enter Tryd.func38, Tryd.ntmps38
      go_wp2_with (fail)
      refine HK2.out.mono ?_
      rintro e w' ⟨rfl, rfl⟩
      go_wp2_with (fail)
      refine HJ2.out.mono ?_
      rintro e w' ⟨rfl, rfl⟩
      go_wp2
      go_ret
      exact ⟨rfl, Grew.refl _⟩
    | true =>
      have HJ1 := HJ.out
      rw [hd] at HJ1
      have HJ2 := Lib.hid HJ1
      obtain ⟨hg, h0, hI, _⟩ := vCell_yes hc
      obtain ⟨_, k0, hK, _⟩ := vCell_yes hd
      obtain ⟨I, rfl⟩ := Int.eq_ofNat_of_zero_le h0
      obtain ⟨K, rfl⟩ := Int.eq_ofNat_of_zero_le k0
      rw [Int.toNat_natCast] at hI hK
      have G := Grid.of hg
      obtain ⟨n, en⟩ : ∃ n, h.length = n := ⟨_, rfl⟩
      obtain ⟨m, em⟩ : ∃ m, (h.getD 0 []).length = m := ⟨_, rfl⟩
      obtain ⟨N, eN⟩ : ∃ N, n * m = N := ⟨_, rfl⟩
      have hIN : I < N := by rw [← eN, ← en, ← em]; exact hI
      have hKN : K < N := by rw [← eN, ← en, ← em]; exact hK
      have hn5 := G.n5
      have hm5 := G.m5
      rw [en] at hn5
      rw [em] at hm5
      have hpn : ∀ i, i < n * m → 0 ≤ h.flatten.getD i 0 ∧ h.flatten.getD i 0 ≤ 12 := fun i hi => grid_num G i (by rw [en, em]; exact hi)
      have HR : Hid (∀ ws, LevelO n m (inO [(I : Int)]) h.flatten ws → passL h I K = ws.getD K 0) := Lib.hid fun ws W => by
        rw [passL_yes hg en em hc hd]
        refine (passN_of hn5 hm5 hpn (by rw [eN]; exact hIN) ?_ K).symm
        have e : inO [(I : Int)] = oneO I := by
          funext x
          simp [inO, oneO]
          omega
        rwa [e] at W
      have HF := Lib.hid fun vo W (hW : Grew w W) (ho : IntsV W vo [(I : Int)]) => filledFrom_any v vo h [(I : Int)] n m N W (hv.grew hW) ho (hS.grew hW) hg en em eN (by simp) (fun x hx => by
        rw [List.mem_singleton] at hx
        omega) (by simp)
      obtain ⟨p, ep⟩ : ∃ p, h.flatten = p := ⟨_, rfl⟩
      rw [ep] at HR HF
      obtain ⟨R, eR⟩ : ∃ R, passL h (I : Int) (K : Int) = R := ⟨_, rfl⟩
      rw [eR] at HR ⊢
      have hKi : (K : Int) < (N : Int) := by omega
      have hN25 : N ≤ 25 := by rw [← eN]; exact Nat.mul_le_mul hn5 hm5
      have hlit := IntsO.lit 3 w.heap.size w [(I : Int)] #[.int .i64 I] rfl (Nat.le_refl _) (show 1 ≤ maxLen by decide)
      have HL := Lib.hid (HF.out _ _ ((Grew.refl w).alloc _) hlit.toV)
      obtain ⟨a, b, o, c, rfl, _, _, _⟩ := hv.shape
      clear HK1 HK HJ HJ1 hc hd hv hS hg h0 k0 hI hK G en em eN ep eR hn5 hm5 hpn hlit HF
      go_enter Tryd.func38, Tryd.ntmps38
      go_wp2_with (fail)
      refine HK2.out.mono ?_
      rintro e w' ⟨rfl, rfl⟩
      go_wp2_with (fail)
      refine HJ2.out.mono ?_
      rintro e w' ⟨rfl, rfl⟩
      go_wp2_with (fail)
      refine HL.out.mono ?_
      rintro e w1 ⟨ws, hwl, hLv, a1, c1, rfl, hO1, hg1⟩
      have HRR : Hid (R = ws.getD K 0) := Lib.hid (HR.out ws hLv)
      obtain ⟨g1, c1', e1, _, _⟩ := hO1.pos (by rw [hwl]; omega)
      obtain ⟨rfl, rfl⟩ : a1 = some ⟨g1, 0, none⟩ ∧ c1 = c1' := by simpa using e1
      have hcK := (hO1.at rfl (i := K) (by rw [hwl]; exact hKN)).1
      rw [← HRR.out] at hcK
      rw [hwl]
      have H1 : Hid (Grew w w1) := Lib.hid (((Grew.refl w).alloc _).trans hg1)
      clear hO1 hg1 hLv hwl e1 HRR HL HR HK2 HJ2
      go_wp2
      go_ret
      exact ⟨rfl, H1.out⟩
end Go.Proofs.YtdjjimnfhfdjdaaDoor
/- The law FnPassesOverPits returns true. -/
namespace Go.Proofs.YtdjjimnfhfdjdaaDoor
open Go.RowKit

theorem drawn_small {H : List (List Int)} (h : Drawn H) : H.length ≤ 1000 ∧ ∀ r, r < H.length → 1 ≤ (H.getD r []).length ∧ (H.getD r []).length ≤ 1000 :=
  ⟨by have := h.1; omega, fun r hr => ⟨h.2.2 r hr, by have := (h.2.1 r hr).1; omega⟩⟩
/-- What the law reads of a grid: the pits, what they keep, the passes between them. -/
structure OverF (v : Value) (h : List (List Int)) (N : Nat) (p P M : List Int) (w : World) : Prop where
  len : P.length = M.length
  small : P.length ≤ 1000000
  mem : ∀ k, k < P.length → ∃ i : Nat, P.getD k 0 = i ∧ i < p.length ∧ 0 ≤ p.getD i 0 ∧ p.getD i 0 ≤ 12
  pass : ∀ a b, b < a → a < P.length → ∃ z : Int, (∀ W, Grew w W → Calls Tryd.prog 38 #[v, .int .i64 (P.getD a 0), .int .i64 (P.getD b 0)] W fun e w' => e = .returned (.int .i64 z) ∧ Grew W w') ∧ z ≤ 12 ∧
    (p.getD (P.getD a 0).toNat 0 < p.getD (P.getD b 0).toNat 0 → 0 ≤ M.getD b 0 ∧ p.getD (P.getD b 0).toNat 0 + M.getD b 0 ≤ z) ∧
    (¬ p.getD (P.getD a 0).toNat 0 < p.getD (P.getD b 0).toNat 0 → 0 ≤ M.getD a 0 ∧ p.getD (P.getD a 0).toNat 0 + M.getD a 0 ≤ z)
theorem over_facts {v : Value} {h : List (List Int)} {w : World} (hv : RowsV w v h) (hS : Steps w) : OverF v h 0 h.flatten (pitsL h) (keepsL h) w := by
  have hl : (pitsL h).length = (keepsL h).length := by rw [keepsL, List.length_map]
  cases hg : vGrid h with
  | false =>
    have e : pitsL h = [] := by rw [pitsL, endsL_no hg]
    refine ⟨hl, by rw [e]; simp, fun k hk => ?_, fun a b _ ha => ?_⟩
    · rw [e] at hk; simp at hk
    · rw [e] at ha; simp at ha
  | true =>
    have G := Grid.of hg
    obtain ⟨n, en⟩ : ∃ n, h.length = n := ⟨_, rfl⟩
    obtain ⟨m, em⟩ : ∃ m, (h.getD 0 []).length = m := ⟨_, rfl⟩
    obtain ⟨N, eN⟩ : ∃ N, n * m = N := ⟨_, rfl⟩
    have hn5 := G.n5
    have hm5 := G.m5
    rw [en] at hn5
    rw [em] at hm5
    have hpn : ∀ i, i < n * m → 0 ≤ h.flatten.getD i 0 ∧ h.flatten.getD i 0 ≤ 12 := fun i hi => grid_num G i (by rw [en, em]; exact hi)
    have hpl := flat_grid_len G
    rw [en, em, eN] at hpl
    have PF := pit_facts hg en em eN rfl
    have hM : ∀ k, k < (pitsL h).length → (keepsL h).getD k 0 = keepN n m h.flatten ((pitsL h).getD k 0).toNat := fun k hk => by
      rw [keepsL, en, em]
      exact getD_map' _ _ _ _ _ hk
    have hvc : ∀ x : Nat, x < N → vCell h (x : Int) = true := fun x hx => by
      rw [vCell, hg, Bool.true_and, Bool.and_eq_true, decide_eq_true_eq, decide_eq_true_eq]
      have : ((n * m : Nat) : Int) = (n : Int) * m := by simp
      rw [en, em]
      omega
    refine ⟨hl, pitsL_le h, fun k hk => ?_, fun a b hba ha => ?_⟩
    · obtain ⟨i, h1, h2, _⟩ := PF.mem k hk
      exact ⟨i, h1, by omega, hpn i (by omega)⟩
    · obtain ⟨i, hi1, hi2, _⟩ := PF.mem a ha
      obtain ⟨k, hk1, hk2, _⟩ := PF.mem b (by omega)
      have hlt := PF.asc b a hba ha
      have hMa := hM a ha
      have hMb := hM b (by omega)
      rw [hi1] at hMa hlt ⊢
      rw [hk1] at hMb hlt ⊢
      rw [Int.toNat_natCast] at hMa hMb ⊢
      rw [Int.toNat_natCast]
      refine ⟨passN n m h.flatten i k, fun W hW => ?_, (passN_top hn5 hm5 hpn (by omega) (by omega)).2, fun hp => ?_, fun hp => ?_⟩
      · have := PassBetween_any v h (i : Int) (k : Int) W (hv.grew hW) (hS.grew hW)
        rwa [passL_yes hg en em (hvc i hi2) (hvc k hk2)] at this
      · have := PF.over k i hk2 hi2 (ahead_iff.2 (.inl hp))
        rw [passN_symm hn5 hm5 hpn (by omega) (by omega)]
        omega
      · have := PF.over i k hi2 hk2 (ahead_iff.2 (by omega))
        omega

set_option maxRecDepth 100000 in
set_option maxHeartbeats 8000000 in
theorem FnPassesOverPits_any (v : Value) (bs : List Int) (w : World) (hv : NumsV .u8 w v bs) (hb : ∀ i, i < bs.length → 0 ≤ bs.getD i 0 ∧ bs.getD i 0 ≤ 255) (hS : Steps w) :
    Calls Tryd.prog 9 #[v] w fun e w' => e = .returned (.bool true) ∧ Grew w w' := by
  have HD := Lib.hid (DrawKeepsOf_any v bs w hv hb)
  have HS := Lib.hid hS
  obtain ⟨a, b, o, c, rfl, ⟨hlc, hcb⟩, _, _⟩ := hv.shape
  clear hv hb hS
  by_cases hbig : 1048576 < bs.length
  · go_enter Tryd.func9, Tryd.ntmps9
    go_wp2
    go_ret
    exact ⟨rfl, Grew.refl _⟩
  · go_enter Tryd.func9, Tryd.ntmps9
    go_wp2_with (fail)
    refine HD.out.mono ?_
    rintro e w1 ⟨v1, H, rfl, hO, hd, hg1⟩
    have HV := Lib.hid (And.intro hO.toV hg1)
    obtain ⟨a1, c1, rfl⟩ := hO.sh
    obtain ⟨M, eM⟩ : ∃ M, keepsL H = M := ⟨_, rfl⟩
    have HM := Lib.hid eM
    have HDS := Lib.hid (drawn_small hd)
    clear hO hd hg1 HD
    go_wp2_with (fail)
    refine (KeepsOf_any _ H _ HV.out.1 (HS.out.grew HV.out.2)).mono ?_
    rw [eM]
    rintro e w2 ho2
    obtain ⟨a2, c2, rfl, hO2, hg2⟩ := ho2.shape
    have H2 := Lib.hid (And.intro hO2.toV hg2)
    clear hO2 hg2 ho2
    go_wp2_with (fail)
    refine (SKeepsOf_any _ H _ (HV.out.1.grew H2.out.2)).mono ?_
    rw [eM]
    rintro e w3 ho3
    obtain ⟨a3, c3, rfl, hO3, hg3⟩ := ho3.shape
    have H3 : Hid (IntsV w3 (.slice a2 M.length c2) M ∧ IntsV w3 (.slice a3 M.length c3) M ∧ RowsV w3 (.slice a1 H.length c1) H ∧ Grew w w3) :=
      Lib.hid ⟨H2.out.1.grew hg3, hO3.toV, HV.out.1.grew (H2.out.2.trans hg3), HV.out.2.trans (H2.out.2.trans hg3)⟩
    clear hO3 hg3 ho3 H2 HV eM
    go_wp2_with (fail)
    refine (equalInts_any _ _ M M _ H3.out.1 H3.out.2.1).mono ?_
    rw [decide_eq_true (rfl : M = M)]
    rintro e w4 ⟨rfl, hq4⟩
    have hg4 := quiet_grew hq4
    have H4 : Hid (RowsV w4 (.slice a1 H.length c1) H ∧ Grew w w4) := Lib.hid ⟨H3.out.2.2.1.grew hg4, H3.out.2.2.2.trans hg4⟩
    clear hq4 hg4 H3
    have HPI := Lib.hid (PitsOf_any _ H _ H4.out.1 (HS.out.grew H4.out.2))
    have HKE : Hid (∀ W, Grew w4 W → Calls Tryd.prog 33 #[.slice a1 H.length c1] W (OwnI W M)) := Lib.hid fun W hW => by
      have := KeepsOf_any _ H W (H4.out.1.grew hW) (HS.out.grew (H4.out.2.trans hW))
      rwa [HM.out] at this
    have HRW := Lib.hid fun W (hW : Grew w4 W) => rowOf_any _ H W (H4.out.1.grew hW) HDS.out.1 HDS.out.2
    have HOV := Lib.hid (over_facts H4.out.1 (HS.out.grew H4.out.2))
    rw [HM.out] at HOV
    obtain ⟨P, eP⟩ : ∃ P, pitsL H = P := ⟨_, rfl⟩
    obtain ⟨p, ep⟩ : ∃ p, H.flatten = p := ⟨_, rfl⟩
    rw [eP] at HPI HOV
    rw [ep] at HRW HOV
    obtain ⟨ln, eln⟩ : ∃ ln, P.length = ln := ⟨_, rfl⟩
    have HLN : Hid (P.length = ln ∧ M.length = ln) := Lib.hid ⟨eln, by rw [← eln]; exact HOV.out.len.symm⟩
    obtain ⟨N, eN⟩ : ∃ N, p.length = N := ⟨_, rfl⟩
    have HNN := Lib.hid eN
    have hln : ln ≤ 1000000 := by rw [← eln]; exact HOV.out.small
    have hpN : N ≤ 9223372036854775807 ∨ True := .inr trivial
    clear eP ep eln eN hpN
    go_wp2_with (fail)
    refine HPI.out.mono ?_
    rintro e w5 ho5
    obtain ⟨a5, c5, rfl, hO5, hg5⟩ := ho5.shape
    rw [HLN.out.1] at hO5 ⊢
    have H5 := Lib.hid (And.intro hO5.toV hg5)
    clear hO5 hg5 ho5
    go_wp2_with (fail)
    refine (HKE.out _ H5.out.2).mono ?_
    rintro e w6 ho6
    obtain ⟨a6, c6, rfl, hO6, hg6⟩ := ho6.shape
    rw [HLN.out.2] at hO6 ⊢
    have H6 : Hid (IntsV w6 (.slice a5 ln c5) P ∧ IntsV w6 (.slice a6 ln c6) M ∧ Grew w4 w6) := Lib.hid ⟨NumsV.grew H5.out.1 hg6, hO6.toV, H5.out.2.trans hg6⟩
    clear hO6 hg6 ho6 H5
    go_wp2_with (fail)
    refine (HRW.out _ H6.out.2.2).mono ?_
    rintro e w9 ⟨g9, c9, rfl, hO9, hg9⟩
    rw [HNN.out] at hO9 ⊢
    have H9 : Hid (IntsV w9 (.slice a5 ln c5) P ∧ IntsV w9 (.slice a6 ln c6) M ∧ IntsV w9 (.slice (some ⟨g9, 0, none⟩) N c9) p ∧ Grew w4 w9) := Lib.hid ⟨NumsV.grew H6.out.1 hg9, NumsV.grew H6.out.2.1 hg9, hO9.toV, H6.out.2.2.trans hg9⟩
    have hN63 : N ≤ 9223372036854775807 := by
      obtain ⟨_, _, _, _, e, ⟨q1, q2⟩, _⟩ := hO9.toV.shape
      rw [HNN.out] at q1
      omega
    clear hO9 hg9 H6 HPI HKE HRW
    obtain ⟨a8, b8, o8, c8, e8, _, ha8, HC8⟩ := NumsV.shape H9.out.1
    rw [HLN.out.1] at e8 ha8 HC8
    obtain ⟨rfl, rfl⟩ : a5 = a8 ∧ c5 = c8 := by simpa using e8
    obtain ⟨a9, b9, o9, c9', e9, _, ha9, HC9⟩ := NumsV.shape H9.out.2.1
    rw [HLN.out.2] at e9 ha9 HC9
    obtain ⟨rfl, rfl⟩ : a6 = a9 ∧ c6 = c9' := by simpa using e9
    clear e8 e9
    go_wp2
    go_loopg [7] ln (fun gk i wr => ∃ x : Nat, x ≤ ln ∧ ln ≤ gk + x ∧ i = .int .i64 (x : Int) ∧ Hid (Grew w9 wr))
    case atStart => exact ⟨0, Nat.zero_le _, Nat.le_refl _, rfl, Grew.refl _⟩
    case round =>
      obtain ⟨x, hx, hgk, rfl, HG0⟩ := hrel
      by_cases hxl : x < ln
      · obtain rfl := ha8 (by omega)
        obtain rfl := ha9 (by omega)
        obtain ⟨go, rfl⟩ : ∃ go : Nat, go = gk := ⟨_, rfl⟩
        go_wp2
        go_loopg [8] x (fun gj i wi => ∃ y : Nat, y ≤ x ∧ x ≤ gj + y ∧ i = .int .i64 (y : Int) ∧ Hid (Grew w9 wi))
        case atStart => exact ⟨0, Nat.zero_le _, Nat.le_refl _, rfl, HG0.out⟩
        case round =>
          obtain ⟨y, hy, hgj, rfl, HG⟩ := hrel
          by_cases hyx : y < x
          · obtain ⟨I, eI, hI, hI0, hI1⟩ := HOV.out.mem x (by rw [HLN.out.1]; exact hxl)
            obtain ⟨K, eK, hK, hK0, hK1⟩ := HOV.out.mem y (by rw [HLN.out.1]; omega)
            obtain ⟨z, hz1, hz2, hz3, hz4⟩ := HOV.out.pass x y hyx (by rw [HLN.out.1]; exact hxl)
            rw [HNN.out] at hI hK
            rw [eI, eK] at hz1
            rw [eI, eK, Int.toNat_natCast, Int.toNat_natCast] at hz3 hz4
            have HP : Hid (∀ W, Grew w9 W → Calls Tryd.prog 38 #[.slice a1 H.length c1, .int .i64 I, .int .i64 K] W fun e w' => e = .returned (.int .i64 z) ∧ Grew W w') := Lib.hid fun W hW => hz1 W (H9.out.2.2.2.trans hW)
            have HCE : Hid (∀ W, Grew wr W → W.cell? ⟨b8, o8 + x, none⟩ = some (.int .i64 (I : Int)) ∧ W.cell? ⟨b8, o8 + y, none⟩ = some (.int .i64 (K : Int)) ∧ W.cell? ⟨g9, I, none⟩ = some (.int .i64 (p.getD I 0)) ∧ W.cell? ⟨g9, K, none⟩ = some (.int .i64 (p.getD K 0)) ∧ W.cell? ⟨b9, o9 + x, none⟩ = some (.int .i64 (M.getD x 0)) ∧ W.cell? ⟨b9, o9 + y, none⟩ = some (.int .i64 (M.getD y 0))) := Lib.hid fun W hW => by
              have hg := HG.out.trans hW
              refine ⟨?_, ?_, hg.cell (NumsV.at H9.out.2.2.1 I (by rw [HNN.out]; exact hI)), hg.cell (NumsV.at H9.out.2.2.1 K (by rw [HNN.out]; exact hK)), hg.cell (HC9.out x hxl), hg.cell (HC9.out y (by omega))⟩
              · rw [← eI]; exact hg.cell (HC8.out x hxl)
              · rw [← eK]; exact hg.cell (HC8.out y (by omega))
            obtain ⟨pI, epI⟩ : ∃ pI, p.getD I 0 = pI := ⟨_, rfl⟩
            obtain ⟨pK, epK⟩ : ∃ pK, p.getD K 0 = pK := ⟨_, rfl⟩
            obtain ⟨mI, emI⟩ : ∃ mI, M.getD x 0 = mI := ⟨_, rfl⟩
            obtain ⟨mK, emK⟩ : ∃ mK, M.getD y 0 = mK := ⟨_, rfl⟩
            rw [epI, epK, emI, emK] at HCE
            rw [epI, epK] at hz3 hz4
            rw [emK] at hz3
            rw [emI] at hz4
            rw [epI] at hI0 hI1
            rw [epK] at hK0 hK1
            have hxi : (x : Int) < (ln : Int) := by omega
            have hyi : (y : Int) < (ln : Int) := by omega
            have hIi : (I : Int) < (N : Int) := by omega
            have hKi : (K : Int) < (N : Int) := by omega
            clear hz1 eI eK epI epK emI emK
            by_cases hpk : pI < pK
            · obtain ⟨k0, k1⟩ := hz3 hpk
              have hm0 : ¬ mK < 0 := by omega
              have hm1 : ¬ z < pK + mK := by omega
              have hd0 : decide (mK < 0) = false := decide_eq_false hm0
              have hd1 : decide (z < pK + mK) = false := decide_eq_false hm1
              have hwr : IntKind.i64.wrap (pK + mK) = pK + mK := IntWalk.i64_in _ (by omega)
              clear hz3 hz4
              go_wp2_with (fail)
              go_region_held3 (fun W => W.cell? ⟨b8, o8 + x, none⟩ = some (.int .i64 (I : Int)) ∧ W.cell? ⟨b8, o8 + y, none⟩ = some (.int .i64 (K : Int)) ∧ W.cell? ⟨g9, I, none⟩ = some (.int .i64 pI) ∧ W.cell? ⟨g9, K, none⟩ = some (.int .i64 pK) ∧ W.cell? ⟨b9, o9 + x, none⟩ = some (.int .i64 mI) ∧ W.cell? ⟨b9, o9 + y, none⟩ = some (.int .i64 mK))
                (first
                  | exact HCE.out _ (Grew.refl wr).drew
                  | assumption)
                (fail)
              go_wp2_with (fail)
              have HP2 := Lib.hid (HP.out wr.drew.drew (HG.out.drew.drew))
              go_region_held3 (fun W => W.cell? ⟨b8, o8 + x, none⟩ = some (.int .i64 (I : Int)) ∧ W.cell? ⟨b8, o8 + y, none⟩ = some (.int .i64 (K : Int)) ∧ W.cell? ⟨g9, I, none⟩ = some (.int .i64 pI) ∧ W.cell? ⟨g9, K, none⟩ = some (.int .i64 pK) ∧ W.cell? ⟨b9, o9 + x, none⟩ = some (.int .i64 mI) ∧ W.cell? ⟨b9, o9 + y, none⟩ = some (.int .i64 mK))
                (first
                  | exact HCE.out _ (Grew.refl wr).drew.drew
                  | assumption
                  | exact HCE.out _ ((Grew.refl wr).drew.drew.trans hgw))
                (first
                  | (go_at_call 38; refine HP2.out.mono ?_; rintro e w10 ⟨rfl, hgw⟩))
              have HGN := Lib.hid (HG.out.drew.drew.trans hgw)
              clear hgw
              go_wp2
              go_roundg (gk - 1)
              case measure => omega
              case rel => exact ⟨y + 1, by omega, by omega, by go_num, HGN.out⟩
            · obtain ⟨k0, k1⟩ := hz4 hpk
              have hm0 : ¬ mI < 0 := by omega
              have hm1 : ¬ z < pI + mI := by omega
              have hd0 : decide (mI < 0) = false := decide_eq_false hm0
              have hd1 : decide (z < pI + mI) = false := decide_eq_false hm1
              have hwr : IntKind.i64.wrap (pI + mI) = pI + mI := IntWalk.i64_in _ (by omega)
              clear hz3 hz4
              go_wp2_with (fail)
              go_region_held3 (fun W => W.cell? ⟨b8, o8 + x, none⟩ = some (.int .i64 (I : Int)) ∧ W.cell? ⟨b8, o8 + y, none⟩ = some (.int .i64 (K : Int)) ∧ W.cell? ⟨g9, I, none⟩ = some (.int .i64 pI) ∧ W.cell? ⟨g9, K, none⟩ = some (.int .i64 pK) ∧ W.cell? ⟨b9, o9 + x, none⟩ = some (.int .i64 mI) ∧ W.cell? ⟨b9, o9 + y, none⟩ = some (.int .i64 mK))
                (first
                  | exact HCE.out _ (Grew.refl wr).drew
                  | assumption)
                (fail)
              go_wp2_with (fail)
              have HP2 := Lib.hid (HP.out wr.drew.drew (HG.out.drew.drew))
              go_region_held3 (fun W => W.cell? ⟨b8, o8 + x, none⟩ = some (.int .i64 (I : Int)) ∧ W.cell? ⟨b8, o8 + y, none⟩ = some (.int .i64 (K : Int)) ∧ W.cell? ⟨g9, I, none⟩ = some (.int .i64 pI) ∧ W.cell? ⟨g9, K, none⟩ = some (.int .i64 pK) ∧ W.cell? ⟨b9, o9 + x, none⟩ = some (.int .i64 mI) ∧ W.cell? ⟨b9, o9 + y, none⟩ = some (.int .i64 mK))
                (first
                  | exact HCE.out _ (Grew.refl wr).drew.drew
                  | assumption
                  | exact HCE.out _ ((Grew.refl wr).drew.drew.trans hgw))
                (first
                  | (go_at_call 38; refine HP2.out.mono ?_; rintro e w10 ⟨rfl, hgw⟩))
              have HGN := Lib.hid (HG.out.drew.drew.trans hgw)
              clear hgw
              go_wp2
              go_roundg (gk - 1)
              case measure => omega
              case rel => exact ⟨y + 1, by omega, by omega, by go_num, HGN.out⟩
          · obtain rfl : y = x := by omega
            go_wp2
            go_roundg (go - 1)
            case measure => omega
            case rel => exact ⟨y + 1, by omega, by omega, by go_num, HG.out⟩
      · obtain rfl : x = ln := by omega
        have HF := Lib.hid (H4.out.2.trans (H9.out.2.2.2.trans HG0.out))
        go_wp2
        go_ret
        exact ⟨rfl, HF.out⟩
end Go.Proofs.YtdjjimnfhfdjdaaDoor
namespace Go.Proofs.YtdjjimnfhfdjdaaDoor.pPassesOverPits
open Go.RowKit Go.ChangeShapes Go.WideShapes Go.ChangeAt

set_option maxRecDepth 100000 in
theorem lifted (os : Os) (started : os.Started) (H : Type) (enc : TypeId × Value → H) :
    ReturnsInHanded {} Tryd.checked os 9 .any (fun w args => (Rows.fnPassesOverPitsSpec.pre enc Tryd.prog Tryd.f9 [] false w args ∧ laidMetH Tryd.prog laid1 w) ∧ sizedMet enc Tryd.prog Tryd.f9 (OpenSpec.ofChange Rows.fnPassesOverPitsSpec) false w args)
      (Rows.fnPassesOverPitsSpec.post enc Tryd.prog Tryd.f9 false true false false) := by
  refine returnsInHanded_of_change_and (C := Tryd.checked) (X := fun w _ => laidMetH Tryd.prog laid1 w) (fun _ _ _ hh h => h.of_heap hh) Tryd.own started (by kernel_rfl) Tryd.func9
    (ChangeSpec.witness_shaped (enc := enc) (C := Tryd.checked) (os := os) (X := fun w _ => laidMetH Tryd.prog laid1 w) false (World.doorLaid Tryd.prog 400 os) #[.slice none 0 0] 8 rfl (World.shaped_of_RefB (by kernel_rfl) (by kernel_rfl)) (by kernel_rfl) (by kernel_rfl) (by kernel_rfl) (door_met os _)) ?_
  intro W base args ds gs before hval0 hW _ _ hL _
  have hval : ∀ (j : Nat) t v, Tryd.f9.params[j]? = some t → args[j]? = some v → Value.okWide Tryd.prog W .any base t v := hval0
  have hW' := hW
  obtain ⟨p, q, hA0, hV, rfl, _, _⟩ := hW
  have hA : DataW.TrodAll enc Tryd.prog W 0 (fun _ => true) true Tryd.f9.params.toList args.toList ds p := hA0
  rw [Tryd.params9] at hA hval
  obtain ⟨v0, d0, rfl, rfl, h0⟩ := trodAll_one hA
  have hV' := hV
  obtain ⟨_, _, _, _, dv, _, rfl, _⟩ := trodVars_one hV
  obtain ⟨a0, len0, cap0, rfl⟩ := okWide_slice Tryd.underlying22 (hval 0 22 v0 rfl rfl)
  have k0 := h0
  have lt0 : ∀ x ∈ p, x.block < W.heap.size := by obtain ⟨m, hm⟩ := k0; exact DataW.trod_lt m _ _ _ hm
  obtain ⟨bs0, hn0, hb0⟩ := bytes_came h0
  have HS := steps_of_laid hL
  clear hA0 hval0
  refine (FnPassesOverPits_any _ bs0 W hn0 hb0 HS).mono fun e W' ⟨he, bel⟩ => ?_
  subst he
  exact ⟨_, rfl, _, _, _, [], _, q, hW', trodAll_mk1 (shut_bool Tryd.underlying4 _), (trodAll_mk1 (Below.trod Tryd.laidOut (by kernel_rfl) (of_decide_eq_true (by kernel_rfl)) k0 bel lt0)), Below.trodVars Tryd.laidOut bel (by kernel_rfl) hV', Below.frame bel _, fun h => by cases h⟩

theorem row_proved : Rows.FnPassesOverPitsSaid :=
  OpenClaim.holds_of_wide 9 Tryd.f9 rfl rfl rfl rfl rfl rfl rfl ⟨rfl, rfl, rfl, rfl, rfl⟩ rfl rfl rfl rfl rfl (by kernel_rfl) Tryd.func9
    (show joinedFacts Tryd.prog 9 Tryd.f9 Rows.fnPassesOverPitsSpec Rows.fnPassesOverPitsRow = true by unfold joinedFacts; rw [Tryd.makeG, Tryd.liftsG, Tryd.enterG]; kernel_rfl)
    (of_decide_eq_true (by kernel_rfl)) (by unfold Func.isWrapper; first | (rw [if_pos (by decide +kernel)]; kernel_rfl) | (rw [if_neg (by decide +kernel)]; exact ⟨rfl, rfl⟩))
    (fun os started H enc _ => lifted os started H enc)

theorem proved : Rows.FnPassesOverPitsCardSaid :=
  Claim7.holds_tied_plain_at .later [] [.data] true Rows.fnPassesOverPitsCard.stood.harness Rows.fnPassesOverPitsCard.stood.looks
    row_proved (fun _ h => by cases h) (by kernel_rfl) (fun _ h => by cases h) fnPassesOverPits_row_tie rfl ⟨rfl, rfl⟩ (show Tryd.prog.mainIs = some (Rows.fnPassesOverPitsCard.stood.harness.1, Rows.fnPassesOverPitsCard.stood.harness.2.toList) from Tryd.mainG) rfl
    (fun f fn hf hfn => by
      obtain rfl : f = 9 := Option.some.inj ((show Tryd.prog.funcNamed "loop.example/wateronheights/laws.FnPassesOverPits" = some 9 by kernel_rfl).symm.trans hf) |>.symm
      obtain rfl : fn = Tryd.f9 := (Option.some.inj (Tryd.func9.symm.trans hfn)).symm
      exact ⟨by kernel_rfl, fun j t ht => by
        rw [Tryd.params9] at ht
        have hm : t ∈ [22] := by simpa using Array.mem_of_getElem? ht
        have hall : ([22].all fun u => !Tryd.prog.wantsStandIn u) = true := by kernel_rfl
        exact (show Tryd.prog.wantsStandIn t = false by simpa using List.all_eq_true.1 hall t hm)⟩)
    (by kernel_rfl)
#print axioms proved
end Go.Proofs.YtdjjimnfhfdjdaaDoor.pPassesOverPits
