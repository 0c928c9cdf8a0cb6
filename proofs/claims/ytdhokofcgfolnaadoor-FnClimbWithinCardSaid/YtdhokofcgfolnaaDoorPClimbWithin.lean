/- FnClimbWithin: for every input the law returns true, and the input reads as it did, where the table of steps reads as the program's text lays it; tied to that text. Its conditions: that one listed variable, tied. -/
import Derived.Test.YtdhokofcgfolnaaDoorWays
import Derived.Test.YtdhokofcgfolnaaDoorCosts
import Derived.Test.YtdhokofcgfolnaaDoorFewest
import Derived.Test.YtdhokofcgfolnaaDoorSWithin
import Derived.Test.YtdhokofcgfolnaaDoorDraws4
import Derived.Test.YtdhokofcgfolnaaDoorCameRows
import Derived.Test.YtdhokofcgfolnaaDoorTied
import Derived.Test.YtdhokofcgfolnaaDoorWords
import Derived.Test.YtdhokofcgfolnaaDoorTie
import Derived.Test.YtdhokofcgfolnaaDoorCards
import Derived.SevenTiedAt
/- What the least climbs keep: over a third cell, and back. -/
namespace Go.Proofs.YtdhokofcgfolnaaDoor

section
variable {n m N : Nat} {p : List Int}
theorem Walk.append {ar : Nat → List Int} {s t i x k : Nat} {u v : Int} (h : Walk ar p upF s i x u) (g : Walk ar p upF t x k v) : Walk ar p upF (s + t) i k (u + v) := by
  induction h with
  | nil s i => rw [Int.zero_add]; exact g.le (by omega)
  | cons h1 _ ih =>
    have := Walk.cons (f := upF) h1 (ih g)
    rw [show ∀ a b c : Int, upF a (b + c) = upF a b + c from fun a b c => by unfold upF; omega] at this
    rw [Nat.add_right_comm]
    exact this
theorem Walk.back (hn : n ≤ 5) (hm : m ≤ 5) {s i k : Nat} {v : Int} (h : Walk (aroundL n m) p upF s i k v) (hi : i < n * m) : Walk (aroundL n m) p upF s k i (v - (p.getD k 0 - p.getD i 0)) := by
  induction h with
  | nil s i =>
    have := Walk.nil (ar := aroundL n m) (p := p) (f := upF) s i
    rwa [show (0 : Int) - (p.getD i 0 - p.getD i 0) = 0 by omega]
  | cons h1 _ ih =>
    have hj := around_lt hn hm hi h1
    have := (ih hj).snoc (around_back hn hm hi h1)
    rw [show ∀ (a b c v : Int), upF (b - a) v - (c - a) = v - (c - b) + max (a - b) 0 from fun a b c v => by unfold upF; omega]
    exact this
/-- All cells are joined. -/
theorem all_joined (hn : n ≤ 5) (hm : m ≤ 5) (hp : ∀ i, i < n * m → 0 ≤ p.getD i 0 ∧ p.getD i 0 ≤ 12) {i k : Nat} (hi : i < n * m) (hk : k < n * m) {J : Nat → Nat → Bool} (hJ : ∀ a b, a < n * m → b < n * m → J a b = true) : Reach n m J i k := by
  have h := ((passN_way hn hm hp hi hk).up (passN_top hn hm hp hi hk).2).2
  clear hk
  induction h with
  | refl => exact .refl
  | step h1 h2 h3 ih => exact .step ih h2 (hJ _ _ (h1.lt hn hm hi) (around_lt hn hm (h1.lt hn hm hi) h2))
theorem reach_walk {J : Nat → Nat → Bool} {i k : Nat} (h : Reach n m J i k) : ∃ s v, Walk (aroundL n m) p upF s i k v := by
  induction h with
  | refl => exact ⟨0, 0, .nil _ _⟩
  | step h1 h2 h3 ih =>
    obtain ⟨s, v, h4⟩ := ih
    exact ⟨s + 1, _, h4.snoc h2⟩

/-- The least climbs from i to k. -/
def climbN (n m : Nat) (p : List Int) (i k : Nat) : Int := costT (aroundL n m) p upF k (n * m) i
theorem around_in (hn : n ≤ 5) (hm : m ≤ 5) : ∀ i x, i < n * m → x ∈ aroundL n m i → 0 ≤ x ∧ x < (n * m : Nat) := fun i x hi hx => by
  obtain ⟨h1, h2, _⟩ := (around_facts hn hm (I := i) hi).1 _ hx
  omega
theorem climbN_least (hn : n ≤ 5) (hm : m ≤ 5) {i k : Nat} (hi : i < n * m) : Least (fun v => ∃ s, Walk (aroundL n m) p upF s i k v) (climbN n m p i k) := by
  have hst := short_still (p := p) (e := k) upF_rule up_short (around_in hn hm) (fun i x hx => around_nonneg hx)
  have hl := hst.least upF_rule (around_in hn hm) (fun i x hx => around_nonneg hx) i hi
  rwa [← hst.all (around_in hn hm) (n * m) (by omega) i hi] at hl
theorem climbN_walk (hn : n ≤ 5) (hm : m ≤ 5) (hp : ∀ i, i < n * m → 0 ≤ p.getD i 0 ∧ p.getD i 0 ≤ 12) {i k : Nat} (hi : i < n * m) (hk : k < n * m) : 0 ≤ climbN n m p i k ∧ (∃ s, Walk (aroundL n m) p upF s i k (climbN n m p i k)) ∧ ∀ s v, Walk (aroundL n m) p upF s i k v → climbN n m p i k ≤ v := by
  rcases climbN_least (p := p) (k := k) hn hm hi with ⟨_, h⟩ | ⟨h1, h2, h3⟩
  · obtain ⟨s, v, hw⟩ := reach_walk (p := p) (all_joined hn hm hp hi hk (J := fun _ _ => true) fun _ _ _ _ => rfl)
    exact absurd ⟨s, hw⟩ (h v)
  · exact ⟨h1, h2, fun s v hw => h3 v ⟨s, hw⟩⟩
theorem climbN_tri (hn : n ≤ 5) (hm : m ≤ 5) (hp : ∀ i, i < n * m → 0 ≤ p.getD i 0 ∧ p.getD i 0 ≤ 12) {i x k : Nat} (hi : i < n * m) (hx : x < n * m) (hk : k < n * m) : climbN n m p i k ≤ climbN n m p i x + climbN n m p x k := by
  obtain ⟨_, ⟨s, h1⟩, _⟩ := climbN_walk hn hm hp hi hx
  obtain ⟨_, ⟨t, h2⟩, _⟩ := climbN_walk hn hm hp hx hk
  exact (climbN_walk hn hm hp hi hk).2.2 _ _ (h1.append h2)
theorem climbN_back (hn : n ≤ 5) (hm : m ≤ 5) (hp : ∀ i, i < n * m → 0 ≤ p.getD i 0 ∧ p.getD i 0 ≤ 12) {i k : Nat} (hi : i < n * m) (hk : k < n * m) : climbN n m p k i = climbN n m p i k - (p.getD k 0 - p.getD i 0) := by
  obtain ⟨_, ⟨s, h1⟩, h2⟩ := climbN_walk hn hm hp hi hk
  obtain ⟨_, ⟨t, h3⟩, h4⟩ := climbN_walk hn hm hp hk hi
  have h5 := h4 _ _ (h1.back hn hm hi)
  have h6 := h2 _ _ (h3.back hn hm hk)
  omega
theorem climbN_self (hn : n ≤ 5) (hm : m ≤ 5) (hp : ∀ i, i < n * m → 0 ≤ p.getD i 0 ∧ p.getD i 0 ≤ 12) {i : Nat} (hi : i < n * m) : climbN n m p i i = 0 := by
  obtain ⟨h1, _, h2⟩ := climbN_walk hn hm hp hi hi
  have := h2 0 0 (.nil _ _)
  omega
theorem climbN_up (hn : n ≤ 5) (hm : m ≤ 5) (hp : ∀ i, i < n * m → 0 ≤ p.getD i 0 ∧ p.getD i 0 ≤ 12) {i k : Nat} (hi : i < n * m) : climbN n m p i k ≤ 300 := by
  have := (costT_up upF_rule (around_in hn hm) hp (e := k) (n * m) i hi).2
  have h25 : n * m ≤ 25 := Nat.mul_le_mul hn hm
  unfold climbN
  omega
end
end Go.Proofs.YtdhokofcgfolnaaDoor
/- The law FnClimbWithin returns true. -/
namespace Go.Proofs.YtdhokofcgfolnaaDoor
open Go.RowKit


theorem four_results {fn : Func} {t u v x : Tmp} (h : fn.results = #[.tmp t, .tmp u, .tmp v, .tmp x]) (tmps : Array Value) (P : Program) (w : World) :
    (results fn tmps).run P w = .ok (.tuple #[tmps.getD t undef, tmps.getD u undef, tmps.getD v undef, tmps.getD x undef]) w := by
  simp [results, h]
theorem litAt4 (E lo blk hi n : Nat) (w : World) (xs : List Int) (cs : Array Value) (h : cs.toList = xs.map (.int .i64)) (hb : blk = w.heap.size) (hn : n = xs.length) (hlo : lo ≤ blk) (hhi : blk < hi) (hl : xs.length ≤ maxLen) :
    IntsO E lo hi (w.alloc (.cells cs E)) (.slice (some ⟨blk, 0, none⟩) n n) xs := by
  subst hb hn
  exact (IntsO.lit E lo w xs cs h hlo hl).wide (Nat.le_refl _) hhi
/-- A drawn grid in new memory, two cells and a number. -/
def DrawnSteps (w : World) (e : Ending) (w' : World) : Prop := ∃ v H i k s, e = .returned (.tuple #[v, .int .i64 i, .int .i64 k, .int .i64 s]) ∧ RowsO 27 3 w.heap.size w'.heap.size w' v H ∧ Drawn H ∧ (-1 ≤ s ∧ s ≤ 31) ∧ Grew w w'

set_option maxRecDepth 100000 in
set_option maxHeartbeats 1000000 in
theorem DrawClimbWithin_any (v : Value) (bs : List Int) (w : World) (hv : NumsV .u8 w v bs) (hb : ∀ i, i < bs.length → 0 ≤ bs.getD i 0 ∧ bs.getD i 0 ≤ 255) :
    Calls Tryd.prog 19 #[v] w (DrawnSteps w) := by
  have HN := Lib.hid (newReader_any v bs w hv hb)
  clear hv hb
  go_enter Tryd.func19, Tryd.ntmps19
  go_wp2_with (fail)
  refine HN.out.mono ?_
  rintro e w1 ⟨rfl, hr⟩
  have HR := Lib.hid hr
  have hl1 := hr.lt
  clear hr
  go_wp2_with (fail)
  refine (someGrid_any w w1 w.heap.size 0 HR.out (by omega)).mono ?_
  rintro e w2 ⟨v2, H, q, rfl, hO, hd, hr2, hq, hw2⟩
  have HS := Lib.hid (And.intro hO (And.intro hd hr2))
  have hs2 := hw2.size
  have hs0 : w.heap.size ≤ w1.heap.size := HR.out.grew.size
  obtain ⟨a3, n3, c3, rfl⟩ : ∃ a n c, v2 = .slice a n c := by
    rcases hO.shape with ⟨rfl, _⟩ | ⟨g, c, rfl, _⟩ <;> exact ⟨_, _, _, rfl⟩
  clear hO hd hr2 hw2
  go_wp2_with (fail)
  refine (cellOf_any w w2 w.heap.size q w1.heap.size w2.heap.size _ H HS.out.2.2 (by omega) HS.out.1 HS.out.2.1).mono ?_
  rintro e w3 ⟨n, q3, rfl, hn, hr3, hq3, hw3⟩
  have H3 := Lib.hid (And.intro (HS.out.1.within hw3 (.inr (by omega))) (And.intro hr3 hw3.size))
  clear hr3 hw3
  go_wp2_with (fail)
  refine (cellOf_any w w3 w.heap.size q3 w1.heap.size w2.heap.size _ H H3.out.2.1 (by omega) H3.out.1 HS.out.2.1).mono ?_
  rintro e w4 ⟨k, q4, rfl, hk, hr4, hq4, hw4⟩
  have H4 := Lib.hid (And.intro (H3.out.1.within hw4 (.inr (by omega))) (And.intro hr4 (Nat.le_trans H3.out.2.2 hw4.size)))
  have hs4 : w2.heap.size ≤ w4.heap.size := H4.out.2.2
  clear hr4 hw4
  go_wp2_with (fail)
  refine (one_any w _ w.heap.size q4 (w4.heap.size + 1) _ [4, 6, 2, 8, 1, 0, 30, 31, -1] (H4.out.2.1.later ((Grew.refl _).alloc _)) (by omega) (litAt4 _ _ _ _ _ _ [4, 6, 2, 8, 1, 0, 30, 31, -1] _ rfl (by simp) rfl (by omega) (by omega) (by simp [maxLen])) (by simp) (by simp)).mono ?_
  rintro e w5 ⟨x, hx, rfl, hr5, hw5⟩
  have hx' : -1 ≤ x ∧ x ≤ 31 := by
    simp at hx
    omega
  have hs5 := hw5.size
  simp at hs5
  have HF : Hid (DrawnSteps w (.returned (.tuple #[.slice a3 n3 c3, .int .i64 n, .int .i64 k, .int .i64 x])) w5) :=
    ⟨_, H, n, k, x, rfl, ((H4.out.1.grew ((Grew.refl _).alloc _)).within hw5 (.inr (by omega))).wide (by omega) (by omega), HS.out.2.1, hx', hr5.grew⟩
  clear hr5 hw5 hx
  go_wp2
  refine bodyPost_ret (four_results rfl _ _ _) rfl ?_
  exact HF.out

set_option maxRecDepth 100000 in
set_option maxHeartbeats 8000000 in
theorem FnClimbWithin_any (v : Value) (bs : List Int) (w : World) (hv : NumsV .u8 w v bs) (hb : ∀ i, i < bs.length → 0 ≤ bs.getD i 0 ∧ bs.getD i 0 ≤ 255) (hS : Steps w) :
    Calls Tryd.prog 4 #[v] w fun e w' => e = .returned (.bool true) ∧ Grew w w' := by
  have HD := Lib.hid (DrawClimbWithin_any v bs w hv hb)
  have HS := Lib.hid hS
  obtain ⟨a, b, o, c, rfl, ⟨hlc, hcb⟩, _, _⟩ := hv.shape
  clear hv hb hS
  by_cases hbig : 1048576 < bs.length
  · go_enter Tryd.func4, Tryd.ntmps4
    go_wp2
    go_ret
    exact ⟨rfl, Grew.refl _⟩
  · go_enter Tryd.func4, Tryd.ntmps4
    go_wp2_with (fail)
    refine HD.out.mono ?_
    rintro e w1 ⟨v1, H, i, k, s, rfl, hO, hd, hsb, hg1⟩
    have HV := Lib.hid (And.intro hO.toV hg1)
    obtain ⟨a1, c1, rfl⟩ := hO.sh
    obtain ⟨M, eM⟩ : ∃ M, withinL H i k s = M := ⟨_, rfl⟩
    have HM := Lib.hid eM
    have ebb : (M != M) = false := by simp
    clear hO hd hg1 HD
    go_wp2_with (fail)
    refine (ClimbWithin_any _ H i k s _ HV.out.1 (HS.out.grew HV.out.2)).mono ?_
    rw [eM]
    rintro e w2 ⟨rfl, hg2⟩
    have H2 := Lib.hid (And.intro (HV.out.1.grew hg2) (HV.out.2.trans hg2))
    clear hg2
    go_wp2_with (fail)
    refine (SClimbWithin_any _ H i k s _ H2.out.1).mono ?_
    rw [eM]
    rintro e w3 ⟨rfl, hg3⟩
    have H3 := Lib.hid (And.intro (H2.out.1.grew hg3) (H2.out.2.trans hg3))
    clear hg3 H2 HV eM
    cases hr : inR s 0 30 with
    | false =>
      have eM0 : M = -1 := by rw [← HM.out, withinL_no2 hr]
      subst eM0
      clear hr
      go_wp2_with (fail)
      refine (SClimbWithin_any _ H i k s _ H3.out.1).mono ?_
      rw [HM.out]
      rintro e w5 ⟨rfl, hg5⟩
      have H5 := Lib.hid (H3.out.2.trans hg5)
      clear hg5
      go_wp2
      go_ret
      exact ⟨rfl, H5.out⟩
    | true =>
      cases hc : vCell H i && vCell H k with
      | false =>
        have eM0 : M = -1 := by rw [← HM.out, withinL_no hc]
        subst eM0
        clear hc hr
        go_wp2_with (fail)
        refine (SClimbWithin_any _ H i k s _ H3.out.1).mono ?_
        rw [HM.out]
        rintro e w5 ⟨rfl, hg5⟩
        have H5 := Lib.hid (H3.out.2.trans hg5)
        clear hg5
        go_wp2
        go_ret
        exact ⟨rfl, H5.out⟩
      | true =>
        obtain ⟨hci, hck⟩ := (Bool.and_eq_true _ _ ▸ hc : _ ∧ _)
        obtain ⟨hvg, h0, hI, _⟩ := vCell_yes hci
        obtain ⟨_, k0, hK, _⟩ := vCell_yes hck
        obtain ⟨I, rfl⟩ := Int.eq_ofNat_of_zero_le h0
        obtain ⟨K, rfl⟩ := Int.eq_ofNat_of_zero_le k0
        rw [Int.toNat_natCast] at hI hK
        have G := Grid.of hvg
        obtain ⟨n, en⟩ : ∃ n, H.length = n := ⟨_, rfl⟩
        obtain ⟨m, em⟩ : ∃ m, (H.getD 0 []).length = m := ⟨_, rfl⟩
        obtain ⟨N, eN⟩ : ∃ N, n * m = N := ⟨_, rfl⟩
        have hn5 := G.n5
        have hm5 := G.m5
        rw [en] at hn5 hI hK
        rw [em] at hm5 hI hK
        rw [eN] at hI hK
        have hN25 : N ≤ 25 := by rw [← eN]; exact Nat.mul_le_mul hn5 hm5
        have hpn : ∀ i, i < n * m → 0 ≤ H.flatten.getD i 0 ∧ H.flatten.getD i 0 ≤ 12 := fun i hi => grid_num G i (by rw [en, em]; exact hi)
        have hpl := flat_grid_len G
        rw [en, em, eN] at hpl
        have hvc : ∀ x : Nat, x < N → vCell H (x : Int) = true := fun x hx => by
          rw [vCell, hvg, Bool.true_and, Bool.and_eq_true, decide_eq_true_eq, decide_eq_true_eq]
          have : ((n * m : Nat) : Int) = (n : Int) * m := by simp
          rw [en, em]
          omega
        unfold inR at hr
        simp only [Bool.and_eq_true, decide_eq_true_eq] at hr
        obtain ⟨s, rfl⟩ := Int.eq_ofNat_of_zero_le hr.1
        have hs30 : s ≤ 30 := by omega
        have hvi := hvc I hI
        have hvk := hvc K hK
        have hW : ∀ t : Nat, t ≤ 30 → withinL H I K t = costT (aroundL n m) H.flatten upF K t I := fun t ht => withinL_yes en em hvi hvk (by unfold inR; simp; omega)
        have HW1 : Hid (∀ W, Grew w3 W → Calls Tryd.prog 20 #[.slice a1 H.length c1, .int .i64 I, .int .i64 K, .int .i64 ((s : Int) + 1)] W fun e w' => e = .returned (.int .i64 (withinL H I K ((s : Int) + 1))) ∧ Grew W w') := Lib.hid fun W hW => ClimbWithin_any _ H I K ((s : Int) + 1) W (H3.out.1.grew hW) (HS.out.grew (H3.out.2.trans hW))
        have HFE : Hid (∀ W, Grew w3 W → Calls Tryd.prog 22 #[.slice a1 H.length c1, .int .i64 I, .int .i64 K] W fun e w' => e = .returned (.int .i64 (fewV H I K)) ∧ Grew W w') := Lib.hid fun W hW => FewestSteps_any _ H I K W (H3.out.1.grew hW) (HS.out.grew (H3.out.2.trans hW))
        have HCB : Hid (∀ W, Grew w3 W → Calls Tryd.prog 16 #[.slice a1 H.length c1, .int .i64 I, .int .i64 K] W fun e w' => e = .returned (.int .i64 (wayV upF H I K)) ∧ Grew W w') := Lib.hid fun W hW => ClimbBetween_any _ H I K W (H3.out.1.grew hW) (HS.out.grew (H3.out.2.trans hW))
        rw [wayV_yes en em eN hvi hvk] at HCB
        rw [fewV_yes en em eN hvi hvk] at HFE
        have h0a : ∀ i x, x ∈ aroundL n m i → 0 ≤ x := fun i x hx => around_nonneg hx
        obtain ⟨r, hr1, hr2, hr3, hr4⟩ := lastCh_spec (p := H.flatten) (e := K) h0a I N
        rw [hr1] at HFE
        have HW2 : Hid (∀ W, Grew w3 W → Calls Tryd.prog 20 #[.slice a1 H.length c1, .int .i64 I, .int .i64 K, .int .i64 (r : Int)] W fun e w' => e = .returned (.int .i64 (costT (aroundL n m) H.flatten upF K N I)) ∧ Grew W w') := Lib.hid fun W hW' => by
          have := ClimbWithin_any _ H I K (r : Int) W (H3.out.1.grew hW') (HS.out.grew (H3.out.2.trans hW'))
          rwa [hW r (by omega), hr3] at this
        have hMp : M = costT (aroundL n m) H.flatten upF K s I := by rw [← HM.out, hW s hs30]
        have hcl := (climbN_walk hn5 hm5 hpn (i := I) (k := K) (by omega) (by omega)).1
        rw [climbN, eN] at hcl
        obtain ⟨due, edue⟩ : ∃ due, costT (aroundL n m) H.flatten upF K N I = due := ⟨_, rfl⟩
        obtain ⟨more, emore⟩ : ∃ more, withinL H I K ((s : Int) + 1) = more := ⟨_, rfl⟩
        rw [emore] at HW1
        have hstill := short_still (p := H.flatten) (e := K) upF_rule up_short (around_in hn5 hm5) h0a
        have hfin : ∀ t, N ≤ t → costT (aroundL n m) H.flatten upF K t I = due := fun t ht => by
          rw [← edue, hstill.all (around_in hn5 hm5) t (by omega) I (by omega), hstill.all (around_in hn5 hm5) N (by omega) I (by omega)]
        by_cases hM0 : M < 0
        · have hM1 : M = -1 := by
            rcases costT_least (p := H.flatten) upF_rule h0a K s I with ⟨g, _⟩ | ⟨g, _⟩
            · rw [hMp]; exact g
            · omega
          clear HW1 HFE HCB HW2 hcl hfin hstill hr3 hr4 hW hpn emore edue hMp
          subst hM1
          clear hc hci hck hvg h0 k0 G en em eN hn5 hm5 hpl hvc hvi hvk h0a hr
          go_wp2_with (fail)
          refine (SClimbWithin_any _ H (I : Int) (K : Int) (s : Int) _ H3.out.1).mono ?_
          rw [HM.out]
          rintro e w5 ⟨rfl, hg5⟩
          have H5 := Lib.hid (H3.out.2.trans hg5)
          clear hg5
          go_wp2
          go_ret
          exact ⟨rfl, H5.out⟩
        · have hge : due ≤ M ∧ (due < M ↔ s < r) ∧ (s ≠ 30 → more ≤ M ∧ 0 ≤ more) := by
            refine ⟨?_, ?_, fun h => ?_⟩
            · rcases Nat.le_total s N with h | h
              · obtain ⟨d, hd'⟩ := Nat.exists_eq_add_of_le h
                rcases cost_mono (p := H.flatten) (e := K) h0a s I d with g | ⟨_, g⟩
                · omega
                · rw [← hd', edue] at g; omega
              · rw [hMp, hfin s h]; exact Int.le_refl _
            · rw [← edue]
              constructor
              · intro h
                rcases Nat.lt_or_ge s r with h1 | h1
                · exact h1
                · rcases Nat.le_total s N with h2 | h2
                  · have := cost_between (p := H.flatten) (e := K) h0a (i := I) h1 h2 hr3
                    omega
                  · have := hfin s h2; omega
              · intro h
                have h1 := hr4 s h
                obtain ⟨d, hd'⟩ := Nat.exists_eq_add_of_le (show s ≤ N by omega)
                rcases cost_mono (p := H.flatten) (e := K) h0a s I d with g | ⟨_, g⟩
                · omega
                · rw [← hd'] at g; omega
            · have e1 := hW (s + 1) (by omega)
              rw [show ((s + 1 : Nat) : Int) = (s : Int) + 1 by omega] at e1
              rcases cost_step (p := H.flatten) (e := K) h0a s I with g | ⟨g1, g2⟩
              · omega
              · rw [← emore, e1]; omega
          rw [edue] at HCB HW2
          obtain ⟨hg1', hg2', hg3'⟩ := hge
          have HB : Hid ((due < M ↔ s < r) ∧ (s ≠ 30 → more ≤ M ∧ 0 ≤ more)) := Lib.hid ⟨hg2', hg3'⟩
          have hdueb : (M : Int) ≥ due := hg1'
          have eb : (due == due) = true := by simp
          have hsi : (s : Int) + 1 ≤ 31 := by omega
          clear hc hci hck hvg h0 k0 G en em eN hn5 hm5 hpl hvc hvi hvk h0a hr hcl hfin hstill hr3 hr4 hW hpn emore edue hMp HM hg2' hg3' hr1
          go_wp2_with (fail)
          refine (HW1.out _ (Grew.refl _)).mono ?_
          rintro e w4 ⟨rfl, hg4⟩
          have HG4 := Lib.hid hg4
          clear hg4
          go_wp2_with (fail)
          refine (HFE.out _ HG4.out).mono ?_
          rintro e w5 ⟨rfl, hg5⟩
          have HG5 := Lib.hid (HG4.out.trans hg5)
          clear hg5
          go_wp2_with (fail)
          refine (HCB.out _ HG5.out).mono ?_
          rintro e w6 ⟨rfl, hg6⟩
          have HG6 := Lib.hid (HG5.out.trans hg6)
          clear hg6
          have HC7 := Lib.hid (HW2.out _ HG6.out)
          by_cases h30 : s = 30
          · subst h30
            by_cases hlt : due < M
            all_goals
              have hsr := HB.out.1
              by_cases hsr2 : 30 < r
              · first | (exact absurd (hsr.2 hsr2) (by omega)) | (
                  have hi1 : (30 : Int) < (r : Int) := by omega
                  clear hsr
                  go_wp2_with (fail)
                  refine HC7.out.mono ?_
                  rintro e w7 ⟨rfl, hg7⟩
                  have HN := Lib.hid (H3.out.2.trans (HG6.out.trans hg7))
                  clear hg7
                  go_wp2
                  go_ret
                  exact ⟨ret_bool (by simp; try omega), HN.out⟩)
              · first | (exact absurd (hsr.1 hlt) hsr2) | (
                  have hi1 : ¬ (30 : Int) < (r : Int) := by omega
                  clear hsr
                  go_wp2_with (fail)
                  refine HC7.out.mono ?_
                  rintro e w7 ⟨rfl, hg7⟩
                  have HN := Lib.hid (H3.out.2.trans (HG6.out.trans hg7))
                  clear hg7
                  go_wp2
                  go_ret
                  exact ⟨ret_bool (by simp; try omega), HN.out⟩)
          · have hsb30 : ((s : Int) == 30) = false := by simp; omega
            obtain ⟨hm1, hm2⟩ := HB.out.2 h30
            by_cases hlt : due < M
            all_goals
              have hsr := HB.out.1
              by_cases hsr2 : s < r
              · first | (exact absurd (hsr.2 hsr2) (by omega)) | (
                  have hi1 : (s : Int) < (r : Int) := by omega
                  clear hsr
                  go_wp2_with (fail)
                  refine HC7.out.mono ?_
                  rintro e w7 ⟨rfl, hg7⟩
                  have HN := Lib.hid (H3.out.2.trans (HG6.out.trans hg7))
                  clear hg7
                  go_wp2
                  go_ret
                  exact ⟨ret_bool (by simp; try omega), HN.out⟩)
              · first | (exact absurd (hsr.1 hlt) hsr2) | (
                  have hi1 : ¬ (s : Int) < (r : Int) := by omega
                  clear hsr
                  go_wp2_with (fail)
                  refine HC7.out.mono ?_
                  rintro e w7 ⟨rfl, hg7⟩
                  have HN := Lib.hid (H3.out.2.trans (HG6.out.trans hg7))
                  clear hg7
                  go_wp2
                  go_ret
                  exact ⟨ret_bool (by simp; try omega), HN.out⟩)
end Go.Proofs.YtdhokofcgfolnaaDoor
namespace Go.Proofs.YtdhokofcgfolnaaDoor.pClimbWithin
open Go.RowKit Go.ChangeShapes Go.WideShapes Go.ChangeAt

set_option maxRecDepth 100000 in
theorem lifted (os : Os) (started : os.Started) (H : Type) (enc : TypeId × Value → H) :
    ReturnsInHanded {} Tryd.checked os 4 .any (fun w args => (Rows.fnClimbWithinSpec.pre enc Tryd.prog Tryd.f4 [] false w args ∧ laidMetH Tryd.prog laid1 w) ∧ sizedMet enc Tryd.prog Tryd.f4 (OpenSpec.ofChange Rows.fnClimbWithinSpec) false w args)
      (Rows.fnClimbWithinSpec.post enc Tryd.prog Tryd.f4 false true false false) := by
  refine returnsInHanded_of_change_and (C := Tryd.checked) (X := fun w _ => laidMetH Tryd.prog laid1 w) (fun _ _ _ hh h => h.of_heap hh) Tryd.own started (by kernel_rfl) Tryd.func4
    (ChangeSpec.witness_shaped (enc := enc) (C := Tryd.checked) (os := os) (X := fun w _ => laidMetH Tryd.prog laid1 w) false (World.doorLaid Tryd.prog 400 os) #[.slice none 0 0] 8 rfl (World.shaped_of_RefB (by kernel_rfl) (by kernel_rfl)) (by kernel_rfl) (by kernel_rfl) (by kernel_rfl) (door_met os _)) ?_
  intro W base args ds gs before hval0 hW _ _ hL _
  have hval : ∀ (j : Nat) t v, Tryd.f4.params[j]? = some t → args[j]? = some v → Value.okWide Tryd.prog W .any base t v := hval0
  have hW' := hW
  obtain ⟨p, q, hA0, hV, rfl, _, _⟩ := hW
  have hA : DataW.TrodAll enc Tryd.prog W 0 (fun _ => true) true Tryd.f4.params.toList args.toList ds p := hA0
  rw [Tryd.params4] at hA hval
  obtain ⟨v0, d0, rfl, rfl, h0⟩ := trodAll_one hA
  have hV' := hV
  obtain ⟨_, _, _, _, dv, _, rfl, _⟩ := trodVars_one hV
  obtain ⟨a0, len0, cap0, rfl⟩ := okWide_slice Tryd.underlying22 (hval 0 22 v0 rfl rfl)
  have k0 := h0
  have lt0 : ∀ x ∈ p, x.block < W.heap.size := by obtain ⟨m, hm⟩ := k0; exact DataW.trod_lt m _ _ _ hm
  obtain ⟨bs0, hn0, hb0⟩ := bytes_came h0
  have HS := steps_of_laid hL
  clear hA0 hval0
  refine (FnClimbWithin_any _ bs0 W hn0 hb0 HS).mono fun e W' ⟨he, bel⟩ => ?_
  subst he
  exact ⟨_, rfl, _, _, _, [], _, q, hW', trodAll_mk1 (shut_bool Tryd.underlying4 _), (trodAll_mk1 (Below.trod Tryd.laidOut (by kernel_rfl) (of_decide_eq_true (by kernel_rfl)) k0 bel lt0)), Below.trodVars Tryd.laidOut bel (by kernel_rfl) hV', Below.frame bel _, fun h => by cases h⟩

theorem row_proved : Rows.FnClimbWithinSaid :=
  OpenClaim.holds_of_wide 4 Tryd.f4 rfl rfl rfl rfl rfl rfl rfl ⟨rfl, rfl, rfl, rfl, rfl⟩ rfl rfl rfl rfl rfl (by kernel_rfl) Tryd.func4
    (show joinedFacts Tryd.prog 4 Tryd.f4 Rows.fnClimbWithinSpec Rows.fnClimbWithinRow = true by unfold joinedFacts; rw [Tryd.makeG, Tryd.liftsG, Tryd.enterG]; kernel_rfl)
    (of_decide_eq_true (by kernel_rfl)) (by unfold Func.isWrapper; first | (rw [if_pos (by decide +kernel)]; kernel_rfl) | (rw [if_neg (by decide +kernel)]; exact ⟨rfl, rfl⟩))
    (fun os started H enc _ => lifted os started H enc)

theorem proved : Rows.FnClimbWithinCardSaid :=
  Claim7.holds_tied_plain_at .later [] [.data] true Rows.fnClimbWithinCard.stood.harness Rows.fnClimbWithinCard.stood.looks
    row_proved (fun _ h => by cases h) (by kernel_rfl) (fun _ h => by cases h) fnClimbWithin_row_tie rfl ⟨rfl, rfl⟩ (show Tryd.prog.mainIs = some (Rows.fnClimbWithinCard.stood.harness.1, Rows.fnClimbWithinCard.stood.harness.2.toList) from Tryd.mainG) rfl
    (fun f fn hf hfn => by
      obtain rfl : f = 4 := Option.some.inj ((show Tryd.prog.funcNamed "loop.example/wateronheights/laws.FnClimbWithin" = some 4 by kernel_rfl).symm.trans hf) |>.symm
      obtain rfl : fn = Tryd.f4 := (Option.some.inj (Tryd.func4.symm.trans hfn)).symm
      exact ⟨by kernel_rfl, fun j t ht => by
        rw [Tryd.params4] at ht
        have hm : t ∈ [22] := by simpa using Array.mem_of_getElem? ht
        have hall : ([22].all fun u => !Tryd.prog.wantsStandIn u) = true := by kernel_rfl
        exact (show Tryd.prog.wantsStandIn t = false by simpa using List.all_eq_true.1 hall t hm)⟩)
    (by kernel_rfl)
#print axioms proved
end Go.Proofs.YtdhokofcgfolnaaDoor.pClimbWithin
