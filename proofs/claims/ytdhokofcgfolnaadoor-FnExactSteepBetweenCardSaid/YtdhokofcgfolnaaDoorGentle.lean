/- The contract of spec.gentle. -/
import Derived.Test.YtdhokofcgfolnaaDoorWays
import Derived.Test.YtdhokofcgfolnaaDoorSBySinking
namespace Go.Proofs.YtdhokofcgfolnaaDoor
open Go.RowKit


/-- A search from i over cells no higher than top, till its end: what is seen, what waits; the first q are done. -/
structure SearchJ (n m : Nat) (J : Nat → Nat → Bool) (i : Nat) (sb : List Bool) (ls : List Int) (q : Nat) : Prop where
  len : sb.length = n * m
  mem : ∀ s, s < ls.length → ∃ X : Nat, ls.getD s 0 = X ∧ X < n * m ∧ sb.getD X false = true ∧ Reach n m J i X
  all : ∀ x, x < n * m → sb.getD x false = true → ∃ s, s < ls.length ∧ ls.getD s 0 = (x : Int)
  start : sb.getD i false = true
  done : ∀ s, s < q → s < ls.length → ∀ X : Nat, ls.getD s 0 = X → ∀ k : Nat, (k : Int) ∈ aroundL n m X → J X k = true → sb.getD k false = true
  room : ls.length + sb.count false ≤ n * m
def SeenJ (n m : Nat) (J : Nat → Nat → Bool) (sb : List Bool) (X t : Nat) : Prop :=
  ∀ s k : Nat, s < t → s < (aroundL n m X).length → (aroundL n m X).getD s 0 = k → J X k = true → sb.getD k false = true
theorem seenJ_zero (n m : Nat) (J : Nat → Nat → Bool) (sb : List Bool) (X : Nat) : SeenJ n m J sb X 0 := fun _ _ h => absurd h (Nat.not_lt_zero _)
theorem SeenJ.skip {n m t k X : Nat} {J : Nat → Nat → Bool} {sb : List Bool} (D : SeenJ n m J sb X t) (hk : (aroundL n m X).getD t 0 = k) (h : sb.getD k false = true ∨ J X k = false) : SeenJ n m J sb X (t + 1) := fun s j h1 h2 h3 h4 => by
  by_cases e2 : s = t
  · subst e2
    have : j = k := by omega
    subst this
    rcases h with h | h
    · exact h
    · rw [h] at h4; cases h4
  · exact D s j (by omega) h2 h3 h4
theorem searchJ_start {n m i : Nat} {J : Nat → Nat → Bool} (hi : i < n * m) : SearchJ n m J i ((List.replicate (n * m) false).set i true) [(i : Int)] 0 := by
  have S := search_start (p := List.replicate (i + 1) 0) (top := 0) hi (by simp)
  refine ⟨S.len, fun s hs => ?_, S.all, S.start, fun s hs => absurd hs (Nat.not_lt_zero _), S.room⟩
  obtain ⟨X, h1, h2, h3, _⟩ := S.mem s hs
  have : s = 0 := by simp at hs; omega
  subst this
  have : X = i := by simp at h1; omega
  subst this
  exact ⟨X, h1, h2, h3, .refl⟩
theorem SearchJ.tell {n m i q t k X : Nat} {J : Nat → Nat → Bool} {sb : List Bool} {ls : List Int} (hn : n ≤ 5) (hm : m ≤ 5) (S : SearchJ n m J i sb ls q) (hq : q < ls.length) (hX : ls.getD q 0 = X) (D : SeenJ n m J sb X t)
    (ht : t < (aroundL n m X).length) (hk : (aroundL n m X).getD t 0 = k) (hs : sb.getD k false = false) (hp : J X k = true) :
    SearchJ n m J i (sb.set k true) (ls ++ [(k : Int)]) q ∧ (ls ++ [(k : Int)]).getD q 0 = X ∧ SeenJ n m J (sb.set k true) X (t + 1) := by
  obtain ⟨Y, hY, hXN, hX2, hX3⟩ := S.mem q hq
  have : Y = X := by omega
  subst this
  have hmem : (k : Int) ∈ aroundL n m Y := by
    rw [← hk, List.getD_eq_getElem?_getD, List.getElem?_eq_getElem ht]
    exact List.getElem_mem ht
  have hkN := around_lt hn hm hXN hmem
  have hl := S.len
  have g : ∀ x, (sb.set k true).getD x false = if x = k then true else sb.getD x false := fun x => getD_setB sb k x true (by omega)
  refine ⟨⟨by simp [hl], fun s hs2 => ?_, fun x hx h => ?_, ?_, fun s hs2 hs3 Z hZ => ?_, ?_⟩, by rw [getD_append_l _ _ _ _ hq]; exact hX, fun s j h1 h2 h3 h4 => ?_⟩
  · by_cases e : s = ls.length
    · subst e
      exact ⟨k, getD_append_r _ _ _, hkN, by rw [g, if_pos rfl], .step hX3 hmem hp⟩
    · have hs' : s < ls.length := by simp at hs2; omega
      obtain ⟨Z, h1, h2, h3, h4⟩ := S.mem s hs'
      refine ⟨Z, by rw [getD_append_l _ _ _ _ hs', h1], h2, ?_, h4⟩
      rw [g]; split
      · rfl
      · exact h3
  · rw [g] at h
    by_cases e : x = k
    · subst e; exact ⟨ls.length, by simp, getD_append_r _ _ _⟩
    · rw [if_neg e] at h
      obtain ⟨s, h1, h2⟩ := S.all x hx h
      exact ⟨s, by simp; omega, by rw [getD_append_l _ _ _ _ h1, h2]⟩
  · rw [g]; split
    · rfl
    · exact S.start
  · have hs' : s < ls.length := by
      rcases Nat.lt_or_ge s ls.length with h | h
      · exact h
      · omega
    rw [getD_append_l _ _ _ _ hs'] at hZ
    intro j hj hpj
    rw [g]; split
    · rfl
    · exact S.done s hs2 hs' Z hZ j hj hpj
  · have := count_setB sb k (by omega) hs
    have := S.room
    simp only [List.length_append, List.length_singleton]
    omega
  · rw [g]
    by_cases e : j = k
    · rw [if_pos e]
    · rw [if_neg e]
      by_cases e2 : s = t
      · subst e2; omega
      · exact D s j (by omega) h2 h3 h4
theorem SearchJ.next {n m i q X : Nat} {J : Nat → Nat → Bool} {sb : List Bool} {ls : List Int} (S : SearchJ n m J i sb ls q) (hX : ls.getD q 0 = X) (D : SeenJ n m J sb X (aroundL n m X).length) : SearchJ n m J i sb ls (q + 1) :=
  ⟨S.len, S.mem, S.all, S.start, fun s hs hs2 Z hZ => by
    by_cases e : s = q
    · subst e
      have : Z = X := by omega
      subst this
      intro k hk hp
      obtain ⟨t, h1, h2⟩ := List.getElem_of_mem hk
      exact D t k h1 h1 (by simp [h1, h2]) hp
    · exact S.done s (by omega) hs2 Z hZ, S.room⟩
theorem SearchJ.way {n m i k : Nat} {J : Nat → Nat → Bool} {sb : List Bool} {ls : List Int} (hn : n ≤ 5) (hm : m ≤ 5) (hi : i < n * m) (S : SearchJ n m J i sb ls ls.length) (hk : k < n * m) : sb.getD k false = true ↔ Reach n m J i k := by
  constructor
  · intro h
    obtain ⟨s, hs, e⟩ := S.all k hk h
    obtain ⟨X, h1, _, _, h4⟩ := S.mem s hs
    have : X = k := by omega
    subst this
    exact h4
  · intro h
    clear hk
    induction h with
    | refl => exact S.start
    | step h1 h2 h3 ih =>
      obtain ⟨s, hs, e⟩ := S.all _ (h1.lt hn hm hi) ih
      exact S.done s hs hs _ e _ h2 h3

/-- A step of at most so much. -/
def gentleB (p : List Int) (most : Int) (i k : Nat) : Bool := decide (max (p.getD k 0 - p.getD i 0) (-(p.getD k 0 - p.getD i 0)) ≤ most)
set_option maxRecDepth 100000 in
set_option maxHeartbeats 4000000 in
theorem gentle_any (v : Value) (h : List (List Int)) (n m N I K0 : Nat) (most : Int) (w : World) (hv : RowsV w v h) (hg : vGrid h = true) (en : h.length = n) (em : (h.getD 0 []).length = m) (eN : n * m = N) (hI : I < N) (hK0 : K0 < N) (hmost : most ≤ 12) :
    Calls Tryd.prog 61 #[v, .int .i64 I, .int .i64 K0, .int .i64 most] w fun e w' => ∃ b : Bool, e = .returned (.bool b) ∧ (b = true ↔ Reach n m (gentleB h.flatten most) I K0) ∧ Grew w w' := by
  have G := Grid.of hg
  have hn5 := G.n5
  have hn1 := G.n1
  have hm5 := G.m5
  have hm1 := G.m1
  rw [en] at hn5 hn1
  rw [em] at hm5 hm1
  have hN25 : N ≤ 25 := by rw [← eN]; exact Nat.mul_le_mul hn5 hm5
  have hN1 : 1 ≤ N := by rw [← eN]; exact Nat.mul_pos hn1 hm1
  have hpb : ∀ k, k < N → 0 ≤ h.flatten.getD k 0 ∧ h.flatten.getD k 0 ≤ 12 := fun i hi => grid_num G i (by rw [en, em, eN]; exact hi)
  obtain ⟨p, ep⟩ : ∃ p, h.flatten = p := ⟨_, rfl⟩
  rw [ep] at hpb ⊢
  have HNM := Lib.hid (And.intro hn5 (And.intro hm5 eN))
  obtain ⟨pf, hpf⟩ : ∃ pf : Nat → Int, ∀ i, pf i = p.getD i 0 := ⟨fun i => p.getD i 0, fun _ => rfl⟩
  have HPF := Lib.hid hpf
  have HS := Lib.hid (specH hv hg en em eN (by rw [ep]; exact hpf))
  obtain ⟨a, b, o, c, rfl, ⟨hlc, hcb⟩, _, _⟩ := hv.shape
  rw [en] at hlc HS ⊢
  clear hv hg G hm5 hm1 ep hpf en em eN
  have HBJ : Hid (∀ x y i k, p.getD i 0 = x → p.getD k 0 = y → gentleB p most i k = decide (max (y - x) (-(y - x)) ≤ most)) := Lib.hid fun x y i k h1 h2 => by rw [gentleB, h1, h2]
  have HPB := Lib.hid hpb
  clear hpb
  · go_enter Tryd.func61, Tryd.ntmps61
    have H1 := Lib.hid (Grew.refl w)
    go_wp2_with (fail)
    refine (HS.out.cells _ H1.out).mono ?_
    rintro e w2 ⟨rfl, rfl⟩
    have hIi : (I : Int) < (N : Int) := by omega
    obtain ⟨z0, ez0⟩ : ∃ z0, (List.replicate N false).getD I false = z0 := ⟨_, rfl⟩
    have HZ0 := Lib.hid ez0
    clear ez0
    go_wp2_with (at_make; refine wpList_make_bools rfl (.tmp 16) (.tmp 16) 71 rfl Tryd.underlying71 Tryd.infoBool rfl rfl rfl rfl (by omega) ?_; intro w3 hO3 hg3 hs3; obtain ⟨hcI, hfI⟩ := hO3.at rfl (i := I) (by simp; exact hI); rw [HZ0.out] at hcI)
    obtain ⟨gs, egs⟩ : ∃ gs, w.heap.size = gs := ⟨_, rfl⟩
    rw [egs] at hO3 hs3 hcI hfI ⊢
    obtain ⟨B0, eB0⟩ : ∃ B0, w3.heap.size = B0 := ⟨_, rfl⟩
    have hszs : (w3.setCell ⟨gs, I, none⟩ (.bool true)).heap.size = B0 := by rw [← eB0]; simp
    have hlit := IntsO.lit 3 (w3.setCell ⟨gs, I, none⟩ (.bool true)).heap.size (w3.setCell ⟨gs, I, none⟩ (.bool true)) [(I : Int)] #[.int .i64 I] rfl (Nat.le_refl _) (show 1 ≤ maxLen by decide)
    rw [hszs] at hlit
    have hal : Grew (w3.setCell ⟨gs, I, none⟩ (.bool true)) ((w3.setCell ⟨gs, I, none⟩ (.bool true)).alloc (.cells #[.int .i64 I] 3)) := (Grew.refl _).alloc _
    have hwg : w.heap.size ≤ gs := by rw [← egs]; exact H1.out.size
    have hwi : Within gs B0 w3 (w3.setCell ⟨gs, I, none⟩ (.bool true)) := (Within.refl _ _ _).setCell (p := ⟨gs, I, none⟩) (Nat.le_refl _) (by rw [← eB0]; exact hs3) _
    have hss : SearchJ n m (gentleB p most) I ((List.replicate N false).set I true) [(I : Int)] 0 := by
      have := searchJ_start (n := n) (m := m) (i := I) (J := gentleB p most) (by rw [HNM.out.2.2]; exact hI)
      rwa [HNM.out.2.2] at this
    rw [eB0] at hO3
    have HF : Hid (∃ sb, BoolsO 4 w.heap.size B0 ((w3.setCell ⟨gs, I, none⟩ (.bool true)).alloc (.cells #[.int .i64 I] 3)) (.slice (some ⟨gs, 0, none⟩) N N) sb ∧ IntsO 3 B0 (B0 + 1) ((w3.setCell ⟨gs, I, none⟩ (.bool true)).alloc (.cells #[.int .i64 I] 3)) (.slice (some ⟨B0, 0, none⟩) 1 1) [(I : Int)] ∧ SearchJ n m (gentleB p most) I sb [(I : Int)] 0 ∧ Grew w ((w3.setCell ⟨gs, I, none⟩ (.bool true)).alloc (.cells #[.int .i64 I] 3)) ∧ B0 ≤ ((w3.setCell ⟨gs, I, none⟩ (.bool true)).alloc (.cells #[.int .i64 I] 3)).heap.size ∧ B0 ≤ B0) :=
      Lib.hid ⟨_, ((hO3.set rfl I true).grew hal).wide hwg (Nat.le_refl _), hlit.at1, hss, (Within.grew (H1.out.trans hg3) hwi hwg).trans hal, by simp; omega, Nat.le_refl _⟩
    have HB0 := Lib.hid (And.intro hwg eB0)
    clear hO3 hg3 hs3 hlit hal hwg hwi hss egs H1
    first | rw [hszs] | rw [eB0]
    clear hszs eB0 hcI hfI
    go_loopg [10, 11] N (fun gk v i wm => ∃ q ls g c', v = .slice (some ⟨g, 0, none⟩) (List.length ls) c' ∧ i = .int .i64 ((q : Nat) : Int) ∧ q ≤ List.length ls ∧ List.length ls ≤ N ∧ N ≤ gk + q ∧
      Hid (∃ sb, BoolsO 4 w.heap.size B0 wm (.slice (some ⟨gs, 0, none⟩) N N) sb ∧ IntsO 3 g (g + 1) wm v ls ∧ SearchJ n m (gentleB p most) I sb ls q ∧ Grew w wm ∧ B0 ≤ wm.heap.size ∧ B0 ≤ g))
    case atStart => exact ⟨0, [(I : Int)], _, _, rfl, rfl, by simp, by simpa using hN1, by omega, HF.out⟩
    case round =>
      obtain ⟨q, ls, g, c', rfl, rfl, hq1, hq3, hq2, HM⟩ := hrel
      clear HF
      by_cases hlq : q < ls.length
      · obtain ⟨X, HX⟩ : ∃ X : Nat, Hid (ls.getD q 0 = X ∧ X < N) := by
          obtain ⟨sb, _, _, hG, _⟩ := HM.out
          obtain ⟨X, h1, h2, _⟩ := hG.mem q hlq
          rw [HNM.out.2.2] at h2
          exact ⟨X, h1, h2⟩
        have hel : wr.cell? ⟨g, q, none⟩ = some (.int .i64 (X : Int)) := by
          obtain ⟨_, _, hm, _⟩ := HM.out
          rw [← HX.out.1]
          exact (hm.at rfl hlq).1
        have hgr : Grew w wr := by obtain ⟨_, _, _, _, h, _⟩ := HM.out; exact h
        have HM4 := HM
        have hB4 : B0 ≤ wr.heap.size := by obtain ⟨_, _, _, _, _, h, _⟩ := HM4.out; exact h
        obtain ⟨wr0, ewr0⟩ : ∃ wr0, wr = wr0 := ⟨_, rfl⟩
        rw [ewr0] at HM HM4 hel hgr hB4 ⊢
        clear ewr0
        have HBX := Lib.hid (HS.out.around X wr0 hgr HX.out.2)
        clear HM hgr
        have HL4 : Hid ((aroundL n m X).length ≤ 4) := Lib.hid (around_facts HNM.out.1 HNM.out.2.1 (by rw [HNM.out.2.2]; exact HX.out.2)).2.2
        obtain ⟨go, rfl⟩ : ∃ go : Nat, go = gk := ⟨_, rfl⟩
        go_wp2_with (fail)
        refine HBX.out.mono ?_
        rintro e w5 ho5
        obtain ⟨a5, c5, rfl, hw5, hg5⟩ := ho5.shape
        obtain ⟨L, eL⟩ : ∃ L, aroundL n m X = L := ⟨_, rfl⟩
        rw [eL] at hw5 HL4 ⊢
        have hl4 := HL4.out
        have H5 : Hid (∃ sb, BoolsO 4 w.heap.size B0 w5 (.slice (some ⟨gs, 0, none⟩) N N) sb ∧ IntsO 3 wr0.heap.size w5.heap.size w5 (.slice a5 L.length c5) L ∧ IntsO 3 g (g + 1) w5 (.slice (some ⟨g, 0, none⟩) ls.length c') ls ∧ SearchJ n m (gentleB p most) I sb ls q ∧ SeenJ n m (gentleB p most) sb X 0 ∧ ls.getD q 0 = X ∧ Grew w w5 ∧ w5.heap.size ≤ w5.heap.size ∧ B0 ≤ g ∧ (g < wr0.heap.size ∨ w5.heap.size ≤ g)) := by
          obtain ⟨sb, h1, h2, h3, h4, h5, h6⟩ := HM4.out
          exact Lib.hid ⟨sb, h1.grew hg5, hw5, h2.grew hg5, h3, seenJ_zero _ _ _ _ _, HX.out.1, h4.trans hg5, Nat.le_refl _, h6, .inl h2.blkLt⟩
        have HEL := Lib.hid eL
        have HZ5 : Hid (B0 ≤ wr0.heap.size ∧ wr0.heap.size ≤ w5.heap.size) := Lib.hid ⟨hB4, hg5.size⟩
        clear hw5 eL ho5 hg5 HM4 HBX hB4
        go_wp2
        go_loopg [10, 13] L.length (fun gl v i wi => ∃ t ls g c', v = .slice (some ⟨g, 0, none⟩) (List.length ls) c' ∧ i = .int .i64 ((t : Nat) : Int) ∧ t ≤ L.length ∧ q < List.length ls ∧ List.length ls ≤ N ∧ L.length ≤ gl + t ∧
          Hid (∃ sb, BoolsO 4 w.heap.size B0 wi (.slice (some ⟨gs, 0, none⟩) N N) sb ∧ IntsO 3 wr0.heap.size w5.heap.size wi (.slice a5 L.length c5) L ∧ IntsO 3 g (g + 1) wi v ls ∧ SearchJ n m (gentleB p most) I sb ls q ∧ SeenJ n m (gentleB p most) sb X t ∧ ls.getD q 0 = X ∧ Grew w wi ∧ w5.heap.size ≤ wi.heap.size ∧ B0 ≤ g ∧ (g < wr0.heap.size ∨ w5.heap.size ≤ g)))
        case atStart => exact ⟨0, ls, _, _, rfl, rfl, Nat.zero_le _, hlq, hq3, Nat.le_refl _, H5.out⟩
        case round =>
          obtain ⟨t, ls1, gm, c6, rfl, rfl, ht1, hqm, hm3, ht2, HT⟩ := hrel
          clear H5
          by_cases hlt2 : t < L.length
          · obtain ⟨sb, hf, hL, hm, hG, hD, hX, hgr, hsz, hgl, hgd⟩ := HT.out
            obtain ⟨a6, b6, o6, c7, e6, _, ha6, HC6⟩ := hL.toV.shape
            obtain ⟨rfl, rfl⟩ : a5 = a6 ∧ c5 = c7 := by simp at e6; exact e6
            obtain rfl := ha6 (by omega)
            have hlc := HC6.out t hlt2
            have hA := (around_facts HNM.out.1 HNM.out.2.1 (I := X) (by rw [HNM.out.2.2]; exact HX.out.2)).1
            rw [HEL.out] at hA
            have hmem : L.getD t 0 ∈ L := by
              rw [List.getD_eq_getElem?_getD, List.getElem?_eq_getElem hlt2]; exact List.getElem_mem hlt2
            obtain ⟨y, ey⟩ : ∃ y, L.getD t 0 = y := ⟨_, rfl⟩
            rw [ey] at hlc hmem
            have hy := hA y hmem
            obtain ⟨K, rfl⟩ := Int.eq_ofNat_of_zero_le hy.1
            have HKY := Lib.hid ey
            have hKN : K < N := by have := hy.2.1; rw [HNM.out.2.2] at this; omega
            have hKi : (K : Int) < (N : Int) := by omega
            have hsl : sb.length = N := by rw [hG.len]; exact HNM.out.2.2
            obtain ⟨hel, hfr⟩ := hf.at rfl (i := K) (by omega)
            have hEY : (aroundL n m X).getD t 0 = K := by rw [HEL.out]; exact ey
            have hEL2 : t < (aroundL n m X).length := by rw [HEL.out]; exact hlt2
            have hti : (t : Int) < (L.length : Int) := by omega
            obtain ⟨pk, epk⟩ : ∃ pk, pf K = pk := ⟨_, rfl⟩
            obtain ⟨px, epx⟩ : ∃ px, pf X = px := ⟨_, rfl⟩
            have hlx := (hm.at rfl (i := q) hqm).1
            rw [hX] at hlx
            have hpk : p.getD K 0 = pk := by rw [← epk]; exact (HPF.out K).symm
            have hpx : p.getD X 0 = px := by rw [← epx]; exact (HPF.out X).symm
            have hAK := fun u => HS.out.hat K (wr.drewN u) (hgr.drewN u) hKN
            have hAX := fun u => HS.out.hat X (wr.drewN u) (hgr.drewN u) HX.out.2
            simp only [epk] at hAK
            simp only [epx] at hAX
            have HAK := Lib.hid hAK
            have HAX := Lib.hid hAX
            clear hAK hAX
            have hbk := HPB.out K hKN
            have hbx := HPB.out X HX.out.2
            rw [hpk] at hbk
            rw [hpx] at hbx
            obtain ⟨bk0, bk1⟩ := hbk
            obtain ⟨bx0, bx1⟩ := hbx
            have hJ := HBJ.out px pk X K hpx hpk
            have hqi : (q : Int) < (ls1.length : Int) := by omega
            clear epk epx hpk hpx
            cases hs : sb.getD K false with
            | true =>
              rw [hs] at hel
              have HE0 : Hid (∀ W, Grew wr W → ∃ sb, BoolsO 4 w.heap.size B0 W (.slice (some ⟨gs, 0, none⟩) N N) sb ∧ IntsO 3 wr0.heap.size w5.heap.size W (.slice (some ⟨b6, o6, none⟩) L.length c5) L ∧ IntsO 3 gm (gm + 1) W (.slice (some ⟨gm, 0, none⟩) ls1.length c6) ls1 ∧ SearchJ n m (gentleB p most) I sb ls1 q ∧ SeenJ n m (gentleB p most) sb X (t + 1) ∧ ls1.getD q 0 = X ∧ Grew w W ∧ w5.heap.size ≤ W.heap.size ∧ B0 ≤ gm ∧ (gm < wr0.heap.size ∨ w5.heap.size ≤ gm)) :=
                  Lib.hid fun W hW => ⟨sb, hf.grew hW, hL.grew hW, hm.grew hW, hG, hD.skip hEY (.inl hs), hX, hgr.trans hW, Nat.le_trans hsz hW.size, hgl, hgd⟩
              clear hf hL hm hG hD hX hgr hsz hgl hgd e6 ha6 HC6 hA hmem ey hy hsl hs hEY hEL2 hfr HT hJ
              go_wp2
              go_quiet ((first | (go_at_call 78; first | with_reducible exact Calls.quiet_of (HAK.out _) | with_reducible exact Calls.quiet_of (HAX.out _))))
              go_wp2
              go_roundg (gk - 1)
              case measure => omega
              case rel => exact ⟨t + 1, ls1, gm, c6, rfl, by go_num, by omega, hqm, hm3, by omega, HE0.out _ (quiet_grew ⟨_, rfl⟩)⟩
            | false =>
              rw [hs] at hel
              by_cases hpt : max (pk - px) (-(pk - px)) ≤ most
              · obtain ⟨hM1, hM3, hM2⟩ := hG.tell HNM.out.1 HNM.out.2.1 hqm hX hD hEL2 hEY hs (by rw [hJ]; exact decide_eq_true hpt)
                have hroom : ls1.length + 1 ≤ N := by
                  have := hM1.room
                  rw [HNM.out.2.2, List.length_append, List.length_singleton] at this
                  omega
                have HE0 := Lib.hid (And.intro hf (And.intro hL (And.intro hm (And.intro hM1 (And.intro hM2 (And.intro hM3 (And.intro hgr (And.intro hsz (And.intro hgl (And.intro hgd hsl))))))))))
                clear hf hL hm hG hD hX hgr hsz hgl hgd e6 ha6 HC6 hA hmem ey hy hsl hEY hEL2 hM1 hM2 hM3 HT hJ
                by_cases hsg : pk - px < -(pk - px)
                · have hpn : -(pk - px) ≤ most := by omega
                  go_wp2
                  go_quiet ((first | (go_at_call 78; first | with_reducible exact Calls.quiet_of (HAK.out _) | with_reducible exact Calls.quiet_of (HAX.out _))))
                  have hdr : Grew wr (wr.drewN nq) := quiet_grew ⟨_, rfl⟩
                  obtain ⟨wq, hwq⟩ : ∃ wq, wr.drewN nq = wq := ⟨_, rfl⟩
                  rw [hwq] at hdr ⊢
                  have hlc' := hdr.cell hlc
                  have hf' := HE0.out.1.grew hdr
                  obtain ⟨hel', hfr'⟩ := hf'.at rfl (i := K) (by rw [HE0.out.2.2.2.2.2.2.2.2.2.2]; exact hKN)
                  rw [hs] at hel'
                  have hgb := hf'.blk
                  have hwi : Within w.heap.size B0 wr (wq.setCell ⟨gs, K, none⟩ (.bool true)) := (hdr.within _ _).trans ((Within.refl _ _ _).setCell (p := ⟨gs, K, none⟩) hgb.1 hgb.2 _)
                  have hszs : (wq.setCell ⟨gs, K, none⟩ (.bool true)).heap.size = wq.heap.size := by simp
                  have hszq := hdr.size
                  have HE1 : Hid (BoolsO 4 w.heap.size B0 (wq.setCell ⟨gs, K, none⟩ (.bool true)) (.slice (some ⟨gs, 0, none⟩) N N) (sb.set K true) ∧ IntsO 3 wr0.heap.size w5.heap.size (wq.setCell ⟨gs, K, none⟩ (.bool true)) (.slice (some ⟨b6, o6, none⟩) L.length c5) L ∧ IntsO 3 gm (gm + 1) (wq.setCell ⟨gs, K, none⟩ (.bool true)) (.slice (some ⟨gm, 0, none⟩) ls1.length c6) ls1 ∧ Grew w (wq.setCell ⟨gs, K, none⟩ (.bool true)) ∧ w5.heap.size ≤ wq.heap.size ∧ (wq.setCell ⟨gs, K, none⟩ (.bool true)).heap.size = wq.heap.size) := by
                    obtain ⟨e1, e2, e3, _, _, _, e7, e8, e9, _⟩ := HE0.out
                    exact Lib.hid ⟨hf'.set rfl K true, e2.within hwi (.inr HZ5.out.1), e3.within hwi (.inr e9), Within.grew e7 hwi (Nat.le_refl _), Nat.le_trans e8 hszq, hszs⟩
                  have hlc2 : (wq.setCell ⟨gs, K, none⟩ (.bool true)).cell? ⟨b6, o6 + t, none⟩ = some (.int .i64 (K : Int)) := by
                    have hb := HE1.out.2.1.toV.shape
                    obtain ⟨a8, b8, o8, c8, e8, _, ha8, HC8⟩ := hb
                    obtain ⟨e9, _⟩ : some ⟨b6, o6, none⟩ = a8 ∧ c5 = c8 := by simpa using e8
                    have := ha8 (by omega)
                    rw [← e9] at this
                    simp only [Option.some.injEq, Addr.mk.injEq, and_true] at this
                    obtain ⟨rfl, rfl⟩ := this
                    have h9 := HC8.out t hlt2
                    rw [h9, HKY.out]
                  clear hdr hwq hf' hgb hwi hszs hszq
                  go_wp2_with (at_builtin; refine wpList_append_int_at rfl (.tmp 76) (.tmp 81) 27 rfl Tryd.underlying27 Tryd.infoI rfl rfl (by simp) HE1.out.2.2.1 (by omega) rfl ?_; intro g8 c8 w8 hO8 hW8 hat8 hlt8)
                  have HX2 : Hid (∃ sb, BoolsO 4 w.heap.size B0 w8 (.slice (some ⟨gs, 0, none⟩) N N) sb ∧ IntsO 3 wr0.heap.size w5.heap.size w8 (.slice (some ⟨b6, o6, none⟩) L.length c5) L ∧ IntsO 3 g8 (g8 + 1) w8 (.slice (some ⟨g8, 0, none⟩) (ls1.length + 1) c8) (ls1 ++ [(K : Int)]) ∧ SearchJ n m (gentleB p most) I sb (ls1 ++ [(K : Int)]) q ∧ SeenJ n m (gentleB p most) sb X (t + 1) ∧ (ls1 ++ [(K : Int)]).getD q 0 = X ∧ Grew w w8 ∧ w5.heap.size ≤ w8.heap.size ∧ B0 ≤ g8 ∧ (g8 < wr0.heap.size ∨ w5.heap.size ≤ g8)) := by
                    obtain ⟨_, _, _, e4, e5, e6, _, _, e9, e10, _⟩ := HE0.out
                    obtain ⟨d1, d2, d3, d4, d5, d6⟩ := HE1.out
                    have hww := hW8.size
                    have hz5 := HZ5.out
                    have hb0 : w.heap.size ≤ B0 := by have := d1.blk; omega
                    rw [d6] at hat8 hww
                    refine Lib.hid ⟨_, d1.within hW8 (.inl e9), d2.within hW8 ?_, hO8, e4, e5, e6, Within.grew d4 hW8 (by omega), by omega, ?_, ?_⟩
                    · rcases e10 with h | h
                      · exact .inr (by omega)
                      · exact .inl h
                    · rcases hat8 with h | h <;> omega
                    · rcases hat8 with h | h <;> omega
                  clear HE1 HE0 hO8 hW8 hat8
                  go_wp2
                  go_roundg (gk - 1)
                  case measure => omega
                  case rel => exact ⟨t + 1, ls1 ++ [(K : Int)], g8, c8, by simp, by go_num, by omega, by simp; omega, by simp; omega, by omega, HX2⟩
                · have hpn : pk - px ≤ most := by omega
                  go_wp2
                  go_quiet ((first | (go_at_call 78; first | with_reducible exact Calls.quiet_of (HAK.out _) | with_reducible exact Calls.quiet_of (HAX.out _))))
                  have hdr : Grew wr (wr.drewN nq) := quiet_grew ⟨_, rfl⟩
                  obtain ⟨wq, hwq⟩ : ∃ wq, wr.drewN nq = wq := ⟨_, rfl⟩
                  rw [hwq] at hdr ⊢
                  have hlc' := hdr.cell hlc
                  have hf' := HE0.out.1.grew hdr
                  obtain ⟨hel', hfr'⟩ := hf'.at rfl (i := K) (by rw [HE0.out.2.2.2.2.2.2.2.2.2.2]; exact hKN)
                  rw [hs] at hel'
                  have hgb := hf'.blk
                  have hwi : Within w.heap.size B0 wr (wq.setCell ⟨gs, K, none⟩ (.bool true)) := (hdr.within _ _).trans ((Within.refl _ _ _).setCell (p := ⟨gs, K, none⟩) hgb.1 hgb.2 _)
                  have hszs : (wq.setCell ⟨gs, K, none⟩ (.bool true)).heap.size = wq.heap.size := by simp
                  have hszq := hdr.size
                  have HE1 : Hid (BoolsO 4 w.heap.size B0 (wq.setCell ⟨gs, K, none⟩ (.bool true)) (.slice (some ⟨gs, 0, none⟩) N N) (sb.set K true) ∧ IntsO 3 wr0.heap.size w5.heap.size (wq.setCell ⟨gs, K, none⟩ (.bool true)) (.slice (some ⟨b6, o6, none⟩) L.length c5) L ∧ IntsO 3 gm (gm + 1) (wq.setCell ⟨gs, K, none⟩ (.bool true)) (.slice (some ⟨gm, 0, none⟩) ls1.length c6) ls1 ∧ Grew w (wq.setCell ⟨gs, K, none⟩ (.bool true)) ∧ w5.heap.size ≤ wq.heap.size ∧ (wq.setCell ⟨gs, K, none⟩ (.bool true)).heap.size = wq.heap.size) := by
                    obtain ⟨e1, e2, e3, _, _, _, e7, e8, e9, _⟩ := HE0.out
                    exact Lib.hid ⟨hf'.set rfl K true, e2.within hwi (.inr HZ5.out.1), e3.within hwi (.inr e9), Within.grew e7 hwi (Nat.le_refl _), Nat.le_trans e8 hszq, hszs⟩
                  have hlc2 : (wq.setCell ⟨gs, K, none⟩ (.bool true)).cell? ⟨b6, o6 + t, none⟩ = some (.int .i64 (K : Int)) := by
                    have hb := HE1.out.2.1.toV.shape
                    obtain ⟨a8, b8, o8, c8, e8, _, ha8, HC8⟩ := hb
                    obtain ⟨e9, _⟩ : some ⟨b6, o6, none⟩ = a8 ∧ c5 = c8 := by simpa using e8
                    have := ha8 (by omega)
                    rw [← e9] at this
                    simp only [Option.some.injEq, Addr.mk.injEq, and_true] at this
                    obtain ⟨rfl, rfl⟩ := this
                    have h9 := HC8.out t hlt2
                    rw [h9, HKY.out]
                  clear hdr hwq hf' hgb hwi hszs hszq
                  go_wp2_with (at_builtin; refine wpList_append_int_at rfl (.tmp 76) (.tmp 81) 27 rfl Tryd.underlying27 Tryd.infoI rfl rfl (by simp) HE1.out.2.2.1 (by omega) rfl ?_; intro g8 c8 w8 hO8 hW8 hat8 hlt8)
                  have HX2 : Hid (∃ sb, BoolsO 4 w.heap.size B0 w8 (.slice (some ⟨gs, 0, none⟩) N N) sb ∧ IntsO 3 wr0.heap.size w5.heap.size w8 (.slice (some ⟨b6, o6, none⟩) L.length c5) L ∧ IntsO 3 g8 (g8 + 1) w8 (.slice (some ⟨g8, 0, none⟩) (ls1.length + 1) c8) (ls1 ++ [(K : Int)]) ∧ SearchJ n m (gentleB p most) I sb (ls1 ++ [(K : Int)]) q ∧ SeenJ n m (gentleB p most) sb X (t + 1) ∧ (ls1 ++ [(K : Int)]).getD q 0 = X ∧ Grew w w8 ∧ w5.heap.size ≤ w8.heap.size ∧ B0 ≤ g8 ∧ (g8 < wr0.heap.size ∨ w5.heap.size ≤ g8)) := by
                    obtain ⟨_, _, _, e4, e5, e6, _, _, e9, e10, _⟩ := HE0.out
                    obtain ⟨d1, d2, d3, d4, d5, d6⟩ := HE1.out
                    have hww := hW8.size
                    have hz5 := HZ5.out
                    have hb0 : w.heap.size ≤ B0 := by have := d1.blk; omega
                    rw [d6] at hat8 hww
                    refine Lib.hid ⟨_, d1.within hW8 (.inl e9), d2.within hW8 ?_, hO8, e4, e5, e6, Within.grew d4 hW8 (by omega), by omega, ?_, ?_⟩
                    · rcases e10 with h | h
                      · exact .inr (by omega)
                      · exact .inl h
                    · rcases hat8 with h | h <;> omega
                    · rcases hat8 with h | h <;> omega
                  clear HE1 HE0 hO8 hW8 hat8
                  go_wp2
                  go_roundg (gk - 1)
                  case measure => omega
                  case rel => exact ⟨t + 1, ls1 ++ [(K : Int)], g8, c8, by simp, by go_num, by omega, by simp; omega, by simp; omega, by omega, HX2⟩
              · have HE0 : Hid (∀ W, Grew wr W → ∃ sb, BoolsO 4 w.heap.size B0 W (.slice (some ⟨gs, 0, none⟩) N N) sb ∧ IntsO 3 wr0.heap.size w5.heap.size W (.slice (some ⟨b6, o6, none⟩) L.length c5) L ∧ IntsO 3 gm (gm + 1) W (.slice (some ⟨gm, 0, none⟩) ls1.length c6) ls1 ∧ SearchJ n m (gentleB p most) I sb ls1 q ∧ SeenJ n m (gentleB p most) sb X (t + 1) ∧ ls1.getD q 0 = X ∧ Grew w W ∧ w5.heap.size ≤ W.heap.size ∧ B0 ≤ gm ∧ (gm < wr0.heap.size ∨ w5.heap.size ≤ gm)) :=
                  Lib.hid fun W hW => ⟨sb, hf.grew hW, hL.grew hW, hm.grew hW, hG, hD.skip hEY (.inr (by rw [hJ]; exact decide_eq_false hpt)), hX, hgr.trans hW, Nat.le_trans hsz hW.size, hgl, hgd⟩
                clear hf hL hm hG hD hX hgr hsz hgl hgd e6 ha6 HC6 hA hmem ey hy hsl hEY hEL2 HT hJ
                by_cases hsg : pk - px < -(pk - px)
                · have hpn : ¬ -(pk - px) ≤ most := by omega
                  go_wp2
                  go_quiet ((first | (go_at_call 78; first | with_reducible exact Calls.quiet_of (HAK.out _) | with_reducible exact Calls.quiet_of (HAX.out _))))
                  go_wp2
                  go_roundg (gk - 1)
                  case measure => omega
                  case rel => exact ⟨t + 1, ls1, gm, c6, rfl, by go_num, by omega, hqm, hm3, by omega, HE0.out _ (quiet_grew ⟨_, rfl⟩)⟩
                · have hpn : ¬ pk - px ≤ most := by omega
                  go_wp2
                  go_quiet ((first | (go_at_call 78; first | with_reducible exact Calls.quiet_of (HAK.out _) | with_reducible exact Calls.quiet_of (HAX.out _))))
                  go_wp2
                  go_roundg (gk - 1)
                  case measure => omega
                  case rel => exact ⟨t + 1, ls1, gm, c6, rfl, by go_num, by omega, hqm, hm3, by omega, HE0.out _ (quiet_grew ⟨_, rfl⟩)⟩
          · have HE0 : Hid (∃ sb, BoolsO 4 w.heap.size B0 wr (.slice (some ⟨gs, 0, none⟩) N N) sb ∧ IntsO 3 gm (gm + 1) wr (.slice (some ⟨gm, 0, none⟩) ls1.length c6) ls1 ∧ SearchJ n m (gentleB p most) I sb ls1 (q + 1) ∧ Grew w wr ∧ B0 ≤ wr.heap.size ∧ B0 ≤ gm) := by
              obtain ⟨sb, hf, hL, hm, hG, hD, hX, hgr, hsz, hgl, hgd⟩ := HT.out
              obtain rfl : t = L.length := by omega
              have hz5 := HZ5.out
              exact Lib.hid ⟨sb, hf, hm, hG.next hX (by rw [HEL.out]; exact hD), hgr, by omega, hgl⟩
            clear HT
            go_wp2
            go_roundg (go - 1)
            case measure => omega
            case rel => exact ⟨q + 1, ls1, gm, c6, rfl, by go_num, by omega, hm3, by omega, HE0.out⟩
      · have HF2 : Hid (∃ sb, BoolsO 4 w.heap.size B0 wr (.slice (some ⟨gs, 0, none⟩) N N) sb ∧ sb.length = N ∧ (sb.getD K0 false = true ↔ Reach n m (gentleB p most) I K0) ∧ Grew w wr) := by
          obtain ⟨sb, h1, _, hG, hgr, _⟩ := HM.out
          obtain rfl : q = ls.length := by omega
          exact Lib.hid ⟨sb, h1, by rw [hG.len]; exact HNM.out.2.2, hG.way HNM.out.1 HNM.out.2.1 (by rw [HNM.out.2.2]; exact hI) (by rw [HNM.out.2.2]; exact hK0), hgr⟩
        clear HM
        obtain ⟨sb, HF3⟩ : ∃ sb, Hid (BoolsO 4 w.heap.size B0 wr (.slice (some ⟨gs, 0, none⟩) N N) sb ∧ sb.length = N ∧ (sb.getD K0 false = true ↔ Reach n m (gentleB p most) I K0) ∧ Grew w wr) := by
          obtain ⟨sb, h⟩ := HF2.out
          exact ⟨sb, Lib.hid h⟩
        have hcK := (HF3.out.1.at rfl (i := K0) (by rw [HF3.out.2.1]; exact hK0)).1
        have hKi : (K0 : Int) < (N : Int) := by omega
        obtain ⟨z, ez⟩ : ∃ z, sb.getD K0 false = z := ⟨_, rfl⟩
        have HF4 : Hid ((z = true ↔ Reach n m (gentleB p most) I K0) ∧ Grew w wr) := Lib.hid ⟨by rw [← ez]; exact HF3.out.2.2.1, HF3.out.2.2.2⟩
        rw [ez] at hcK
        clear HF2 HF3 ez
        go_wp2
        go_ret
        exact ⟨z, rfl, HF4.out.1, HF4.out.2⟩
end Go.Proofs.YtdhokofcgfolnaaDoor
