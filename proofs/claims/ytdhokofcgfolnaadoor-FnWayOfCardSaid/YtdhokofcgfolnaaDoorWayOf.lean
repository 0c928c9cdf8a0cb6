/- impl.WayOf: the list side, IndexFunc, nextOn, the contract. -/
import Derived.Test.YtdhokofcgfolnaaDoorFewest
import Derived.Test.YtdhokofcgfolnaaDoorBase
import Derived.Shelf.Abstract
import Derived.Test.YtdhokofcgfolnaaDoorWayLaw
/- The way with the least climbs and the fewest steps, as a list. -/
namespace Go.Proofs.YtdhokofcgfolnaaDoor

theorem upF_le {d a b : Int} (h : upF d a ≤ upF d b) : a ≤ b := by unfold upF at h; omega
theorem find_first {P : Int → Bool} : ∀ (l : List Int) (t : Nat), t < l.length → (∀ s, s < t → P (l.getD s 0) = false) → P (l.getD t 0) = true → l.find? P = some (l.getD t 0)
  | [], t, ht, _, _ => absurd ht (Nat.not_lt_zero _)
  | a :: l, 0, _, _, h => by
    simp only [List.getD_cons_zero] at h ⊢
    rw [List.find?_cons_of_pos h]
  | a :: l, t + 1, ht, h1, h2 => by
    have h0 := h1 0 (Nat.succ_pos _)
    simp only [List.getD_cons_zero] at h0
    rw [List.find?_cons_of_neg (by rw [h0]; simp), List.getD_cons_succ]
    exact find_first l t (by simpa using ht) (fun s hs => by have := h1 (s + 1) (by omega); simpa using this) (by simpa using h2)
theorem first_at {P : Int → Bool} (l : List Int) (h : ∃ x, x ∈ l ∧ P x = true) : ∃ t, t < l.length ∧ P (l.getD t 0) = true ∧ ∀ s, s < t → P (l.getD s 0) = false := by
  obtain ⟨t, ⟨h1, h2⟩, h3⟩ := exists_least (P := fun t => t < l.length ∧ P (l.getD t 0) = true) (by
    obtain ⟨x, hx, hp⟩ := h
    obtain ⟨t, ht, et⟩ := List.getElem_of_mem hx
    exact ⟨t, ht, by simp [ht, et, hp]⟩)
  refine ⟨t, h1, h2, fun s hs => ?_⟩
  cases e : P (l.getD s 0)
  · rfl
  · exact absurd ⟨by omega, e⟩ (h3 s hs)

section
variable (ar : Nat → List Int) (p : List Int) (K N : Nat)
/-- Does an easiest way go on from i over k? -/
def nextB (i : Nat) (x : Int) : Bool := decide (upF (p.getD x.toNat 0 - p.getD i 0) (costT ar p upF K N x.toNat) = costT ar p upF K N i) && decide (lastCh ar p K N x.toNat = lastCh ar p K N i - 1)
def nextN (i : Nat) : Nat := (((ar i).find? (nextB ar p K N i)).getD 0).toNat
def iterN (I : Nat) : Nat → Nat
  | 0 => I
  | t + 1 => nextN ar p K N (iterN I t)
/-- The first cells of the way from I. -/
def wayT (I t : Nat) : List Int := (List.range (t + 1)).map fun s => ((iterN ar p K N I s : Nat) : Int)
end
section
variable {ar : Nat → List Int} {p : List Int} {K N : Nat}
theorem wayT_len (I t : Nat) : (wayT ar p K N I t).length = t + 1 := by simp [wayT]
theorem wayT_succ (I t : Nat) : wayT ar p K N I (t + 1) = wayT ar p K N I t ++ [((iterN ar p K N I (t + 1) : Nat) : Int)] := by simp [wayT, List.range_succ]
theorem wayT_zero (I : Nat) : wayT ar p K N I 0 = [(I : Int)] := by simp [wayT, iterN]
/-- What is known of the cells: that ways lead on, what they cost at least, and the fewest steps of such. -/
structure WayAt (ar : Nat → List Int) (p : List Int) (K N i : Nat) (r : Nat) : Prop where
  lt : i < N
  few : lastCh ar p K N i = (r : Int)
  le : r ≤ N
  pos : 0 ≤ costT ar p upF K N i
  walk : Walk ar p upF r i K (costT ar p upF K N i)
  least : ∀ s v, Walk ar p upF s i K v → costT ar p upF K N i ≤ v
  first : ∀ q, q < r → ¬ Walk ar p upF q i K (costT ar p upF K N i)
theorem wayAt (hN : ∀ i x, i < N → x ∈ ar i → 0 ≤ x ∧ x < N) (h0 : ∀ i x, x ∈ ar i → 0 ≤ x) {i : Nat} (hi : i < N) (hpos : 0 ≤ costT ar p upF K N i) : ∃ r, WayAt ar p K N i r := by
  obtain ⟨r, h1, h2, h3, h4⟩ := lastCh_spec (p := p) (e := K) h0 i N
  have hst := short_still (p := p) (e := K) upF_rule up_short hN h0
  have hl := hst.least upF_rule hN h0 i hi
  rw [← hst.all hN N (by omega) i hi] at hl
  rcases hl with ⟨e, _⟩ | ⟨_, _, hle⟩
  · omega
  · refine ⟨r, hi, h1, h2, hpos, ?_, fun s v hv => hle v ⟨s, hv⟩, fun q hq hw => h4 q hq ?_⟩
    · rcases costT_least (p := p) upF_rule h0 K r i with ⟨e, _⟩ | ⟨_, g, _⟩
      · omega
      · rwa [h3] at g
    · rcases costT_least (p := p) upF_rule h0 K q i with ⟨_, g⟩ | ⟨_, g1, g2⟩
      · exact absurd hw (g _)
      · have := g2 _ hw
        have := hle _ ⟨q, g1⟩
        omega
theorem WayAt.uniq {i r q : Nat} (h : WayAt ar p K N i r) (g : WayAt ar p K N i q) : r = q := by
  have := h.few
  rw [g.few] at this
  omega
/-- Where the way ends no step is left. -/
theorem WayAt.zero_iff {i r : Nat} (h : WayAt ar p K N i r) : r = 0 ↔ i = K := by
  constructor
  · intro e
    have := h.walk
    rw [e] at this
    exact this.zero.1
  · intro e
    have hw : Walk ar p upF 0 i K 0 := by rw [← e]; exact .nil 0 i
    have hc := h.least 0 0 hw
    have hp := h.pos
    rcases Nat.eq_zero_or_pos r with h1 | h1
    · exact h1
    · exact absurd (by rw [show costT ar p upF K N i = 0 by omega]; exact hw) (h.first 0 h1)
/-- The way goes on. -/
theorem WayAt.next (hN : ∀ i x, i < N → x ∈ ar i → 0 ≤ x ∧ x < N) (h0 : ∀ i x, x ∈ ar i → 0 ≤ x) (hpos : ∀ i, i < N → 0 ≤ costT ar p upF K N i) {i r : Nat} (h : WayAt ar p K N i (r + 1)) :
    ∃ t, t < (ar i).length ∧ nextB ar p K N i ((ar i).getD t 0) = true ∧ (∀ s, s < t → nextB ar p K N i ((ar i).getD s 0) = false) ∧ (ar i).getD t 0 = (nextN ar p K N i : Int) ∧ WayAt ar p K N (nextN ar p K N i) r := by
  have key : ∀ x, x ∈ ar i → nextB ar p K N i x = true → WayAt ar p K N x.toNat r := fun x hx hb => by
    have hxN := hN i x h.lt hx
    unfold nextB at hb
    simp only [Bool.and_eq_true, decide_eq_true_eq] at hb
    obtain ⟨q, hq⟩ := wayAt (p := p) hN h0 (show x.toNat < N by omega) (hpos _ (by omega))
    have : q = r := by
      have := hq.few
      rw [hb.2, h.few] at this
      omega
    subst this
    exact hq
  have hex : ∃ x, x ∈ ar i ∧ nextB ar p K N i x = true := by
    rcases h.walk.inv with hw | ⟨j, u, hj, hw, he⟩
    · exact absurd hw (h.first r (by omega))
    · have hjN := hN i _ h.lt hj
      obtain ⟨q, hq⟩ := wayAt (p := p) hN h0 (show j < N by omega) (hpos j (by omega))
      have h1 := hq.least _ _ hw
      have h2 := h.least _ _ (.cons hj hq.walk)
      have hu : u = costT ar p upF K N j := by
        rw [he] at h2
        have h3 := upF_le h2
        omega
      have h3 : q ≤ r := by
        rcases Nat.lt_or_ge r q with g | g
        · exact absurd (hu ▸ hw) (hq.first r g)
        · exact g
      have h4 : ¬ q < r := fun g => h.first (q + 1) (by omega) (by rw [he, hu]; exact .cons hj hq.walk)
      refine ⟨j, hj, ?_⟩
      unfold nextB
      simp only [Int.toNat_natCast, Bool.and_eq_true, decide_eq_true_eq]
      refine ⟨by rw [← hu, ← he], ?_⟩
      rw [hq.few, h.few]
      omega
  obtain ⟨t, h1, h2, h3⟩ := first_at (P := nextB ar p K N i) (ar i) hex
  have hm : (ar i).getD t 0 ∈ ar i := by
    have e1 : (ar i).getD t 0 = (ar i)[t] := by simp [h1]
    rw [e1]; exact List.getElem_mem h1
  have hn : nextN ar p K N i = ((ar i).getD t 0).toNat := by
    unfold nextN
    rw [find_first (ar i) t h1 h3 h2]
    rfl
  refine ⟨t, h1, h2, h3, ?_, ?_⟩
  · rw [hn, Int.toNat_of_nonneg (h0 i _ hm)]
  · rw [hn]
    exact key _ hm h2
end
end Go.Proofs.YtdhokofcgfolnaaDoor

/- The contract of slices.IndexFunc, of whole numbers, for any function value. -/
namespace Go.Proofs.YtdhokofcgfolnaaDoor
open Go.RowKit

set_option maxRecDepth 100000 in
set_option maxHeartbeats 1000000 in
/-- 'slices.IndexFunc(s, f)': the index of the first number of which f holds. -/
theorem slicesIndexFunc_any (v : Value) (xs : List Int) (B : Int → Bool) (fk t : Nat) (lb : Array Value) (eg : ∀ (args : Array Value) (w : World), (callFunc fk args).run Tryd.prog w = .ok (.enter fk args) w) (w : World) (hv : IntsV w v xs)
    (hF : ∀ (i : Nat) (W : World), Grew w W → i < xs.length → Calls Tryd.prog fk (#[.int .i64 (xs.getD i 0)] ++ lb) W fun e w' => e = .returned (.bool (B (xs.getD i 0))) ∧ ∃ q, w' = W.drewN q)
    (ht : t < xs.length) (h1 : B (xs.getD t 0) = true) (h2 : ∀ s, s < t → B (xs.getD s 0) = false) :
    Calls Tryd.prog 86 #[v, .func (.func fk) #[] lb] w fun e w' => e = .returned (.int .i64 (t : Int)) ∧ Grew w w' := by
  have HF := Lib.hid hF
  have HB := Lib.hid (And.intro h1 h2)
  obtain ⟨a, b, o, c, rfl, ⟨hlc, hcb⟩, ha, HC⟩ := hv.shape
  obtain rfl := ha (by omega)
  clear hv hF h1 h2 ha
  go_enter Tryd.func86, Tryd.ntmps86
  go_wp2
  go_loopw [8] (fun i wr => ∃ s : Nat, s ≤ t ∧ i = .int .i64 (s : Int) ∧ Hid (Grew w wr)) (fun i _ => t + 1 - (intOf i).toNat)
  case atStart => exact ⟨0, Nat.zero_le _, rfl, Grew.refl _⟩
  case round =>
    obtain ⟨s, hs, rfl, HX⟩ := hrel
    have hsl : s < xs.length := by omega
    have hsi : (s : Int) < (xs.length : Int) := by omega
    have hc := HX.out.cell (HC.out s hsl)
    have HS := Lib.hid (HF.out s wr HX.out hsl)
    have HBT : Hid (s = t → B (xs.getD s 0) = true) := Lib.hid fun e => by rw [e]; exact HB.out.1
    have HBF : Hid (s < t → B (xs.getD s 0) = false) := Lib.hid fun e => HB.out.2 s e
    obtain ⟨x, ex⟩ : ∃ x, xs.getD s 0 = x := ⟨_, rfl⟩
    rw [ex] at hc HS HBT HBF
    clear ex
    by_cases hst : s = t
    · subst hst
      have hb := HBT.out rfl
      go_wp2_with (fail)
      refine HS.out.mono ?_
      rw [hb]
      rintro e w1 ⟨rfl, hq⟩
      have HG := Lib.hid (HX.out.trans (quiet_grew hq))
      clear hq hb
      go_wp2
      go_ret
      exact ⟨rfl, HG.out⟩
    · have hb := HBF.out (by omega)
      go_wp2_with (fail)
      refine HS.out.mono ?_
      rw [hb]
      rintro e w1 ⟨rfl, hq⟩
      have HG := Lib.hid (HX.out.trans (quiet_grew hq))
      clear hq hb
      go_wp2
      go_roundw
      case rel => exact ⟨s + 1, by omega, by go_num, HG⟩
      case measure => simp [intOf]; omega
end Go.Proofs.YtdhokofcgfolnaaDoor

/- The contract of impl.nextOn. -/
namespace Go.Proofs.YtdhokofcgfolnaaDoor
open Go.RowKit

set_option maxRecDepth 100000 in
set_option maxHeartbeats 2000000 in
theorem nextClo_any (B7 B5 B4 gh ch gc cc gs cs N I X : Nat) (pI pX cI cX sI sX : Int) (W : World) (h7 : W.cell? ⟨B7, 0, none⟩ = some (.slice (some ⟨gh, 0, none⟩) N ch)) (h5 : W.cell? ⟨B5, 0, none⟩ = some (.int .i64 (I : Int)))
    (h40 : W.cell? ⟨B4, 0, none⟩ = some (.slice (some ⟨gc, 0, none⟩) N cc)) (h41 : W.cell? ⟨B4, 1, none⟩ = some (.slice (some ⟨gs, 0, none⟩) N cs)) (hI : I < N) (hX : X < N)
    (k1 : W.cell? ⟨gh, I, none⟩ = some (.int .i64 pI)) (k2 : W.cell? ⟨gh, X, none⟩ = some (.int .i64 pX)) (k3 : W.cell? ⟨gc, I, none⟩ = some (.int .i64 cI)) (k4 : W.cell? ⟨gc, X, none⟩ = some (.int .i64 cX))
    (k5 : W.cell? ⟨gs, I, none⟩ = some (.int .i64 sI)) (k6 : W.cell? ⟨gs, X, none⟩ = some (.int .i64 sX)) (b1 : 0 ≤ pI ∧ pI ≤ 12) (b2 : 0 ≤ pX ∧ pX ≤ 12) (b3 : 0 ≤ cX ∧ cX ≤ 400) (b4 : 0 ≤ sI ∧ sI ≤ 100) :
    Calls Tryd.prog 87 #[.int .i64 X, .pointer (some ⟨B7, 0, none⟩), .pointer (some ⟨B5, 0, none⟩), .pointer (some ⟨B4, 0, none⟩)] W fun e w' => e = .returned (.bool (decide (upF (pX - pI) cX = cI) && decide (sX = sI - 1))) ∧ ∃ q, w' = W.drewN q := by
  obtain ⟨b10, b11⟩ := b1
  obtain ⟨b20, b21⟩ := b2
  obtain ⟨b30, b31⟩ := b3
  obtain ⟨b40, b41⟩ := b4
  have hIN : (I : Int) < (N : Int) := by omega
  have hXN : (X : Int) < (N : Int) := by omega
  have HRV := Lib.hid fun W => climbsOf_any (pX - pI) cX W (by omega) (by omega) b30 (by omega)
  obtain ⟨z, ez⟩ : ∃ z, upF (pX - pI) cX = z := ⟨_, rfl⟩
  rw [ez] at HRV ⊢
  clear ez
  by_cases hz : z = cI
  · have hzb : (z == cI) = true := by simp [hz]
    by_cases hs : sX = sI - 1
    · have hsb : (sX == sI - 1) = true := by simp [hs]
      have HZ := Lib.hid (And.intro hz hs)
      clear hz hs
      go_enter Tryd.func87, Tryd.ntmps87
      go_wp2
      go_quiet ((go_at_call 51; exact Calls.quiet_of_same (HRV.out _)))
      go_wp2
      go_quiet (fail)
      go_wp2
      go_ret
      exact ⟨ret_bool (by simp [HZ.out.1, HZ.out.2]), _, World.drewN_drewN _ _ _⟩
    · have hsb : (sX == sI - 1) = false := by simp [hs]
      have HZ := Lib.hid hs
      clear hz hs
      go_enter Tryd.func87, Tryd.ntmps87
      go_wp2
      go_quiet ((go_at_call 51; exact Calls.quiet_of_same (HRV.out _)))
      go_wp2
      go_quiet (fail)
      go_wp2
      go_ret
      exact ⟨ret_bool (by simp [HZ.out]), _, World.drewN_drewN _ _ _⟩
  · have hzb : (z == cI) = false := by simp [hz]
    have HZ := Lib.hid hz
    clear hz
    go_enter Tryd.func87, Tryd.ntmps87
    go_wp2
    go_quiet ((go_at_call 51; exact Calls.quiet_of_same (HRV.out _)))
    go_wp2
    go_quiet (fail)
    go_wp2
    go_ret
    exact ⟨ret_bool (by simp [HZ.out]), _, World.drewN_drewN _ _ _⟩

set_option maxRecDepth 100000 in
set_option maxHeartbeats 4000000 in
theorem nextOn_any (v : Value) (h : List (List Int)) (n m N K I r gc cc gs cs : Nat) (w : World) (hv : RowsV w v h) (hg : vGrid h = true) (hS : Steps w) (en : h.length = n) (em : (h.getD 0 []).length = m) (eN : n * m = N)
    (hA : WayAt (aroundL n m) h.flatten K N I (r + 1)) (hpos : ∀ i, i < N → 0 ≤ costT (aroundL n m) h.flatten upF K N i)
    (hc : IntsV w (.slice (some ⟨gc, 0, none⟩) N cc) (costL n m h.flatten upF K N N)) (hs : IntsV w (.slice (some ⟨gs, 0, none⟩) N cs) (tabL N (lastCh (aroundL n m) h.flatten K N))) :
    Calls Tryd.prog 69 #[v, .agg #[.slice (some ⟨gc, 0, none⟩) N cc, .slice (some ⟨gs, 0, none⟩) N cs], .int .i64 I] w fun e w' => e = .returned (.int .i64 (nextN (aroundL n m) h.flatten K N I : Nat)) ∧ Grew w w' := by
  have G := Grid.of hg
  have hNb := around_range G en em eN
  have hpl := flat_grid_len G
  rw [en, em, eN] at hpl
  have h0 : ∀ i x, x ∈ aroundL n m i → 0 ≤ x := fun i x hx => around_nonneg hx
  have hpb : ∀ k, k < N → 0 ≤ h.flatten.getD k 0 ∧ h.flatten.getD k 0 ≤ 12 := fun i hi => grid_num G i (by rw [en, em, eN]; exact hi)
  have hN25 : N ≤ 25 := by rw [← eN, ← en, ← em]; exact Nat.mul_le_mul G.n5 G.m5
  have hcb : ∀ k, k < N → 0 ≤ costT (aroundL n m) h.flatten upF K N k ∧ costT (aroundL n m) h.flatten upF K N k ≤ 400 := fun k hk => ⟨hpos k hk, by have := (costT_up upF_rule hNb hpb (e := K) N k hk).2; omega⟩
  have hI := hA.lt
  have hfew := hA.few
  have hrle := hA.le
  obtain ⟨t, ht1, ht2, ht3, ht4, _⟩ := hA.next hNb h0 hpos
  have HK : Hid (∀ W, Grew w W → Calls Tryd.prog 80 #[v] W (FlatPost W h.flatten)) := fun W hW =>
    slicesConcat_any v h W (hv.grew hW) G.n1 (Nat.le_trans G.n5 (by decide)) (fun r hr => by have := G.len r hr; have := G.m1; have := G.m5; omega)
  have HCB : Hid (∀ (W : World), Grew w W → Calls Tryd.prog 70 #[v, .int .i64 I] W (OwnI W (aroundL n m I))) := fun W hW => by
    have := cellsBeside_any v h I W (hv.grew hW) hg (by rw [en, em, eN]; exact hI) (hS.grew hW)
    rwa [en, em] at this
  have hel : ∀ j, j < (aroundL n m I).length → ∃ k : Nat, (aroundL n m I).getD j 0 = (k : Int) ∧ k < N := fun j hj => by
    have hmem : (aroundL n m I).getD j 0 ∈ aroundL n m I := by
      have e : (aroundL n m I).getD j 0 = (aroundL n m I)[j] := by simp [hj]
      rw [e]
      exact List.getElem_mem hj
    have := hNb I _ hI hmem
    exact ⟨((aroundL n m I).getD j 0).toNat, by omega, by omega⟩
  obtain ⟨p, ep⟩ : ∃ p, h.flatten = p := ⟨_, rfl⟩
  rw [ep] at HK hpl hpb hcb hfew ht2 ht3 ht4 hc hs ⊢
  obtain ⟨L, eL⟩ : ∃ L, aroundL n m I = L := ⟨_, rfl⟩
  rw [eL] at HCB hel ht1 ht2 ht3 ht4
  have HT := Lib.hid (And.intro ht1 (And.intro ht2 (And.intro ht3 ht4)))
  have hc' : ∀ k, k < N → w.cell? ⟨gc, k, none⟩ = some (.int .i64 (costT (aroundL n m) p upF K N k)) := fun k hk => by
    have := hc.at k (by rw [costL_len]; exact hk)
    rwa [costL, tabL_at _ hk] at this
  have hs' : ∀ k, k < N → w.cell? ⟨gs, k, none⟩ = some (.int .i64 (lastCh (aroundL n m) p K N k)) := fun k hk => by
    have := hs.at k (by rw [tabL_len]; exact hk)
    rwa [tabL_at _ hk] at this
  have HE := Lib.hid (And.intro hc' (And.intro hs' (And.intro hpb (And.intro hcb (And.intro hel (And.intro hfew hpl))))))
  obtain ⟨a, b, o, c, rfl, _, _, _⟩ := hv.shape
  have hIN : (I : Int) < (N : Int) := by omega
  have hmf : ∀ (fn : Fn) (first cap : Array Value) (w : World), (Instr.makeFunc fn first cap).run Tryd.prog w = .ok (.func fn first cap) w := fun _ _ _ _ => rfl
  clear hv hg hS G hNb h0 hpb hcb hfew hpos hA ht2 ht3 ht4 hc hs hc' hs' hel ep eL en em eN hpl
  go_enter Tryd.func69, Tryd.ntmps69
  go_wp2_with (fail)
  refine (HK.out _ (((Grew.refl _).alloc _).alloc _)).mono ?_
  rintro e w1 ⟨g1, c1, rfl, hO1, hg1⟩
  rw [HE.out.2.2.2.2.2.2] at hO1 ⊢
  have hb5 : w1.cell? ⟨w.heap.size + 1, 0, none⟩ = some (.int .i64 (I : Int)) := hg1.cell (by simp)
  have hb40 : w1.cell? ⟨w.heap.size, 0, none⟩ = some (.slice (some ⟨gc, 0, none⟩) N cc) := hg1.cell (by simp)
  have hb41 : w1.cell? ⟨w.heap.size, 1, none⟩ = some (.slice (some ⟨gs, 0, none⟩) N cs) := hg1.cell (by simp)
  have H1 : Hid (IntsO 3 w.heap.size w1.heap.size w1 (.slice (some ⟨g1, 0, none⟩) N c1) p ∧ Grew w w1 ∧ w1.cell? ⟨w.heap.size, 0, none⟩ = some (.slice (some ⟨gc, 0, none⟩) N cc) ∧ w1.cell? ⟨w.heap.size, 1, none⟩ = some (.slice (some ⟨gs, 0, none⟩) N cs) ∧ w1.cell? ⟨w.heap.size + 1, 0, none⟩ = some (.int .i64 (I : Int))) :=
    Lib.hid ⟨hO1.wide (by simp; omega) (Nat.le_refl _), (((Grew.refl w).alloc _).alloc _).trans hg1, hb40, hb41, hb5⟩
  have hb5a := ((Grew.refl w1).alloc (.cells #[.slice (some ⟨g1, 0, none⟩) N c1] 27)).cell hb5
  clear hO1 hg1 HK hb40 hb41 hb5
  go_wp2_with (fail)
  refine (HCB.out _ (H1.out.2.1.alloc _)).mono ?_
  rintro e w2 ⟨a2, c2, rfl, hO2, hg2⟩
  obtain ⟨g2, c2', e2, _, _, _, _⟩ := hO2.pos (by omega)
  simp only [Value.slice.injEq] at e2
  obtain ⟨rfl, _, rfl⟩ := e2
  have hb7 : w2.cell? ⟨w1.heap.size, 0, none⟩ = some (.slice (some ⟨g1, 0, none⟩) N c1) := hg2.cell (by simp)
  have hg12 : Grew w1 w2 := ((Grew.refl w1).alloc _).trans hg2
  have H2 : Hid (IntsO 3 (w1.alloc (.cells #[.slice (some ⟨g1, 0, none⟩) N c1] 27)).heap.size w2.heap.size w2 (.slice (some ⟨g2, 0, none⟩) L.length c2) L ∧ Grew w1 w2 ∧ w2.cell? ⟨w1.heap.size, 0, none⟩ = some (.slice (some ⟨g1, 0, none⟩) N c1)) := Lib.hid ⟨hO2, hg12, hb7⟩
  clear hO2 hg2 hb7 hg12
  have HIX : Hid (Calls Tryd.prog 86 #[.slice (some ⟨g2, 0, none⟩) L.length c2, .func (.func 87) #[] #[.pointer (some ⟨w1.heap.size, 0, none⟩), .pointer (some ⟨w.heap.size + 1, 0, none⟩), .pointer (some ⟨w.heap.size, 0, none⟩)]] w2 fun e w' => e = .returned (.int .i64 (t : Int)) ∧ Grew w2 w') := by
    refine slicesIndexFunc_any _ L (nextB (aroundL n m) p K N I) _ t _ (fun _ _ => rfl) w2 H2.out.1.toV (fun j W hW hj => ?_) HT.out.1 HT.out.2.1 HT.out.2.2.1
    obtain ⟨k, ek, hk⟩ := HE.out.2.2.2.2.1 j hj
    rw [ek]
    have hgw := H1.out.2.1.trans (H2.out.2.1.trans hW)
    have hg1w := H2.out.2.1.trans hW
    have hh : ∀ q, q < N → W.cell? ⟨g1, q, none⟩ = some (.int .i64 (p.getD q 0)) := fun q hq => ((H1.out.1.grew hg1w).at rfl (i := q) (by rw [HE.out.2.2.2.2.2.2]; exact hq)).1
    have hcl := nextClo_any w1.heap.size (w.heap.size + 1) w.heap.size g1 c1 gc cc gs cs N I k (p.getD I 0) (p.getD k 0) (costT (aroundL n m) p upF K N I) (costT (aroundL n m) p upF K N k) (lastCh (aroundL n m) p K N I) (lastCh (aroundL n m) p K N k) W
      (hW.cell H2.out.2.2) (hg1w.cell H1.out.2.2.2.2) (hg1w.cell H1.out.2.2.1) (hg1w.cell H1.out.2.2.2.1) hI hk (hh I hI) (hh k hk) (hgw.cell (HE.out.1 I hI)) (hgw.cell (HE.out.1 k hk)) (hgw.cell (HE.out.2.1 I hI)) (hgw.cell (HE.out.2.1 k hk)) (HE.out.2.2.1 I hI) (HE.out.2.2.1 k hk) (HE.out.2.2.2.1 k hk) (by rw [HE.out.2.2.2.2.2.1]; omega)
    exact hcl
  go_wp2_with (fail)
  refine HIX.out.mono ?_
  rintro e w3 ⟨rfl, hg3⟩
  have hct := ((H2.out.1.grew hg3).at rfl (i := t) HT.out.1).1
  rw [HT.out.2.2.2] at hct
  have hti : (t : Int) < (L.length : Int) := by omega
  have HN := Lib.hid (H1.out.2.1.trans (H2.out.2.1.trans hg3))
  clear hg3
  go_wp2
  go_ret
  exact ⟨rfl, HN.out⟩
end Go.Proofs.YtdhokofcgfolnaaDoor

/- The contract of impl.WayOf. -/
namespace Go.Proofs.YtdhokofcgfolnaaDoor
open Go.RowKit

/-- The cells of the way from i to k. -/
def wayL (h : List (List Int)) (i k : Int) : List Int :=
  if vEnds h i k = true then wayT (aroundL h.length (h.getD 0 []).length) h.flatten k.toNat (h.length * (h.getD 0 []).length) i.toNat (lastCh (aroundL h.length (h.getD 0 []).length) h.flatten k.toNat (h.length * (h.getD 0 []).length) i.toNat).toNat else []
theorem wayL_no {h : List (List Int)} {i k : Int} (hc : (vCell h i && vCell h k) = false) : wayL h i k = [] := by unfold wayL vEnds; rw [hc]; rfl
theorem wayL_yes {h : List (List Int)} {i k n m N r : Nat} (en : h.length = n) (em : (h.getD 0 []).length = m) (eN : n * m = N) (hi : vCell h i = true) (hk : vCell h k = true) (hr : lastCh (aroundL n m) h.flatten k N i = (r : Int)) : wayL h i k = wayT (aroundL n m) h.flatten k N i r := by
  unfold wayL vEnds
  rw [hi, hk, en, em, eN, Int.toNat_natCast, Int.toNat_natCast, hr, Int.toNat_natCast]
  rfl

set_option maxRecDepth 100000 in
set_option maxHeartbeats 4000000 in
theorem WayOf_any (v : Value) (h : List (List Int)) (i k : Int) (w : World) (hv : RowsV w v h) (hS : Steps w) :
    Calls Tryd.prog 35 #[v, .int .i64 i, .int .i64 k] w (OwnI w (wayL h i k)) := by
  have HV := Lib.hid (validEnds_any v h i k w hv)
  cases hp : vEnds h i k with
  | false =>
    obtain ⟨a, b, o, c, rfl, _, _, _⟩ := hv.shape
    have HP := Lib.hid hp
    rw [wayL_no hp]
    clear hv hp hS
    go_enter Tryd.func35, Tryd.ntmps35
    go_wp2_with (fail)
    refine HV.out.mono ?_
    rw [HP.out]
    rintro e w1 ⟨rfl, rfl⟩
    go_wp2
    go_ret
    exact ⟨none, 0, rfl, ⟨World.ownsRow_nil _ _ _ _, fun g e => by simp [Value.ownBlock] at e⟩, Grew.refl _⟩
  | true =>
    have hcc := hp
    unfold vEnds at hcc
    simp only [Bool.and_eq_true] at hcc
    obtain ⟨hg, hi0, hi1⟩ := vCell_facts hcc.1
    obtain ⟨_, hk0, hk1⟩ := vCell_facts hcc.2
    have G := Grid.of hg
    obtain ⟨n, en⟩ : ∃ n, h.length = n := ⟨_, rfl⟩
    obtain ⟨m, em⟩ : ∃ m, (h.getD 0 []).length = m := ⟨_, rfl⟩
    obtain ⟨N, eN⟩ : ∃ N, n * m = N := ⟨_, rfl⟩
    rw [en, em, eN] at hi1 hk1
    obtain ⟨I, rfl⟩ := Int.eq_ofNat_of_zero_le hi0
    obtain ⟨K, rfl⟩ := Int.eq_ofNat_of_zero_le hk0
    have n5 := G.n5
    have m5 := G.m5
    rw [en] at n5
    rw [em] at m5
    have hN25 : N ≤ 25 := by rw [← eN]; exact Nat.mul_le_mul n5 m5
    have hNb := around_range G en em eN
    have h0 : ∀ i x, x ∈ aroundL n m i → 0 ≤ x := fun i x hx => around_nonneg hx
    have hpn : ∀ i, i < n * m → 0 ≤ h.flatten.getD i 0 ∧ h.flatten.getD i 0 ≤ 12 := fun i hi => grid_num G i (by rw [en, em]; exact hi)
    have hpos : ∀ i, i < N → 0 ≤ costT (aroundL n m) h.flatten upF K N i := fun i hi => by
      have := (climbN_walk n5 m5 hpn (i := i) (k := K) (by omega) (by omega)).1
      rwa [climbN, eN] at this
    obtain ⟨r, hA⟩ := wayAt (p := h.flatten) (K := K) hNb h0 (show I < N by omega) (hpos I (by omega))
    rw [wayL_yes en em eN hcc.1 hcc.2 hA.few]
    have HL := Lib.hid (easiestTo_any v h n m N K w hv hg hS en em eN (by omega))
    have HNX := Lib.hid fun (i q gc cc gs cs : Nat) (W : World) (hW : Grew w W) hq hc hs => nextOn_any v h n m N K i q gc cc gs cs W (hv.grew hW) hg (hS.grew hW) en em eN hq hpos hc hs
    have HAN : Hid (∀ t, t ≤ r → WayAt (aroundL n m) h.flatten K N (iterN (aroundL n m) h.flatten K N I t) (r - t)) := fun t => by
      induction t with
      | zero => exact fun _ => hA
      | succ t ih =>
        intro ht
        have := ih (by omega)
        rw [show r - t = (r - (t + 1)) + 1 by omega] at this
        obtain ⟨_, _, _, _, _, h5⟩ := this.next hNb h0 hpos
        exact h5
    have hrN := hA.le
    obtain ⟨p, ep⟩ : ∃ p, h.flatten = p := ⟨_, rfl⟩
    rw [ep] at HL HNX HAN ⊢
    obtain ⟨a, b, o, c, rfl, _, _, _⟩ := hv.shape
    have HP := Lib.hid hp
    have HSC : Hid (∀ t, iterN (aroundL n m) p K N I (t + 1) = nextN (aroundL n m) p K N (iterN (aroundL n m) p K N I t)) := fun _ => rfl
    have HI0 : Hid (iterN (aroundL n m) p K N I 0 = I) := Lib.hid rfl
    clear hv hp hS hcc hg en em eN ep hNb h0 hpn hpos hA G
    go_enter Tryd.func35, Tryd.ntmps35
    go_wp2_with (fail)
    refine HV.out.mono ?_
    rw [HP.out]
    rintro e w1 ⟨rfl, rfl⟩
    go_wp2_with (fail)
    refine HL.out.mono ?_
    rintro e w2 ⟨vc, vs, rfl, ⟨⟨gc, cc, rfl, _⟩, hic⟩, ⟨⟨gs, cs, rfl, _⟩, his⟩, hg2⟩
    rw [costL_len] at hic ⊢
    rw [tabL_len] at his ⊢
    have HC := Lib.hid (And.intro hic his)
    go_wp2
    obtain ⟨B, eB⟩ : ∃ B, w2.heap.size = B := ⟨_, rfl⟩
    have hb0 : (w2.alloc (.cells #[.slice (some ⟨gc, 0, none⟩) N cc, .slice (some ⟨gs, 0, none⟩) N cs] 59)).cell? ⟨w2.heap.size, 0, none⟩ = some (.slice (some ⟨gc, 0, none⟩) N cc) := by simp
    have hb1 : (w2.alloc (.cells #[.slice (some ⟨gc, 0, none⟩) N cc, .slice (some ⟨gs, 0, none⟩) N cs] 59)).cell? ⟨w2.heap.size, 1, none⟩ = some (.slice (some ⟨gs, 0, none⟩) N cs) := by simp
    have hG1 : Grew w (w2.alloc (.cells #[.slice (some ⟨gc, 0, none⟩) N cc, .slice (some ⟨gs, 0, none⟩) N cs] 59)) := hg2.alloc _
    have hG2 : Grew w2 (w2.alloc (.cells #[.slice (some ⟨gc, 0, none⟩) N cc, .slice (some ⟨gs, 0, none⟩) N cs] 59)) := (Grew.refl w2).alloc _
    have hs1 : (w2.alloc (.cells #[.slice (some ⟨gc, 0, none⟩) N cc, .slice (some ⟨gs, 0, none⟩) N cs] 59)).heap.size = w2.heap.size + 1 := by simp
    obtain ⟨W1, eW⟩ : ∃ W1, (w2.alloc (.cells #[.slice (some ⟨gc, 0, none⟩) N cc, .slice (some ⟨gs, 0, none⟩) N cs] 59)) = W1 := ⟨_, rfl⟩
    rw [eW] at hb0 hb1 hG1 hG2 hs1
    simp only [eW]
    rw [eB] at hb0 hb1 hs1 ⊢
    have hwB : w.heap.size ≤ B := by rw [← eB]; exact hg2.size
    have H0 : Hid (IntsO 3 (B + 1) (W1.alloc (.cells #[.int .i64 (I : Int)] 3)).heap.size (W1.alloc (.cells #[.int .i64 (I : Int)] 3)) (.slice (some ⟨B + 1, 0, none⟩) 1 1) (wayT (aroundL n m) p K N I 0) ∧ Grew w (W1.alloc (.cells #[.int .i64 (I : Int)] 3)) ∧ Grew W1 (W1.alloc (.cells #[.int .i64 (I : Int)] 3))) := by
      refine Lib.hid ⟨?_, hG1.alloc _, (Grew.refl W1).alloc _⟩
      rw [wayT_zero]
      have hl := IntsO.lit 3 (B + 1) W1 [(I : Int)] #[.int .i64 (I : Int)] rfl (by omega) (by simp [maxLen])
      rw [hs1] at hl
      exact hl.wide (Nat.le_refl _) (by simp; omega)
    have HWB := Lib.hid (And.intro hb0 (And.intro hb1 hs1))
    have HG2 := Lib.hid hG2
    clear hic his hg2 hb0 hb1 eW hG1 hG2 hs1 eB
    go_loopg [1, 8] r (fun gk i v wr => ∃ t g c, i = .int .i64 ((iterN (aroundL n m) p K N I t : Nat) : Int) ∧ v = .slice (some ⟨g, 0, none⟩) (t + 1) c ∧ t ≤ r ∧ r ≤ gk + t ∧
      Hid (IntsO 3 (B + 1) wr.heap.size wr v (wayT (aroundL n m) p K N I t) ∧ Grew w wr ∧ Grew W1 wr))
    case atStart => exact ⟨0, B + 1, 1, rfl, rfl, Nat.zero_le _, Nat.le_refl _, H0.out⟩
    case round =>
      obtain ⟨t, g, c', rfl, rfl, ht, hgk, HI⟩ := hrel
      have hA' := HAN.out t ht
      have hz := hA'.zero_iff
      by_cases hlt : t < r
      · have hne : ((iterN (aroundL n m) p K N I t : Nat) : Int) ≠ (K : Int) := fun e => by have := hz.2 (by omega); omega
        have hb0 : wr.cell? ⟨B, 0, none⟩ = some (.slice (some ⟨gc, 0, none⟩) N cc) := HI.out.2.2.cell HWB.out.1
        have hb1 : wr.cell? ⟨B, 1, none⟩ = some (.slice (some ⟨gs, 0, none⟩) N cs) := HI.out.2.2.cell HWB.out.2.1
        have hB0 : B + 1 ≤ wr.heap.size := by have := HI.out.2.2.size; rw [HWB.out.2.2] at this; exact this
        have HGR : Hid (Grew w2 wr) := HG2.out.trans HI.out.2.2
        have HNN : Hid (Calls Tryd.prog 69 #[.slice a h.length c, .agg #[.slice (some ⟨gc, 0, none⟩) N cc, .slice (some ⟨gs, 0, none⟩) N cs], .int .i64 (iterN (aroundL n m) p K N I t : Nat)] wr fun e w' => e = .returned (.int .i64 (iterN (aroundL n m) p K N I (t + 1) : Nat)) ∧ Grew wr w') := by
          rw [HSC.out t]
          exact HNX.out _ (r - (t + 1)) gc cc gs cs wr HI.out.2.1 (by rw [show r - (t + 1) + 1 = r - t by omega]; exact hA') (HC.out.1.grew HGR.out) (HC.out.2.grew HGR.out)
        have HXT := Lib.hid (wayT_succ (ar := aroundL n m) (p := p) (K := K) (N := N) I t)
        have hXl := wayT_len (ar := aroundL n m) (p := p) (K := K) (N := N) I t
        obtain ⟨i1, e1⟩ : ∃ i1, iterN (aroundL n m) p K N I (t + 1) = i1 := ⟨_, rfl⟩
        rw [e1] at HNN HXT
        obtain ⟨i0, e0⟩ : ∃ i0, iterN (aroundL n m) p K N I t = i0 := ⟨_, rfl⟩
        rw [e0] at HNN hne ⊢
        obtain ⟨X, eX⟩ : ∃ X, wayT (aroundL n m) p K N I t = X := ⟨_, rfl⟩
        rw [eX] at HXT hXl HI
        have HL1 : Hid (X.length = t + 1 ∧ iterN (aroundL n m) p K N I (t + 1) = i1) := Lib.hid ⟨hXl, e1⟩
        clear hA' hz e0 e1 eX hXl
        go_wp2_with (fail)
        refine HNN.out.mono ?_
        rintro e w3 ⟨rfl, hg3⟩
        have HO := Lib.hid ((HI.out.1.grew hg3).wide (Nat.le_refl _) hg3.size)
        have HG3 := Lib.hid (And.intro (HI.out.2.1.trans hg3) (HI.out.2.2.trans hg3))
        have hs3 : B + 1 ≤ w3.heap.size := Nat.le_trans hB0 hg3.size
        clear hg3 hb0 hb1
        go_wp2_with (at_builtin; refine wpList_append_int rfl (.tmp 26) (.tmp 28) 27 rfl Tryd.underlying27 Tryd.infoI rfl rfl rfl HO.out (by rw [HL1.out.1]; omega) hs3 ?_; intro g5 c5 w5 hO5 hW5 hS5)
        rw [HL1.out.1] at hO5 ⊢
        have HF : Hid (IntsO 3 (B + 1) w5.heap.size w5 (.slice (some ⟨g5, 0, none⟩) (t + 1 + 1) c5) (X ++ [(i1 : Int)]) ∧ Grew w w5 ∧ Grew W1 w5) := ⟨hO5, Within.grew HG3.out.1 hW5 (by omega), Within.grew HG3.out.2 hW5 (by rw [HWB.out.2.2]; omega)⟩
        clear hO5 hW5 hS5
        go_wp2
        go_roundg (gk - 1)
        case measure => omega
        case rel => exact ⟨t + 1, g5, c5, by rw [HL1.out.2], rfl, by omega, by omega, by rw [HXT.out]; exact HF.out⟩
      · obtain rfl : t = r := by omega
        have e0 := hz.1 (by omega)
        rw [e0] at *
        go_wp2
        go_ret
        exact ⟨some ⟨g, 0, none⟩, c', by rw [wayT_len]; rfl, by rw [wayT_len]; exact HI.out.1.wide (by omega) (Nat.le_refl _), HI.out.2.1⟩
end Go.Proofs.YtdhokofcgfolnaaDoor
