/- The contracts of impl.leastMean and impl.SmoothByMeans. -/
import Derived.Test.YtlifjhhjkcmneaaMinF
namespace Go.Proofs.Ytlifjhhjkcmneaa
open Go.RowKit

theorem IntsV.part {w : World} {b o n c : Nat} {p : List Int} (h : IntsV w (.slice (some ⟨b, o, none⟩) n c) p) (s e : Nat) (hs : s < e) (he : e ≤ p.length) : IntsV w (.slice (some ⟨b, o + s, none⟩) (e - s) (c - s)) ((p.drop s).take (e - s)) := by
  obtain ⟨a', b', o', c', e', ⟨h1, h2⟩, hc⟩ := h
  simp only [Value.slice.injEq] at e'
  obtain ⟨rfl, rfl, rfl⟩ := e'
  have hl : ((p.drop s).take (e - s)).length = e - s := by simp; omega
  refine ⟨some ⟨b, o + s, none⟩, b, o + s, c - s, by rw [hl], ⟨by omega, by omega⟩, fun i hi => ?_⟩
  rw [hl] at hi
  obtain ⟨e1, e2⟩ := hc (s + i) (by omega)
  simp only [Option.some.injEq, Addr.mk.injEq] at e1
  obtain ⟨rfl, rfl, _⟩ := e1
  refine ⟨rfl, ?_⟩
  rw [Nat.add_assoc, e2]
  simp [hi]
theorem part_at (p : List Int) (s e i : Nat) (h : i < e - s) : ((p.drop s).take (e - s)).getD i 0 = p.getD (s + i) 0 := by simp [h]
theorem part_len (p : List Int) (s e : Nat) (he : e ≤ p.length) : ((p.drop s).take (e - s)).length = e - s := by simp; omega
/-- The sum of the places from a on up to e, without it. -/
def sumP (p : List Int) (a e : Nat) : Int := sumTo (fun i => p.getD (a + i) 0) (e - a)
theorem sumP_bd {p : List Int} (hp : vProf p = true) (a e : Nat) (he : e ≤ p.length) : 0 ≤ sumP p a e ∧ sumP p a e ≤ 12 * ((e - a : Nat) : Int) := by
  have := sumTo_bd (f := fun i => p.getD (a + i) 0) 0 12 (k := e - a) fun i hi => ((vProf_iff p).1 hp).2.2 _ (by omega)
  unfold sumP
  omega
/-- The mean of the places from a up to b. -/
def mF (p : List Int) (a b : Nat) : Int × Int := frL (sumP p a (b + 1)).toNat (b + 1 - a)
/-- The first least, and the first greatest, of g 0, .., g k. -/
def minFn (g : Nat → Int × Int) : Nat → Int × Int
  | 0 => g 0
  | k + 1 => if ltF (g (k + 1)) (minFn g k) then g (k + 1) else minFn g k
def maxFn (g : Nat → Int × Int) : Nat → Int × Int
  | 0 => g 0
  | k + 1 => if ltF (maxFn g k) (g (k + 1)) then g (k + 1) else maxFn g k
theorem minF_fn (g : Nat → Int × Int) (n : Nat) : ∀ k, k < n → minF ((List.range n).map g) k = minFn g k
  | 0, h => by simp [minF, minFn, h]
  | k + 1, h => by
    have e : ((List.range n).map g).getD (k + 1) (0, 0) = g (k + 1) := by simp [h]
    rw [minF, minFn, minF_fn g n k (by omega), e]
theorem maxF_fn (g : Nat → Int × Int) (n : Nat) : ∀ k, k < n → maxF ((List.range n).map g) k = maxFn g k
  | 0, h => by simp [maxF, maxFn, h]
  | k + 1, h => by
    have e : ((List.range n).map g).getD (k + 1) (0, 0) = g (k + 1) := by simp [h]
    rw [maxF, maxFn, maxF_fn g n k (by omega), e]
theorem minFn_is (g : Nat → Int × Int) : ∀ k, ∃ y, y ≤ k ∧ minFn g k = g y
  | 0 => ⟨0, Nat.le_refl _, rfl⟩
  | k + 1 => by
    obtain ⟨y, hy, e⟩ := minFn_is g k
    rw [minFn]
    split
    · exact ⟨k + 1, Nat.le_refl _, rfl⟩
    · exact ⟨y, by omega, e⟩
theorem maxFn_is (g : Nat → Int × Int) : ∀ k, ∃ y, y ≤ k ∧ maxFn g k = g y
  | 0 => ⟨0, Nat.le_refl _, rfl⟩
  | k + 1 => by
    obtain ⟨y, hy, e⟩ := maxFn_is g k
    rw [maxFn]
    split
    · exact ⟨k + 1, Nat.le_refl _, rfl⟩
    · exact ⟨y, by omega, e⟩
theorem frL_bd (u d : Nat) : (0 ≤ (frL u d).1 ∧ (frL u d).1 ≤ u) ∧ 0 ≤ (frL u d).2 ∧ (frL u d).2 ≤ d := by
  have h1 := Nat.div_le_self u (Nat.gcd u d)
  have h2 := Nat.div_le_self d (Nat.gcd u d)
  obtain ⟨x, hx⟩ : ∃ x, u / Nat.gcd u d = x := ⟨_, rfl⟩
  obtain ⟨y, hy⟩ : ∃ y, d / Nat.gcd u d = y := ⟨_, rfl⟩
  unfold frL
  rw [hx] at h1 ⊢
  rw [hy] at h2 ⊢
  simp only []
  omega
theorem mF_bd {p : List Int} (hp : vProf p = true) (a b : Nat) (hb : b < p.length) : (0 ≤ (mF p a b).1 ∧ (mF p a b).1 ≤ 108) ∧ 0 ≤ (mF p a b).2 ∧ (mF p a b).2 ≤ 9 := by
  have h1 := sumP_bd hp a (b + 1) (by omega)
  have h2 := frL_bd (sumP p a (b + 1)).toNat (b + 1 - a)
  have h9 := ((vProf_iff p).1 hp).2.1
  unfold mF
  omega
theorem mF_ok {p : List Int} (hp : vProf p = true) (a b : Nat) (hb : b < p.length) : okF (mF p a b) := by
  have := mF_bd hp a b hb
  unfold okF
  omega
/-- The least mean from a on up to i or one behind it. -/
def leastF (p : List Int) (a i : Nat) : Int × Int := minFn (fun d => mF p a (i + d)) (p.length - 1 - i)
theorem leastF_ok {p : List Int} (hp : vProf p = true) (a i : Nat) (hi : i < p.length) : okF (leastF p a i) := by
  obtain ⟨y, hy, e⟩ := minFn_is (fun d => mF p a (i + d)) (p.length - 1 - i)
  unfold leastF
  rw [e]
  exact mF_ok hp a (i + y) (by omega)
def bestF' (p : List Int) (i : Nat) : Int × Int := maxFn (fun a => leastF p a i) i
def meansX (p : List Int) : List (Int × Int) := if vProf p = true then (List.range p.length).map (bestF' p) else []

theorem blk_sum {p : List Int} (hp : vProf p = true) (a e : Nat) (he : e ≤ p.length) : sumB (blkL ((p.drop a).take (e - a))) = (((sumP p a e).toNat : Int), ((e - a : Nat) : Int)) := by
  have hl := part_len p a e he
  have h0 := (sumP_bd hp a e he).1
  unfold sumB
  rw [blkL_len, hl]
  have g : ∀ i, i < e - a → (blkL ((p.drop a).take (e - a))).getD i (0, 0) = (p.getD (a + i) 0, 1) := fun i hi => by
    have h := part_at p a e i hi
    simp only [blkL, List.getD_eq_getElem?_getD, List.getElem?_map] at h ⊢
    have hi' : i < ((p.drop a).take (e - a)).length := by rw [hl]; exact hi
    rw [List.getElem?_eq_getElem hi'] at h ⊢
    simp only [Option.getD_some, Option.map_some] at h ⊢
    rw [h]
  rw [sumTo_congr (g := fun i => p.getD (a + i) 0) fun i hi => by rw [g i hi], sumTo_congr (f := fun i => ((blkL ((p.drop a).take (e - a))).getD i (0, 0)).2) (g := fun _ => 1) fun i hi => by rw [g i hi]]
  have h1 : ∀ k : Nat, sumTo (fun _ => 1) k = (k : Int) := fun k => by
    induction k with
    | zero => rfl
    | succ k ih => rw [sumTo, ih]; omega
  rw [h1]
  refine Prod.ext ?_ rfl
  show sumTo (fun i => p.getD (a + i) 0) (e - a) = ((sumP p a e).toNat : Int)
  unfold sumP at h0 ⊢
  omega
set_option maxRecDepth 100000 in
set_option maxHeartbeats 4000000 in
theorem leastMean_any (v : Value) (p : List Int) (a i : Nat) (w : World) (hv : IntsV w v p) (hp : vProf p = true) (hai : a ≤ i) (hi : i < p.length) :
    Calls Try.prog 63 #[v, .int .i64 a, .int .i64 i] w fun e w' => e = .returned (frV (leastF p a i)) ∧ Grew w w' := by
  have HV := Lib.hid hv
  have h9 := ((vProf_iff p).1 hp).2.1
  have HP := Lib.hid hp
  obtain ⟨ad, b, o, c, rfl, ⟨hlc, hcb⟩, ha, HC⟩ := hv.shape
  obtain rfl := ha (by omega)
  have HBK := Lib.hid (fun (e : Nat) (W : World) (hW : Grew w W) (hae : a < e) (hel : e ≤ p.length) => blocksOf_any _ _ W (IntsV.part (hv.grew hW) a e hae hel) (by rw [part_len p a e hel]; omega))
  clear hv ha
  go_enter Try.func63, Try.ntmps63
  go_wp2
  go_loopw [7, 8] (fun mv lv wr => ∃ (d : Nat) (sa : Option Addr) (sc : Nat), mv = .slice sa d sc ∧ lv = .int .i64 ((i + d : Nat) : Int) ∧ i + d ≤ p.length ∧ Hid (FrO 29 (w.heap.size + 1) wr.heap.size wr mv ((List.range d).map fun d => mF p a (i + d)) ∧ Grew (w.alloc (.cells #[.int .i64 0, .int .i64 0] 29)) wr)) (fun _ lv _ => p.length - (intOf lv).toNat)
  case atStart => exact ⟨0, none, 0, rfl, rfl, by omega, FrO.nil _ _ _ _, Grew.refl _⟩
  case round =>
    obtain ⟨d, sa, sc, rfl, rfl, hd, HI⟩ := hrel
    have hgw : Grew w wr := ((Grew.refl w).alloc _).trans HI.out.2
    obtain ⟨L, eL⟩ : ∃ L, i + d = L := ⟨_, rfl⟩
    rw [eL] at hd ⊢
    by_cases hlt : L < p.length
    · have hbk := HBK.out (L + 1) wr hgw (by omega) (by omega)
      rw [part_len p a (L + 1) (by omega)] at hbk
      have hbs := blk_sum HP.out a (L + 1) (by omega)
      have hsb := sumP_bd HP.out a (L + 1) (by omega)
      have hql : (blkL ((p.drop a).take (L + 1 - a))).length = L + 1 - a := by rw [blkL_len, part_len p a (L + 1) (by omega)]
      have hqb : ∀ i, i < (blkL ((p.drop a).take (L + 1 - a))).length → (0 ≤ ((blkL ((p.drop a).take (L + 1 - a))).getD i (0, 0)).1 ∧ ((blkL ((p.drop a).take (L + 1 - a))).getD i (0, 0)).1 ≤ 1000) ∧ 0 ≤ ((blkL ((p.drop a).take (L + 1 - a))).getD i (0, 0)).2 ∧ ((blkL ((p.drop a).take (L + 1 - a))).getD i (0, 0)).2 ≤ 1000 := fun j hj => by
        rw [hql] at hj
        have h := part_at p a (L + 1) j hj
        have hb := ((vProf_iff p).1 HP.out).2.2 (a + j) (by omega)
        simp only [blkL, List.getD_eq_getElem?_getD, List.getElem?_map] at h ⊢
        have hi' : j < ((p.drop a).take (L + 1 - a)).length := by rw [part_len p a (L + 1) (by omega)]; exact hj
        rw [List.getElem?_eq_getElem hi'] at h ⊢
        simp only [List.getD_eq_getElem?_getD] at hb
        simp only [Option.getD_some, Option.map_some] at h ⊢
        omega
      have hst : (List.range (d + 1)).map (fun d => mF p a (i + d)) = (List.range d).map (fun d => mF p a (i + d)) ++ [mF p a L] := by rw [List.range_succ, List.map_append, ← eL]; rfl
      obtain ⟨q, eq⟩ : ∃ q, blkL ((p.drop a).take (L + 1 - a)) = q := ⟨_, rfl⟩
      rw [eq] at hbk hbs hql hqb
      have hmd : mF p a L = frL (sumP p a (L + 1)).toNat (L + 1 - a) := rfl
      obtain ⟨s, es⟩ : ∃ s, (sumP p a (L + 1)).toNat = s := ⟨_, rfl⟩
      obtain ⟨t, et⟩ : ∃ t, L + 1 - a = t := ⟨_, rfl⟩
      rw [es] at hbs hmd
      rw [et] at hbs hmd hql hbk
      have HME := Lib.hid (fun W => mean_any s t W (by omega) (by omega) (by omega))
      rw [← hmd] at HME
      obtain ⟨X, hX⟩ : ∃ X, (List.range d).map (fun d => mF p a (i + d)) = X := ⟨_, rfl⟩
      rw [hX] at hst
      have hXl : X.length = d := by rw [← hX]; simp
      obtain ⟨F, eF⟩ : ∃ F, mF p a L = F := ⟨_, rfl⟩
      rw [eF] at hst HME
      obtain ⟨f1, f2⟩ := F
      have HST := Lib.hid (And.intro hst (And.intro hXl hX))
      have HBK1 := Lib.hid hbk
      have HTG := Lib.hid (fun v (W : World) (h : FrV W v q) => together_any v q W h (by omega) hqb)
      rw [hbs] at HTG
      have e1 : (L : Int) + 1 = ((L + 1 : Nat) : Int) := by omega
      obtain ⟨L1, eL1⟩ : ∃ L1, L + 1 = L1 := ⟨_, rfl⟩
      rw [eL1] at e1 et
      have w1' : IntKind.i64.wrap (L1 : Int) = (L1 : Int) := wrap_12 _ (by omega) (by omega)
      have r1 : (L : Int) < p.length := by omega
      have r3 : (a : Int) ≤ L1 := by omega
      have r4 : (L1 : Int) ≤ c := by omega
      have r5 : L1 - a = t := et
      have r6 : a ≤ c := by omega
      have r7 : L1 ≤ c := by omega
      have r8 : ¬ c - a = 0 := by omega
      have r9 : ¬ c = a := by omega
      have r10 : (0 : Int) ≤ a := by omega
      have r11 : a ≤ L1 := by omega
      have hid : Hid (i + (d + 1) = L1) := by show _ = _; omega
      have hd10 : d ≤ 10 := by omega
      have HGW := Lib.hid hgw
      unfold frV at HME HTG
      clear eL1 eL es hst hX hXl eF hmd hbs hqb eq hbk hgw
      go_wp2_with (fail)
      refine HBK1.out.mono ?_
      rintro e w2 ⟨sb, cb2, rfl, hO2, hg2⟩
      have H2 := Lib.hid (And.intro hO2.toV hg2)
      clear hO2 hg2
      go_wp2_with (fail)
      refine (HTG.out _ _ H2.out.1).mono ?_
      rintro e w3 ⟨rfl, hg3⟩
      have H3 := Lib.hid (H2.out.2.trans hg3)
      clear hg3
      go_wp2_with (fail)
      refine (HME.out _).mono ?_
      rintro e w4 ⟨rfl, hg4⟩
      have H4 := Lib.hid (H3.out.trans hg4)
      clear hg4
      have hsz4 : w.heap.size + 1 ≤ w4.heap.size := by have := (HI.out.2.trans H4.out).size; simpa using this
      have HO : Hid (FrO 29 (w.heap.size + 1) w4.heap.size w4 (.slice sa d sc) X) := by
        rw [← HST.out.2.2]; exact (HI.out.1.grew H4.out).wide (Nat.le_refl _) H4.out.size
      go_wp2_with (at_builtin; refine wpList_append_fr rfl (.tmp 16) (.tmp 25) 25 rfl Try.underlying25 Try.infoFrac rfl rfl rfl HO.out (by rw [HST.out.2.1]; omega) hsz4 ?_; rw [HST.out.2.1]; intro g5 c5 w5 hO5 hW5 hS5)
      have HF : Hid (FrO 29 (w.heap.size + 1) w5.heap.size w5 (.slice (some ⟨g5, 0, none⟩) (d + 1) c5) ((List.range (d + 1)).map fun d => mF p a (i + d)) ∧ Grew (w.alloc (.cells #[.int .i64 0, .int .i64 0] 29)) w5) := by
        rw [HST.out.1]
        exact ⟨hO5, Within.grew (HI.out.2.trans H4.out) hW5 (by simp)⟩
      clear hO5 hW5 hS5
      go_wp2
      go_roundw
      case rel => exact ⟨d + 1, some ⟨g5, 0, none⟩, c5, rfl, by rw [hid.out], by have := hid.out; omega, HF.out⟩
      case measure => simp [intOf]; omega
    · have hLn : L = p.length := by omega
      have hmf := minF_fn (fun d => mF p a (i + d)) d (d - 1) (by omega)
      have hle : leastF p a i = minFn (fun d => mF p a (i + d)) (d - 1) := by unfold leastF; congr 1; omega
      have hql : ((List.range d).map fun d => mF p a (i + d)).length = d := by simp
      have HQ := Lib.hid (slicesMinFunc_any _ _ wr HI.out.1.toV (by rw [hql]; omega) (by rw [hql]; omega) (fun j hj => by
        rw [hql] at hj
        have e : ((List.range d).map fun d => mF p a (i + d)).getD j (0, 0) = mF p a (i + j) := by simp [hj]
        rw [e]
        exact mF_ok HP.out a (i + j) (by omega)))
      rw [hql, hmf, ← hle] at HQ
      obtain ⟨F, eF⟩ : ∃ F, leastF p a i = F := ⟨_, rfl⟩
      rw [eF] at HQ
      have HEF := Lib.hid eF
      obtain ⟨f1, f2⟩ := F
      unfold frV at HQ
      clear hmf hle hql eF eL
      go_wp2_with (fail)
      refine HQ.out.mono ?_
      rintro e w3 ⟨rfl, hg3⟩
      have hgg := HI.out.2.trans hg3
      have hB3 : w3.heap[w.heap.size]? = some (.cells #[.int .i64 0, .int .i64 0] 29 (0, 0)) := by rw [hgg.block (by simp)]; exact heap_alloc_new w _
      have hz0 : w3.cell? ⟨w.heap.size, 0, none⟩ = some (.int .i64 0) := by simp [World.cell?, hB3]
      have hz1 : w3.cell? ⟨w.heap.size, 1, none⟩ = some (.int .i64 0) := by simp [World.cell?, hB3]
      have hf0 : w3.frozen? ⟨w.heap.size, 0, none⟩ = false := by simp [World.frozen?, hB3]
      have hf1 : w3.frozen? ⟨w.heap.size, 1, none⟩ = false := by simp [World.frozen?, hB3]
      have HG3 : Hid (Grew w w3) := ((Grew.refl w).alloc _).trans hgg
      have HB3 := Lib.hid hB3
      clear hg3 hgg hB3
      go_wp2
      refine bodyPost_ret (v := .agg #[.int .i64 f1, .int .i64 f2]) (results_cell_row (P := Try.prog) rfl _ _ w.heap.size 29 _ (0, 0) _ rfl (two_heapF HB3.out) Try.underlying29 rfl (by kernel_rfl)) rfl ⟨by rw [HEF.out]; rfl, two_grewF (Nat.le_refl _) HG3.out⟩

def FracPost (w : World) (q : List (Int × Int)) (e : Ending) (w' : World) : Prop := ∃ v, e = .returned v ∧ FrO 29 w.heap.size w'.heap.size w' v q ∧ Grew w w'
theorem bestF_ok {p : List Int} (hp : vProf p = true) (i : Nat) (hi : i < p.length) : okF (bestF' p i) := by
  obtain ⟨y, hy, e⟩ := maxFn_is (fun a => leastF p a i) i
  unfold bestF'
  rw [e]
  exact leastF_ok hp y i hi
set_option maxRecDepth 100000 in
set_option maxHeartbeats 4000000 in
theorem SmoothByMeans_any (v : Value) (p : List Int) (w : World) (hv : IntsV w v p) :
    Calls Try.prog 24 #[v] w (FracPost w (meansX p)) := by
  have HV := Lib.hid (ValidProfile_any v p w hv)
  have HVV := Lib.hid hv
  unfold meansX
  cases hp : vProf p with
  | false =>
    obtain ⟨a, b, o, c, rfl, _, _, _⟩ := hv.shape
    have HP := Lib.hid hp
    clear hp hv
    go_enter Try.func24, Try.ntmps24
    go_wp2_with (fail)
    refine HV.out.mono ?_
    rw [HP.out]
    rintro e w1 ⟨rfl, rfl⟩
    go_wp2
    go_ret
    exact ⟨_, rfl, FrO.nil _ _ _ _, Grew.refl _⟩
  | true =>
    have HP := Lib.hid hp
    have h9 := ((vProf_iff p).1 hp).2.1
    have HL := Lib.hid (fun (a i : Nat) (W : World) (hW : Grew w W) (hai : a ≤ i) (hi : i < p.length) => leastMean_any v p a i W (hv.grew hW) hp hai hi)
    obtain ⟨a, b, o, c, rfl, _, _, _⟩ := hv.shape
    clear hp hv
    go_enter Try.func24, Try.ntmps24
    go_wp2_with (fail)
    refine HV.out.mono ?_
    rw [HP.out]
    rintro e w1 ⟨rfl, rfl⟩
    go_wp2
    go_loopw [3, 12] (fun sv iv wr => ∃ (i : Nat) (sa : Option Addr) (sc : Nat), sv = .slice sa i sc ∧ iv = .int .i64 i ∧ i ≤ p.length ∧ Hid (FrO 29 w.heap.size wr.heap.size wr sv ((List.range i).map (bestF' p)) ∧ Grew w wr)) (fun _ iv _ => p.length - (intOf iv).toNat)
    case atStart => exact ⟨0, none, 0, rfl, rfl, Nat.zero_le _, FrO.nil _ _ _ _, Grew.refl _⟩
    case round =>
      obtain ⟨i, sa, sc, rfl, rfl, hi, HI⟩ := hrel
      obtain ⟨wo, rfl⟩ : ∃ wo : World, wo = wr := ⟨_, rfl⟩
      by_cases hlt : i < p.length
      · obtain ⟨i1, ei1⟩ : ∃ i1, i + 1 = i1 := ⟨_, rfl⟩
        have HI1 := Lib.hid ei1
        have e1 : (i : Int) + 1 = (i1 : Int) := by omega
        have w1' : IntKind.i64.wrap (i1 : Int) = (i1 : Int) := wrap_12 _ (by omega) (by omega)
        have hi10 : i1 ≤ 10 := by omega
        clear ei1
        go_wp2
        go_loopw [5, 17] (fun lv av wr => ∃ (a : Nat) (la : Option Addr) (lc : Nat), lv = .slice la a lc ∧ av = .int .i64 a ∧ a ≤ i1 ∧ Hid (FrO 29 wo.heap.size wr.heap.size wr lv ((List.range a).map fun a => leastF p a i) ∧ Grew wo wr)) (fun _ av _ => i1 - (intOf av).toNat)
        case atStart => exact ⟨0, none, 0, rfl, rfl, Nat.zero_le _, FrO.nil _ _ _ _, Grew.refl _⟩
        case round =>
          obtain ⟨a, la, lc, rfl, rfl, ha, HJ⟩ := hrel
          by_cases hlt2 : a < i1
          · have HLM := Lib.hid (HL.out a i wr (HI.out.2.trans HJ.out.2) (by have := HI1.out; omega) hlt)
            have hst : (List.range (a + 1)).map (fun a => leastF p a i) = (List.range a).map (fun a => leastF p a i) ++ [leastF p a i] := by rw [List.range_succ, List.map_append]; rfl
            obtain ⟨X, hX⟩ : ∃ X, (List.range a).map (fun a => leastF p a i) = X := ⟨_, rfl⟩
            rw [hX] at hst
            have hXl : X.length = a := by rw [← hX]; simp
            obtain ⟨F, eF⟩ : ∃ F, leastF p a i = F := ⟨_, rfl⟩
            rw [eF] at hst HLM
            obtain ⟨f1, f2⟩ := F
            have HST := Lib.hid (And.intro hst (And.intro hXl hX))
            unfold frV at HLM
            have r1 : (a : Int) < i1 := by omega
            clear hst hX hXl eF
            go_wp2_with (fail)
            refine HLM.out.mono ?_
            rintro e w4 ⟨rfl, hg4⟩
            have H4 := Lib.hid hg4
            clear hg4
            have hsz4 := (HJ.out.2.trans H4.out).size
            have HO : Hid (FrO 29 wo.heap.size w4.heap.size w4 (.slice la a lc) X) := by
              rw [← HST.out.2.2]; exact (HJ.out.1.grew H4.out).wide (Nat.le_refl _) H4.out.size
            go_wp2_with (at_builtin; refine wpList_append_fr rfl (.tmp 20) (.tmp 25) 25 rfl Try.underlying25 Try.infoFrac rfl rfl rfl HO.out (by rw [HST.out.2.1]; omega) hsz4 ?_; rw [HST.out.2.1]; intro g5 c5 w5 hO5 hW5 hS5)
            have HF : Hid (FrO 29 wo.heap.size w5.heap.size w5 (.slice (some ⟨g5, 0, none⟩) (a + 1) c5) ((List.range (a + 1)).map fun a => leastF p a i) ∧ Grew wo w5) := by
              rw [HST.out.1]
              exact ⟨hO5, Within.grew (HJ.out.2.trans H4.out) hW5 (Nat.le_refl _)⟩
            clear hO5 hW5 hS5
            go_wp2
            go_roundw
            case rel => exact ⟨a + 1, some ⟨g5, 0, none⟩, c5, rfl, by go_num, by omega, HF.out⟩
            case measure => simp [intOf]; omega
          · obtain rfl : a = i1 := by omega
            have hai := HI1.out
            have hmf := maxF_fn (fun a => leastF p a i) a i (by omega)
            have hql : ((List.range a).map fun a => leastF p a i).length = a := by simp
            have HQ := Lib.hid (slicesMaxFunc_any _ _ wr HJ.out.1.toV (by rw [hql]; omega) (by rw [hql]; omega) (fun j hj => by
              rw [hql] at hj
              have e : ((List.range a).map fun a => leastF p a i).getD j (0, 0) = leastF p j i := by simp [hj]
              rw [e]
              exact leastF_ok HP.out j i hlt))
            rw [hql, show a - 1 = i by omega, hmf] at HQ
            have hst : (List.range (i + 1)).map (bestF' p) = (List.range i).map (bestF' p) ++ [bestF' p i] := by rw [List.range_succ, List.map_append]; rfl
            obtain ⟨X, hX⟩ : ∃ X, (List.range i).map (bestF' p) = X := ⟨_, rfl⟩
            rw [hX] at hst
            have hXl : X.length = i := by rw [← hX]; simp
            have hbe : bestF' p i = maxFn (fun a => leastF p a i) i := rfl
            obtain ⟨F, eF⟩ : ∃ F, bestF' p i = F := ⟨_, rfl⟩
            rw [← hbe, eF] at HQ
            rw [eF] at hst
            obtain ⟨f1, f2⟩ := F
            have HST := Lib.hid (And.intro hst (And.intro hXl hX))
            unfold frV at HQ
            clear hmf hql hst hX hXl hbe eF hai
            go_wp2_with (fail)
            refine HQ.out.mono ?_
            rintro e w4 ⟨rfl, hg4⟩
            have H4 := Lib.hid (HJ.out.2.trans hg4)
            clear hg4
            have hsz4 := (HI.out.2.trans H4.out).size
            have HO : Hid (FrO 29 w.heap.size w4.heap.size w4 (.slice sa i sc) X) := by
              rw [← HST.out.2.2]; exact (HI.out.1.grew H4.out).wide (Nat.le_refl _) H4.out.size
            go_wp2_with (at_builtin; refine wpList_append_fr rfl (.tmp 28) (.tmp 31) 25 rfl Try.underlying25 Try.infoFrac rfl rfl rfl HO.out (by rw [HST.out.2.1]; omega) hsz4 ?_; rw [HST.out.2.1]; intro g5 c5 w5 hO5 hW5 hS5)
            have HF : Hid (FrO 29 w.heap.size w5.heap.size w5 (.slice (some ⟨g5, 0, none⟩) (i + 1) c5) ((List.range (i + 1)).map (bestF' p)) ∧ Grew w w5) := by
              rw [HST.out.1]
              exact ⟨hO5, Within.grew (HI.out.2.trans H4.out) hW5 (Nat.le_refl _)⟩
            clear hO5 hW5 hS5
            go_wp2
            go_roundw
            case rel => exact ⟨i + 1, some ⟨g5, 0, none⟩, c5, rfl, by go_num, by omega, HF.out⟩
            case measure => simp [intOf]; omega
      · obtain rfl : i = p.length := by omega
        go_wp2
        go_ret
        exact ⟨_, rfl, HI.out.1, HI.out.2⟩
end Go.Proofs.Ytlifjhhjkcmneaa
