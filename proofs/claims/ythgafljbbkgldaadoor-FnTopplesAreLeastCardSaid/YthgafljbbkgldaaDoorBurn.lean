/- The contract of impl.Burns. -/
import Derived.Test.YthgafljbbkgldaaDoorBurnI
import Derived.Test.YthgafljbbkgldaaDoorSSandV
namespace Go.Proofs.YthgafljbbkgldaaDoor
open Go.RowKit

theorem getD_mem0 (l : List Int) (i : Nat) (h : i < l.length) : l.getD i 0 ∈ l := by
  rw [List.getD_eq_getElem?_getD, List.getElem?_eq_getElem h]
  exact List.getElem_mem h
/-- What it is to be sand. -/
theorem sand_of {h : List (List Int)} (hv : vSand h = true) : Shp h (h.getD 0 []).length ∧ Sandy h.length (h.getD 0 []).length h.flatten ∧ (∀ j, j < h.length * (h.getD 0 []).length → 0 ≤ h.flatten.getD j 0 ∧ h.flatten.getD j 0 ≤ 9) ∧ vGrid h = true := by
  have hg : vGrid h = true := by
    rw [← vRows_grid]
    unfold vSand vRows at hv
    unfold vRows
    rw [Bool.and_eq_true, Bool.and_eq_true, decide_eq_true_eq, decide_eq_true_eq, List.all_eq_true] at hv ⊢
    refine ⟨⟨hv.1.1, by omega⟩, fun row hr => ?_⟩
    have := hv.2 row hr
    unfold vNums at this ⊢
    simp only [Bool.and_eq_true, decide_eq_true_eq, List.all_eq_true] at this ⊢
    refine ⟨this.1, ⟨this.2.1.1, by omega⟩, fun y hy => ?_⟩
    have := this.2.2 y hy
    simp [okN] at this ⊢
    omega
  have G := Grid.of hg
  unfold vSand vRows at hv
  rw [Bool.and_eq_true, Bool.and_eq_true, decide_eq_true_eq, decide_eq_true_eq, List.all_eq_true] at hv
  have hrow : ∀ r, r < h.length → (h.getD r []).length ≤ 4 ∧ ∀ y ∈ h.getD r [], 0 ≤ y ∧ y ≤ 9 := fun r hr => by
    have hm : h.getD r [] ∈ h := by
      rw [List.getD_eq_getElem?_getD, List.getElem?_eq_getElem hr]
      exact List.getElem_mem hr
    have := hv.2 _ hm
    unfold vNums at this
    simp only [Bool.and_eq_true, decide_eq_true_eq, List.all_eq_true] at this
    refine ⟨by omega, fun y hy => ?_⟩
    have := this.2.2 y hy
    simpa [okN] using this
  have hnum : ∀ j, j < h.length * (h.getD 0 []).length → 0 ≤ h.flatten.getD j 0 ∧ h.flatten.getD j 0 ≤ 9 := fun j hj => by
    have hd := div_lt_of _ _ _ hj
    rw [flat_at G j hj]
    have hl := G.len _ hd
    have hm := Nat.mod_lt j (show 0 < (h.getD 0 []).length by have := G.m1; omega)
    exact (hrow _ hd).2 _ (getD_mem0 _ _ (by rw [hl]; exact hm))
  refine ⟨G.shp, ⟨⟨⟨G.n1, hv.1.2⟩, G.m1, (hrow 0 G.n1).1⟩, flat_grid_len G, fun j hj => ?_⟩, hnum, hg⟩
  have := hnum j hj
  omega
/-- Sand that burns. -/
def burnsX (h : List (List Int)) : Prop := vSand h = true ∧ burnsP h.length (h.getD 0 []).length h.flatten
def BurnsPost (h : List (List Int)) (w : World) (e : Ending) (w' : World) : Prop := ∃ B : Bool, e = .returned (.bool B) ∧ (B = true ↔ burnsX h) ∧ Grew w w'

set_option maxRecDepth 100000 in
set_option maxHeartbeats 8000000 in
theorem Burns_any (v : Value) (h : List (List Int)) (w : World) (hv : RowsV w v h) (hS : Steps w) :
    Calls Tryd.prog 34 #[v] w (BurnsPost h w) := by
  have HV : Hid (∀ W, Grew w W → Calls Tryd.prog 48 #[v] W fun e w' => e = .returned (.bool (vSand h)) ∧ W = w') := fun W hW => ValidSand_any v h W (hv.grew hW)
  have HR := Lib.hid hv
  have HST := Lib.hid hS
  obtain ⟨a, b, o, c, ev, _, _, _⟩ := hv.shape
  clear hv hS
  cases hs : vSand h with
  | false =>
    rw [hs] at HV
    have HB : Hid (¬ burnsX h) := Lib.hid fun hb => by rw [hb.1] at hs; exact absurd hs (by simp)
    clear hs
    subst ev
    go_enter Tryd.func34, Tryd.ntmps34
    go_wp2_with (fail)
    refine (HV.out _ ((Grew.refl _).alloc _)).mono ?_
    rintro e w1 ⟨rfl, rfl⟩
    go_wp2
    go_ret
    exact ⟨false, rfl, ⟨fun h => absurd h (by simp), fun hb => absurd hb HB.out⟩, (Grew.refl _).alloc _⟩
  | true =>
    rw [hs] at HV
    obtain ⟨G, hsd, hnum, hgr⟩ := sand_of hs
    obtain ⟨n, en⟩ : ∃ n, h.length = n := ⟨_, rfl⟩
    obtain ⟨m, em⟩ : ∃ m, (h.getD 0 []).length = m := ⟨_, rfl⟩
    have hbx : burnsX h ↔ burnsP n m h.flatten := by
      rw [← en, ← em]
      exact ⟨fun h => h.2, fun h' => ⟨hs, h'⟩⟩
    obtain ⟨N, eN⟩ : ∃ N, n * m = N := ⟨_, rfl⟩
    rw [en, em] at hsd hnum
    rw [em] at G
    have hbox := hsd.box
    have hN1 : 1 ≤ N := by rw [← eN]; exact Nat.mul_pos hbox.1.1 hbox.2.1
    have hN16 : N ≤ 16 := by rw [← eN]; exact Nat.mul_le_mul hbox.1.2 hbox.2.2
    have HK : Hid (∀ W, Grew w W → Calls Tryd.prog 56 #[v] W (FlatPost W h.flatten)) := fun W hW =>
      slicesConcat_any _ h W (HR.out.grew hW) G.n1 (Nat.le_trans G.n5 (by decide)) (fun r hr => by have := G.len r hr; have := G.m1; have := G.m5; omega)
    have HCB : Hid (∀ (I : Nat) W, Grew w W → I < N → Calls Tryd.prog 62 #[v, .int .i64 I] W (OwnI W (aroundL n m I))) := fun I W hW hI => by
      have := cellsBesideS_any _ h I W (HR.out.grew hW) (by rw [em]; exact G) (by rw [en, em, eN]; exact hI) (HST.out.grew hW)
      rw [en, em] at this
      exact this
    have hxl := hsd.len
    rw [eN] at hxl
    obtain ⟨x, ex⟩ : ∃ x, h.flatten = x := ⟨_, rfl⟩
    rw [ex] at HK hxl hsd hnum hbx
    have HWH : Hid (∀ (A C D gN cN gB : Nat) (bs : List Bool) W, BurnMem w W v A C D gN cN gB N x bs →
        Calls Tryd.prog 64 #[v, .func (.func 60) #[] #[.pointer (some ⟨A, 0, none⟩), .pointer (some ⟨D, 0, none⟩), .pointer (some ⟨C, 0, none⟩)]] W (fun e w' => ∃ a c, e = .returned (.slice a (whereL N (mayB n m x bs)).length c) ∧ IntsO 3 W.heap.size w'.heap.size w' (.slice a (whereL N (mayB n m x bs)).length c) (whereL N (mayB n m x bs)) ∧ Grew W w')) := fun A C D gN cN gB bs W hM =>
      cellsWhereS_any _ h N (mayB n m x bs) 60 #[.pointer (some ⟨A, 0, none⟩), .pointer (some ⟨D, 0, none⟩), .pointer (some ⟨C, 0, none⟩)] (enters_of Tryd.func60 (by kernel_rfl) rfl) W (HR.out.grew hM.grew) (by rw [em]; exact G) (by rw [en, em, eN]) fun I W' hW' hI =>
        burnClo_any w A C D gN cN gB n m N _ x bs hbox eN HCB.out ⟨_, _, _, ev⟩ I W' hI (hM.later hW')
    have HNM := Lib.hid (And.intro eN (And.intro hbox (And.intro hxl hbx)))
    have hmf : ∀ (fn : Fn) (first cap : Array Value) (w : World), (Instr.makeFunc fn first cap).run Tryd.prog w = .ok (.func fn first cap) w := fun _ _ _ _ => rfl
    clear hs G hsd hnum hgr en em hbx eN hbox hxl ex HST
    subst ev
    go_enter Tryd.func34, Tryd.ntmps34
    go_wp2_with (fail)
    refine (HV.out _ ((Grew.refl _).alloc _)).mono ?_
    rintro e w1 ⟨rfl, rfl⟩
    go_wp2_with (fail)
    refine (HK.out _ ((Grew.refl _).alloc _)).mono ?_
    rintro e w2 ⟨gN, cN, rfl, hO2, hg2⟩
    have hsA : w2.cell? ⟨w.heap.size, 0, none⟩ = some (.slice a h.length c) := hg2.cell (by simp)
    have hbl := hO2.blk
    simp only [World.size_alloc] at hbl
    have H2 : Hid (IntsO 3 (w.heap.size + 1) w2.heap.size w2 (.slice (some ⟨gN, 0, none⟩) x.length cN) x ∧ Grew w w2 ∧ w2.cell? ⟨w.heap.size, 0, none⟩ = some (.slice a h.length c) ∧ w.heap.size + 1 ≤ gN ∧ gN < w2.heap.size) := ⟨by simpa using hO2, ((Grew.refl _).alloc _).trans hg2, hsA, hbl.1, hbl.2⟩
    have hxl := HNM.out.2.2.1
    rw [hxl] at H2 ⊢
    clear hO2 hg2 hbl hxl hsA
    have HX : Hid (Calls Tryd.prog 59 #[.slice (some ⟨gN, 0, none⟩) N cN] (w2.alloc (.cells #[.slice (some ⟨gN, 0, none⟩) N cN] 27)) (MaxPost x (w2.alloc (.cells #[.slice (some ⟨gN, 0, none⟩) N cN] 27)))) :=
      slicesMax_any _ x _ (H2.out.1.grew ((Grew.refl _).alloc _)).toV (by rw [HNM.out.2.2.1]; exact hN1)
    go_wp2_with (fail)
    refine HX.out.mono ?_
    rintro e w3 ⟨M, rfl, hM, rfl⟩
    by_cases h4 : 4 ≤ M
    · have HB : Hid (¬ burnsX h) := Lib.hid fun hb => by
        obtain ⟨i, hi, ei⟩ := hM.1
        rw [HNM.out.2.2.1] at hi
        have := (HNM.out.2.2.2.1 hb).1 i (by rw [HNM.out.1]; exact hi)
        omega
      clear hM
      go_wp2
      go_ret
      exact ⟨false, rfl, ⟨fun h => absurd h (by simp), fun hb => absurd hb HB.out⟩, H2.out.2.1.alloc _⟩
    · have HC : Hid (∀ i, i < n * m → x.getD i 0 < 4) := Lib.hid fun i hi => by
        have := hM.2 i (by rw [HNM.out.2.2.1, ← HNM.out.1]; exact hi)
        omega
      have hd4 : decide (4 ≤ M) = false := decide_eq_false h4
      clear hM HX
      go_wp2_with (at_make; refine wpList_make_bools rfl (.tmp 18) (.tmp 18) 55 rfl Tryd.underlying55 Tryd.infoBool rfl rfl rfl rfl (by omega) ?_; intro w4 hO4 hg4 hs4; have hsa : (w4.alloc (.cells #[.slice (some ⟨w2.heap.size + 1, 0, none⟩) N N] 55)).cell? ⟨w.heap.size, 0, none⟩ = some (.slice a h.length c) := ((((Grew.refl _).alloc _).trans hg4).alloc _).cell H2.out.2.2.1)
      have hM0 : BurnMem w (w4.alloc (.cells #[.slice (some ⟨w2.heap.size + 1, 0, none⟩) N N] 55)) (.slice a h.length c) w.heap.size w2.heap.size w4.heap.size gN cN (w2.heap.size + 1) N x (List.replicate N false) := by
        have hg24 : Grew w2 w4 := ((Grew.refl _).alloc _).trans hg4
        have hgA : Grew w2 (w4.alloc (.cells #[.slice (some ⟨w2.heap.size + 1, 0, none⟩) N N] 55)) := hg24.alloc _
        have h1 := hg24.size
        have h2 := H2.out.2.1.size
        have h3 := H2.out.2.2.2
        simp only [World.size_alloc] at hs4 hO4
        refine ⟨hgA.cell H2.out.2.2.1, (hg4.alloc _).cell (by simp), by simp, fun i hi => hgA.cell (H2.out.1.at rfl (by rw [HNM.out.2.2.1]; exact hi)).1, (hO4.at1).grew ((Grew.refl _).alloc _) |>.wide (Nat.le_refl _) (Nat.le_refl _), by simp, ⟨by omega, by omega, by omega, by omega⟩, by omega, ⟨by simp; omega, by simp; omega, by simp, by simp; omega, by simp; omega⟩, H2.out.2.1.trans hgA⟩
      have HM0 := Lib.hid hM0
      clear hO4 hg4 hs4 hM0 hsa
      refine (HWH.out _ _ _ _ _ _ _ _ HM0.out).mono ?_
      rintro e w6 ⟨a6, c6, rfl, hO6, hg6⟩
      have HI0 : Hid (BurnMem w w6 (.slice a h.length c) w.heap.size w2.heap.size w4.heap.size gN cN (w2.heap.size + 1) N x (List.replicate N false) ∧ KeepsOut n m x (List.replicate N false) ∧ IntsV w6 (.slice a6 (whereL N (mayB n m x (List.replicate N false))).length c6) (whereL N (mayB n m x (List.replicate N false))) ∧ (∀ g o, a6 = some ⟨g, o, none⟩ → 0 < (whereL N (mayB n m x (List.replicate N false))).length → w2.heap.size + 1 < g)) :=
        ⟨HM0.out.later hg6, by have := KeepsOut.nil n m x; rwa [HNM.out.1] at this, hO6.toV, fun g o e h0 => by have := hO6.blkOf g o e h0; have := HM0.out.lt; omega⟩
      obtain ⟨L6, hL6⟩ : ∃ L, (whereL N (mayB n m x (List.replicate N false))).length = L := ⟨_, rfl⟩
      rw [hL6] at HI0 ⊢
      have HL6 := Lib.hid hL6.symm
      have HLB : Hid (leftB (List.replicate N false) ≤ N) := Lib.hid (by have := leftB_le (List.replicate N false); simpa using this)
      clear hO6 hg6 HM0 hL6 hd4
      go_wp2_with (fail)
      go_loopg [6] N (fun gk cv wr => ∃ (L : Nat) (bs : List Bool) (sa : Option Addr) (sc : Nat), cv = .slice sa L sc ∧ Hid (L = (whereL N (mayB n m x bs)).length ∧ BurnMem w wr (.slice a h.length c) w.heap.size w2.heap.size w4.heap.size gN cN (w2.heap.size + 1) N x bs ∧ KeepsOut n m x bs ∧ IntsV wr cv (whereL N (mayB n m x bs)) ∧ (∀ g o, sa = some ⟨g, o, none⟩ → 0 < L → w2.heap.size + 1 < g) ∧ leftB bs ≤ gk))
      case atStart => exact ⟨L6, _, a6, c6, rfl, HL6.out, HI0.out.1, HI0.out.2.1, HI0.out.2.2.1, HI0.out.2.2.2, HLB.out⟩
      case round =>
        obtain ⟨L, bs, sa, sc, rfl, HI⟩ := hrel
        clear HI0 HL6
        have hLN : L ≤ 16 := by rw [HI.out.1]; have := whereL_len N (mayB n m x bs); omega
        by_cases hL : 0 < L
        · have hL' : (0 : Int) < L := by omega
          obtain ⟨gn, rfl⟩ : ∃ gn : Nat, gn = gk := ⟨_, rfl⟩
          obtain ⟨wo, rfl⟩ : ∃ wo : World, wo = wr := ⟨_, rfl⟩
          obtain ⟨a5', b5, o5, c5', e5, ⟨hlc5, hcb5⟩, ha5, HC5⟩ := HI.out.2.2.2.1.shape
          simp only [Value.slice.injEq] at e5
          obtain ⟨rfl, -, rfl⟩ := e5
          rw [← HI.out.1] at ha5 hlc5
          obtain rfl := ha5 hL
          have HB5 : Hid (w2.heap.size + 1 < b5) := Lib.hid (HI.out.2.2.2.2.1 b5 o5 rfl hL)
          clear ha5 hlc5
          go_wp2_with (fail)
          go_loopg [32] L (fun gk kv wi => ∃ (j : Nat) (bj : List Bool), kv = .int .i64 j ∧ j ≤ L ∧ L ≤ gk + j ∧ Hid (BurnMem w wi (.slice a h.length c) w.heap.size w2.heap.size w4.heap.size gN cN (w2.heap.size + 1) N x bj ∧ KeepsOut n m x bj ∧ Within (w2.heap.size + 1) (w2.heap.size + 1 + 1) wo wi ∧ leftB bj ≤ leftB bs ∧ (0 < j → leftB bj < leftB bs) ∧ (j = 0 → bj = bs)))
          case atStart => exact ⟨0, bs, rfl, Nat.zero_le _, Nat.le_refl _, HI.out.2.1, HI.out.2.2.1, Within.refl _ _ _, Nat.le_refl _, fun h => absurd h (Nat.lt_irrefl _), fun _ => rfl⟩
          case round =>
            obtain ⟨j, bj, rfl, hj, hgj, HJ⟩ := hrel
            by_cases hlt : j < L
            · obtain ⟨i, ei, hi, hmay⟩ := whereL_at (N := N) (P := mayB n m x bs) (j := j) (by rw [← HI.out.1]; exact hlt)
              have hck := HJ.out.2.2.1.cell (HC5.out j (by rw [← HI.out.1]; exact hlt)) (by have := HB5.out; show b5 < _ ∨ _ ≤ b5; omega)
              rw [ei] at hck
              have hmi := mayB_iff.1 hmay
              have HM1 := Lib.hid (HJ.out.1.set i)
              have HK1 := Lib.hid (HJ.out.2.1.burn HNM.out.2.1 HI.out.2.2.1 (by rw [HNM.out.1]; exact hi) hmi.2)
              have HW1 := Lib.hid (HJ.out.2.2.1.setCell (p := ⟨w2.heap.size + 1, i, none⟩) (Nat.le_refl _) (Nat.lt_succ_self _) (.bool true))
              have hls := leftB_set bj i
              have HLS : Hid (leftB (bj.set i true) < leftB bs) := Lib.hid (by
                rcases Nat.eq_zero_or_pos j with h0 | h0
                · have e := HJ.out.2.2.2.2.2 h0
                  have := hls.2 (by rw [HJ.out.1.blen]; exact hi) (by rw [e]; exact hmi.1)
                  rw [e] at this ⊢
                  exact this
                · have := HJ.out.2.2.2.2.1 h0
                  omega)
              have hbx := HJ.out.1.bbox
              have hz := (HJ.out.1.at hi).1
              have hzf := (HJ.out.1.at hi).2
              have hi' : (i : Int) < N := by omega
              have hji : (j : Int) < L := by omega
              clear ei hmay hmi hls
              go_wp2
              go_roundg (gk - 1)
              case measure => omega
              case rel => exact ⟨j + 1, bj.set i true, by go_num, by omega, by omega, HM1.out, HK1.out, HW1.out, by have := HLS.out; omega, fun _ => HLS.out, fun h => absurd h (by omega)⟩
            · obtain rfl : j = L := by omega
              have hsb := HJ.out.1.sbox
              go_wp2_with (fail)
              refine (HWH.out _ _ _ _ _ _ _ _ HJ.out.1).mono ?_
              rintro e w7 ⟨a7, c7, rfl, hO7, hg7⟩
              have HS7 : Hid (BurnMem w w7 (.slice a h.length c) w.heap.size w2.heap.size w4.heap.size gN cN (w2.heap.size + 1) N x bj ∧ IntsV w7 (.slice a7 (whereL N (mayB n m x bj)).length c7) (whereL N (mayB n m x bj)) ∧ (∀ g o, a7 = some ⟨g, o, none⟩ → 0 < (whereL N (mayB n m x bj)).length → w2.heap.size + 1 < g)) :=
                ⟨HJ.out.1.later hg7, hO7.toV, fun g o e h0 => by have := hO7.blkOf g o e h0; have := HJ.out.1.lt; omega⟩
              have HLL := Lib.hid (HJ.out.2.2.2.2.1 hL)
              have HGN := Lib.hid HI.out.2.2.2.2.2
              obtain ⟨L7, hL7⟩ : ∃ L, (whereL N (mayB n m x bj)).length = L := ⟨_, rfl⟩
              rw [hL7] at HS7 ⊢
              have HL7 := Lib.hid hL7.symm
              clear hO7 hg7 hL7 hsb
              go_wp2
              go_roundg (gn - 1)
              case measure => have := HLL.out; have := HGN.out; omega
              case rel => exact ⟨L7, bj, a7, c7, rfl, HL7.out, HS7.out.1, HJ.out.2.1, HS7.out.2.1, HS7.out.2.2, by have := HLL.out; have := HGN.out; omega⟩
        · have hL0 : L = 0 := by omega
          have hnone := whereL_zero (N := N) (P := mayB n m x bs) (by rw [← HI.out.1]; exact hL0)
          have HE : Hid ((∃ t, t < N ∧ bs.getD t false = false) ↔ ¬ burnsX h) := Lib.hid (by
            rw [HNM.out.2.2.2]
            constructor
            · rintro ⟨t, ht, hf⟩ ⟨_, hno⟩
              have := burn_end (b := bs) hno (fun i hi hb hm => by
                have := hnone i (by rw [← HNM.out.1]; exact hi)
                rw [mayB_iff.2 ⟨hb, hm⟩] at this
                exact absurd this (by simp)) t (by rw [HNM.out.1]; exact ht)
              rw [hf] at this
              exact absurd this (by simp)
            · intro hn
              refine Classical.byContradiction fun hne => hn ⟨HC.out, HI.out.2.2.1.all fun i hi => ?_⟩
              cases hb : bs.getD i false with
              | true => rfl
              | false => exact absurd ⟨i, by rw [← HNM.out.1]; exact hi, hb⟩ hne)
          have hbx := HI.out.2.1.bbox
          have HCF := Lib.hid (containsFalse_any (w2.heap.size + 1) N N bs wr HI.out.2.1.blen (fun i hi => (HI.out.2.1.at hi).1) (by omega))
          have hL' : ¬ (0 : Int) < L := by omega
          have HG := Lib.hid HI.out.2.1.grew
          clear hnone hL0
          go_wp2_with (fail)
          refine HCF.out.mono ?_
          rintro e w8 ⟨B, rfl, hB, rfl⟩
          rw [HE.out] at hB
          have HB := Lib.hid hB
          clear hB
          go_wp2
          go_ret
          refine ⟨_, rfl, ?_, HG.out⟩
          have := HB.out
          cases B with
          | true => exact ⟨fun h => absurd h (by simp), fun h => absurd h (this.1 rfl)⟩
          | false => exact ⟨fun _ => Classical.byContradiction fun hn => absurd (this.2 hn) (by simp), fun _ => rfl⟩
end Go.Proofs.YthgafljbbkgldaaDoor
