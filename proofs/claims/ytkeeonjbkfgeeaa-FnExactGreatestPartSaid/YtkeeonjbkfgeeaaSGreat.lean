/- The contract of spec.GreatestPart: sums of columns that end, row by row. -/
import Derived.Test.YtkeeonjbkfgeeaaSGrid
import Derived.Test.YtkeeonjbkfgeeaaGreat
namespace Go.Proofs.Ytkeeonjbkfgeeaa
open Go.RowKit

/-! The greatest part by sums of columns that end. -/
def SeenT (h : List (List Int)) (s : Int) (n m t : Nat) (v : Int) : Prop := ∃ t' b l r : Nat, t' < t ∧ t' < b ∧ b ≤ n ∧ l < r ∧ r ≤ m ∧ v = valS h s t' l b r
def SeenB (h : List (List Int)) (s : Int) (m t b : Nat) (v : Int) : Prop := ∃ b' l r : Nat, t < b' ∧ b' ≤ b ∧ l < r ∧ r ≤ m ∧ v = valS h s t l b' r
def SeenL (h : List (List Int)) (s : Int) (t b c : Nat) (v : Int) : Prop := ∃ l r : Nat, l < r ∧ r ≤ c ∧ v = valS h s t l (b + 1) r
def SeenE (h : List (List Int)) (s : Int) (t b c : Nat) (v : Int) : Prop := ∃ l, l < c ∧ v = valS h s t l (b + 1) c
theorem kad_init (h : List (List Int)) (s : Int) (n m : Nat) : Bst (SeenT h s n m 0) 0 := Bst.none fun v ⟨t', _, _, _, h, _⟩ => by omega
theorem kad_b0 {h : List (List Int)} {s : Int} {n m t : Nat} {x : Int} (hb : Bst (SeenT h s n m t) x) : Bst (fun v => SeenT h s n m t v ∨ SeenB h s m t t v) x :=
  hb.congr fun v => ⟨.inl, fun e => e.elim id fun ⟨_, _, _, h1, h2, _⟩ => by omega⟩
theorem kad_l0 {h : List (List Int)} {s : Int} {n m t b : Nat} {x : Int} (hb : Bst (fun v => SeenT h s n m t v ∨ SeenB h s m t b v) x) : Bst (fun v => (SeenT h s n m t v ∨ SeenB h s m t b v) ∨ SeenL h s t b 0 v) x :=
  hb.congr fun v => ⟨.inl, fun e => e.elim id fun ⟨_, _, h1, h2, _⟩ => by omega⟩
theorem kad_e0 (h : List (List Int)) (s : Int) (t b : Nat) : Bst (SeenE h s t b 0) 0 := Bst.none fun v ⟨_, h, _⟩ => by omega
theorem kad_e {h : List (List Int)} {s : Int} {t b c : Nat} {x : Int} (hx : Bst (SeenE h s t b c) x) : Bst (SeenE h s t b (c + 1)) (max (x + colS h s t (b + 1) c) 0) := kad_next hx
theorem kad_l {h : List (List Int)} {s : Int} {n m t b c : Nat} {x y : Int} (hb : Bst (fun v => (SeenT h s n m t v ∨ SeenB h s m t b v) ∨ SeenL h s t b c v) x) (hy : Bst (SeenE h s t b (c + 1)) y) :
    Bst (fun v => (SeenT h s n m t v ∨ SeenB h s m t b v) ∨ SeenL h s t b (c + 1) v) (max x y) := by
  refine (hb.join hy).congr fun v => ⟨?_, ?_⟩
  · rintro ((e | ⟨l, r, h1, h2, e⟩) | ⟨l, h1, e⟩)
    · exact .inl e
    · exact .inr ⟨l, r, h1, by omega, e⟩
    · exact .inr ⟨l, c + 1, h1, Nat.le_refl _, e⟩
  · rintro (e | ⟨l, r, h1, h2, e⟩)
    · exact .inl (.inl e)
    · by_cases hr : r = c + 1
      · subst hr; exact .inr ⟨l, h1, e⟩
      · exact .inl (.inr ⟨l, r, h1, by omega, e⟩)
theorem kad_b {h : List (List Int)} {s : Int} {n m t b : Nat} {x : Int} (ht : t ≤ b) (hb : Bst (fun v => (SeenT h s n m t v ∨ SeenB h s m t b v) ∨ SeenL h s t b m v) x) : Bst (fun v => SeenT h s n m t v ∨ SeenB h s m t (b + 1) v) x := by
  refine hb.congr fun v => ⟨?_, ?_⟩
  · rintro ((e | ⟨b', l, r, h1, h2, h3, h4, e⟩) | ⟨l, r, h1, h2, e⟩)
    · exact .inl e
    · exact .inr ⟨b', l, r, h1, by omega, h3, h4, e⟩
    · exact .inr ⟨b + 1, l, r, by omega, Nat.le_refl _, h1, h2, e⟩
  · rintro (e | ⟨b', l, r, h1, h2, h3, h4, e⟩)
    · exact .inl (.inl e)
    · by_cases hr : b' = b + 1
      · subst hr; exact .inr ⟨l, r, h3, h4, e⟩
      · exact .inl (.inr ⟨b', l, r, h1, by omega, h3, h4, e⟩)
theorem kad_t {h : List (List Int)} {s : Int} {n m t : Nat} {x : Int} (hb : Bst (fun v => SeenT h s n m t v ∨ SeenB h s m t n v) x) : Bst (SeenT h s n m (t + 1)) x := by
  refine hb.congr fun v => ⟨?_, ?_⟩
  · rintro (⟨t', b, l, r, h1, h2, e⟩ | ⟨b, l, r, h1, h2, h3, h4, e⟩)
    · exact ⟨t', b, l, r, by omega, h2, e⟩
    · exact ⟨t, b, l, r, by omega, h1, h2, h3, h4, e⟩
  · rintro ⟨t', b, l, r, h1, h2, h3, h4, h5, e⟩
    by_cases ht : t' = t
    · subst ht; exact .inr ⟨b, l, r, h2, h3, h4, h5, e⟩
    · exact .inl ⟨t', b, l, r, by omega, h2, h3, h4, h5, e⟩
theorem kad_end {h : List (List Int)} {s : Int} {n m : Nat} {x : Int} (hb : Bst (SeenT h s n m n) x) : x = greatL h s n m := by
  refine Bst.unique (P := IsVal h s n m) (hb.congr fun v => ⟨?_, ?_⟩) (greatL_best h s n m)
  · rintro ⟨t, b, l, r, _, h2, h3, h4, h5, e⟩
    exact ⟨t, b, l, r, h2, h3, h4, h5, e⟩
  · rintro ⟨t, b, l, r, h2, h3, h4, h5, e⟩
    exact ⟨t, b, l, r, by omega, h2, h3, h4, h5, e⟩
/-- Bounds come from what is told. -/
theorem Bst.bd {P : Int → Prop} {x : Int} (h : Bst P x) (B : Int) (hB : 0 ≤ B) (k : ∀ v, P v → v ≤ B) : 0 ≤ x ∧ x ≤ B := by
  refine ⟨h.1, ?_⟩
  rcases h.2.2 with e | e
  · omega
  · exact k x e
def rowK (h : List (List Int)) (s : Int) (m t b c : Nat) : List Int := (List.range m).map fun j => if j < c then colS h s t (b + 1) j else colS h s t b j
theorem rowK_len (h : List (List Int)) (s : Int) (m t b c : Nat) : (rowK h s m t b c).length = m := by simp [rowK]
theorem rowK_at (h : List (List Int)) (s : Int) (m t b c j : Nat) (hj : j < m) : (rowK h s m t b c).getD j 0 = if j < c then colS h s t (b + 1) j else colS h s t b j := by simp [rowK, hj]
theorem rowK_zero (h : List (List Int)) (s : Int) (m t : Nat) : rowK h s m t t 0 = List.replicate m 0 := by
  apply List.ext_getElem
  · simp [rowK]
  · intro i h1 h2
    simp [rowK, colS, sumTo]
theorem rowK_next (h : List (List Int)) (s : Int) (m t b : Nat) : rowK h s m t b m = rowK h s m t (b + 1) 0 := by
  unfold rowK
  refine List.map_congr_left fun j hj => ?_
  rw [if_pos (List.mem_range.1 hj), if_neg (Nat.not_lt_zero _)]
theorem rowK_set (h : List (List Int)) (s : Int) (m t b c : Nat) (_hc : c < m) : (rowK h s m t b c).set c (colS h s t (b + 1) c) = rowK h s m t b (c + 1) := by
  apply List.ext_getElem
  · simp [rowK]
  · intro j h1 h2
    simp only [rowK, List.getElem_set, List.getElem_map, List.getElem_range]
    by_cases e : c = j
    · subst e; simp
    · rw [if_neg e]
      by_cases h3 : j < c
      · rw [if_pos h3, if_pos (by omega)]
      · rw [if_neg h3, if_neg (by omega)]

set_option maxRecDepth 100000 in
set_option maxHeartbeats 8000000 in
theorem SGreatestPart_any (v : Value) (h : List (List Int)) (s : Int) (w : World) (hv : RowsV w v h) :
    Calls Try.prog 24 #[v, .int .i64 s] w fun e w' => e = .returned (.int .i64 (greatX h s)) ∧ Grew w w' := by
  have HK := Lib.hid (sValidGrid_any v h w hv)
  unfold greatX
  cases hp : vGrid h with
  | false =>
    rw [hp] at HK
    obtain ⟨sa, sb, so, sc, rfl, _, _, _⟩ := hv.shape
    clear hp hv
    go_enter Try.func24, Try.ntmps24
    go_wp2_with (fail)
    refine HK.out.mono ?_
    rintro e w1 ⟨rfl, hg1⟩
    have HG1 := Lib.hid hg1
    clear hg1
    go_wp2
    go_ret
    exact ⟨ret_int (by simp), HG1.out⟩
  | true =>
    rw [hp] at HK
    rw [if_pos rfl]
    have HIR := Lib.hid (fun W => inRange_any s 0 12 W)
    by_cases h012 : 0 ≤ s ∧ s ≤ 12
    · rw [if_pos h012]
      have hir : inR s 0 12 = true := by simp [inR]; omega
      rw [hir] at HIR
      obtain ⟨h0, h12⟩ := h012
      have G := Grid.of hp
      obtain ⟨m, em⟩ : ∃ m, (h.getD 0 []).length = m := ⟨_, rfl⟩
      rw [em] at G ⊢
      obtain ⟨n, en⟩ : ∃ n, h.length = n := ⟨_, rfl⟩
      have hh1 := G.n1
      have hh5 := G.n5
      have hm1 := G.m1
      have hm5 := G.m5
      have HG := Lib.hid (And.intro G en)
      obtain ⟨sa, sb, so, sc, rfl, ⟨hlc, hcb⟩, ha, HC⟩ := hv.shape
      obtain rfl := ha hh1
      obtain ⟨u0, hc0, hu0⟩ := HC.out 0 hh1
      rw [Nat.add_zero] at hc0
      obtain ⟨a0, b0, o0, c0, rfl, _, _, _⟩ := hu0.shape
      rw [em] at hc0
      have HRW : Hid (∀ r, r < n → ∃ g o c, w.cell? ⟨sb, so + r, none⟩ = some (.slice (some ⟨g, o, none⟩) m c) ∧ ∀ j, j < m → w.cell? ⟨g, o + j, none⟩ = some (.int .i64 (cellS h r j))) := Lib.hid fun r hr => by
        rw [← en] at hr
        obtain ⟨u, hc, hu⟩ := HC.out r hr
        have hl : (h.getD r []).length = m := G.len r hr
        obtain ⟨a1, b1, o1, c1, rfl, _, ha1, HR⟩ := hu.shape
        rw [hl] at hc ha1 HR
        obtain rfl := ha1 (by omega)
        exact ⟨b1, o1, c1, hc, HR.out⟩
      rw [en] at HK hh1 hh5 hlc ⊢
      have hi0 : (0 : Int) < n := by omega
      have hn0 : 0 < n := hh1
      have hml : m ≤ 17592186044416 := by omega
      have HCB : Hid (∀ t b j, b ≤ n → j < m → -60 ≤ colS h s t b j ∧ colS h s t b j ≤ 60) := Lib.hid fun t b j hb hj => colS_bd G s ⟨h0, h12⟩ t b j (by omega) hj
      have HVB : Hid (∀ t l b r, b ≤ n → r ≤ m → valS h s t l b r ≤ 300) := Lib.hid fun t l b r hb hr => (valS_bd G s ⟨h0, h12⟩ t l b r (by omega) hr).2
      have HNB : Hid (∀ r j, r < n → j < m → 0 ≤ cellS h r j ∧ cellS h r j ≤ 12) := Lib.hid fun r j hr hj => G.num r (by omega) j hj
      have HC0 := Lib.hid hc0
      clear hp hv ha HC hu0 G em en hir hc0
      go_enter Try.func24, Try.ntmps24
      go_wp2_with (fail)
      refine HK.out.mono ?_
      rintro e w1 ⟨rfl, hg1⟩
      have HG1 := Lib.hid hg1
      clear hg1
      go_wp2_with (fail)
      refine (HIR.out _).mono ?_
      rintro e w2 ⟨rfl, rfl⟩
      have hc0 := HG1.out.cell HC0.out
      go_wp2
      clear hc0
      go_loopw [5, 7] (fun g i wr => ∃ (t : Nat) (x : Int), t ≤ n ∧ i = .int .i64 t ∧ g = .int .i64 x ∧ Hid (Bst (SeenT h s n m t) x) ∧ Hid (Grew w wr)) (fun _ i _ => n - (intOf i).toNat)
      case atStart => exact ⟨0, 0, Nat.zero_le _, rfl, rfl, kad_init h s n m, HG1.out⟩
      case round =>
        obtain ⟨t, x, ht, rfl, rfl, HB, HI⟩ := hrel
        by_cases hlt : t < n
        · obtain ⟨wo, rfl⟩ : ∃ wo : World, wo = wr := ⟨_, rfl⟩
          have hti : (t : Int) < n := by omega
          go_wp2_with (at_make; refine wpList_make_ints rfl (.tmp 30) (.tmp 30) 27 rfl Try.underlying27 Try.infoI rfl rfl rfl rfl hml ?_; intro w3 hO3 hg3 hs3)
          have H3 : Hid (IntsO 3 wo.heap.size w3.heap.size w3 (.slice (some ⟨wo.heap.size, 0, none⟩) m m) (rowK h s m t t 0) ∧ Grew w w3) := by
            rw [rowK_zero]; exact ⟨hO3, HI.out.trans hg3⟩
          have HWS := Lib.hid HI.out.size
          have HB0 : Hid (Bst (fun v => SeenT h s n m t v ∨ SeenB h s m t t v) x) := kad_b0 HB.out
          clear hO3 hg3
          go_loopw [5, 9] (fun g i wr => ∃ (b : Nat) (x : Int), t ≤ b ∧ b ≤ n ∧ i = .int .i64 b ∧ g = .int .i64 x ∧ Hid (Bst (fun v => SeenT h s n m t v ∨ SeenB h s m t b v) x) ∧ Hid (IntsO 3 wo.heap.size w3.heap.size wr (.slice (some ⟨wo.heap.size, 0, none⟩) m m) (rowK h s m t b 0) ∧ Grew w wr)) (fun _ i _ => n - (intOf i).toNat)
          case atStart => exact ⟨t, x, Nat.le_refl _, by omega, rfl, rfl, HB0.out, H3.out⟩
          case round =>
            obtain ⟨b, x, htb, hb, rfl, rfl, HB1, HJ⟩ := hrel
            clear HB0 H3
            by_cases hbt : b < n
            · obtain ⟨wm, rfl⟩ : ∃ wm : World, wm = wr := ⟨_, rfl⟩
              have hbi : (b : Int) < n := by omega
              obtain ⟨gr, og, cg, kr, HRC0⟩ := HRW.out b hbt
              have HRC := Lib.hid HRC0
              have HKR := Lib.hid kr
              have HB2 : Hid (Bst (fun v => (SeenT h s n m t v ∨ SeenB h s m t b v) ∨ SeenL h s t b 0 v) x) := kad_l0 HB1.out
              clear HRC0 kr
              go_wp2
              go_loopw [5, 10, 11] (fun g nw i wr => ∃ (c : Nat) (x y : Int), c ≤ m ∧ i = .int .i64 c ∧ g = .int .i64 x ∧ nw = .int .i64 y ∧ Hid (Bst (fun v => (SeenT h s n m t v ∨ SeenB h s m t b v) ∨ SeenL h s t b c v) x) ∧ Hid (Bst (SeenE h s t b c) y) ∧ Hid (IntsO 3 wo.heap.size w3.heap.size wr (.slice (some ⟨wo.heap.size, 0, none⟩) m m) (rowK h s m t b c) ∧ Grew w wr)) (fun _ _ i _ => m - (intOf i).toNat)
              case atStart => exact ⟨0, x, 0, Nat.zero_le _, rfl, rfl, rfl, HB2.out, kad_e0 h s t b, HJ.out⟩
              case round =>
                obtain ⟨c, x, y, hc, rfl, rfl, rfl, HX, HY, HL⟩ := hrel
                by_cases hct : c < m
                · have hci : (c : Int) < m := by omega
                  have hkr := HL.out.2.cell HKR.out
                  have hcl := HL.out.2.cell (HRC.out c hct)
                  obtain ⟨hel, hfr⟩ := HL.out.1.at rfl (i := c) (by rw [rowK_len]; exact hct)
                  rw [rowK_at _ _ _ _ _ _ _ hct, if_neg (Nat.lt_irrefl _)] at hel
                  have hnx := colS_next h s t b c htb
                  have hb1 := HCB.out t b c (by omega) hct
                  have hb2 := HCB.out t (b + 1) c (by omega) hct
                  have hb3 := HNB.out b c hbt hct
                  have hyb := HY.out.bd 300 (by omega) (fun v hv => by obtain ⟨l, _, rfl⟩ := hv; exact HVB.out t l (b + 1) c (by omega) (by omega))
                  have HYN := Lib.hid (kad_e HY.out)
                  have HXN := Lib.hid (kad_l HX.out HYN.out)
                  have hset := rowK_set h s m t b c hct
                  have HST : Hid (∀ z, z = colS h s t (b + 1) c → IntsO 3 wo.heap.size w3.heap.size (wr.drew.setCell ⟨wo.heap.size, c, none⟩ (.int .i64 z)) (.slice (some ⟨wo.heap.size, 0, none⟩) m m) (rowK h s m t b (c + 1)) ∧ Grew w (wr.drew.setCell ⟨wo.heap.size, c, none⟩ (.int .i64 z))) := Lib.hid fun z ez => by
                    subst ez
                    have := (HL.out.1.grew (Grew.refl _).drew).set rfl c (colS h s t (b + 1) c)
                    rw [hset] at this
                    exact ⟨this, Within.grew (lo := wo.heap.size) (hi := wo.heap.size + 1) HL.out.2.drew ((Within.refl _ _ _).setCell (p := ⟨wo.heap.size, c, none⟩) (Nat.le_refl _) (Nat.lt_succ_self _) _) HWS.out⟩
                  obtain ⟨p, ep⟩ : ∃ p, colS h s t b c = p := ⟨_, rfl⟩
                  obtain ⟨q, eq⟩ : ∃ q, colS h s t (b + 1) c = q := ⟨_, rfl⟩
                  obtain ⟨z, ez⟩ : ∃ z, cellS h b c = z := ⟨_, rfl⟩
                  rw [ep] at hel hnx hb1
                  rw [eq] at hnx hb2 HYN HXN HST
                  rw [ez] at hcl hnx hb3
                  have e1 : p + z - s = q := by omega
                  have HE := Lib.hid e1
                  have w1' : IntKind.i64.wrap (p + z) = p + z := IntWalk.i64_in _ (by omega)
                  have w2' : IntKind.i64.wrap (p + z - s) = q := by rw [e1]; exact IntWalk.i64_in _ (by omega)
                  have w3' : IntKind.i64.wrap (y + q) = y + q := IntWalk.i64_in _ (by omega)
                  have HS2 := Lib.hid (HST.out q rfl)
                  have HEQ := Lib.hid eq
                  clear ep eq ez hnx hset HST e1
                  go_wp2
                  go_still_tail 17, (by kernel_rfl)
                  change wpList _ _ _ _ _ wr.drew
                  have hel' : wr.drew.cell? ⟨wo.heap.size, c, none⟩ = some (.int .i64 p) := hel
                  have hfr' : wr.drew.frozen? ⟨wo.heap.size, c, none⟩ = false := hfr
                  obtain ⟨W3, hW3⟩ : ∃ W3, wr.drew = W3 := ⟨_, rfl⟩
                  rw [hW3] at hel' hfr' HS2 ⊢
                  clear hW3 hel hfr hkr hcl w1' w2'
                  have hq := (HS2.out.1.at rfl (i := c) (by rw [rowK_len]; exact hct)).1
                  rw [rowK_at _ _ _ _ _ _ _ hct, if_pos (Nat.lt_succ_self _), HEQ.out] at hq
                  go_wp2
                  clear w3'
                  go_roundw
                  case rel => exact ⟨c + 1, max x (max (y + q) 0), max (y + q) 0, by omega, by go_num, rfl, rfl, HXN.out, HYN.out, HS2.out⟩
                  case measure => simp [intOf]; omega
                · obtain rfl : c = m := by omega
                  have HBN : Hid (Bst (fun v => SeenT h s n c t v ∨ SeenB h s c t (b + 1) v) x) := kad_b htb HX.out
                  have HLN := HL.out
                  rw [rowK_next] at HLN
                  have HLH := Lib.hid HLN
                  clear HLN
                  go_wp2
                  go_roundw
                  case rel => exact ⟨b + 1, x, by omega, by omega, by go_num, rfl, HBN.out, HLH.out⟩
                  case measure => simp [intOf]; omega
            · obtain rfl : b = n := by omega
              have HTN : Hid (Bst (SeenT h s b m (t + 1)) x) := kad_t HB1.out
              have HGN := Lib.hid HJ.out.2
              go_wp2
              go_roundw
              case rel => exact ⟨t + 1, x, by omega, by go_num, rfl, HTN.out, HGN.out⟩
              case measure => simp [intOf]; omega
        · obtain rfl : t = n := by omega
          have HF : Hid (x = greatL h s t m) := kad_end HB.out
          go_wp2
          go_ret
          exact ⟨ret_int HF.out, HI.out⟩
    · rw [if_neg h012]
      have hir : inR s 0 12 = false := by
        cases hx : inR s 0 12 with
        | false => rfl
        | true => simp only [inR, Bool.and_eq_true, decide_eq_true_eq] at hx; exact absurd hx h012
      rw [hir] at HIR
      obtain ⟨sa, sb, so, sc, rfl, _, _, _⟩ := hv.shape
      clear hp hv hir h012
      go_enter Try.func24, Try.ntmps24
      go_wp2_with (fail)
      refine HK.out.mono ?_
      rintro e w1 ⟨rfl, hg1⟩
      have HG1 := Lib.hid hg1
      clear hg1
      go_wp2_with (fail)
      refine (HIR.out _).mono ?_
      rintro e w2 ⟨rfl, rfl⟩
      go_wp2
      go_ret
      exact ⟨rfl, HG1.out⟩
end Go.Proofs.Ytkeeonjbkfgeeaa
