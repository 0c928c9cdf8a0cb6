/- The contract of impl.costsOfOneTerraceMore. -/
import Derived.Test.YtlifjhhjkcmneaaTerr
namespace Go.Proofs.Ytlifjhhjkcmneaa
open Go.RowKit

/-- The costs when those of the places below e are for one terrace more, and of e over the beginnings below s. -/
def mixT (f : Nat → Int) (k n e s : Nat) : List Int := (List.range (n + 1)).map fun x => if x < e then terrT f (k + 1) x else if x = e then mnTo (terrT f k e) (fun s => terrT f k s + levT f s e) s else terrT f k x
def terrL (f : Nat → Int) (k n : Nat) : List Int := (List.range (n + 1)).map fun x => terrT f k x
theorem mixT_len (f : Nat → Int) (k n e s : Nat) : (mixT f k n e s).length = n + 1 := by simp [mixT]
theorem terrL_len (f : Nat → Int) (k n : Nat) : (terrL f k n).length = n + 1 := by simp [terrL]
theorem mixT_at (f : Nat → Int) (k n e s x : Nat) (h : x < n + 1) : (mixT f k n e s).getD x 0 = if x < e then terrT f (k + 1) x else if x = e then mnTo (terrT f k e) (fun s => terrT f k s + levT f s e) s else terrT f k x := by simp [mixT, h]
theorem terrL_at (f : Nat → Int) (k n x : Nat) (h : x < n + 1) : (terrL f k n).getD x 0 = terrT f k x := by simp [terrL, h]
theorem mixT_start (f : Nat → Int) (k n : Nat) : mixT f k n 0 0 = terrL f k n := ext_at' (by rw [mixT_len, terrL_len]) fun i hi => by
  rw [mixT_len] at hi
  rw [mixT_at _ _ _ _ _ _ hi, terrL_at _ _ _ _ hi, if_neg (Nat.not_lt_zero _)]
  by_cases e : i = 0
  · rw [if_pos e, e]; rfl
  · rw [if_neg e]
theorem mixT_next (f : Nat → Int) (k n e : Nat) : mixT f k n e e = mixT f k n (e + 1) 0 := ext_at' (by rw [mixT_len, mixT_len]) fun i hi => by
  rw [mixT_len] at hi
  rw [mixT_at _ _ _ _ _ _ hi, mixT_at _ _ _ _ _ _ hi]
  by_cases h1 : i < e
  · rw [if_pos h1, if_pos (by omega)]
  · rw [if_neg h1]
    by_cases h2 : i = e
    · rw [if_pos h2, if_pos (by omega), h2]; rfl
    · rw [if_neg h2, if_neg (by omega)]
      by_cases h3 : i = e + 1
      · rw [if_pos h3, h3]; rfl
      · rw [if_neg h3]
theorem mixT_end (f : Nat → Int) (k n : Nat) : mixT f k n (n + 1) 0 = terrL f (k + 1) n := ext_at' (by rw [mixT_len, terrL_len]) fun i hi => by
  rw [mixT_len] at hi
  rw [mixT_at _ _ _ _ _ _ hi, terrL_at _ _ _ _ hi, if_pos hi]
theorem mixT_set (f : Nat → Int) (k n e s : Nat) (h : e < n + 1) : (mixT f k n e s).set e (min (mnTo (terrT f k e) (fun s => terrT f k s + levT f s e) s) (terrT f k s + levT f s e)) = mixT f k n e (s + 1) := ext_at' (by rw [List.length_set, mixT_len, mixT_len]) fun i hi => by
  rw [List.length_set, mixT_len] at hi
  rw [getD_setR _ _ _ (by rw [mixT_len]; exact h), mixT_at _ _ _ _ _ _ hi, mixT_at _ _ _ _ _ _ hi]
  by_cases e1 : i = e
  · rw [if_pos e1, if_neg (by omega), if_pos e1]; rfl
  · rw [if_neg e1, if_neg e1, if_neg e1]
theorem terrT_bd (f : Nat → Int) (n : Nat) (hb : ∀ i, i < n → 0 ≤ f i ∧ f i ≤ 12) (h9 : n ≤ 9) : ∀ k e, e ≤ n → 0 ≤ terrT f k e ∧ terrT f k e ≤ 109
  | 0, e, _ => by rw [terrT]; split <;> omega
  | k + 1, e, he => by
    have h1 := terrT_bd f n hb h9 k e he
    rw [terrT]
    have h2 := (mnTo_le (terrT f k e) (fun s => terrT f k s + levT f s e) e).1
    rcases mnTo_at (terrT f k e) (fun s => terrT f k s + levT f s e) e with h | ⟨y, hy, h⟩
    · rw [h]; exact h1
    · have h3 := terrT_bd f n hb h9 k y (by omega)
      have h4 := levT_bd f n y e hb he
      rw [h] at h2 ⊢
      omega
theorem mnTo_bd (f : Nat → Int) (n : Nat) (hb : ∀ i, i < n → 0 ≤ f i ∧ f i ≤ 12) (h9 : n ≤ 9) (k e s : Nat) (he : e ≤ n) (hs : s ≤ e) : 0 ≤ mnTo (terrT f k e) (fun s => terrT f k s + levT f s e) s ∧ mnTo (terrT f k e) (fun s => terrT f k s + levT f s e) s ≤ 109 := by
  have h1 := terrT_bd f n hb h9 k e he
  have h2 := (mnTo_le (terrT f k e) (fun s => terrT f k s + levT f s e) s).1
  rcases mnTo_at (terrT f k e) (fun s => terrT f k s + levT f s e) s with h | ⟨y, hy, h⟩
  · rw [h]; exact h1
  · have h3 := terrT_bd f n hb h9 k y (by omega)
    have h4 := levT_bd f n y e hb he
    rw [h] at h2 ⊢
    omega

set_option maxRecDepth 100000 in
set_option maxHeartbeats 8000000 in
theorem oneTerraceMore_any (v : Value) (p : List Int) (f : Nat → Int) (k : Nat) (gb cb : Nat) (w : World) (hv : IntsV w v p) (hp : vProf p = true) (hf : ∀ i, p.getD i 0 = f i) (hu : IntsV w (.slice (some ⟨gb, 0, none⟩) (p.length + 1) cb) (terrL f k p.length)) :
    Calls Try.prog 70 #[v, .slice (some ⟨gb, 0, none⟩) (p.length + 1) cb] w (FlatPost w (terrL f (k + 1) p.length)) := by
  have h1 := ((vProf_iff p).1 hp).1
  have h9 := ((vProf_iff p).1 hp).2.1
  have hbf : ∀ i, i < p.length → 0 ≤ f i ∧ f i ≤ 12 := fun i hi => by rw [← hf i]; exact riseP_bd hp i hi
  have HTB := Lib.hid (terrT_bd f p.length hbf h9)
  have HMB := Lib.hid (mnTo_bd f p.length hbf h9)
  have HLB := Lib.hid (fun s e he => levT_bd f p.length s e hbf he)
  have HVV := Lib.hid hv
  have HPB := Lib.hid (fun s e he => part_bd hp s e he)
  have HLI := Lib.hid (levL_is p f hf)
  obtain ⟨a, b, o, c, rfl, ⟨hlc, hcb⟩, ha, HC⟩ := hv.shape
  obtain rfl := ha h1
  have hcl := hu.shape
  obtain ⟨ga, gb', go', gc, eg, ⟨hlg, hcg⟩, hga, HCG⟩ := hcl
  simp only [Value.slice.injEq] at eg
  obtain ⟨e1, e2, rfl⟩ := eg
  have e3 := hga (by rw [terrL_len]; omega)
  rw [e3] at e1
  simp only [Option.some.injEq, Addr.mk.injEq] at e1
  obtain ⟨rfl, rfl, _⟩ := e1
  have HK : Hid (Calls Try.prog 95 #[.slice (some ⟨gb, 0, none⟩) (p.length + 1) cb] w (FlatPost w (terrL f k p.length))) := by
    have := slicesClone_any gb 0 cb (terrL f k p.length) w (fun i hi => HCG.out i hi) (by rw [terrL_len]; omega) (by rw [terrL_len]; omega)
    rw [terrL_len] at this
    exact this
  obtain ⟨n, en⟩ : ∃ n, p.length = n := ⟨_, rfl⟩
  obtain ⟨n1, en1⟩ : ∃ n1, n + 1 = n1 := ⟨_, rfl⟩
  have HN := Lib.hid en
  have HN1 := Lib.hid en1
  rw [en] at HTB HMB HLB HPB HLI HVV HK HCG h1 h9 hlc ⊢
  rw [en1] at HK ⊢
  have hn1 : n1 ≤ 10 ∧ 2 ≤ n1 := by omega
  obtain ⟨hn10, hn12⟩ := hn1
  clear hv hu hp hf hbf ha en en1 hga e3 e2 hlg
  go_enter Try.func70, Try.ntmps70
  go_wp2_with (fail)
  refine HK.out.mono ?_
  rintro e w1 ⟨g, c1, rfl, hO, hg⟩
  have eL : (terrL f k n).length = n1 := by rw [terrL_len]; exact HN1.out
  rw [eL] at hO ⊢
  have H0 : Hid (IntsO 3 w.heap.size w1.heap.size w1 (.slice (some ⟨g, 0, none⟩) n1 c1) (mixT f k n 0 0) ∧ Grew w w1) := by rw [mixT_start]; exact ⟨hO, hg⟩
  have hgb := hO.blk
  clear hO hg HK eL
  go_wp2
  go_loopw [12] (fun i wr => ∃ e : Nat, e ≤ n1 ∧ i = .int .i64 e ∧ Hid (IntsO 3 w.heap.size w1.heap.size wr (.slice (some ⟨g, 0, none⟩) n1 c1) (mixT f k n e 0) ∧ Grew w wr)) (fun i _ => n1 - (intOf i).toNat)
  case atStart => exact ⟨0, Nat.zero_le _, rfl, H0⟩
  case round =>
    obtain ⟨e, he, rfl, HI⟩ := hrel
    clear H0
    by_cases hlt : e < n1
    · have hen : e ≤ n := by have := HN1.out; omega
      go_wp2
      go_loopw [16] (fun i wr => ∃ s : Nat, s ≤ e ∧ i = .int .i64 s ∧ Hid (IntsO 3 w.heap.size w1.heap.size wr (.slice (some ⟨g, 0, none⟩) n1 c1) (mixT f k n e s) ∧ Grew w wr)) (fun i _ => e - (intOf i).toNat)
      case atStart => exact ⟨0, Nat.zero_le _, rfl, HI⟩
      case round =>
        obtain ⟨s, hs, rfl, HJ⟩ := hrel
        by_cases hls : s < e
        · have hn' : e < n + 1 := by omega
          obtain ⟨hel, hfr⟩ := HJ.out.1.at rfl (i := e) (by rw [mixT_len]; exact hn')
          rw [mixT_at _ _ _ _ _ _ hn', if_neg (Nat.lt_irrefl e), if_pos rfl] at hel
          have hcs := HJ.out.2.cell (HCG.out s (by rw [terrL_len]; omega))
          rw [terrL_at _ _ _ _ (by omega), Nat.zero_add] at hcs
          have hset := mixT_set f k n e s hn'
          have hb1 := HMB.out k e s hen hs
          have hb2 := HTB.out k s (by omega)
          have hb3 := HLB.out s e hen
          have hpb := HPB.out s e hen
          have HCL : Hid (∀ W, Grew wr W → Calls Try.prog 96 #[.slice (some ⟨b, o + s, none⟩) (e - s) (c - s)] W fun e' w' => e' = .returned (.int .i64 (levT f s e)) ∧ Grew W w') := fun W hW => by
            have := levelCost_any _ _ W (IntsV.sub (HVV.out.grew (HJ.out.2.trans hW)) s e hls (by have := HN.out; omega)) hpb.2 hpb.1
            rw [HLI.out s e hen] at this
            exact this
          obtain ⟨m, em⟩ : ∃ m, mnTo (terrT f k e) (fun s => terrT f k s + levT f s e) s = m := ⟨_, rfl⟩
          obtain ⟨t, et⟩ : ∃ t, terrT f k s = t := ⟨_, rfl⟩
          obtain ⟨l, el⟩ : ∃ l, levT f s e = l := ⟨_, rfl⟩
          rw [em] at hel hset hb1
          rw [et] at hcs hset hb2
          rw [el] at hset hb3 HCL
          have HSET := Lib.hid hset
          have w1' : IntKind.i64.wrap (t + l) = t + l := wrap_small' _ (by omega) (by omega)
          have r1 : (e : Int) < n1 := by omega
          have r2 : (0 : Int) ≤ e := by omega
          have r3 : (s : Int) < n1 := by omega
          have r4 : (0 : Int) ≤ s := by omega
          have r5 : (s : Int) ≤ e := by omega
          have r6 : (e : Int) ≤ c := by omega
          have r7 : (e : Int) ≤ n := by omega
          have r8 : e - s ≤ c - s := by omega
          have r9 : ¬ c - s = 0 := by omega
          have r10 : s < n1 := by omega
          have r11 : s ≤ c := by omega
          have r12 : e ≤ c := by omega
          have r13 : ¬ c = s := by omega
          clear em et el hset hpb
          go_wp2
          go_region_with (first | (go_at_call 96; refine (HCL.out _ (by first | exact (Grew.refl wr).drew | exact (Grew.refl wr).drewN _ | exact Grew.refl wr)).mono ?_; rintro e9 w4 ⟨rfl, hg4⟩; have hel4 := hg4.cell hel; have hcs4 := hg4.cell hcs; have hfr4 := (hg4.within (g + 1) (g + 1)).frozen hel hfr (.inl (Nat.lt_succ_self g)); have HG4 : Hid (Grew wr w4) := Lib.hid (by first | exact hg4 | exact ((Grew.refl wr).drew).trans hg4); clear hg4))
          all_goals
            have HNx : Hid (IntsO 3 w.heap.size w1.heap.size (w4.setCell ⟨g, e, none⟩ (.int .i64 (min m (t + l)))) (.slice (some ⟨g, 0, none⟩) n1 c1) (mixT f k n e (s + 1)) ∧ Grew w (w4.setCell ⟨g, e, none⟩ (.int .i64 (min m (t + l))))) := by
              have h := (HJ.out.1.grew HG4.out).set rfl e (min m (t + l))
              rw [HSET.out] at h
              exact ⟨h, Within.grew (HJ.out.2.trans HG4.out) ((Within.refl g (g + 1) _).setCell (p := ⟨g, e, none⟩) (Nat.le_refl _) (Nat.lt_succ_self _) _) hgb.1⟩
            clear hel hfr hcs hel4 hcs4 hfr4
            go_wp2
            go_roundw
            case rel => exact ⟨s + 1, by omega, by go_num, HNx.out⟩
            case measure => simp [intOf]; omega
        · obtain rfl : s = e := by omega
          have HNx : Hid (IntsO 3 w.heap.size w1.heap.size wr (.slice (some ⟨g, 0, none⟩) n1 c1) (mixT f k n (s + 1) 0) ∧ Grew w wr) := by
            rw [← mixT_next]; exact HJ.out
          go_wp2
          go_roundw
          case rel => exact ⟨s + 1, by omega, by go_num, HNx.out⟩
          case measure => simp [intOf]; omega
    · obtain rfl : e = n1 := by omega
      have hO := HI.out.1
      rw [← HN1.out, mixT_end] at hO
      have HF : Hid (FlatPost w (terrL f (k + 1) n) (.returned (.slice (some ⟨g, 0, none⟩) (n + 1) c1)) wr) := by
        have e := terrL_len f (k + 1) n
        refine ⟨g, c1, by rw [e], ?_, HI.out.2⟩
        rw [e]
        exact ⟨ownsRow_base hO.1 (Nat.le_refl _), fun g e => (World.ownsRow.lt hO.1 g e).2⟩
      rw [HN1.out] at HF
      clear hO HI
      go_wp2
      go_ret
      exact HF.out
end Go.Proofs.Ytlifjhhjkcmneaa
