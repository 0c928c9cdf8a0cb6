/- The law FnRiseCost returns true. -/
import Derived.Test.YtlifjhhjkcmneaaSRise
import Derived.Test.YtlifjhhjkcmneaaTerr3
import Derived.Test.YtlifjhhjkcmneaaDrawsP
import Derived.Test.YtlifjhhjkcmneaaLawTerraceCost
namespace Go.Proofs.Ytlifjhhjkcmneaa
open Go.RowKit

/-- Upside down the other way round. -/
def flipR (p : List Int) : List Int := (List.range p.length).map fun j => 12 - p.getD (p.length - 1 - j) 0
theorem flipR_len (p : List Int) : (flipR p).length = p.length := by simp [flipR]
theorem flipR_at (p : List Int) (j : Nat) (h : j < p.length) : (flipR p).getD j 0 = 12 - p.getD (p.length - 1 - j) 0 := by simp [flipR, h]
theorem flipR_take (p : List Int) (j : Nat) (h : j < p.length) : (flipR p).take j ++ [12 - p.getD (p.length - 1 - j) 0] = (flipR p).take (j + 1) := by
  have hk : j < (flipR p).length := by rw [flipR_len]; exact h
  rw [List.take_succ_eq_append_getElem hk]
  congr 2
  have := flipR_at p j h
  simp only [List.getD_eq_getElem?_getD, List.getElem?_eq_getElem hk, Option.getD_some] at this
  simp only [List.getD_eq_getElem?_getD]
  exact this.symm
theorem vProf_flip {p : List Int} (h : vProf p = true) : vProf (flipR p) = true := by
  obtain ⟨h1, h9, hb⟩ := (vProf_iff p).1 h
  refine (vProf_iff _).2 ⟨by rw [flipR_len]; exact h1, by rw [flipR_len]; exact h9, fun i hi => ?_⟩
  rw [flipR_len] at hi
  rw [flipR_at p i hi]
  have := hb (p.length - 1 - i) (by omega)
  omega
theorem riseX_yes {p : List Int} (h : ¬ riseX p < 0) : vProf p = true := by
  unfold riseX at h
  cases hm : vProf p with
  | true => rfl
  | false => rw [hm, if_neg (by simp)] at h; exact absurd (by decide) h
theorem riseX_is {p : List Int} (h : vProf p = true) : riseX p = riseT (fun i => p.getD i 0) p.length 12 := by unfold riseX; rw [if_pos h]
theorem riseX_flip {p : List Int} (h : vProf p = true) : riseX (flipR p) = riseX p := by
  rw [riseX_is h, riseX_is (vProf_flip h), flipR_len]
  exact rise_flip (fun i => p.getD i 0) (fun i => (flipR p).getD i 0) p.length 12 fun i hi => flipR_at p i hi
theorem riseX_terr {p : List Int} (h : vProf p = true) : riseX p ≤ terrX p 1 := by
  have hl := (vProf_iff p).1 h
  rw [riseX_is h, terrX_is (terrOk_iff.2 ⟨h, by decide, by decide⟩)]
  exact rise_le_terr (fun i => p.getD i 0) p.length (terr_f h) hl.2.1 hl.1
theorem riseX_zero {p : List Int} (h : vProf p = true) : riseX p = 0 ↔ ∀ x, p.length - p.length ≤ x → x < p.length → x = 0 ∨ p.getD (x - 1) 0 ≤ p.getD x 0 := by
  rw [riseX_is h, rise_zero (fun i => p.getD i 0) p.length 12 (fun i hi => riseP_bd h i hi)]
  constructor
  · intro hr x _ hx
    by_cases h0 : x = 0
    · exact .inl h0
    · right
      have := hr (x - 1) (by omega)
      simp only [show x - 1 + 1 = x by omega] at this
      exact this
  · intro hr i hi
    have := hr (i + 1) (by omega) hi
    rcases this with h0 | h0
    · omega
    · simpa using h0

set_option maxRecDepth 100000 in
set_option maxHeartbeats 8000000 in
theorem FnRiseCost_any (v : Value) (bs : List Int) (w : World) (hv : NumsV .u8 w v bs) (hb : ∀ i, i < bs.length → 0 ≤ bs.getD i 0 ∧ bs.getD i 0 ≤ 255) :
    Calls Try.prog 6 #[v] w fun e w' => e = .returned (.bool true) ∧ Grew w w' := by
  have HD := Lib.hid (DrawRiseCost_any v bs w hv hb)
  obtain ⟨a, b, o, c, rfl, ⟨hlc, hcb⟩, _, _⟩ := hv.shape
  clear hv hb
  by_cases hbig : 1048576 < bs.length
  · go_enter Try.func6, Try.ntmps6
    go_wp2
    go_ret
    exact ⟨rfl, Grew.refl _⟩
  · go_enter Try.func6, Try.ntmps6
    go_wp2_with (fail)
    refine HD.out.mono ?_
    rintro e w1 ⟨v1, p, rfl, hO, hd, hg1⟩
    have h9 := hd.1
    have HV := Lib.hid (And.intro hO.toV hg1)
    obtain ⟨a3, c3, rfl⟩ := hO.sh
    obtain ⟨O, eO⟩ : ∃ O, riseX p = O := ⟨_, rfl⟩
    have HO := Lib.hid eO
    clear hO hd hg1 HD eO
    go_wp2_with (fail)
    refine (RiseCost_any _ p _ HV.out.1).mono ?_
    rw [HO.out]
    rintro e w2 ⟨rfl, hg2⟩
    have H2 := Lib.hid hg2
    clear hg2
    have enn : (O != O) = false := by simp
    have enn2 : (O == O) = true := by simp
    go_wp2_with (fail)
    refine (SRiseCost_any _ p _ (HV.out.1.grew H2.out)).mono ?_
    rw [HO.out]
    rintro e w3 ⟨rfl, hg3⟩
    have H3 := Lib.hid (H2.out.trans hg3)
    clear hg3
    by_cases hneg : O < 0
    · go_wp2_with (fail)
      refine (SRiseCost_any _ p _ (HV.out.1.grew H3.out)).mono ?_
      rw [HO.out]
      rintro e w4 ⟨rfl, hg4⟩
      have H4 := Lib.hid (H3.out.trans hg4)
      clear hg4
      go_wp2
      go_ret
      exact ⟨ret_bool (by simp), HV.out.2.trans H4.out⟩
    · have hp := riseX_yes (p := p) (by rw [HO.out]; exact hneg)
      have HP := Lib.hid hp
      have hfl := riseX_flip hp
      have hte := riseX_terr hp
      have hze := riseX_zero hp
      rw [HO.out] at hfl hte hze
      have HZ := Lib.hid (And.intro hfl hze)
      have h1 := ((vProf_iff p).1 hp).1
      have HB := Lib.hid (riseP_bd hp)
      obtain ⟨R, eR⟩ : ∃ R, terrX p 1 = R := ⟨_, rfl⟩
      have HR := Lib.hid eR
      rw [eR] at hte
      have dle : decide (O ≤ R) = true := by simpa using hte
      obtain ⟨a', b', o', c'', e', _, ha', HC'⟩ := (HV.out.1.grew H3.out).shape
      simp only [Value.slice.injEq] at e'
      obtain ⟨rfl, _, rfl⟩ := e'
      obtain rfl := ha' h1
      have H0 : Hid (IntsO 3 w3.heap.size (w3.alloc (.cells #[] 3)).heap.size (w3.alloc (.cells #[] 3)) (.slice (some ⟨w3.heap.size, 0, none⟩) 0 0) ((flipR p).take 0) ∧ Grew w3 (w3.alloc (.cells #[] 3)) ∧ (true = true ↔ ∀ x, p.length - 0 ≤ x → x < p.length → x = 0 ∨ p.getD (x - 1) 0 ≤ p.getD x 0)) :=
        Lib.hid ⟨by have := IntsO.lit 3 w3.heap.size w3 [] #[] rfl (Nat.le_refl _) (by decide); simpa using this, (Grew.refl _).alloc _, fun _ x h1 h2 => by omega, fun _ => rfl⟩
      clear hp hfl hze eR ha'
      go_wp2_with (fail)
      go_loopw [5, 6, 7] (fun rv qv iv wr => ∃ (L : Bool) (d g cq : Nat) (j : Int), rv = .bool L ∧ qv = .slice (some ⟨g, 0, none⟩) d cq ∧ iv = .int .i64 j ∧ d ≤ p.length ∧ j = (p.length : Int) - 1 - d ∧ Hid (IntsO 3 w3.heap.size wr.heap.size wr qv ((flipR p).take d) ∧ Grew w3 wr ∧ (L = true ↔ ∀ x, p.length - d ≤ x → x < p.length → x = 0 ∨ p.getD (x - 1) 0 ≤ p.getD x 0))) (fun _ _ iv _ => (intOf iv + 1).toNat)
      case atStart => exact ⟨true, 0, _, _, (p.length : Int) - 1, rfl, rfl, by go_num, Nat.zero_le _, by omega, H0.out.1, H0.out.2.1, ⟨fun _ x h1 h2 => by omega, fun _ => rfl⟩⟩
      case round =>
        obtain ⟨L, d, g, cq, j, rfl, rfl, rfl, hd, hj, HI⟩ := hrel
        clear H0
        have HJ := Lib.hid hj
        by_cases hlt : d < p.length
        · obtain ⟨n, rfl⟩ := Int.eq_ofNat_of_zero_le (show 0 ≤ j by omega)
          have hn : n < p.length := by omega
          have hcn := HI.out.2.1.cell (HC'.out n hn)
          have hbn := HB.out n hn
          have hft := flipR_take p d hlt
          rw [show p.length - 1 - d = n by omega] at hft
          obtain ⟨x, ex⟩ : ∃ x, p.getD n 0 = x := ⟨_, rfl⟩
          rw [ex] at hcn hbn hft
          have HFT := Lib.hid hft
          have HLN : Hid (((flipR p).take d).length = d) := by show _ = _; simp [flipR_len]; omega
          obtain ⟨X, hX⟩ : ∃ X, (flipR p).take d = X := ⟨_, rfl⟩
          have HX := Lib.hid hX
          rw [hX] at HLN HFT
          have HO6 : Hid (IntsO 3 w3.heap.size wr.heap.size wr (.slice (some ⟨g, 0, none⟩) d cq) X) := by rw [← HX.out]; exact HI.out.1
          have w1' : IntKind.i64.wrap (12 - x) = 12 - x := wrap_small' _ (by omega) (by omega)
          have w2' : IntKind.i64.wrap ((n : Int) - 1) = (n : Int) - 1 := wrap_small' _ (by omega) (by omega)
          have r1 : (n : Int) < p.length := by omega
          have r2 : (0 : Int) ≤ n := by omega
          have hsz := HI.out.2.1.size
          have HLL : Hid (∀ B : Bool, (B = true ↔ n = 0 ∨ p.getD (n - 1) 0 ≤ x) → ((L && B) = true ↔ ∀ x, p.length - (d + 1) ≤ x → x < p.length → x = 0 ∨ p.getD (x - 1) 0 ≤ p.getD x 0)) := fun B hB => by
            rw [Bool.and_eq_true, HI.out.2.2, hB]
            constructor
            · rintro ⟨h1, h2⟩ y hy1 hy2
              by_cases e : y = n
              · rw [e, ex]; exact h2
              · exact h1 y (by have := HJ.out; omega) hy2
            · intro h
              refine ⟨fun y hy1 hy2 => h y (by omega) hy2, ?_⟩
              have := h n (by have := HJ.out; omega) hn
              rwa [ex] at this
          have HEX := Lib.hid ex
          clear hX hft ex hj
          go_wp2_with (at_builtin; refine wpList_append_int rfl (.tmp 35) (.tmp 41) 23 rfl Try.underlying23 Try.infoE rfl rfl rfl HO6.out (by rw [HLN.out]; omega) (by omega) ?_; rw [HLN.out]; intro g5 c5 w5 hO5 hW5 hS5)
          have HF : Hid (IntsO 3 w3.heap.size w5.heap.size w5 (.slice (some ⟨g5, 0, none⟩) (d + 1) c5) ((flipR p).take (d + 1)) ∧ Grew w3 w5) := by
            rw [← HFT.out]; exact ⟨hO5, Within.grew HI.out.2.1 hW5 (Nat.le_refl _)⟩
          clear hO5 hW5 hS5 hcn
          have hcn5 := HF.out.2.cell (HC'.out n hn)
          rw [HEX.out] at hcn5
          by_cases hn0 : n = 0
          · have en0 : ((n : Int) == 0) = true := by simp [hn0]
            have HLA := Lib.hid (HLL.out true (by simp [hn0]))
            clear hn0
            cases L
            all_goals
              go_wp2
              go_quiet (fail)
              go_wp2
              go_roundw
              case rel => exact ⟨_, d + 1, g5, c5, (n : Int) - 1, rfl, rfl, by go_num, by omega, by have := HJ.out; omega, HF.out.1, HF.out.2.drewN _, HLA.out⟩
              case measure => simp [intOf]
          · have en0 : ((n : Int) == 0) = false := by simp [hn0]
            obtain ⟨n1, en1⟩ : ∃ n1, n - 1 = n1 := ⟨_, rfl⟩
            have hcy := HF.out.2.cell (HC'.out n1 (by omega))
            have hll := HLL.out
            rw [en1] at hll
            obtain ⟨y, ey⟩ : ∃ y, p.getD n1 0 = y := ⟨_, rfl⟩
            rw [ey] at hcy hll
            have e1 : (n : Int) - 1 = (n1 : Int) := by omega
            have r3 : (n1 : Int) < p.length := by omega
            have r4 : (0 : Int) ≤ n1 := by omega
            have r5 : n1 < p.length := by omega
            have w3' : IntKind.i64.wrap (n1 : Int) = (n1 : Int) := wrap_small' _ (by omega) (by omega)
            have HLA := Lib.hid (hll (decide (y ≤ x)) (by simp [hn0]))
            have HN1 : Hid ((n1 : Int) = (p.length : Int) - 1 - ((d + 1 : Nat) : Int)) := by show _ = _; have := HJ.out; omega
            clear hn0 hll ey en1 HLL w2'
            cases L with
            | false =>
              have HLB : Hid (false = true ↔ ∀ x, p.length - (d + 1) ≤ x → x < p.length → x = 0 ∨ p.getD (x - 1) 0 ≤ p.getD x 0) := by have := HLA.out; rwa [Bool.false_and] at this
              go_wp2
              go_quiet (fail)
              go_wp2
              go_roundw
              case rel => exact ⟨false, d + 1, g5, c5, (n1 : Int), rfl, rfl, by go_num, by omega, HN1.out, HF.out.1, HF.out.2.drewN _, HLB.out⟩
              case measure => simp [intOf]; omega
            | true =>
              have HLB : Hid (decide (y ≤ x) = true ↔ ∀ x, p.length - (d + 1) ≤ x → x < p.length → x = 0 ∨ p.getD (x - 1) 0 ≤ p.getD x 0) := by have := HLA.out; rwa [Bool.true_and] at this
              go_wp2
              go_quiet (fail)
              go_wp2
              go_roundw
              case rel => exact ⟨decide (y ≤ x), d + 1, g5, c5, (n1 : Int), rfl, rfl, by go_num, by omega, HN1.out, HF.out.1, HF.out.2.drewN _, HLB.out⟩
              case measure => simp [intOf]; omega
        · obtain rfl : d = p.length := by omega
          obtain rfl : j = -1 := by omega
          have hfin : (O == 0) = L := by
            have h1 := HI.out.2.2
            have h2 := HZ.out.2
            cases L with
            | true => have := h2.2 (h1.1 rfl); simp [this]
            | false =>
              by_cases h0 : O = 0
              · exact absurd (h1.2 (h2.1 h0)) (by simp)
              · simp [h0]
          have HQ : Hid (IntsV wr (.slice (some ⟨g, 0, none⟩) p.length cq) (flipR p) ∧ Grew w3 wr) := by
            have h := HI.out.1.toV
            rw [List.take_of_length_le (by rw [flipR_len]; exact Nat.le_refl _)] at h
            exact ⟨h, HI.out.2.1⟩
          have HG := Lib.hid (H3.out.trans HQ.out.2)
          have hLL : (L == L) = true := by simp
          clear hj HJ HI
          go_wp2_with (fail)
          refine (TerraceCost_any _ p 1 _ (HV.out.1.grew HG.out)).mono ?_
          rw [HR.out]
          rintro e w6 ⟨rfl, hg6⟩
          have H6 := Lib.hid (And.intro (HG.out.trans hg6) (HQ.out.1.grew hg6))
          clear hg6
          go_wp2_with (fail)
          refine (RiseCost_any _ (flipR p) _ H6.out.2).mono ?_
          rw [HZ.out.1]
          rintro e w7 ⟨rfl, hg7⟩
          have H7 := Lib.hid (H6.out.1.trans hg7)
          clear hg7
          go_wp2
          go_ret
          exact ⟨ret_bool (by simp), HV.out.2.trans H7.out⟩
end Go.Proofs.Ytlifjhhjkcmneaa
