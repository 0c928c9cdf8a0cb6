/- The contracts of spec.members, power, covers and GuardsOf. -/
import Derived.Test.YtaeenedjmakelaaDoorGuardM
import Derived.Test.YtaeenedjmakelaaDoorSSeen
import Derived.Test.YtaeenedjmakelaaDoorOwnP
namespace Go.Proofs.YtaeenedjmakelaaDoor
open Go.RowKit

set_option maxRecDepth 100000 in
set_option maxHeartbeats 1000000 in
theorem spower_any (n : Nat) (h9 : n ≤ 9) (w : World) :
    Calls Tryd.prog 46 #[.int .i64 n] w fun e w' => e = .returned (.int .i64 (2 ^ n : Nat)) ∧ w = w' := by
  have HP : Hid (∀ k, k ≤ 9 → 2 ^ k ≤ 512) := Lib.hid fun k hk => Nat.pow_le_pow_right (n := 2) (by decide) hk
  go_enter Tryd.func46, Tryd.ntmps46
  go_wp2_with (fail)
  go_loopw [0, 3] (fun k' q' wr => ∃ (k q : Nat), k ≤ n ∧ k' = .int .i64 k ∧ q' = .int .i64 q ∧ Hid (q = 2 ^ (n - k)) ∧ w = wr) (fun k' _ _ => (intOf k').toNat)
  case atStart => exact ⟨n, 1, Nat.le_refl _, rfl, rfl, Lib.hid (by rw [Nat.sub_self]), rfl⟩
  case round =>
    obtain ⟨k, q, hk, rfl, rfl, HQ, rfl⟩ := hrel
    by_cases hlt : 0 < k
    · have hb := HP.out (n - k) (by omega)
      rw [← HQ.out] at hb
      have hwq : IntKind.i64.wrap (2 * (q : Int)) = ((2 * q : Nat) : Int) := by rw [IntWalk.i64_in _ (by omega)]; omega
      have hwk : IntKind.i64.wrap ((k : Int) - 1) = ((k - 1 : Nat) : Int) := by rw [IntWalk.i64_in _ (by omega)]; omega
      have hki : (0 : Int) < k := by omega
      obtain ⟨q2, eq2⟩ : ∃ q2, 2 * q = q2 := ⟨_, rfl⟩
      obtain ⟨k2, ek2⟩ : ∃ k2, k - 1 = k2 := ⟨_, rfl⟩
      rw [eq2] at hwq
      rw [ek2] at hwk
      have HN : Hid (q2 = 2 ^ (n - k2)) := Lib.hid (by
        rw [← eq2, HQ.out, show n - k2 = (n - k) + 1 by omega, Nat.pow_succ, Nat.mul_comm])
      have HK : Hid (k2 < k) := Lib.hid (by omega)
      clear eq2 ek2 hb
      go_wp2
      go_roundw
      case rel => exact ⟨k2, q2, by have := HK.out; omega, by first | rfl | rw [hwk], by first | rfl | rw [hwq], HN, trivial⟩
      case measure => have := HK.out; first | (simp [intOf]; omega) | (simp [intOf, hwk]; omega)
    · obtain rfl : k = 0 := by omega
      have HF : Hid (q = 2 ^ n) := Lib.hid (by have := HQ.out; rwa [Nat.sub_zero] at this)
      go_wp2
      go_ret
      exact ⟨congrArg (fun z : Nat => Ending.returned (.int .i64 (z : Int))) HF.out, rfl⟩
theorem div_pow_succ (s i : Nat) : s / 2 ^ i / 2 = s / 2 ^ (i + 1) := by rw [Nat.div_div_eq_div_mul, ← Nat.pow_succ]
theorem memTo_end {s i : Nat} (_hs : s < 512) (hi : i ≤ 9) (h0 : s / 2 ^ i = 0) : memTo s i = memL s := by
  have hlt : s < 2 ^ i := by
    have := Nat.two_pow_pos i
    rcases Nat.lt_or_ge s (2 ^ i) with h | h
    · exact h
    · have := Nat.div_pos h this
      omega
  have key : ∀ d, i + d ≤ 9 → memTo s (i + d) = memTo s i := fun d => by
    induction d with
    | zero => intro _; rfl
    | succ d ih =>
      intro h
      rw [← Nat.add_assoc, memTo_succ, if_neg (by rw [testBit_high hlt (by omega)]; simp)]
      exact ih (by omega)
  have := key (9 - i) (by omega)
  rw [show i + (9 - i) = 9 by omega] at this
  exact this.symm
set_option maxRecDepth 100000 in
set_option maxHeartbeats 2000000 in
theorem smembers_any (s : Nat) (hs : s < 512) (w : World) :
    Calls Tryd.prog 45 #[.int .i64 s] w (OwnP (memL s) w) := by
  have HS := Lib.hid hs
  clear hs
  go_enter Tryd.func45, Tryd.ntmps45
  go_wp2_with (fail)
  have H0 : Hid (IntsO 3 w.heap.size (w.alloc (.cells #[] 3)).heap.size (w.alloc (.cells #[] 3)) (.slice (some ⟨w.heap.size, 0, none⟩) 0 0) [] ∧ Grew w (w.alloc (.cells #[] 3))) :=
    ⟨by have := IntsO.lit 3 w.heap.size w [] #[] rfl (Nat.le_refl _) (by simp); exact this.wide (Nat.le_refl _) (by simp), (Grew.refl _).alloc _⟩
  go_loopw [0, 3, 4] (fun x' v i' wr => ∃ (i x : Nat) (xs : List Int) (g c : Nat), x' = .int .i64 x ∧ i ≤ 9 ∧ i' = .int .i64 i ∧ v = .slice (some ⟨g, 0, none⟩) xs.length c ∧ xs.length ≤ i ∧ Hid (x = s / 2 ^ i ∧ xs = memTo s i ∧ IntsO 3 w.heap.size wr.heap.size wr (.slice (some ⟨g, 0, none⟩) xs.length c) xs ∧ Grew w wr)) (fun x' _ _ _ => (intOf x').toNat)
  case atStart => exact ⟨0, s, [], w.heap.size, 0, rfl, Nat.zero_le _, rfl, rfl, Nat.le_refl _, by simp, by simp [memTo], H0.out.1, H0.out.2⟩
  case round =>
    obtain ⟨i, x, xs, g, c, rfl, hi9, rfl, rfl, hxl, HI⟩ := hrel
    clear H0
    by_cases hx0 : 0 < x
    · have hi8 : i < 9 := Nat.lt_of_not_le fun h => by
        have h1 := HI.out.1
        have : s / 2 ^ i = 0 := Nat.div_eq_of_lt (Nat.lt_of_lt_of_le HS.out (Nat.pow_le_pow_right (n := 2) (i := 9) (by decide) h))
        omega
      have hx5 : x < 512 := by
        have := Nat.div_le_self s (2 ^ i)
        have := HI.out.1
        have := HS.out
        omega
      obtain ⟨x2, ex2⟩ : ∃ x2, x / 2 = x2 := ⟨_, rfl⟩
      have hxi : (0 : Int) < x := by omega
      have t1 : (x : Int).tdiv 2 = (x2 : Int) := by rw [Int.tdiv_eq_ediv_of_nonneg (by omega)]; omega
      have t2 : (x : Int) / 2 = (x2 : Int) := by omega
      have hbit : s.testBit i = decide (x % 2 = 1) := by rw [Nat.testBit_eq_decide_div_mod_eq, HI.out.1]
      have hnx : x2 = s / 2 ^ (i + 1) := by rw [← div_pow_succ, ← HI.out.1]; exact ex2.symm
      have hms := memTo_succ s i
      have hwi : IntKind.i64.wrap ((i : Int) + 1) = ((i + 1 : Nat) : Int) := by rw [IntWalk.i64_in _ (by omega)]; omega
      have HX2 : Hid (x2 < x) := Lib.hid (by omega)
      by_cases hb : x % 2 = 1
      · have m1 : (x : Int).tmod 2 = 1 := by rw [Int.tmod_eq_emod_of_nonneg (by omega)]; omega
        rw [hbit, decide_eq_true hb, if_pos rfl] at hms
        have HN := Lib.hid (And.intro hnx hms)
        have hsz := HI.out.2.2.2.size
        have HO := Lib.hid HI.out.2.2.1
        have hl2 : xs.length + 1 ≤ 17592186044416 := by omega
        clear hbit hnx hms hb ex2
        go_wp2_with (at_builtin; refine wpList_append_int rfl (.tmp 13) (.tmp 15) 22 rfl Tryd.underlying22 Tryd.infoE rfl rfl rfl HO.out hl2 hsz ?_; intro g5 c5 w5 hO5 hW5 hS5)
        have HF : Hid (IntsO 3 w.heap.size w5.heap.size w5 (.slice (some ⟨g5, 0, none⟩) (xs.length + 1) c5) (xs ++ [(i : Int)]) ∧ Grew w w5) := ⟨hO5, Within.grew HI.out.2.2.2 hW5 (Nat.le_refl _)⟩
        clear hO5 hW5 hS5
        go_wp2
        go_roundw
        case rel => exact ⟨i + 1, x2, xs ++ [(i : Int)], g5, c5, by first | rfl | rw [t1] | rw [t2], by omega, by first | rfl | go_num, by simp, by simp; omega, HN.out.1, by rw [HN.out.2, HI.out.2.1], by rw [List.length_append]; exact HF.out.1, HF.out.2⟩
        case measure => have := HX2.out; first | (simp [intOf]; omega) | (simp [intOf, t1]; omega)
      · have m1 : (x : Int).tmod 2 = 0 := by rw [Int.tmod_eq_emod_of_nonneg (by omega)]; omega
        rw [hbit, decide_eq_false hb, if_neg (by simp)] at hms
        have HN := Lib.hid (And.intro hnx hms)
        clear hbit hnx hms hb ex2
        go_wp2
        go_roundw
        case rel => exact ⟨i + 1, x2, xs, g, c, by first | rfl | rw [t1] | rw [t2], by omega, by first | rfl | go_num, rfl, by omega, HN.out.1, by rw [HN.out.2, HI.out.2.1], HI.out.2.2.1, HI.out.2.2.2⟩
        case measure => have := HX2.out; first | (simp [intOf]; omega) | (simp [intOf, t1]; omega)
    · obtain rfl : x = 0 := by omega
      have HE := Lib.hid (HI.out.2.1.trans (memTo_end HS.out hi9 HI.out.1.symm))
      go_wp2
      go_ret
      rw [← HE.out]
      exact ⟨_, rfl, HI.out.2.2.1, HI.out.2.2.2⟩
/-- Whether one of the first i places of a set sees k. -/
def anyTo (p : List Int) (s k i : Nat) : Bool := (List.range i).any fun a => s.testBit a && seesB p (min a k) (max a k)
theorem anyTo_succ (p : List Int) (s k i : Nat) : anyTo p s k (i + 1) = (anyTo p s k i || (s.testBit i && seesB p (min i k) (max i k))) := by
  unfold anyTo
  rw [List.range_succ, List.any_append]
  simp
set_option maxRecDepth 100000 in
set_option maxHeartbeats 4000000 in
theorem scovers_any (v : Value) (p : List Int) (s : Nat) (hs : s < 512) (w : World) (hv : IntsV w v p) (hp : vProf p = true) :
    Calls Tryd.prog 47 #[v, .int .i64 s] w (QuietBool (coversB p s) w) := by
  obtain ⟨h1, h9⟩ := vProf_len hp
  have HV := Lib.hid hv
  have HSE : Hid (∀ (i k : Nat) (W : World), i < p.length → k < p.length → Grew w W → Calls Tryd.prog 80 #[v, .int .i64 i, .int .i64 k] W (QuietBool (seesB p (min i k) (max i k)) W)) := Lib.hid fun i k W hi hk hg => sees_any v p i k W (hv.grew hg) hp hi hk
  have HS := Lib.hid hs
  obtain ⟨l, el⟩ : ∃ l, p.length = l := ⟨_, rfl⟩
  obtain ⟨a, b, o, c, rfl, ⟨hlc, hcb⟩, ha, _⟩ := hv.shape
  rw [el] at h1 h9 HSE hlc ⊢
  have HL := Lib.hid el
  clear hv hp ha el hs
  go_enter Tryd.func47, Tryd.ntmps47
  go_wp2_with (fail)
  go_loopw [5] (fun k' wr => ∃ k : Nat, k ≤ l ∧ k' = .int .i64 k ∧ Hid ((∀ j, j < k → anyTo p s j l = true) ∧ ∃ n, wr = w.drewN n)) (fun k' _ => l - (intOf k').toNat)
  case atStart => exact ⟨0, Nat.zero_le _, rfl, fun j hj => absurd hj (Nat.not_lt_zero _), 0, rfl⟩
  case round =>
    obtain ⟨k, hk, rfl, HI⟩ := hrel
    by_cases hlt : k < l
    · have hki : (k : Int) < l := by omega
      obtain ⟨W1, eW1⟩ : ∃ W1, wr = W1 := ⟨_, rfl⟩
      have HG1 := Lib.hid (quiet_grew HI.out.2)
      rw [eW1] at HG1 HI
      go_wp2_with (fail)
      clear eW1
      go_loopw [6, 7, 8] (fun s' x' i' wi => ∃ (i x : Nat) (z : Bool), i ≤ l ∧ i' = .int .i64 i ∧ x' = .int .i64 x ∧ s' = .bool z ∧ Hid (x = s / 2 ^ i ∧ z = anyTo p s k i ∧ ∃ n, wi = w.drewN n)) (fun _ _ i' _ => l - (intOf i').toNat)
      case atStart => exact ⟨0, s, false, Nat.zero_le _, rfl, rfl, rfl, by simp, rfl, HI.out.2⟩
      case round =>
        obtain ⟨i, x, z, hi, rfl, rfl, rfl, HJ⟩ := hrel
        by_cases hli : i < l
        · have hii : (i : Int) < l := by omega
          obtain ⟨x2, ex2⟩ : ∃ x2, x / 2 = x2 := ⟨_, rfl⟩
          have t1 : (x : Int).tdiv 2 = (x2 : Int) := by rw [Int.tdiv_eq_ediv_of_nonneg (by omega)]; omega
          have t2 : (x : Int) / 2 = (x2 : Int) := by omega
          have hbit : s.testBit i = decide (x % 2 = 1) := by rw [Nat.testBit_eq_decide_div_mod_eq, HJ.out.1]
          have hnx : x2 = s / 2 ^ (i + 1) := by
            have := Nat.div_div_eq_div_mul s (2 ^ i) 2
            rw [← Nat.pow_succ] at this
            rw [← this, ← HJ.out.1]; exact ex2.symm
          have hst := anyTo_succ p s k i
          rw [← HJ.out.2.1] at hst
          have HG := Lib.hid (quiet_grew HJ.out.2.2)
          have HC := Lib.hid (HSE.out i k wr hli hlt HG.out)
          obtain ⟨y, ey⟩ : ∃ y, seesB p (min i k) (max i k) = y := ⟨_, rfl⟩
          rw [ey] at HC hst
          have hwi : IntKind.i64.wrap ((i : Int) + 1) = ((i + 1 : Nat) : Int) := by rw [IntWalk.i64_in _ (by omega)]; omega
          have hx5 : x < 512 := by
            have := Nat.div_le_self s (2 ^ i)
            have := HJ.out.1
            have := HS.out
            omega
          clear ex2 ey
          cases z with
          | true =>
            have HN := Lib.hid (And.intro hnx hst)
            clear hbit hnx hst
            go_wp2
            go_roundw
            case rel => exact ⟨i + 1, x2, true, by omega, by first | rfl | go_num, by first | rfl | rw [t1] | rw [t2], rfl, HN.out.1, by rw [HN.out.2]; rfl, HJ.out.2.2⟩
            case measure => simp [intOf]; omega
          | false =>
            by_cases hb : x % 2 = 1
            · have m1 : (x : Int).tmod 2 = 1 := by rw [Int.tmod_eq_emod_of_nonneg (by omega)]; omega
              rw [hbit, decide_eq_true hb, Bool.true_and, Bool.false_or] at hst
              have HN := Lib.hid (And.intro hnx hst)
              clear hbit hnx hst hb
              go_wp2_with (fail)
              refine HC.out.mono ?_
              rintro e w3 ⟨rfl, hq3⟩
              obtain ⟨n3, rfl⟩ := hq3
              have HQ3 : Hid (∃ n, wr.drewN n3 = w.drewN n) := Lib.hid (quiet_step HJ.out.2.2 n3)
              obtain ⟨W3, eW3⟩ : ∃ W3, wr.drewN n3 = W3 := ⟨_, rfl⟩
              rw [eW3] at HQ3 ⊢
              clear eW3
              cases y
              all_goals
                go_wp2
                go_roundw
                case rel => exact ⟨i + 1, x2, _, by omega, by first | rfl | go_num, by first | rfl | rw [t1] | rw [t2], rfl, HN.out.1, HN.out.2.symm, HQ3.out⟩
                case measure => simp [intOf]; omega
            · have m1 : (x : Int).tmod 2 = 0 := by rw [Int.tmod_eq_emod_of_nonneg (by omega)]; omega
              rw [hbit, decide_eq_false hb, Bool.false_and, Bool.false_or] at hst
              have HN := Lib.hid (And.intro hnx hst)
              clear hbit hnx hst hb
              go_wp2
              go_roundw
              case rel => exact ⟨i + 1, x2, false, by omega, by first | rfl | go_num, by first | rfl | rw [t1] | rw [t2], rfl, HN.out.1, HN.out.2.symm, HJ.out.2.2⟩
              case measure => simp [intOf]; omega
        · obtain rfl : i = l := by omega
          cases z with
          | true =>
            have HN := Lib.hid HJ.out.2.1
            go_wp2
            go_roundw
            case rel => exact ⟨k + 1, by omega, by first | rfl | go_num, fun j hj => by
              by_cases e : j = k
              · subst e; exact HN.out.symm
              · exact HI.out.1 j (by omega), HJ.out.2.2⟩
            case measure => simp [intOf]; omega
          | false =>
            have HN : Hid (coversB p s = false) := Lib.hid (by
              cases hc : coversB p s with
              | false => rfl
              | true =>
                have h := List.all_eq_true.1 hc k (List.mem_range.2 (by rw [HL.out]; exact hlt))
                rw [HL.out] at h
                have h2 := HJ.out.2.1
                unfold anyTo at h2
                rw [h] at h2
                cases h2)
            go_wp2
            go_ret
            exact ⟨ret_bool HN.out.symm, HJ.out.2.2⟩
    · obtain rfl : k = l := by omega
      have HN : Hid (coversB p s = true) := Lib.hid (by
        unfold coversB
        rw [HL.out]
        exact List.all_eq_true.2 fun j hj => HI.out.1 j (List.mem_range.1 hj))
      go_wp2
      go_ret
      exact ⟨ret_bool HN.out.symm, HI.out.2⟩
set_option maxRecDepth 100000 in
set_option maxHeartbeats 1000000 in
theorem SGuards_no (v : Value) (p : List Int) (w : World) (hv : IntsV w v p) (h : vProf p = false) :
    Calls Tryd.prog 10 #[v] w (OwnP [] w) := by
  have HV := Lib.hid (sValidProfile0_any v p w hv)
  rw [h] at HV
  obtain ⟨a, b, o, c, rfl, ⟨hlc, hcb⟩, _, _⟩ := hv.shape
  clear hv h
  go_enter Tryd.func10, Tryd.ntmps10
  go_wp2_with (fail)
  refine HV.out.mono ?_
  rintro e w1 ⟨rfl, rfl⟩
  go_wp2
  go_ret
  exact ⟨_, rfl, IntsO.nilO _ _ _ _, Grew.refl _⟩
set_option maxRecDepth 100000 in
set_option maxHeartbeats 4000000 in
theorem SGuards_yes (v : Value) (p : List Int) (w : World) (hv : IntsV w v p) (hp : vProf p = true) :
    Calls Tryd.prog 10 #[v] w (OwnP (memL (fewTo p (2 ^ p.length - 1))) w) := by
  obtain ⟨h1, h9⟩ := vProf_len hp
  have HV := Lib.hid (sValidProfile0_any v p w hv)
  rw [hp] at HV
  have hp9 : 2 ^ p.length ≤ 2 ^ 9 := Nat.pow_le_pow_right (by decide) h9
  have hp0 : 2 ≤ 2 ^ p.length := Nat.pow_le_pow_right (n := 2) (i := 1) (by decide) h1
  have HCO : Hid (∀ (s : Nat) (W : World), s < 512 → Grew w W → Calls Tryd.prog 47 #[v, .int .i64 s] W (QuietBool (coversB p s) W)) := Lib.hid fun s W hs hg => scovers_any v p s hs W (hv.grew hg) hp
  have HPW : Hid (∀ W, Calls Tryd.prog 46 #[.int .i64 p.length] W fun e w' => e = .returned (.int .i64 (2 ^ p.length : Nat)) ∧ W = w') := Lib.hid fun W => spower_any p.length h9 W
  have H1 := Lib.hid (fewTo_one h1)
  have HLA := Lib.hid (fewTo_last p)
  have H00 : Hid (fewTo p 0 = 2 ^ p.length - 1) := Lib.hid rfl
  obtain ⟨U, eU⟩ : ∃ U, 2 ^ p.length = U := ⟨_, rfl⟩
  rw [eU] at hp9 hp0 HPW HLA H00 ⊢
  obtain ⟨A, eA⟩ : ∃ A, U - 1 = A := ⟨_, rfl⟩
  rw [eA] at HLA H00 ⊢
  have hA : IntKind.i64.wrap ((U : Int) - 1) = (A : Int) := by rw [IntWalk.i64_in _ (by omega)]; omega
  have hAU : A < 512 := by omega
  have hU5 : U ≤ 512 := by omega
  have HML := Lib.hid (fun (s : Nat) (hs : s < 512) (W : World) => smembers_any s hs W)
  obtain ⟨a, b, o, c, rfl, ⟨hlc, hcb⟩, ha, _⟩ := hv.shape
  clear hv hp ha hp9 eU eA
  go_enter Tryd.func10, Tryd.ntmps10
  go_wp2_with (fail)
  refine HV.out.mono ?_
  rintro e w1 ⟨rfl, rfl⟩
  go_wp2_with (fail)
  refine (HPW.out _).mono ?_
  rintro e w1 ⟨rfl, rfl⟩
  go_wp2_with (fail)
  refine (HML.out A hAU _).mono ?_
  rintro e w2 ⟨v2, rfl, hO2, hg2⟩
  obtain ⟨a2, c2, rfl⟩ := hO2.sh
  have H2 : Hid (IntsO 3 w.heap.size w2.heap.size w2 (.slice a2 (memL (fewTo p 1)).length c2) (memL (fewTo p 1)) ∧ Grew w w2) := Lib.hid (by rw [H1.out, H00.out]; exact ⟨hO2, hg2⟩)
  have e2 : Hid (memL A = memL (fewTo p 1)) := Lib.hid (by rw [H1.out, H00.out])
  clear hO2 hg2 hA
  rw [e2.out]
  go_wp2_with (fail)
  go_loopw [3, 4] (fun f' s' wr => ∃ (s : Nat) (M : List Int) (a : Option Addr) (c : Nat), 1 ≤ s ∧ s ≤ U ∧ s' = .int .i64 s ∧ f' = .slice a M.length c ∧ Hid (M = memL (fewTo p s) ∧ IntsO 3 w.heap.size wr.heap.size wr (.slice a M.length c) M ∧ Grew w wr)) (fun _ s' _ => U - (intOf s').toNat)
  case atStart => exact ⟨1, _, a2, c2, Nat.le_refl _, by omega, rfl, rfl, rfl, H2.out⟩
  case round =>
    obtain ⟨s, M, aM, cM, hs1, hs, rfl, rfl, HI⟩ := hrel
    go_wp2_with (fail)
    refine (HPW.out _).mono ?_
    rintro e w3 ⟨rfl, rfl⟩
    by_cases hlt : s < U
    · have hsi : (s : Int) < U := by omega
      have hstep : fewTo p (s + 1) = if (memL s).length < M.length ∧ coversB p s = true then s else fewTo p s := by rw [HI.out.1]; rfl
      have hwi : IntKind.i64.wrap ((s : Int) + 1) = ((s + 1 : Nat) : Int) := by rw [IntWalk.i64_in _ (by omega)]; omega
      have HST := Lib.hid hstep
      clear hstep
      go_wp2_with (fail)
      refine (HML.out s (by omega) _).mono ?_
      rintro e w4 ⟨v4, rfl, hO4, hg4⟩
      obtain ⟨a4, c4, rfl⟩ := hO4.sh
      obtain ⟨M4, eM4⟩ : ∃ M4, memL s = M4 := ⟨_, rfl⟩
      rw [eM4] at hO4 HST ⊢
      have HM4 := Lib.hid eM4
      have H4 : Hid (IntsO 3 w.heap.size w4.heap.size w4 (.slice a4 M4.length c4) M4 ∧ IntsO 3 w.heap.size w4.heap.size w4 (.slice aM M.length cM) M ∧ Grew w w4) := Lib.hid ⟨hO4.wide HI.out.2.2.size (Nat.le_refl _), (HI.out.2.1.grew hg4).wide (Nat.le_refl _) hg4.size, HI.out.2.2.trans hg4⟩
      have HME := Lib.hid HI.out.1
      clear hO4 hg4 eM4
      by_cases hl : M4.length < M.length
      · have hd : decide ((M4.length : Int) < M.length) = true := decide_eq_true (by omega)
        have hlN : Hid (M4.length < M.length) := Lib.hid hl
        go_wp2_with (fail)
        refine (HCO.out s _ (by omega) H4.out.2.2).mono ?_
        rintro e w5 ⟨rfl, hq5⟩
        have HG5 := Lib.hid (quiet_grew hq5)
        clear hq5
        obtain ⟨z, ez⟩ : ∃ z, coversB p s = z := ⟨_, rfl⟩
        rw [ez] at HST ⊢
        clear ez
        cases z with
        | true =>
          have hn : Hid (M4 = memL (fewTo p (s + 1))) := Lib.hid (by rw [HST.out, if_pos ⟨hlN.out, rfl⟩]; exact HM4.out.symm)
          go_wp2
          go_roundw
          case rel => exact ⟨s + 1, M4, a4, c4, by omega, by omega, by first | rfl | go_num, rfl, hn.out, (H4.out.1.grew HG5.out).wide (Nat.le_refl _) HG5.out.size, H4.out.2.2.trans HG5.out⟩
          case measure => simp [intOf]; omega
        | false =>
          have hn : Hid (M = memL (fewTo p (s + 1))) := Lib.hid (by rw [HST.out, if_neg (fun h => by cases h.2)]; exact HME.out)
          go_wp2
          go_roundw
          case rel => exact ⟨s + 1, M, aM, cM, by omega, by omega, by first | rfl | go_num, rfl, hn.out, (H4.out.2.1.grew HG5.out).wide (Nat.le_refl _) HG5.out.size, H4.out.2.2.trans HG5.out⟩
          case measure => simp [intOf]; omega
      · have hd : decide ((M4.length : Int) < M.length) = false := decide_eq_false (by omega)
        have hn : Hid (M = memL (fewTo p (s + 1))) := Lib.hid (by rw [HST.out, if_neg (fun h => hl h.1)]; exact HME.out)
        go_wp2
        go_roundw
        case rel => exact ⟨s + 1, M, aM, cM, by omega, by omega, by first | rfl | go_num, rfl, hn.out, H4.out.2.1, H4.out.2.2⟩
        case measure => simp [intOf]; omega
    · obtain rfl : s = U := by omega
      have HE : Hid (M = memL (fewTo p A)) := Lib.hid (by rw [HI.out.1, HLA.out])
      go_wp2
      go_ret
      rw [← HE.out]
      exact ⟨_, rfl, HI.out.2.1, HI.out.2.2⟩
theorem SGuardsOf_any (v : Value) (p : List Int) (w : World) (hv : IntsV w v p) :
    Calls Tryd.prog 10 #[v] w (OwnP (guardsX p) w) := by
  unfold guardsX
  cases hp : vProf p with
  | true => rw [if_pos rfl]; exact SGuards_yes v p w hv hp
  | false => rw [if_neg (by simp)]; exact SGuards_no v p w hv hp
end Go.Proofs.YtaeenedjmakelaaDoor
