/- The contracts of spec.away, spec.flatCost and spec.TerraceCost. -/
import Derived.Test.YtlifjhhjkcmneaaTerr3
import Derived.Test.YtlifjhhjkcmneaaAppendInts
namespace Go.Proofs.Ytlifjhhjkcmneaa
open Go.RowKit

set_option maxRecDepth 100000 in
set_option maxHeartbeats 2000000 in
theorem away_any (v : Value) (xs : List Int) (x : Int) (w : World) (hv : IntsV w v xs) (hl : xs.length ≤ 9) (hb : ∀ i, i < xs.length → 0 ≤ xs.getD i 0 ∧ xs.getD i 0 ≤ 12) (hx : 0 ≤ x ∧ x ≤ 12) :
    Calls Try.prog 97 #[v, .int .i64 x] w fun e w' => e = .returned (.int .i64 (awayL xs x)) ∧ ∃ q, w' = w.drewN q := by
  obtain ⟨a, b, o, c, rfl, ⟨hlc, hcb⟩, ha, HC⟩ := hv.shape
  have HA := Lib.hid ha
  have HB := Lib.hid hb
  obtain ⟨hx0, hx1⟩ := hx
  clear hv ha hb
  go_enter Try.func97, Try.ntmps97
  go_wp2
  go_loopw [5, 6] (fun s i wr => ∃ (k : Nat) (n : Int), k ≤ xs.length ∧ i = .int .i64 k ∧ s = .int .i64 n ∧ 0 ≤ n ∧ n ≤ 12 * (k : Int) ∧ Hid (n = sumTo (fun i => iab (xs.getD i 0 - x)) k ∧ ∃ q, wr = w.drewN q)) (fun _ i _ => xs.length - (intOf i).toNat)
  case atStart => exact ⟨0, 0, Nat.zero_le _, rfl, rfl, by omega, by omega, rfl, 0, rfl⟩
  case round =>
    obtain ⟨k, n, hk, rfl, rfl, hn0, hn1, HI⟩ := hrel
    by_cases hlt : k < xs.length
    · obtain rfl := HA.out (by omega)
      have hg := quiet_grew HI.out.2
      have hc := hg.cell (HC.out k hlt)
      have hy := HB.out k hlt
      have hst : sumTo (fun i => iab (xs.getD i 0 - x)) (k + 1) = n + max (xs.getD k 0 - x) (x - xs.getD k 0) := by
        rw [sumTo, ← HI.out.1]
        congr 1
        unfold iab; omega
      obtain ⟨y, ey⟩ : ∃ y, xs.getD k 0 = y := ⟨_, rfl⟩
      rw [ey] at hc hy hst
      have HST := Lib.hid hst
      have w1' : IntKind.i64.wrap (y - x) = y - x := wrap_small' _ (by omega) (by omega)
      have w2' : IntKind.i64.wrap (x - y) = x - y := wrap_small' _ (by omega) (by omega)
      have w3' : IntKind.i64.wrap (n + max (y - x) (x - y)) = n + max (y - x) (x - y) := wrap_small' _ (by omega) (by omega)
      have r1 : (k : Int) < xs.length := by omega
      have r2 : (0 : Int) ≤ k := by omega
      clear ey hst hg
      go_wp2
      go_quiet (fail)
      go_wp2
      go_roundw
      case rel => exact ⟨k + 1, n + max (y - x) (x - y), by omega, by go_num, rfl, by omega, by omega, HST.out.symm, quiet_step HI.out.2 _⟩
      case measure => simp [intOf]; omega
    · obtain rfl : k = xs.length := by omega
      go_wp2
      go_ret
      exact ⟨ret_int HI.out.1, HI.out.2⟩

set_option maxRecDepth 100000 in
set_option maxHeartbeats 2000000 in
theorem flatCost_any (v : Value) (xs : List Int) (w : World) (hv : IntsV w v xs) (hl : xs.length ≤ 9) (hb : ∀ i, i < xs.length → 0 ≤ xs.getD i 0 ∧ xs.getD i 0 ≤ 12) :
    Calls Try.prog 72 #[v] w fun e w' => e = .returned (.int .i64 (levL xs)) ∧ ∃ q, w' = w.drewN q := by
  have HV := Lib.hid hv
  have HA := Lib.hid (fun (x : Int) (W : World) (hW : Grew w W) (hx : 0 ≤ x ∧ x ≤ 12) => away_any v xs x W (hv.grew hW) hl hb hx)
  have HBA := Lib.hid fun x hx => awayL_bd xs x hb hx
  obtain ⟨a, b, o, c, rfl, _, _, _⟩ := hv.shape
  clear hv hb
  go_enter Try.func72, Try.ntmps72
  go_wp2
  go_loopw [3, 4] (fun t i wr => ∃ (x : Nat) (z : Int), x ≤ 13 ∧ i = .int .i64 x ∧ t = .int .i64 z ∧ Hid (z = (if x = 0 then -1 else mn (fun y => awayL xs y) (x - 1)) ∧ (0 < x → 0 ≤ z) ∧ ∃ q, wr = w.drewN q)) (fun _ i _ => 13 - (intOf i).toNat)
  case atStart => exact ⟨0, -1, by omega, rfl, rfl, rfl, fun h => absurd h (by decide), 0, rfl⟩
  case round =>
    obtain ⟨x, z, hx, rfl, rfl, HI⟩ := hrel
    by_cases hlt : x < 13
    · have hba := HBA.out (x : Int) (by omega)
      have HC := Lib.hid (HA.out (x : Int) wr (quiet_grew HI.out.2.2) (by omega))
      obtain ⟨y, ey⟩ : ∃ y, awayL xs x = y := ⟨_, rfl⟩
      rw [ey] at HC hba
      have HY := Lib.hid ey
      clear ey
      by_cases hx0 : x = 0
      · subst hx0
        have hz : z = -1 := HI.out.1
        subst hz
        have h0 : (-1 : Int) < 0 := by decide
        go_wp2_with (fail)
        refine HC.out.mono ?_
        rintro e w2 ⟨rfl, hq⟩
        have HQ := Lib.hid hq
        clear hq
        go_wp2
        go_roundw
        case rel => exact ⟨1, y, by omega, by go_num, rfl, HY.out.symm, fun _ => by omega, by obtain ⟨r, hr⟩ := HQ.out; rw [hr]; exact quiet_step HI.out.2.2 r⟩
        case measure => simp [intOf]
      · have hz0 := HI.out.2.1 (by omega)
        have hz1 : ¬ z < 0 := by omega
        have hz := HI.out.1
        rw [if_neg hx0] at hz
        have hmn : mn (fun y => awayL xs y) x = min z y := by
          obtain ⟨x1, rfl⟩ : ∃ x1, x = x1 + 1 := ⟨x - 1, by omega⟩
          rw [mn, hz, HY.out]; rfl
        have HMN := Lib.hid hmn
        clear hz hmn
        by_cases hyz : y < z
        · go_wp2_with (fail)
          refine HC.out.mono ?_
          rintro e w2 ⟨rfl, hq⟩
          have HQ := Lib.hid hq
          clear hq
          go_wp2
          go_roundw
          case rel => exact ⟨x + 1, y, by omega, by go_num, rfl, by rw [if_neg (by omega), show x + 1 - 1 = x by omega, HMN.out]; omega, fun _ => by omega, by obtain ⟨r, hr⟩ := HQ.out; rw [hr]; exact quiet_step HI.out.2.2 r⟩
          case measure => simp [intOf]; omega
        · go_wp2_with (fail)
          refine HC.out.mono ?_
          rintro e w2 ⟨rfl, hq⟩
          have HQ := Lib.hid hq
          clear hq
          go_wp2
          go_roundw
          case rel => exact ⟨x + 1, z, by omega, by go_num, rfl, by rw [if_neg (by omega), show x + 1 - 1 = x by omega, HMN.out]; omega, fun _ => hz0, by obtain ⟨r, hr⟩ := HQ.out; rw [hr]; exact quiet_step HI.out.2.2 r⟩
          case measure => simp [intOf]; omega
    · obtain rfl : x = 13 := by omega
      have HE : Hid (z = levL xs) := by have := HI.out.1; rwa [if_neg (by decide)] at this
      have HG := Lib.hid HI.out.2.2
      go_wp2
      go_ret
      exact ⟨ret_int HE.out, HG.out⟩

/-- As the model fills its row: the places below e for one terrace more, and e over the beginnings from 1 up to s. -/
def mixS (f : Nat → Int) (k n e s : Nat) : List Int := (List.range (n + 1)).map fun x => if x < e then terrT f (k + 2) x else if x = e then mnTo (terrT f (k + 1) e) (fun d => terrT f (k + 1) (d + 1) + levT f (d + 1) e) s else terrT f (k + 1) x
theorem mixS_len (f : Nat → Int) (k n e s : Nat) : (mixS f k n e s).length = n + 1 := by simp [mixS]
theorem mixS_at (f : Nat → Int) (k n e s x : Nat) (h : x < n + 1) : (mixS f k n e s).getD x 0 = if x < e then terrT f (k + 2) x else if x = e then mnTo (terrT f (k + 1) e) (fun d => terrT f (k + 1) (d + 1) + levT f (d + 1) e) s else terrT f (k + 1) x := by simp [mixS, h]
theorem mixS_start (f : Nat → Int) (k n : Nat) : mixS f k n 1 0 = terrL f (k + 1) n := ext_at' (by rw [mixS_len, terrL_len]) fun i hi => by
  rw [mixS_len] at hi
  rw [mixS_at _ _ _ _ _ _ hi, terrL_at _ _ _ _ hi]
  by_cases e : i < 1
  · rw [if_pos e, show i = 0 by omega, terrT_zero, terrT_zero]
  · rw [if_neg e]
    by_cases e2 : i = 1
    · rw [if_pos e2, e2]; rfl
    · rw [if_neg e2]
theorem mixS_next (f : Nat → Int) (k n e : Nat) (hb : ∀ i, i < n → 0 ≤ f i ∧ f i ≤ 12) (h9 : n ≤ 9) (he : 1 ≤ e) (hen : e ≤ n) : mixS f k n e (e - 1) = mixS f k n (e + 1) 0 := ext_at' (by rw [mixS_len, mixS_len]) fun i hi => by
  rw [mixS_len] at hi
  rw [mixS_at _ _ _ _ _ _ hi, mixS_at _ _ _ _ _ _ hi]
  by_cases h1 : i < e
  · rw [if_pos h1, if_pos (by omega)]
  · rw [if_neg h1]
    by_cases h2 : i = e
    · rw [if_pos h2, if_pos (by omega), h2, ← terrT_model f n hb h9 k e he hen]
    · rw [if_neg h2, if_neg (by omega)]
      by_cases h3 : i = e + 1
      · rw [if_pos h3, h3]; rfl
      · rw [if_neg h3]
theorem mixS_end (f : Nat → Int) (k n : Nat) : mixS f k n (n + 1) 0 = terrL f (k + 2) n := ext_at' (by rw [mixS_len, terrL_len]) fun i hi => by
  rw [mixS_len] at hi
  rw [mixS_at _ _ _ _ _ _ hi, terrL_at _ _ _ _ hi, if_pos hi]
theorem mixS_set (f : Nat → Int) (k n e s : Nat) (h : e < n + 1) : (mixS f k n e s).set e (min (mnTo (terrT f (k + 1) e) (fun d => terrT f (k + 1) (d + 1) + levT f (d + 1) e) s) (terrT f (k + 1) (s + 1) + levT f (s + 1) e)) = mixS f k n e (s + 1) := ext_at' (by rw [List.length_set, mixS_len, mixS_len]) fun i hi => by
  rw [List.length_set, mixS_len] at hi
  rw [getD_setR _ _ _ (by rw [mixS_len]; exact h), mixS_at _ _ _ _ _ _ hi, mixS_at _ _ _ _ _ _ hi]
  by_cases e1 : i = e
  · rw [if_pos e1, if_neg (by omega), if_pos e1]; rfl
  · rw [if_neg e1, if_neg e1, if_neg e1]
theorem mnS_bd (f : Nat → Int) (n : Nat) (hb : ∀ i, i < n → 0 ≤ f i ∧ f i ≤ 12) (h9 : n ≤ 9) (k e s : Nat) (he : e ≤ n) (hs : s + 1 ≤ e) : 0 ≤ mnTo (terrT f (k + 1) e) (fun d => terrT f (k + 1) (d + 1) + levT f (d + 1) e) s ∧ mnTo (terrT f (k + 1) e) (fun d => terrT f (k + 1) (d + 1) + levT f (d + 1) e) s ≤ 109 := by
  have h1 := terrT_bd f n hb h9 (k + 1) e he
  have h2 := (mnTo_le (terrT f (k + 1) e) (fun d => terrT f (k + 1) (d + 1) + levT f (d + 1) e) s).1
  rcases mnTo_at (terrT f (k + 1) e) (fun d => terrT f (k + 1) (d + 1) + levT f (d + 1) e) s with h | ⟨y, hy, h⟩
  · rw [h]; exact h1
  · have h3 := terrT_bd f n hb h9 (k + 1) (y + 1) (by omega)
    have h4 := levT_bd f n (y + 1) e hb he
    rw [h] at h2 ⊢
    omega
theorem terrL_take (f : Nat → Int) (n e : Nat) (hb : ∀ i, i < n → 0 ≤ f i ∧ f i ≤ 12) (h9 : n ≤ 9) (he : 1 ≤ e) (hen : e ≤ n) : (terrL f 1 n).take e ++ [levT f 0 e] = (terrL f 1 n).take (e + 1) := by
  have hk : e < (terrL f 1 n).length := by rw [terrL_len]; omega
  rw [List.take_succ_eq_append_getElem hk]
  congr 2
  have := terrL_at f 1 n e (by omega)
  simp only [List.getD_eq_getElem?_getD, List.getElem?_eq_getElem hk, Option.getD_some] at this
  rw [this, terrT_one f n hb h9 e he hen]
end Go.Proofs.Ytlifjhhjkcmneaa
