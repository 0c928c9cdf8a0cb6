/- The contracts of impl.validEnds, ClimbBetween, SteepBetween. -/
import Derived.Test.YtdhokofcgfolnaaDoorCosts
import Derived.Test.YtdhokofcgfolnaaDoorLastOf
import Derived.Test.YtdhokofcgfolnaaDoorNear
namespace Go.Proofs.YtdhokofcgfolnaaDoor
open Go.RowKit

def vEnds (h : List (List Int)) (i k : Int) : Bool := vCell h i && vCell h k
set_option maxRecDepth 100000 in
theorem vCell_facts {h : List (List Int)} {i : Int} (hc : vCell h i = true) : vGrid h = true ∧ 0 ≤ i ∧ i < (h.length * (h.getD 0 []).length : Nat) := by
  unfold vCell at hc
  simp only [Bool.and_eq_true, decide_eq_true_eq] at hc
  refine ⟨hc.1.1, hc.1.2, ?_⟩
  have := hc.2
  push_cast
  exact this
/-- What the cheapest ways from i to k cost, by a rule. -/
def wayV (f : Int → Int → Int) (h : List (List Int)) (i k : Int) : Int :=
  if vEnds h i k = true then costT (aroundL h.length (h.getD 0 []).length) h.flatten f k.toNat (h.length * (h.getD 0 []).length) i.toNat else -1

set_option maxRecDepth 100000 in
set_option maxHeartbeats 400000 in
theorem validEnds_any (v : Value) (h : List (List Int)) (i k : Int) (w : World) (hv : RowsV w v h) :
    Calls Tryd.prog 48 #[v, .int .i64 i, .int .i64 k] w fun e w' => e = .returned (.bool (vEnds h i k)) ∧ w = w' := by
  have HI := Lib.hid (validCell_any v h i w hv)
  have HK := Lib.hid (validCell_any v h k w hv)
  obtain ⟨a, b, o, c, rfl, _, _, _⟩ := hv.shape
  clear hv
  cases hp : vCell h i with
  | false =>
    have HP := Lib.hid hp
    clear hp
    go_enter Tryd.func48, Tryd.ntmps48
    go_wp2_with (fail)
    refine HI.out.mono ?_
    rw [HP.out]
    rintro e w1 ⟨rfl, rfl⟩
    go_wp2
    go_ret
    exact ⟨ret_bool (by simp [vEnds, HP.out]), rfl⟩
  | true =>
    have HP := Lib.hid hp
    clear hp
    go_enter Tryd.func48, Tryd.ntmps48
    go_wp2_with (fail)
    refine HI.out.mono ?_
    rw [HP.out]
    rintro e w1 ⟨rfl, rfl⟩
    go_wp2_with (fail)
    refine HK.out.mono ?_
    rintro e w1 ⟨rfl, rfl⟩
    go_wp2
    go_ret
    exact ⟨ret_bool (by simp [vEnds, HP.out]), rfl⟩

set_option maxRecDepth 100000 in
/-- What the last table of costsTo's iterator is. -/
theorem lastCosts (v : Value) (h : List (List Int)) (n m N e fk : Nat) (f : Int → Int → Int) (B1 B2 B3 : Nat) (w0 w : World) (hv : RowsV w0 v h) (hg : vGrid h = true) (hS : Steps w0) (hw : Grew w0 w)
    (hbx : CostsBox w v (.func (.func fk) #[] #[]) e B1 B2 B3) (en : h.length = n) (em : (h.getD 0 []).length = m) (eN : n * m = N) (he : e < N) (eg : ∀ (args : Array Value) (w : World), (callFunc fk args).run Tryd.prog w = .ok (.enter fk args) w) (hF : RuleV fk f) (R : Rule f) (hs : Short f) :
    Calls Tryd.prog 49 #[.func (.func 73) #[] #[.pointer (some ⟨B1, 0, none⟩), .pointer (some ⟨B2, 0, none⟩), .pointer (some ⟨B3, 0, none⟩)]] w fun e' w' => ∃ v', e' = .returned v' ∧ IntsAt w.heap.size w' v' (costL n m h.flatten f e N N) ∧ Grew w w' := by
  have G := Grid.of hg
  have hNb := around_range G en em eN
  have n5 := G.n5
  have m5 := G.m5
  rw [en] at n5
  rw [em] at m5
  have h0 : ∀ i x, x ∈ aroundL n m i → 0 ≤ x := fun i x hx => around_nonneg hx
  obtain ⟨T, hT1, hT2, hT3⟩ := still_first (p := h.flatten) R hs (e := e) hNb h0
  have eT : costL n m h.flatten f e N N = costL n m h.flatten f e N T := tabL_congr (hT2.all hNb N (by omega))
  rw [eT]
  have b1 := World.block_lt_of_cell? _ _ hbx.1
  have b2 := World.block_lt_of_cell? _ _ hbx.2.1
  have b3 := World.block_lt_of_cell? _ _ hbx.2.2
  refine lastOf_any 10 _ T (by decide) _ (costL n m h.flatten f e N) w (fun _ _ => rfl) fun w1 hg1 hs1 => ?_
  have hs0 := hw.size
  refine costsIter_in 9 (by decide) (fun k => k = w.heap.size) B1 B2 B3 e n m N fk T f v h w0 w1 hv hg hS (hw.trans hg1) (fun k hk => by omega) (hbx.grew hg1) ?_ ?_ ?_ en em eN he eg hF R hT1 hT2 hT3
  · simp at b1; omega
  · simp at b2; omega
  · simp at b3; omega

set_option maxRecDepth 100000 in
set_option maxHeartbeats 2000000 in
theorem ClimbBetween_any (v : Value) (h : List (List Int)) (i k : Int) (w : World) (hv : RowsV w v h) (hS : Steps w) :
    Calls Tryd.prog 16 #[v, .int .i64 i, .int .i64 k] w fun e w' => e = .returned (.int .i64 (wayV upF h i k)) ∧ Grew w w' := by
  have HV := Lib.hid (validEnds_any v h i k w hv)
  cases hp : vEnds h i k with
  | false =>
    obtain ⟨a, b, o, c, rfl, _, _, _⟩ := hv.shape
    have HP := Lib.hid hp
    clear hv hp hS
    go_enter Tryd.func16, Tryd.ntmps16
    go_wp2_with (fail)
    refine HV.out.mono ?_
    rw [HP.out]
    rintro e w1 ⟨rfl, rfl⟩
    go_wp2
    go_ret
    exact ⟨ret_int (by rw [wayV, if_neg (by rw [HP.out]; simp)]), Grew.refl _⟩
  | true =>
    have hc := hp
    unfold vEnds at hc
    simp only [Bool.and_eq_true] at hc
    obtain ⟨hg, hi0, hi1⟩ := vCell_facts hc.1
    obtain ⟨_, hk0, hk1⟩ := vCell_facts hc.2
    obtain ⟨n, en⟩ : ∃ n, h.length = n := ⟨_, rfl⟩
    obtain ⟨m, em⟩ : ∃ m, (h.getD 0 []).length = m := ⟨_, rfl⟩
    obtain ⟨N, eN⟩ : ∃ N, n * m = N := ⟨_, rfl⟩
    rw [en, em, eN] at hi1 hk1
    obtain ⟨I, rfl⟩ := Int.eq_ofNat_of_zero_le hi0
    obtain ⟨K, rfl⟩ := Int.eq_ofNat_of_zero_le hk0
    have HW : Hid (wayV upF h I K = costT (aroundL n m) h.flatten upF K N I) := Lib.hid (by rw [wayV, if_pos hp, en, em, eN]; rfl)
    have HL := Lib.hid fun (B1 B2 B3 : Nat) (W : World) (hW : Grew w W) hbx => lastCosts v h n m N K 51 upF B1 B2 B3 w W hv hg hS hW hbx en em eN (by omega) (fun _ _ => rfl) climbsOf_any upF_rule up_short
    obtain ⟨p, ep⟩ : ∃ p, h.flatten = p := ⟨_, rfl⟩
    rw [ep] at HW HL
    obtain ⟨a, b, o, c, rfl, _, _, _⟩ := hv.shape
    have HP := Lib.hid hp
    have HCT := Lib.hid fun (W : World) => costsTo_any a h.length c K 51 W
    have hIN : (I : Int) < (N : Int) := hi1
    clear hv hp hS hc hg en em eN ep
    go_enter Tryd.func16, Tryd.ntmps16
    go_wp2_with (fail)
    refine HV.out.mono ?_
    rw [HP.out]
    rintro e w1 ⟨rfl, rfl⟩
    go_wp2_with (fail)
    refine (HCT.out _).mono ?_
    rintro e w2 ⟨_, rfl, hbx, hg2, rfl, _⟩
    have H2 := Lib.hid (And.intro hbx hg2)
    clear hbx hg2
    go_wp2_with (fail)
    have HL2 := Lib.hid (HL.out _ _ _ w2 H2.out.2 H2.out.1)
    clear HL
    refine HL2.out.mono ?_
    rintro e w3 ⟨v3, rfl, ⟨⟨g, c3, rfl, _⟩, hi3⟩, hg3⟩
    rw [costL_len] at hi3 ⊢
    have hcx : w3.cell? ⟨g, I, none⟩ = some (.int .i64 (costT (aroundL n m) p upF K N I)) := by
      have := hi3.at I (by rw [costL_len]; omega)
      rwa [costL, tabL_at _ (show I < N by omega)] at this
    have H3 := Lib.hid (H2.out.2.trans hg3)
    obtain ⟨x, ex⟩ : ∃ x, costT (aroundL n m) p upF K N I = x := ⟨_, rfl⟩
    rw [ex] at hcx HW
    clear hi3 hg3 H2 ex
    go_wp2
    go_ret
    exact ⟨ret_int HW.out.symm, H3.out⟩

set_option maxRecDepth 100000 in
set_option maxHeartbeats 2000000 in
theorem SteepBetween_any (v : Value) (h : List (List Int)) (i k : Int) (w : World) (hv : RowsV w v h) (hS : Steps w) :
    Calls Tryd.prog 26 #[v, .int .i64 i, .int .i64 k] w fun e w' => e = .returned (.int .i64 (wayV steepF h i k)) ∧ Grew w w' := by
  have HV := Lib.hid (validEnds_any v h i k w hv)
  cases hp : vEnds h i k with
  | false =>
    obtain ⟨a, b, o, c, rfl, _, _, _⟩ := hv.shape
    have HP := Lib.hid hp
    clear hv hp hS
    go_enter Tryd.func26, Tryd.ntmps26
    go_wp2_with (fail)
    refine HV.out.mono ?_
    rw [HP.out]
    rintro e w1 ⟨rfl, rfl⟩
    go_wp2
    go_ret
    exact ⟨ret_int (by rw [wayV, if_neg (by rw [HP.out]; simp)]), Grew.refl _⟩
  | true =>
    have hc := hp
    unfold vEnds at hc
    simp only [Bool.and_eq_true] at hc
    obtain ⟨hg, hi0, hi1⟩ := vCell_facts hc.1
    obtain ⟨_, hk0, hk1⟩ := vCell_facts hc.2
    obtain ⟨n, en⟩ : ∃ n, h.length = n := ⟨_, rfl⟩
    obtain ⟨m, em⟩ : ∃ m, (h.getD 0 []).length = m := ⟨_, rfl⟩
    obtain ⟨N, eN⟩ : ∃ N, n * m = N := ⟨_, rfl⟩
    rw [en, em, eN] at hi1 hk1
    obtain ⟨I, rfl⟩ := Int.eq_ofNat_of_zero_le hi0
    obtain ⟨K, rfl⟩ := Int.eq_ofNat_of_zero_le hk0
    have HW : Hid (wayV steepF h I K = costT (aroundL n m) h.flatten steepF K N I) := Lib.hid (by rw [wayV, if_pos hp, en, em, eN]; rfl)
    have HL := Lib.hid fun (B1 B2 B3 : Nat) (W : World) (hW : Grew w W) hbx => lastCosts v h n m N K 60 steepF B1 B2 B3 w W hv hg hS hW hbx en em eN (by omega) (fun _ _ => rfl) steepestOf_any steepF_rule steep_short
    obtain ⟨p, ep⟩ : ∃ p, h.flatten = p := ⟨_, rfl⟩
    rw [ep] at HW HL
    obtain ⟨a, b, o, c, rfl, _, _, _⟩ := hv.shape
    have HP := Lib.hid hp
    have HCT := Lib.hid fun (W : World) => costsTo_any a h.length c K 60 W
    have hIN : (I : Int) < (N : Int) := hi1
    clear hv hp hS hc hg en em eN ep
    go_enter Tryd.func26, Tryd.ntmps26
    go_wp2_with (fail)
    refine HV.out.mono ?_
    rw [HP.out]
    rintro e w1 ⟨rfl, rfl⟩
    go_wp2_with (fail)
    refine (HCT.out _).mono ?_
    rintro e w2 ⟨_, rfl, hbx, hg2, rfl, _⟩
    have H2 := Lib.hid (And.intro hbx hg2)
    clear hbx hg2
    go_wp2_with (fail)
    have HL2 := Lib.hid (HL.out _ _ _ w2 H2.out.2 H2.out.1)
    clear HL
    refine HL2.out.mono ?_
    rintro e w3 ⟨v3, rfl, ⟨⟨g, c3, rfl, _⟩, hi3⟩, hg3⟩
    rw [costL_len] at hi3 ⊢
    have hcx : w3.cell? ⟨g, I, none⟩ = some (.int .i64 (costT (aroundL n m) p steepF K N I)) := by
      have := hi3.at I (by rw [costL_len]; omega)
      rwa [costL, tabL_at _ (show I < N by omega)] at this
    have H3 := Lib.hid (H2.out.2.trans hg3)
    obtain ⟨x, ex⟩ : ∃ x, costT (aroundL n m) p steepF K N I = x := ⟨_, rfl⟩
    rw [ex] at hcx HW
    clear hi3 hg3 H2 ex
    go_wp2
    go_ret
    exact ⟨ret_int HW.out.symm, H3.out⟩
end Go.Proofs.YtdhokofcgfolnaaDoor
