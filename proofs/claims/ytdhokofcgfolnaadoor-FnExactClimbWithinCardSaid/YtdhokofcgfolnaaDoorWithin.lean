/- The contract of impl.ClimbWithin. -/
import Derived.Test.YtdhokofcgfolnaaDoorClimb
import Derived.Test.YtdhokofcgfolnaaDoorCut
namespace Go.Proofs.YtdhokofcgfolnaaDoor
open Go.RowKit

/-- What the cheapest ways of at most s steps from i to k cost. -/
def withinL (h : List (List Int)) (i k s : Int) : Int :=
  if (vEnds h i k && inR s 0 30) = true then costT (aroundL h.length (h.getD 0 []).length) h.flatten upF k.toNat s.toNat i.toNat else -1

set_option maxRecDepth 100000 in
/-- What the last table of a cut iterator is. -/
theorem lastCut (v : Value) (h : List (List Int)) (n m N e s fk : Nat) (f : Int → Int → Int) (B1 B2 B3 B4 B5 : Nat) (w0 w : World) (hv : RowsV w0 v h) (hg : vGrid h = true) (hS : Steps w0) (hw : Grew w0 w)
    (hbx : CostsBox w v (.func (.func fk) #[] #[]) e B1 B2 B3) (h4 : w.cell? ⟨B4, 0, none⟩ = some (.func (.func 73) #[] #[.pointer (some ⟨B1, 0, none⟩), .pointer (some ⟨B2, 0, none⟩), .pointer (some ⟨B3, 0, none⟩)])) (h5 : w.cell? ⟨B5, 0, none⟩ = some (.int .i64 (s : Int)))
    (en : h.length = n) (em : (h.getD 0 []).length = m) (eN : n * m = N) (he : e < N) (eg : ∀ (args : Array Value) (w : World), (callFunc fk args).run Tryd.prog w = .ok (.enter fk args) w) (hF : RuleV fk f) (R : Rule f) (hs : Short f) :
    Calls Tryd.prog 49 #[.func (.func 77) #[] #[.pointer (some ⟨B4, 0, none⟩), .pointer (some ⟨B5, 0, none⟩)]] w fun e' w' => ∃ v', e' = .returned v' ∧ IntsAt w.heap.size w' v' (costL n m h.flatten f e N s) ∧ Grew w w' := by
  have G := Grid.of hg
  have hNb := around_range G en em eN
  have h0 : ∀ i x, x ∈ aroundL n m i → 0 ≤ x := fun i x hx => around_nonneg hx
  obtain ⟨T, hT1, hT2, hT3⟩ := still_first (p := h.flatten) R hs (e := e) hNb h0
  have eT : costL n m h.flatten f e N s = costL n m h.flatten f e N (min T s) := by
    rcases Nat.le_total T s with h | h
    · rw [Nat.min_eq_left h]; exact tabL_congr (hT2.all hNb s h)
    · rw [Nat.min_eq_right h]
  rw [eT]
  have b1 : B1 < w.heap.size := World.block_lt_of_cell? _ _ hbx.1
  have b2 : B2 < w.heap.size := World.block_lt_of_cell? _ _ hbx.2.1
  have b3 : B3 < w.heap.size := World.block_lt_of_cell? _ _ hbx.2.2
  have b5 : B5 < w.heap.size := World.block_lt_of_cell? _ _ h5
  refine lastOf_any 10 _ (min T s) (by decide) _ (costL n m h.flatten f e N) w (fun _ _ => rfl) fun w1 hg1 hs1 => ?_
  have hs0 := hw.size
  refine cutIter_in 9 (by decide) (fun k => k = w.heap.size) B4 B5 _ s T _ _ w1 (fun _ _ => rfl) (fun k hk => by omega) (hg1.cell h4) (hg1.cell h5) (by omega) fun S' w2 hg2 hS' => ?_
  have hs2 := hg2.size
  exact costsIter_in 8 (by decide) S' B1 B2 B3 e n m N fk T f v h w0 w2 hv hg hS ((hw.trans hg1).trans hg2) (fun k hk => by have := hS' k hk; omega) ((hbx.grew hg1).grew hg2) (fun hk => by have := (hS' _ hk).1; omega) (fun hk => by have := (hS' _ hk).1; omega) (fun hk => by have := (hS' _ hk).1; omega) en em eN he eg hF R hT1 hT2 hT3

set_option maxRecDepth 100000 in
set_option maxHeartbeats 2000000 in
theorem ClimbWithin_any (v : Value) (h : List (List Int)) (i k s : Int) (w : World) (hv : RowsV w v h) (hS : Steps w) :
    Calls Tryd.prog 20 #[v, .int .i64 i, .int .i64 k, .int .i64 s] w fun e w' => e = .returned (.int .i64 (withinL h i k s)) ∧ Grew w w' := by
  have HV := Lib.hid (validEnds_any v h i k w hv)
  have HSR : Hid (inR s 0 30 = (decide (0 ≤ s) && decide (s ≤ 30))) := Lib.hid rfl
  cases hp : vEnds h i k with
  | false =>
    obtain ⟨a, b, o, c, rfl, _, _, _⟩ := hv.shape
    have HP := Lib.hid hp
    clear hv hp hS
    go_enter Tryd.func20, Tryd.ntmps20
    go_wp2_with (fail)
    refine HV.out.mono ?_
    rw [HP.out]
    rintro e w1 ⟨rfl, rfl⟩
    go_wp2
    go_ret
    exact ⟨ret_int (by rw [withinL, if_neg (by rw [HP.out]; simp)]), Grew.refl _⟩
  | true =>
    by_cases hs0 : s < 0
    · obtain ⟨a, b, o, c, rfl, _, _, _⟩ := hv.shape
      have HP := Lib.hid hp
      clear hv hp hS
      go_enter Tryd.func20, Tryd.ntmps20
      go_wp2_with (fail)
      refine HV.out.mono ?_
      rw [HP.out]
      rintro e w1 ⟨rfl, rfl⟩
      go_wp2
      go_ret
      exact ⟨ret_int (by rw [withinL, if_neg (by rw [HSR.out]; simp; omega)]), Grew.refl _⟩
    · by_cases hs1 : 30 < s
      · obtain ⟨a, b, o, c, rfl, _, _, _⟩ := hv.shape
        have HP := Lib.hid hp
        clear hv hp hS
        go_enter Tryd.func20, Tryd.ntmps20
        go_wp2_with (fail)
        refine HV.out.mono ?_
        rw [HP.out]
        rintro e w1 ⟨rfl, rfl⟩
        go_wp2
        go_ret
        exact ⟨ret_int (by rw [withinL, if_neg (by rw [HSR.out]; simp; omega)]), Grew.refl _⟩
      · have hc := hp
        unfold vEnds at hc
        simp only [Bool.and_eq_true] at hc
        obtain ⟨hg, hi0, hi1⟩ := vCell_facts hc.1
        obtain ⟨_, hk0, hk1⟩ := vCell_facts hc.2
        obtain ⟨n, en⟩ : ∃ n, h.length = n := ⟨_, rfl⟩
        obtain ⟨m, em⟩ : ∃ m, (h.getD 0 []).length = m := ⟨_, rfl⟩
        obtain ⟨N, eN⟩ : ∃ N, n * m = N := ⟨_, rfl⟩
        rw [en, em, eN] at hi1 hk1
        obtain ⟨I, rfl⟩ := Int.eq_ofNat_of_zero_le hi0
        obtain ⟨K, rfl⟩ := Int.eq_ofNat_of_zero_le hk0
        obtain ⟨s, rfl⟩ := Int.eq_ofNat_of_zero_le (show 0 ≤ s by omega)
        have HW : Hid (withinL h I K s = costT (aroundL n m) h.flatten upF K s I) := Lib.hid (by rw [withinL, if_pos (by rw [HSR.out, hp]; simp; omega), en, em]; rfl)
        have HL := Lib.hid fun (B1 B2 B3 B4 B5 : Nat) (W : World) (hW : Grew w W) hbx h4 h5 => lastCut v h n m N K s 51 upF B1 B2 B3 B4 B5 w W hv hg hS hW hbx h4 h5 en em eN (by omega) (fun _ _ => rfl) climbsOf_any upF_rule up_short
        obtain ⟨p, ep⟩ : ∃ p, h.flatten = p := ⟨_, rfl⟩
        rw [ep] at HW HL
        obtain ⟨a, b, o, c, rfl, _, _, _⟩ := hv.shape
        have HP := Lib.hid hp
        have HCT := Lib.hid fun (W : World) => costsTo_any a h.length c K 51 W
        have HCU := Lib.hid fun (lb : Array Value) (W : World) => cutBehind_any 73 s lb W
        have hIN : (I : Int) < (N : Int) := hi1
        clear hv hp hS hc hg en em eN ep
        go_enter Tryd.func20, Tryd.ntmps20
        go_wp2_with (fail)
        refine HV.out.mono ?_
        rw [HP.out]
        rintro e w1 ⟨rfl, rfl⟩
        go_wp2_with (fail)
        refine (HCT.out _).mono ?_
        rintro e w2 ⟨_, rfl, hbx, hg2, rfl, _⟩
        have H2 := Lib.hid (And.intro hbx hg2)
        clear hbx hg2
        go_wp2_with (fail)
        refine (HCU.out _ _).mono ?_
        rintro e w3 ⟨_, rfl, hb3, hg3, rfl, _⟩
        have H3 := Lib.hid (And.intro (H2.out.1.grew hg3) (And.intro hb3 (H2.out.2.trans hg3)))
        clear hb3 hg3
        go_wp2_with (fail)
        have HL2 := Lib.hid (HL.out _ _ _ _ _ w3 H3.out.2.2 H3.out.1 H3.out.2.1.1 H3.out.2.1.2)
        clear HL
        refine HL2.out.mono ?_
        rintro e w4 ⟨v3, rfl, ⟨⟨g, c3, rfl, _⟩, hi3⟩, hg4⟩
        rw [costL_len] at hi3 ⊢
        have hcx : w4.cell? ⟨g, I, none⟩ = some (.int .i64 (costT (aroundL n m) p upF K s I)) := by
          have := hi3.at I (by rw [costL_len]; omega)
          rwa [costL, tabL_at _ (show I < N by omega)] at this
        have H4 := Lib.hid (H3.out.2.2.trans hg4)
        obtain ⟨x, ex⟩ : ∃ x, costT (aroundL n m) p upF K s I = x := ⟨_, rfl⟩
        rw [ex] at hcx HW
        clear hi3 hg4 H2 H3 HL2 ex
        go_wp2
        go_ret
        exact ⟨ret_int HW.out.symm, H4.out⟩
end Go.Proofs.YtdhokofcgfolnaaDoor
