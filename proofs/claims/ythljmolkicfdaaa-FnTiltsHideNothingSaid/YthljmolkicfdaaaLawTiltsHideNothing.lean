/- The law FnTiltsHideNothing returns true. -/
import Derived.Test.YthljmolkicfdaaaSeen
import Derived.Test.YthljmolkicfdaaaDrawsP2
import Derived.Test.YthljmolkicfdaaaEqualB
namespace Go.Proofs.Ythljmolkicfdaaa
open Go.RowKit

theorem seenX_ok {p : List Int} {i : Int} (h : (seenX p i).length ≠ 0) : (vProf p = true ∧ 0 ≤ i ∧ i < p.length) ∧ seenX p i = seenL p i.toNat := by
  unfold seenX at h ⊢
  by_cases hok : vProf p = true ∧ 0 ≤ i ∧ i < p.length
  · rw [if_pos hok]; exact ⟨hok, rfl⟩
  · rw [if_neg hok] at h; exact absurd rfl h

theorem dec_self (X : List Bool) : decide (X = X) = true := by simp
/-- Each height as much greater as its place. -/
def risen (p : List Int) : List Int := (List.range p.length).map fun k => p.getD k 0 + (k : Int)
theorem risen_len (p : List Int) : (risen p).length = p.length := by simp [risen]
theorem risen_at (p : List Int) (k : Nat) (h : k < p.length) : (risen p).getD k 0 = p.getD k 0 + k := by simp [risen, h]
theorem sees_risen (p : List Int) (a b : Nat) (hb : b < p.length) : seesB (risen p) a b = seesB p a b := by
  rw [Bool.eq_iff_iff, seesB_iff, seesB_iff]
  by_cases hab : a ≤ b
  · have key : ∀ x, a < x → x < b → ((p.getD x 0 + (x : Int) - (p.getD a 0 + a)) * ((b : Int) - a) ≤ (p.getD b 0 + (b : Int) - (p.getD a 0 + a)) * ((x : Int) - a) ↔ (p.getD x 0 - p.getD a 0) * ((b : Int) - a) ≤ (p.getD b 0 - p.getD a 0) * ((x : Int) - a)) := by
      intro x _ _
      have e1 : (p.getD x 0 + (x : Int) - (p.getD a 0 + a)) * ((b : Int) - a) = (p.getD x 0 - p.getD a 0) * ((b : Int) - a) + ((x : Int) - a) * ((b : Int) - a) := by
        rw [← Int.add_mul]; congr 1; omega
      have e2 : (p.getD b 0 + (b : Int) - (p.getD a 0 + a)) * ((x : Int) - a) = (p.getD b 0 - p.getD a 0) * ((x : Int) - a) + ((x : Int) - a) * ((b : Int) - a) := by
        rw [Int.mul_comm ((x : Int) - a) ((b : Int) - a), ← Int.add_mul]; congr 1; omega
      rw [e1, e2]
      omega
    constructor
    · intro h x h1 h2
      have := h x h1 h2
      rw [risen_at p x (by omega), risen_at p a (by omega), risen_at p b hb] at this
      exact (key x h1 h2).1 this
    · intro h x h1 h2
      rw [risen_at p x (by omega), risen_at p a (by omega), risen_at p b hb]
      exact (key x h1 h2).2 (h x h1 h2)
  · exact ⟨fun _ x h1 h2 => by omega, fun _ x h1 h2 => by omega⟩
theorem seen_risen (p : List Int) (n : Nat) (hn : n < p.length) : seenL (risen p) n = seenL p n := by
  unfold seenL
  rw [risen_len]
  refine List.map_congr_left fun k hk => sees_risen p _ _ ?_
  have := List.mem_range.1 hk
  omega

set_option maxRecDepth 100000 in
set_option maxHeartbeats 2000000 in
theorem FnTiltsHideNothing_any (v : Value) (bs : List Int) (w : World) (hv : NumsV .u8 w v bs) (hb : ∀ i, i < bs.length → 0 ≤ bs.getD i 0 ∧ bs.getD i 0 ≤ 255) :
    Calls Try.prog 6 #[v] w fun e w' => e = .returned (.bool true) ∧ Grew w w' := by
  have HD := Lib.hid (DrawSeenFrom_any v bs w hv hb)
  obtain ⟨a, b, o, c, rfl, ⟨hlc, hcb⟩, _, _⟩ := hv.shape
  clear hv hb
  by_cases hbig : 1048576 < bs.length
  · go_enter Try.func6, Try.ntmps6
    go_wp2
    go_ret
    exact ⟨rfl, Grew.refl _⟩
  · go_enter Try.func6, Try.ntmps6
    go_wp2_with (fail)
    refine HD.out.mono ?_
    rintro e w1 ⟨v1, p, i, rfl, hO, hd, hi, hg1⟩
    have h9 := hd.1
    have HB := Lib.hid hd.2
    have HV := Lib.hid (And.intro hO.toV hg1)
    obtain ⟨a3, c3, rfl⟩ := hO.sh
    obtain ⟨S, eS⟩ : ∃ S, seenX p i = S := ⟨_, rfl⟩
    have HS := Lib.hid eS
    clear hO hd hg1 HD eS
    go_wp2_with (fail)
    refine (SeenFrom_any _ p i _ HV.out.1).mono ?_
    rw [HS.out]
    rintro e w2 ⟨v2, rfl, hO2, hg2⟩
    have H2 := Lib.hid (And.intro hO2.toV hg2)
    obtain ⟨a2, c2, rfl⟩ := hO2.sh
    clear hO2 hg2
    go_wp2_with (fail)
    refine (SSeenFrom_any _ p i _ (HV.out.1.grew H2.out.2)).mono ?_
    rw [HS.out]
    rintro e w3 ⟨v3, rfl, hO3, hg3⟩
    have H3 := Lib.hid (And.intro hO3.toV (H2.out.2.trans hg3))
    have H23 := Lib.hid (H2.out.1.grew hg3)
    obtain ⟨a4, c4, rfl⟩ := hO3.sh
    clear hO3 hg3
    go_wp2_with (fail)
    refine (equalBools_any _ _ S S _ H23.out H3.out.1).mono ?_
    rw [dec_self]
    rintro e w4 ⟨rfl, hq⟩
    have HG4 := Lib.hid (H3.out.2.trans (quiet_grew hq))
    clear hq
    go_wp2_with (fail)
    refine (SeenFrom_any _ p i _ (HV.out.1.grew HG4.out)).mono ?_
    rw [HS.out]
    rintro e w5 ⟨v5, rfl, hO5, hg5⟩
    have H5 := Lib.hid (And.intro hO5.toV (HG4.out.trans hg5))
    obtain ⟨a5, c5, rfl⟩ := hO5.sh
    clear hO5 hg5
    by_cases hS : S.length = 0
    · have hS' : ((S.length : Int) == 0) = true := by simp [hS]
      clear hS
      go_wp2
      go_ret
      exact ⟨rfl, HV.out.2.trans H5.out.2⟩
    · have hok := seenX_ok (p := p) (i := i) (by rw [HS.out]; exact hS)
      rw [HS.out] at hok
      have HK := Lib.hid hok
      have hS' : ((S.length : Int) == 0) = false := beq_eq_false_iff_ne.2 (by omega)
      clear hok hS
      go_wp2_with (fail)
      have H0 : Hid (([] : List Int) = (risen p).take 0 ∧ IntsO 3 w5.heap.size (w5.alloc (.cells #[] 3)).heap.size (w5.alloc (.cells #[] 3)) (.slice (some ⟨w5.heap.size, 0, none⟩) 0 0) [] ∧ Grew w5 (w5.alloc (.cells #[] 3))) :=
        ⟨rfl, IntsO.litAt _ _ _ _ _ _ [] #[] rfl rfl rfl (Nat.le_refl _) (by simp) (by simp), (Grew.refl _).alloc _⟩
      go_loopw [6, 7] (fun v i' wr => ∃ (ys : List Int) (g c : Nat), v = .slice (some ⟨g, 0, none⟩) (List.length ys) c ∧ List.length ys ≤ p.length ∧ i' = .int .i64 (List.length ys) ∧ Hid (ys = (risen p).take (List.length ys) ∧ IntsO 3 w5.heap.size wr.heap.size wr v ys ∧ Grew w5 wr)) (fun _ i' _ => p.length - (intOf i').toNat)
      case atStart => exact ⟨[], _, _, rfl, Nat.zero_le _, rfl, H0⟩
      case round =>
        obtain ⟨ys, g, c', rfl, hy, rfl, HI⟩ := hrel
        clear H0
        by_cases hlt : ys.length < p.length
        · have hsz : w5.heap.size ≤ wr.heap.size := HI.out.2.2.size
          have hb := HB.out ys.length hlt
          have hvp := (HV.out.1.grew H5.out.2).grew HI.out.2.2
          obtain ⟨a', b', o', c'', e', _, ha', HC'⟩ := hvp.shape
          simp only [Value.slice.injEq] at e'
          obtain ⟨rfl, _, rfl⟩ := e'
          obtain rfl := ha' (by omega)
          have hc := HC'.out ys.length hlt
          obtain ⟨x, ex⟩ : ∃ x, p.getD ys.length 0 = x := ⟨_, rfl⟩
          rw [ex] at hc hb
          have HX := Lib.hid ex
          have e1 : IntKind.i64.wrap (x + (ys.length : Int)) = x + (ys.length : Int) := wrap_small _ (by omega) (by omega)
          clear ex ha' hvp
          go_wp2_with (at_builtin; refine wpList_append_int rfl (.tmp 38) (.tmp 45) 23 rfl Try.underlying23 Try.infoE rfl rfl rfl HI.out.2.1 (by omega) (by omega) ?_; intro g5 c5' w6 hO6 hW6 hS6)
          have HF : Hid (IntsO 3 w5.heap.size w6.heap.size w6 (.slice (some ⟨g5, 0, none⟩) (ys.length + 1) c5') (ys ++ [x + (ys.length : Int)]) ∧ Grew w5 w6) := ⟨hO6, Within.grew HI.out.2.2 hW6 (Nat.le_refl _)⟩
          clear hO6 hW6 hS6
          go_wp2
          clear e1
          go_roundw
          case rel => exact ⟨ys ++ [x + (ys.length : Int)], g5, c5', by simp, by simp; omega, by simp, by
            have hr : ys.length < (risen p).length := by rw [risen_len]; exact hlt
            have := List.take_succ_eq_append_getElem hr
            rw [← HI.out.1] at this
            have hg : (risen p)[ys.length] = x + (ys.length : Int) := by
              have := risen_at p ys.length hlt
              rw [HX.out] at this
              simpa [hr] using this
            rw [List.length_append, List.length_singleton, this, hg], HF.out.1, HF.out.2⟩
          case measure => simp [intOf]; omega
        · have HQ : Hid (IntsV wr (.slice (some ⟨g, 0, none⟩) ys.length c') (risen p)) := by
            have e := HI.out.1
            rw [List.take_of_length_le (by rw [risen_len]; omega)] at e
            have := HI.out.2.1.toV
            rw [← e]; exact this
          go_wp2_with (fail)
          refine (SeenFrom_any _ (risen p) i _ HQ.out).mono ?_
          obtain ⟨T, eT⟩ : ∃ T, seenX (risen p) i = T := ⟨_, rfl⟩
          rw [eT]
          have HTT := Lib.hid eT
          clear eT
          rintro e w7 ⟨v7, rfl, hO7, hg7⟩
          have H7 := Lib.hid (And.intro hO7.toV (HI.out.2.2.trans hg7))
          obtain ⟨a7, c7, rfl⟩ := hO7.sh
          clear hO7 hg7
          by_cases hT : T.length = 0
          · have hT' : ((T.length : Int) == 0) = true := by simp [hT]
            clear hT
            go_wp2
            go_ret
            exact ⟨rfl, HV.out.2.trans (H5.out.2.trans H7.out.2)⟩
          · have hok := seenX_ok (p := risen p) (i := i) (by rw [HTT.out]; exact hT)
            rw [HTT.out] at hok
            have hTS : T = S := by
              rw [hok.2, HK.out.2]
              exact seen_risen p _ (by have := HK.out.1; omega)
            have hT' : ((T.length : Int) == 0) = false := beq_eq_false_iff_ne.2 (by omega)
            have HTS := Lib.hid hTS
            clear hok hT hTS
            go_wp2_with (fail)
            refine (equalBools_any _ _ T S _ H7.out.1 (H5.out.1.grew H7.out.2)).mono ?_
            rw [show decide (T = S) = true by simp [HTS.out]]
            rintro e w8 ⟨rfl, hq⟩
            have HG8 := Lib.hid (quiet_grew hq)
            clear hq
            go_wp2
            go_ret
            exact ⟨rfl, HV.out.2.trans (H5.out.2.trans (H7.out.2.trans HG8.out))⟩
end Go.Proofs.Ythljmolkicfdaaa
