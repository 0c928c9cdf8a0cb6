/- The contracts of spec.sees and spec.SeenFrom. -/
import Derived.Test.YtaeenedjmakelaaDoorSightM
import Derived.Test.YtaeenedjmakelaaDoorBoolApp
namespace Go.Proofs.YtaeenedjmakelaaDoor
open Go.RowKit

theorem vProf_at {p : List Int} (h : vProf p = true) (i : Nat) (hi : i < p.length) : 0 ≤ p.getD i 0 ∧ p.getD i 0 ≤ 12 := ((vProf_iff p).1 h).2.2 i hi
theorem vProf_len {p : List Int} (h : vProf p = true) : 1 ≤ p.length ∧ p.length ≤ 9 := ⟨((vProf_iff p).1 h).1, ((vProf_iff p).1 h).2.1⟩

set_option maxRecDepth 100000 in
set_option maxHeartbeats 1000000 in
theorem sees_any (v : Value) (p : List Int) (i k : Nat) (w : World) (hv : IntsV w v p) (hp : vProf p = true) (hi : i < p.length) (hk : k < p.length) :
    Calls Tryd.prog 80 #[v, .int .i64 i, .int .i64 k] w (QuietBool (seesB p (min i k) (max i k)) w) := by
  obtain ⟨h1, h9⟩ := vProf_len hp
  obtain ⟨a, b, o, c, rfl, ⟨hlc, hcb⟩, ha, HC⟩ := hv.shape
  obtain rfl := ha h1
  have HP := Lib.hid hp
  obtain ⟨A, hA⟩ : ∃ A, min i k = A := ⟨_, rfl⟩
  obtain ⟨B, hB⟩ : ∃ B, max i k = B := ⟨_, rfl⟩
  have e1 : min (i : Int) (k : Int) = (A : Int) := by omega
  have e2 : max (i : Int) (k : Int) = (B : Int) := by omega
  have hAB : A ≤ B := by omega
  have hBl : B < p.length := by omega
  rw [hA, hB]
  clear hv ha hp hA hB
  have hca := HC.out A (by omega)
  have hcb' := HC.out B hBl
  have hba := vProf_at HP.out A (by omega)
  have hbb := vProf_at HP.out B hBl
  obtain ⟨pa, ea⟩ : ∃ pa, p.getD A 0 = pa := ⟨_, rfl⟩
  obtain ⟨pb, eb⟩ : ∃ pb, p.getD B 0 = pb := ⟨_, rfl⟩
  rw [ea] at hca hba
  rw [eb] at hcb' hbb
  have HE := Lib.hid (And.intro ea eb)
  have HCA := Lib.hid (And.intro hca hcb')
  clear ea eb hca hcb'
  go_enter Tryd.func80, Tryd.ntmps80
  go_wp2
  clear e1 e2
  go_loopw [9] (fun i wr => ∃ x : Nat, A < x ∧ x ≤ B + 1 ∧ i = .int .i64 x ∧ Hid ((∀ y, A < y → y < x → y < B → (p.getD y 0 - p.getD A 0) * ((B : Int) - A) ≤ (p.getD B 0 - p.getD A 0) * ((y : Int) - A)) ∧ ∃ n, wr = w.drewN n)) (fun i _ => B + 1 - (intOf i).toNat)
  case atStart => exact ⟨A + 1, by omega, by omega, by go_num, fun y h1 h2 _ => by omega, 0, rfl⟩
  case round =>
    obtain ⟨x, hx1, hx2, rfl, HI⟩ := hrel
    by_cases hlt : x < B
    · have HW := Lib.hid (quiet_grew HI.out.2)
      have hcx := HW.out.cell (HC.out x (by omega))
      have hca := HW.out.cell HCA.out.1
      have hcb' := HW.out.cell HCA.out.2
      have hbx := vProf_at HP.out x (by omega)
      obtain ⟨px, ex⟩ : ∃ px, p.getD x 0 = px := ⟨_, rfl⟩
      rw [ex] at hcx hbx
      have HX := Lib.hid ex
      clear ex
      have m1 := mul_bd (px - pa) ((B : Int) - A) 100 100 (by omega) (by omega)
      have m2 := mul_bd (pb - pa) ((x : Int) - A) 100 100 (by omega) (by omega)
      have w1 : IntKind.i64.wrap (px - pa) = px - pa := wrap_small _ (by omega) (by omega)
      have w2 : IntKind.i64.wrap ((B : Int) - A) = (B : Int) - A := wrap_small _ (by omega) (by omega)
      have w3 : IntKind.i64.wrap ((px - pa) * ((B : Int) - A)) = (px - pa) * ((B : Int) - A) := wrap_small _ (by omega) (by omega)
      have w4 : IntKind.i64.wrap (pb - pa) = pb - pa := wrap_small _ (by omega) (by omega)
      have w5 : IntKind.i64.wrap ((x : Int) - A) = (x : Int) - A := wrap_small _ (by omega) (by omega)
      have w6 : IntKind.i64.wrap ((pb - pa) * ((x : Int) - A)) = (pb - pa) * ((x : Int) - A) := wrap_small _ (by omega) (by omega)
      have r1 : (x : Int) < p.length := by omega
      have r2 : (A : Int) < p.length := by omega
      have r3 : (B : Int) < p.length := by omega
      have r4 : (0 : Int) ≤ x := by omega
      have r5 : (0 : Int) ≤ A := by omega
      have r6 : (0 : Int) ≤ B := by omega
      clear m1 m2
      by_cases hle : (pb - pa) * ((x : Int) - A) < (px - pa) * ((B : Int) - A)
      · have HL := Lib.hid hle
        have hd : decide ((pb - pa) * ((x : Int) - A) < (px - pa) * ((B : Int) - A)) = true := by simpa using hle
        clear hle
        go_wp2
        go_quiet (fail)
        go_wp2
        go_ret
        refine ⟨ret_bool ?_, quiet_step HI.out.2 _⟩
        have := HL.out
        rw [← HX.out, ← HE.out.1, ← HE.out.2] at this
        rw [seesB_false hx1 hlt this]
      · have HL := Lib.hid hle
        have hd : decide ((pb - pa) * ((x : Int) - A) < (px - pa) * ((B : Int) - A)) = false := by simpa using hle
        clear hle
        go_wp2
        go_quiet (fail)
        go_wp2
        go_roundw
        case rel => exact ⟨x + 1, by omega, by omega, by go_num, fun y h1 h2 h3 => by
          by_cases e : y = x
          · subst e
            have := HL.out
            rw [HX.out, HE.out.1, HE.out.2]; omega
          · exact HI.out.1 y h1 (by omega) h3, quiet_step HI.out.2 _⟩
        case measure => simp [intOf]; omega
    · go_wp2
      go_ret
      refine ⟨ret_bool ?_, HI.out.2⟩
      exact ((seesB_iff p A B).2 fun y h1 h2 => HI.out.1 y h1 (by omega) h2).symm

def SeenPost (xs : List Bool) (w : World) (e : Ending) (w' : World) : Prop := ∃ v, e = .returned v ∧ BoolsO 4 w.heap.size w'.heap.size w' v xs ∧ Grew w w'
/-- What SeenFrom answers at all arguments. -/
def seenX (p : List Int) (i : Int) : List Bool := if vProf p = true ∧ 0 ≤ i ∧ i < p.length then seenL p i.toNat else []
theorem take_snocB {xs : List Bool} {n : Nat} {L : List Bool} (hx : xs = L.take n) (h : n < L.length) : xs ++ [L.getD n false] = L.take (n + 1) := by
  rw [List.take_succ_eq_append_getElem h, ← hx]
  simp [h]

end Go.Proofs.YtaeenedjmakelaaDoor
