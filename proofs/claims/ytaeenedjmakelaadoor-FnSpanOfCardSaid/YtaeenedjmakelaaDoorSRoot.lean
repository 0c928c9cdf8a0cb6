/- The contracts of spec.root: a forest of cells. -/
import Derived.Test.YtaeenedjmakelaaDoorOrdM
import Derived.Test.YtaeenedjmakelaaDoorMeetM
namespace Go.Proofs.YtaeenedjmakelaaDoor
open Go.RowKit

/-- A forest: each cell has a cell of its own tree above it, nearer to the root, or is its root. -/
structure UpF (u : List Int) (N : Nat) (rt : Nat → Nat) : Prop where
  len : u.length = N
  ok : ∃ d : Nat → Nat, ∀ c, c < N → ∃ e : Nat, e < N ∧ u.getD c 0 = e ∧ rt e = rt c ∧ (e = c → rt c = c) ∧ (e ≠ c → d e < d c)
theorem UpF.lt {u : List Int} {N : Nat} {rt : Nat → Nat} (h : UpF u N rt) {c : Nat} (hc : c < N) : rt c < N ∧ rt (rt c) = rt c := by
  obtain ⟨d, hd⟩ := h.ok
  have key : ∀ (k : Nat) (c : Nat), c < N → d c ≤ k → rt c < N ∧ rt (rt c) = rt c := by
    intro k
    induction k with
    | zero =>
      intro c hc hk
      obtain ⟨e, he, _, h2, h3, h4⟩ := hd c hc
      by_cases ee : e = c
      · have := h3 ee; rw [this, this]; exact ⟨hc, rfl⟩
      · have := h4 ee; omega
    | succ k ih =>
      intro c hc hk
      obtain ⟨e, he, _, h2, h3, h4⟩ := hd c hc
      by_cases ee : e = c
      · have := h3 ee; rw [this, this]; exact ⟨hc, rfl⟩
      · have := h4 ee
        have := ih e he (by omega)
        rwa [h2] at this
  exact key _ c hc (Nat.le_refl _)
theorem UpF.join {u : List Int} {N : Nat} {rt : Nat → Nat} (h : UpF u N rt) {y e : Nat} (hy : y < N) (he : e < N) (ry : rt y = y) (re : rt e = e) (hne : y ≠ e) : UpF (u.set y (e : Int)) N (joinR rt y e) := by
  obtain ⟨d, hd⟩ := h.ok
  refine ⟨by rw [List.length_set]; exact h.len, fun c => if rt c = y then d c + d e + 1 else d c, fun c hc => ?_⟩
  by_cases ecy : c = y
  · subst ecy
    refine ⟨e, he, by rw [List.getD_eq_getElem?_getD, List.getElem?_set_self (by rw [h.len]; exact hc)]; rfl, ?_, fun e2 => absurd e2.symm hne, fun _ => ?_⟩
    · unfold joinR
      rw [re, ry, if_pos rfl, if_neg (fun e2 => hne e2.symm)]
    · show (if rt e = c then d e + d e + 1 else d e) < (if rt c = c then d c + d e + 1 else d c)
      rw [re, ry, if_pos rfl, if_neg (fun e2 => hne e2.symm)]; omega
  · obtain ⟨x, hx, h1, h2, h3, h4⟩ := hd c hc
    refine ⟨x, hx, by rw [List.getD_eq_getElem?_getD, List.getElem?_set_ne (fun e2 => ecy e2.symm), ← List.getD_eq_getElem?_getD]; exact h1, ?_, fun e2 => ?_, fun e2 => ?_⟩
    · unfold joinR; rw [h2]
    · have := h3 e2
      unfold joinR
      rw [this, if_neg ecy]
    · have := h4 e2
      show (if rt x = y then d x + d e + 1 else d x) < (if rt c = y then d c + d e + 1 else d c)
      rw [h2]
      split <;> omega
set_option maxRecDepth 100000 in
set_option maxHeartbeats 1000000 in
theorem sroot_any (v : Value) (u : List Int) (N : Nat) (rt : Nat → Nat) (c : Nat) (w : World) (hv : IntsV w v u) (hU : UpF u N rt) (hc : c < N) (hN : N ≤ 25) :
    Calls Tryd.prog 92 #[v, .int .i64 c] w fun e w' => e = .returned (.int .i64 (rt c : Nat)) ∧ w' = w := by
  have hul := hU.len
  obtain ⟨d, hd⟩ := hU.ok
  have HD := Lib.hid hd
  have HV := Lib.hid hv
  obtain ⟨a, b, o, cp, rfl, ⟨hlc, hcb⟩, ha, HC⟩ := hv.shape
  rw [hul] at hlc HC ha
  have HC2 : Hid (∀ i, i < N → w.cell? ⟨b, o + i, none⟩ = some (.int .i64 (u.getD i 0))) := Lib.hid fun i hi => HC.out i hi
  have ha2 := ha (by omega)
  subst ha2
  rw [hul]
  clear hv hU HC hd ha
  go_enter Tryd.func92, Tryd.ntmps92
  go_wp2_with (fail)
  go_loopw [1] (fun i' wr => ∃ x : Nat, x < N ∧ i' = .int .i64 x ∧ Hid (rt x = rt c) ∧ wr = w) (fun i' _ => d (intOf i').toNat)
  case atStart => exact ⟨c, hc, rfl, Lib.hid rfl, rfl⟩
  case round =>
    obtain ⟨x, hx, rfl, HX, rfl⟩ := hrel
    obtain ⟨e, he, h1, h2, h3, h4⟩ := HD.out x hx
    have hcx := HC2.out x hx
    rw [h1] at hcx
    have r1 : (x : Int) < N := by omega
    have r2 : (0 : Int) ≤ x := by omega
    by_cases ee : e = x
    · subst ee
      have HR := Lib.hid (h3 rfl)
      clear h1 h2 h3 h4
      go_wp2
      go_ret
      exact ⟨by rw [← HX.out, HR.out]; rfl, rfl⟩
    · have hne : ((e : Int) != (x : Int)) = true := by simp; omega
      have HM := Lib.hid (h4 ee)
      have H2 := Lib.hid h2
      clear h1 h2 h3 h4
      go_wp2
      go_roundw
      case rel => exact ⟨e, he, by first | rfl | go_num, Lib.hid (H2.out.trans HX.out), by trivial⟩
      case measure => simpa [intOf] using HM.out
end Go.Proofs.YtaeenedjmakelaaDoor
