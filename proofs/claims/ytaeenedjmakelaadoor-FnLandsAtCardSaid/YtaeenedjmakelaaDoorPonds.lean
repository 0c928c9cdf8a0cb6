/- The contracts of impl.pondsOf and PondsAt, and of spec.PondsAt: how many searches begin. -/
import Derived.Test.YtaeenedjmakelaaDoorPiecesT
import Derived.Test.YtaeenedjmakelaaDoorSPieces
namespace Go.Proofs.YtaeenedjmakelaaDoor
open Go.RowKit

def below (p : List Int) (t : Int) (i : Nat) : Bool := !above p t i
theorem belX_below (p : List Int) (t : Int) : belX p t false = below p t := by
  funext i
  unfold belX below
  cases above p t i <;> rfl
set_option maxRecDepth 100000 in
set_option maxHeartbeats 1000000 in
theorem pondClo_any (B fk : Nat) (lb : Array Value) (eg : ∀ (args : Array Value) (w : World), (callFunc fk args).run Tryd.prog w = .ok (.enter fk args) w) (N I : Nat) (P : Nat → Bool) (W : World)
    (hB : W.cell? ⟨B, 0, none⟩ = some (.func (.func fk) #[] lb)) (hT : Tells fk lb N P W) (hI : I < N) :
    Calls Tryd.prog 111 #[.int .i64 I, .pointer (some ⟨B, 0, none⟩)] W fun e w' => e = .returned (.bool (!P I)) ∧ ∃ q, w' = W.drewN q := by
  have H1 := Lib.hid (hT I W (Grew.refl _) hI)
  clear hT
  go_enter Tryd.func111, Tryd.ntmps111
  go_wp2_with (fail)
  refine H1.out.mono ?_
  cases hP : P I
  all_goals
    rintro e w2 ⟨rfl, hq⟩
    have HQ := Lib.hid (And.intro hq hP)
    clear hq hB hP
    go_wp2
    go_ret
    exact ⟨ret_bool (by rw [HQ.out.2]; rfl), HQ.out.1⟩
set_option maxRecDepth 100000 in
set_option maxHeartbeats 2000000 in
theorem pondsOf_any (v : Value) (h : List (List Int)) (t : Int) (w : World) (hv : RowsV w v h) (hg : vGrid h = true) (hS : Tc.Steps w) :
    Calls Tryd.prog 76 #[v, .int .i64 t] w fun e w' => ∃ v' f, e = .returned v' ∧ RowsO 22 3 w.heap.size w'.heap.size w' v' (piecesT f (whereL (h.length * (h.getD 0 []).length) (below h.flatten t))) ∧ Tc.Flats h.length (h.getD 0 []).length (bothB (below h.flatten t)) f ∧ Grew w w' := by
  have G := Grid.of hg
  have hpl := flat_grid_len G
  have HT := Lib.hid (higherThan_any v h t w hv hg)
  have HPO : Hid (∀ (lb : Array Value) (B : Nat) (W : World), Grew w W → Tells 105 lb (h.length * (h.getD 0 []).length) (above h.flatten t) W → W.cell? ⟨B, 0, none⟩ = some (.func (.func 105) #[] lb) →
      Calls Tryd.prog 71 #[v, .func (.func 110) #[] #[], .func (.func 111) #[] #[.pointer (some ⟨B, 0, none⟩)]] W
        fun e w' => ∃ v' f, e = .returned v' ∧ RowsO 22 3 W.heap.size w'.heap.size w' v' (piecesT f (whereL (h.length * (h.getD 0 []).length) (below h.flatten t))) ∧ Tc.Flats h.length (h.getD 0 []).length (bothB (below h.flatten t)) f ∧ Grew W w') := Lib.hid fun lb B W hW hTe hcB =>
    Tc.piecesOf_any v h h.length (h.getD 0 []).length (below h.flatten t) 111 #[.pointer (some ⟨B, 0, none⟩)] (enters_of Tryd.func111 (by kernel_rfl) rfl) W (hv.grew hW) hg (hS.grew hW) rfl rfl
      (fun I W2 hW2 hI => pondClo_any B _ lb (enters_of Tryd.func105 (by kernel_rfl) rfl) _ I _ W2 (hW2.cell hcB) (hTe.grew hW2) hI)
  rw [hpl] at HT
  obtain ⟨Q, eQ⟩ : ∃ Q : World → Ending → World → Prop, (fun W e w' => ∃ v' f, e = .returned v' ∧ RowsO 22 3 W.heap.size w'.heap.size w' v' (piecesT f (whereL (h.length * (h.getD 0 []).length) (below h.flatten t))) ∧ Tc.Flats h.length (h.getD 0 []).length (bothB (below h.flatten t)) f ∧ Grew W w') = Q := ⟨_, rfl⟩
  have HQ : Hid (∀ W e w', Grew w W → Q W e w' → ∃ v' L, e = .returned v' ∧ RowsO 22 3 W.heap.size w'.heap.size w' v' L ∧ Q w e w') := Lib.hid fun W e w' hW hq => by
    rw [← eQ] at hq ⊢
    obtain ⟨v', f, h1, h2, h3, h4⟩ := hq
    exact ⟨v', _, h1, h2, v', f, h1, h2.wide hW.size (Nat.le_refl _), h3, hW.trans h4⟩
  have HPO2 : Hid (∀ (lb : Array Value) (B : Nat) (W : World), Grew w W → Tells 105 lb (h.length * (h.getD 0 []).length) (above h.flatten t) W → W.cell? ⟨B, 0, none⟩ = some (.func (.func 105) #[] lb) →
      Calls Tryd.prog 71 #[v, .func (.func 110) #[] #[], .func (.func 111) #[] #[.pointer (some ⟨B, 0, none⟩)]] W (Q W)) := Lib.hid fun lb B W a b c => by
    have := HPO.out lb B W a b c
    rw [← eQ]
    exact this
  have eQ2 := congrFun eQ w
  rw [eQ2]
  clear HPO eQ eQ2
  obtain ⟨a, b, o, c, rfl, _, _, _⟩ := hv.shape
  show Calls _ _ _ _ (fun e w' => Q w e w')
  clear hv hg hS G hpl
  have hmf : ∀ (fn : Fn) (first cap : Array Value) (w : World), (Instr.makeFunc fn first cap).run Tryd.prog w = .ok (.func fn first cap) w := fun _ _ _ _ => rfl
  go_enter Tryd.func76, Tryd.ntmps76
  go_wp2_with (fail)
  refine HT.out.mono ?_
  rintro e w2 ⟨lb, rfl, hTe, hg2⟩
  have H2 := Lib.hid (And.intro hTe hg2)
  clear hTe hg2
  go_wp2_with (fail)
  refine (HPO2.out lb w2.heap.size (w2.alloc (.cells #[.func (.func 105) #[] lb] 65)) (H2.out.2.alloc _) (H2.out.1.grew ((Grew.refl _).alloc _)) (by simp)).mono ?_
  intro e w3 hq
  obtain ⟨v3, L, rfl, hO3, hq3⟩ := HQ.out _ e w3 (H2.out.2.alloc _) hq
  obtain ⟨a3, c3, rfl⟩ := hO3.sh
  have HF := Lib.hid hq3
  clear hq hO3 hq3
  go_wp2
  exact HF.out
/-- How many pieces the cells up to t have, corners and all. -/
noncomputable def pondsX (h : List (List Int)) (t : Int) : Int := if vLevel h t = true then cntT (h.length * (h.getD 0 []).length) (touchB (h.getD 0 []).length true) (below h.flatten t) (h.length * (h.getD 0 []).length) else -1
end Go.Proofs.YtaeenedjmakelaaDoor
