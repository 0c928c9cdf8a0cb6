/- The contracts of impl.pondsOf and PondsAt, and of spec.PondsAt: how many searches begin. -/
import Derived.Test.YtdfnhodhdfhhcaaDoorPiecesT
import Derived.Test.YtdfnhodhdfhhcaaDoorSPieces
namespace Go.Proofs.YtdfnhodhdfhhcaaDoor
open Go.RowKit

def below (p : List Int) (t : Int) (i : Nat) : Bool := !above p t i
theorem belX_below (p : List Int) (t : Int) : belX p t false = below p t := by
  funext i
  unfold belX below
  cases above p t i <;> rfl
set_option maxRecDepth 100000 in
set_option maxHeartbeats 1000000 in
theorem pondClo_any (B fk : Nat) (lb : Array Value) (eg : ∀ (args : Array Value) (w : World), (callFunc fk args).run Tryd.prog w = .ok (.enter fk args) w) (N I : Nat) (P : Nat → Bool) (W : World)
    (hB : W.cell? ⟨B, 0, none⟩ = some (.func (.func fk) #[] lb)) (hT : Tells fk lb N P W) (hI : I < N) :
    Calls Tryd.prog 68 #[.int .i64 I, .pointer (some ⟨B, 0, none⟩)] W fun e w' => e = .returned (.bool (!P I)) ∧ ∃ q, w' = W.drewN q := by
  have H1 := Lib.hid (hT I W (Grew.refl _) hI)
  clear hT
  go_enter Tryd.func68, Tryd.ntmps68
  go_wp2_with (fail)
  refine H1.out.mono ?_
  cases hP : P I
  all_goals
    rintro e w2 ⟨rfl, hq⟩
    have HQ := Lib.hid (And.intro hq hP)
    clear hq hB hP
    go_wp2
    go_ret
    exact ⟨ret_bool (by rw [HQ.out.2]; rfl), HQ.out.1⟩
set_option maxRecDepth 100000 in
set_option maxHeartbeats 2000000 in
theorem pondsOf_any (v : Value) (h : List (List Int)) (t : Int) (w : World) (hv : RowsV w v h) (hg : vGrid h = true) (hS : Tc.Steps w) :
    Calls Tryd.prog 47 #[v, .int .i64 t] w fun e w' => ∃ v' f, e = .returned v' ∧ RowsO 29 3 w.heap.size w'.heap.size w' v' (piecesT f (whereL (h.length * (h.getD 0 []).length) (below h.flatten t))) ∧ Tc.Flats h.length (h.getD 0 []).length (bothB (below h.flatten t)) f ∧ Grew w w' := by
  have G := Grid.of hg
  have hpl := flat_grid_len G
  have HT := Lib.hid (higherThan_any v h t w hv hg)
  have HPO : Hid (∀ (lb : Array Value) (B : Nat) (W : World), Grew w W → Tells 59 lb (h.length * (h.getD 0 []).length) (above h.flatten t) W → W.cell? ⟨B, 0, none⟩ = some (.func (.func 59) #[] lb) →
      Calls Tryd.prog 45 #[v, .func (.func 67) #[] #[], .func (.func 68) #[] #[.pointer (some ⟨B, 0, none⟩)]] W
        fun e w' => ∃ v' f, e = .returned v' ∧ RowsO 29 3 W.heap.size w'.heap.size w' v' (piecesT f (whereL (h.length * (h.getD 0 []).length) (below h.flatten t))) ∧ Tc.Flats h.length (h.getD 0 []).length (bothB (below h.flatten t)) f ∧ Grew W w') := Lib.hid fun lb B W hW hTe hcB =>
    Tc.piecesOf_any v h h.length (h.getD 0 []).length (below h.flatten t) 68 #[.pointer (some ⟨B, 0, none⟩)] (enters_of Tryd.func68 (by kernel_rfl) rfl) W (hv.grew hW) hg (hS.grew hW) rfl rfl
      (fun I W2 hW2 hI => pondClo_any B _ lb (enters_of Tryd.func59 (by kernel_rfl) rfl) _ I _ W2 (hW2.cell hcB) (hTe.grew hW2) hI)
  rw [hpl] at HT
  obtain ⟨Q, eQ⟩ : ∃ Q : World → Ending → World → Prop, (fun W e w' => ∃ v' f, e = .returned v' ∧ RowsO 29 3 W.heap.size w'.heap.size w' v' (piecesT f (whereL (h.length * (h.getD 0 []).length) (below h.flatten t))) ∧ Tc.Flats h.length (h.getD 0 []).length (bothB (below h.flatten t)) f ∧ Grew W w') = Q := ⟨_, rfl⟩
  have HQ : Hid (∀ W e w', Grew w W → Q W e w' → ∃ v' L, e = .returned v' ∧ RowsO 29 3 W.heap.size w'.heap.size w' v' L ∧ Q w e w') := Lib.hid fun W e w' hW hq => by
    rw [← eQ] at hq ⊢
    obtain ⟨v', f, h1, h2, h3, h4⟩ := hq
    exact ⟨v', _, h1, h2, v', f, h1, h2.wide hW.size (Nat.le_refl _), h3, hW.trans h4⟩
  have HPO2 : Hid (∀ (lb : Array Value) (B : Nat) (W : World), Grew w W → Tells 59 lb (h.length * (h.getD 0 []).length) (above h.flatten t) W → W.cell? ⟨B, 0, none⟩ = some (.func (.func 59) #[] lb) →
      Calls Tryd.prog 45 #[v, .func (.func 67) #[] #[], .func (.func 68) #[] #[.pointer (some ⟨B, 0, none⟩)]] W (Q W)) := Lib.hid fun lb B W a b c => by
    have := HPO.out lb B W a b c
    rw [← eQ]
    exact this
  have eQ2 := congrFun eQ w
  rw [eQ2]
  clear HPO eQ eQ2
  obtain ⟨a, b, o, c, rfl, _, _, _⟩ := hv.shape
  show Calls _ _ _ _ (fun e w' => Q w e w')
  clear hv hg hS G hpl
  have hmf : ∀ (fn : Fn) (first cap : Array Value) (w : World), (Instr.makeFunc fn first cap).run Tryd.prog w = .ok (.func fn first cap) w := fun _ _ _ _ => rfl
  go_enter Tryd.func47, Tryd.ntmps47
  go_wp2_with (fail)
  refine HT.out.mono ?_
  rintro e w2 ⟨lb, rfl, hTe, hg2⟩
  have H2 := Lib.hid (And.intro hTe hg2)
  clear hTe hg2
  go_wp2_with (fail)
  refine (HPO2.out lb w2.heap.size (w2.alloc (.cells #[.func (.func 59) #[] lb] 39)) (H2.out.2.alloc _) (H2.out.1.grew ((Grew.refl _).alloc _)) (by simp)).mono ?_
  intro e w3 hq
  obtain ⟨v3, L, rfl, hO3, hq3⟩ := HQ.out _ e w3 (H2.out.2.alloc _) hq
  obtain ⟨a3, c3, rfl⟩ := hO3.sh
  have HF := Lib.hid hq3
  clear hq hO3 hq3
  go_wp2
  exact HF.out
/-- How many pieces the cells up to t have, corners and all. -/
noncomputable def pondsX (h : List (List Int)) (t : Int) : Int := if vLevel h t = true then cntT (h.length * (h.getD 0 []).length) (touchB (h.getD 0 []).length true) (below h.flatten t) (h.length * (h.getD 0 []).length) else -1
set_option maxRecDepth 100000 in
set_option maxHeartbeats 1000000 in
theorem PondsAt_any (v : Value) (h : List (List Int)) (t : Int) (w : World) (hv : RowsV w v h) (hS : Tc.Steps w) :
    Calls Tryd.prog 23 #[v, .int .i64 t] w fun e w' => e = .returned (.int .i64 (pondsX h t)) ∧ Grew w w' := by
  have HV := Lib.hid (validLevel_any v h t w hv)
  have HR := Lib.hid (And.intro hv hS)
  obtain ⟨a, b, o, c, rfl, _, _, _⟩ := hv.shape
  clear hv hS
  unfold pondsX
  cases hp : vLevel h t with
  | false =>
    have HP := Lib.hid hp
    clear hp
    go_enter Tryd.func23, Tryd.ntmps23
    go_wp2_with (fail)
    refine HV.out.mono ?_
    rw [HP.out]
    rintro e w1 ⟨rfl, rfl⟩
    go_wp2
    go_ret
    exact ⟨ret_int (by simp), Grew.refl _⟩
  | true =>
    have hg := vLevel_grid hp
    have G := Grid.of hg
    have hn5 := G.n5
    have hm5 := G.m5
    have HP := Lib.hid (And.intro hp hg)
    have HN := Lib.hid (And.intro hn5 hm5)
    clear hp hg G hn5 hm5
    go_enter Tryd.func23, Tryd.ntmps23
    go_wp2_with (fail)
    refine HV.out.mono ?_
    rw [HP.out.1]
    rintro e w1 ⟨rfl, rfl⟩
    go_wp2_with (fail)
    refine (pondsOf_any _ h t w HR.out.1 HP.out.2 HR.out.2).mono ?_
    rintro e w3 ⟨v3, f, rfl, hO3, hF3, hg3⟩
    obtain ⟨a3, c3, rfl⟩ := hO3.sh
    have HG3 := Lib.hid hg3
    have hc := Tc.pieces_cnt HN.out.1 HN.out.2 hF3 _ (Nat.le_refl _)
    obtain ⟨K, eK⟩ : ∃ K, (piecesT f (whereL (h.length * (h.getD 0 []).length) (below h.flatten t))).length = K := ⟨_, rfl⟩
    rw [eK] at hc ⊢
    have HK := Lib.hid hc
    clear hO3 hg3 eK hc hF3
    go_wp2
    go_ret
    exact ⟨ret_int HK.out, HG3.out⟩
set_option maxRecDepth 100000 in
set_option maxHeartbeats 1000000 in
theorem SPondsAt_any (v : Value) (h : List (List Int)) (t : Int) (w : World) (hv : RowsV w v h) :
    Calls Tryd.prog 24 #[v, .int .i64 t] w fun e w' => e = .returned (.int .i64 (pondsX h t)) ∧ Grew w w' := by
  have HV := Lib.hid (validTop_any v h t w hv)
  have HR := Lib.hid hv
  obtain ⟨a, b, o, c, rfl, _, _, _⟩ := hv.shape
  clear hv
  unfold pondsX
  cases hp : vLevel h t with
  | false =>
    have HP := Lib.hid hp
    clear hp
    go_enter Tryd.func24, Tryd.ntmps24
    go_wp2_with (fail)
    refine HV.out.mono ?_
    rw [HP.out]
    rintro e w1 ⟨rfl, hg1⟩
    have HG1 := Lib.hid hg1
    clear hg1
    go_wp2
    go_ret
    exact ⟨ret_int (by simp), HG1.out⟩
  | true =>
    have HP := Lib.hid (And.intro hp (vLevel_grid hp))
    clear hp
    go_enter Tryd.func24, Tryd.ntmps24
    go_wp2_with (fail)
    refine HV.out.mono ?_
    rw [HP.out.1]
    rintro e w1 ⟨rfl, hg1⟩
    have HG1 := Lib.hid hg1
    clear hg1
    go_wp2_with (fail)
    refine (spieces_any _ h t false true _ (HR.out.grew HG1.out) HP.out.2).mono ?_
    rw [belX_below]
    obtain ⟨K, eK⟩ : ∃ K, cntT (h.length * (h.getD 0 []).length) (touchB (h.getD 0 []).length true) (below h.flatten t) (h.length * (h.getD 0 []).length) = K := ⟨_, rfl⟩
    rw [eK]
    rintro e w2 ⟨rfl, hg2⟩
    have HG2 := Lib.hid (HG1.out.trans hg2)
    have HK := Lib.hid eK
    clear hg2 eK
    go_wp2
    go_ret
    exact ⟨ret_int HK.out.symm, HG2.out⟩
end Go.Proofs.YtdfnhodhdfhhcaaDoor
