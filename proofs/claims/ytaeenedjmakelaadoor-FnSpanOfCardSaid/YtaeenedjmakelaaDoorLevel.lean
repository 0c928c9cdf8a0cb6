/- The contracts of impl.validLevel, higherThan, cellsWhere, AreaAt, and of spec.validTop and AreaAt. -/
import Derived.Test.YtaeenedjmakelaaDoorAt
import Derived.Test.YtaeenedjmakelaaDoorSGrid
import Derived.Test.YtaeenedjmakelaaDoorConcat
import Derived.Test.YtaeenedjmakelaaDoorExact
import Derived.Test.YtaeenedjmakelaaDoorSumTo
import Derived.Shelf.Abstract
namespace Go.Proofs.YtaeenedjmakelaaDoor
open Go.RowKit

def vLevel (h : List (List Int)) (t : Int) : Bool := vGrid h && inR t (-1) 12
set_option maxRecDepth 100000 in
set_option maxHeartbeats 400000 in
theorem validLevel_any (v : Value) (h : List (List Int)) (t : Int) (w : World) (hv : RowsV w v h) :
    Calls Tryd.prog 68 #[v, .int .i64 t] w fun e w' => e = .returned (.bool (vLevel h t)) ∧ w = w' := by
  have HV := Lib.hid (ValidGrid_any v h w hv)
  obtain ⟨a, b, o, c, rfl, _, _, _⟩ := hv.shape
  clear hv
  cases hp : vGrid h
  all_goals
    have HP := Lib.hid hp
    clear hp
    by_cases h0 : -1 ≤ t
    all_goals
      go_enter Tryd.func68, Tryd.ntmps68
      go_wp2_with (fail)
      refine HV.out.mono ?_
      rw [HP.out]
      rintro e w1 ⟨rfl, rfl⟩
      go_wp2
      go_ret
      refine ⟨ret_bool ?_, rfl⟩
      simp [vLevel, inR, HP.out]
      try omega
set_option maxRecDepth 100000 in
set_option maxHeartbeats 400000 in
theorem validTop_any (v : Value) (h : List (List Int)) (t : Int) (w : World) (hv : RowsV w v h) :
    Calls Tryd.prog 74 #[v, .int .i64 t] w fun e w' => e = .returned (.bool (vLevel h t)) ∧ Grew w w' := by
  have HV := Lib.hid (sValidGrid_any v h w hv)
  obtain ⟨a, b, o, c, rfl, _, _, _⟩ := hv.shape
  clear hv
  cases hp : vGrid h with
  | false =>
    have HP := Lib.hid hp
    clear hp
    go_enter Tryd.func74, Tryd.ntmps74
    go_wp2_with (fail)
    refine HV.out.mono ?_
    rw [HP.out]
    rintro e w1 ⟨rfl, hg⟩
    have HG := Lib.hid hg
    clear hg
    go_wp2
    go_ret
    exact ⟨ret_bool (by simp [vLevel, HP.out]), HG.out⟩
  | true =>
    have HP := Lib.hid hp
    clear hp
    go_enter Tryd.func74, Tryd.ntmps74
    go_wp2_with (fail)
    refine HV.out.mono ?_
    rw [HP.out]
    rintro e w1 ⟨rfl, hg⟩
    have HG := Lib.hid hg
    clear hg
    go_wp2_with (fail)
    refine (inRange_any _ _ _ _).mono ?_
    rintro e w2 ⟨rfl, rfl⟩
    go_wp2
    go_ret
    exact ⟨ret_bool (by simp [vLevel, HP.out]), HG.out⟩

/-- Whether a cell is higher than t. -/
def above (p : List Int) (t : Int) (i : Nat) : Bool := decide (t < p.getD i 0)
/-- A function value (function fk, what it captured: lb) that tells P of the cells below N. -/
def Tells (fk : Nat) (lb : Array Value) (N : Nat) (P : Nat → Bool) (w : World) : Prop :=
  ∀ (I : Nat) (W : World), Grew w W → I < N → Calls Tryd.prog fk (#[.int .i64 I] ++ lb) W fun e w' => e = .returned (.bool (P I)) ∧ ∃ q, w' = W.drewN q
theorem Tells.grew {fk : Nat} {lb : Array Value} {N : Nat} {P : Nat → Bool} {w w' : World} (h : Tells fk lb N P w) (hg : Grew w w') : Tells fk lb N P w' := fun I W hW hI => h I W (hg.trans hW) hI
def HigherPost (p : List Int) (t : Int) (N : Nat) (w : World) (e : Ending) (w' : World) : Prop := ∃ lb, e = .returned (.func (.func 105) #[] lb) ∧ Tells 105 lb N (above p t) w' ∧ Grew w w'

set_option maxRecDepth 100000 in
set_option maxHeartbeats 1000000 in
theorem higherClo_any (B B2 g c N I : Nat) (p : List Int) (t : Int) (W : World) (hB : W.cell? ⟨B, 0, none⟩ = some (.slice (some ⟨g, 0, none⟩) N c)) (hB2 : W.cell? ⟨B2, 0, none⟩ = some (.int .i64 t)) (hI : I < N)
    (h1 : W.cell? ⟨g, I, none⟩ = some (.int .i64 (p.getD I 0))) :
    Calls Tryd.prog 105 #[.int .i64 I, .pointer (some ⟨B, 0, none⟩), .pointer (some ⟨B2, 0, none⟩)] W fun e w' => e = .returned (.bool (above p t I)) ∧ ∃ q, w' = W.drewN q := by
  obtain ⟨x, ex⟩ : ∃ x, p.getD I 0 = x := ⟨_, rfl⟩
  have HS : Hid (above p t I = decide (t < x)) := Lib.hid (by rw [above, ex])
  rw [ex] at h1
  have hI' : (I : Int) < (N : Int) := by omega
  clear ex
  go_enter Tryd.func105, Tryd.ntmps105
  go_wp2
  go_quiet (fail)
  go_wp2
  go_ret
  exact ⟨ret_bool HS.out.symm, _, rfl⟩

set_option maxRecDepth 100000 in
set_option maxHeartbeats 1000000 in
theorem higherThan_any (v : Value) (h : List (List Int)) (t : Int) (w : World) (hv : RowsV w v h) (hg : vGrid h = true) :
    Calls Tryd.prog 70 #[v, .int .i64 t] w (HigherPost h.flatten t h.flatten.length w) := by
  have G := Grid.of hg
  have HK : Hid (∀ W, Grew w W → Calls Tryd.prog 60 #[v] W (FlatPost W h.flatten)) := fun W hW =>
    slicesConcat_any v h W (hv.grew hW) G.n1 (Nat.le_trans G.n5 (by decide)) (fun r hr => by have := G.len r hr; have := G.m1; have := G.m5; omega)
  obtain ⟨p, ep⟩ : ∃ p, h.flatten = p := ⟨_, rfl⟩
  rw [ep] at HK ⊢
  obtain ⟨a, b, o, c, rfl, _, _, _⟩ := hv.shape
  clear hv hg G ep
  have hmf : ∀ (fn : Fn) (first cap : Array Value) (w : World), (Instr.makeFunc fn first cap).run Tryd.prog w = .ok (.func fn first cap) w := fun _ _ _ _ => rfl
  go_enter Tryd.func70, Tryd.ntmps70
  go_wp2_with (fail)
  refine (HK.out _ ((Grew.refl _).alloc _)).mono ?_
  rintro e w1 ⟨g1, c1, rfl, hO1, hg1⟩
  have hb2 : w1.cell? ⟨w.heap.size, 0, none⟩ = some (.int .i64 t) := hg1.cell (by simp)
  have H1 : Hid (IntsO 3 w.heap.size (w1.alloc (.cells #[.slice (some ⟨g1, 0, none⟩) p.length c1] 22)).heap.size (w1.alloc (.cells #[.slice (some ⟨g1, 0, none⟩) p.length c1] 22)) (.slice (some ⟨g1, 0, none⟩) p.length c1) p ∧ Grew w (w1.alloc (.cells #[.slice (some ⟨g1, 0, none⟩) p.length c1] 22)) ∧ (w1.alloc (.cells #[.slice (some ⟨g1, 0, none⟩) p.length c1] 22)).cell? ⟨w.heap.size, 0, none⟩ = some (.int .i64 t) ∧ (w1.alloc (.cells #[.slice (some ⟨g1, 0, none⟩) p.length c1] 22)).cell? ⟨w1.heap.size, 0, none⟩ = some (.slice (some ⟨g1, 0, none⟩) p.length c1)) :=
    ⟨(hO1.grew ((Grew.refl w1).alloc _)).wide (by simp) (by simp), (((Grew.refl _).alloc _).trans hg1).alloc _, ((Grew.refl w1).alloc _).cell hb2, by simp⟩
  clear hO1 hg1 hb2
  go_wp2
  go_ret
  refine ⟨_, rfl, fun I W hW hI => ?_, H1.out.2.1⟩
  exact higherClo_any w1.heap.size w.heap.size g1 c1 p.length I p t W (hW.cell H1.out.2.2.2) (hW.cell H1.out.2.2.1) hI ((H1.out.1.grew hW).at rfl hI).1

/-- The cells of which P holds. -/
def whereL (N : Nat) (P : Nat → Bool) : List Int := ((List.range N).filter P).map fun (i : Nat) => (i : Int)
theorem whereL_succ (N : Nat) (P : Nat → Bool) : whereL (N + 1) P = whereL N P ++ (if P N = true then [(N : Int)] else []) := by
  unfold whereL
  rw [List.range_succ, List.filter_append, List.map_append]
  cases h : P N <;> simp [h]
theorem whereL_len (N : Nat) (P : Nat → Bool) : (whereL N P).length ≤ N := by
  unfold whereL
  rw [List.length_map]
  exact Nat.le_trans (List.length_filter_le _ _) (by simp)

set_option maxRecDepth 100000 in
set_option maxHeartbeats 2000000 in
theorem cellsWhere_any (v : Value) (h : List (List Int)) (N : Nat) (P : Nat → Bool) (fk : Nat) (lb : Array Value) (eg : ∀ (args : Array Value) (w : World), (callFunc fk args).run Tryd.prog w = .ok (.enter fk args) w)
    (w : World) (hv : RowsV w v h) (hg : vGrid h = true) (eN : h.length * (h.getD 0 []).length = N) (hC : Tells fk lb N P w) :
    Calls Tryd.prog 69 #[v, .func (.func fk) #[] lb] w fun e w' => ∃ a c, e = .returned (.slice a (whereL N P).length c) ∧ IntsO 3 w.heap.size w'.heap.size w' (.slice a (whereL N P).length c) (whereL N P) ∧ Grew w w' := by
  have G := Grid.of hg
  have hn5 := G.n5
  have hn1 := G.n1
  have hm5 := G.m5
  have hm1 := G.m1
  have HC := Lib.hid hC
  obtain ⟨a, b, o, c, rfl, ⟨hlc, hcb⟩, ha, HCR⟩ := hv.shape
  obtain rfl := ha (by omega)
  obtain ⟨u0, hcu0, hu0⟩ := HCR.out 0 (by omega)
  rw [Nat.add_zero] at hcu0
  obtain ⟨m, em⟩ : ∃ m, (h.getD 0 []).length = m := ⟨_, rfl⟩
  obtain ⟨a0, b0, o0, c0, rfl, _, _, _⟩ := hu0.shape
  rw [em] at hcu0 eN hm5 hm1
  have hN25 : N ≤ 25 := by rw [← eN]; exact Nat.mul_le_mul hn5 hm5
  have hmul : (h.length : Int) * (m : Int) = (N : Int) := by rw [← eN]; simp
  have hn0 : 0 < h.length := by omega
  clear hv hg G hC ha HCR hu0 em eN
  go_enter Tryd.func69, Tryd.ntmps69
  go_wp2
  go_loopg [5, 14] N (fun gk v i' wr => ∃ (k n : Nat) (sa : Option Addr) (sc : Nat), v = .slice sa n sc ∧ i' = .int .i64 k ∧ k ≤ N ∧ N ≤ gk + k ∧ Hid (n = (whereL k P).length ∧ IntsO 3 w.heap.size wr.heap.size wr v (whereL k P) ∧ Grew w wr))
  case atStart => exact ⟨0, 0, none, 0, rfl, rfl, Nat.zero_le _, Nat.le_refl _, rfl, ⟨World.ownsRow_nil _ _ _ _, fun g e => by simp [Value.ownBlock] at e⟩, Grew.refl _⟩
  case round =>
    obtain ⟨k, n, sa, sc, rfl, rfl, hk, hgk, HI⟩ := hrel
    by_cases hlt : k < N
    · have hCk := HC.out k wr HI.out.2.2 hlt
      have HCK := Lib.hid hCk
      clear hCk
      have hsc := whereL_succ k P
      go_wp2_with (fail)
      refine HCK.out.mono ?_
      cases hP : P k with
      | true =>
        rw [hP, if_pos rfl] at hsc
        have HS := Lib.hid hsc
        clear hsc hP
        rintro e w2 ⟨rfl, hq⟩
        have HQ := Lib.hid (quiet_grew hq)
        have hsz : w.heap.size ≤ w2.heap.size := (HI.out.2.2.trans HQ.out).size
        have HO := Lib.hid ((HI.out.2.1.grew HQ.out).wide (Nat.le_refl _) HQ.out.size)
        obtain ⟨X, hX⟩ : ∃ X, whereL k P = X := ⟨_, rfl⟩
        have hXl : X.length ≤ k := by rw [← hX]; exact whereL_len k P
        have HX := Lib.hid (And.intro hX HI.out.1)
        rw [hX] at HO
        clear hq hX
        go_wp2_with (at_builtin; refine wpList_append_int rfl (.tmp 20) (.tmp 22) 22 rfl Tryd.underlying22 Tryd.infoE rfl rfl rfl HO.out (by omega) hsz ?_; intro g5 c5 w5 hO5 hW5 hS5)
        have HF : Hid (IntsO 3 w.heap.size w5.heap.size w5 (.slice (some ⟨g5, 0, none⟩) (X.length + 1) c5) (X ++ [(k : Int)]) ∧ Grew w w5) := ⟨hO5, Within.grew (HI.out.2.2.trans HQ.out) hW5 (Nat.le_refl _)⟩
        clear hO5 hW5 hS5
        go_wp2
        go_roundg (gk - 1)
        case measure => omega
        case rel => exact ⟨k + 1, X.length + 1, _, c5, rfl, by go_num, by omega, by omega, by rw [HS.out, HX.out.1]; simp, by rw [HS.out, HX.out.1]; exact HF.out.1, HF.out.2⟩
      | false =>
        rw [hP, if_neg (by simp), List.append_nil] at hsc
        have HS := Lib.hid hsc
        clear hsc hP
        rintro e w2 ⟨rfl, hq⟩
        have HQ := Lib.hid (quiet_grew hq)
        clear hq
        go_wp2
        go_roundg (gk - 1)
        case measure => omega
        case rel => exact ⟨k + 1, n, sa, sc, rfl, by go_num, by omega, by omega, by rw [HS.out]; exact HI.out.1, by rw [HS.out]; exact (HI.out.2.1.grew HQ.out).wide (Nat.le_refl _) HQ.out.size, HI.out.2.2.trans HQ.out⟩
    · obtain rfl : k = N := by omega
      go_wp2
      go_ret
      have h1 := HI.out.1
      subst h1
      exact ⟨_, _, rfl, HI.out.2.1, HI.out.2.2⟩

/-- How many cells are higher than t. -/
def areaL (p : List Int) (t : Int) : Int := sumTo (fun i => if above p t i = true then 1 else 0) p.length
theorem areaL_len (p : List Int) (t : Int) : ((whereL p.length (above p t)).length : Int) = areaL p t := by
  unfold whereL areaL
  rw [List.length_map, filter_len]
def areaX (h : List (List Int)) (t : Int) : Int := if vLevel h t = true then areaL h.flatten t else -1
theorem vLevel_grid {h : List (List Int)} {t : Int} (hv : vLevel h t = true) : vGrid h = true := by
  simp only [vLevel, Bool.and_eq_true] at hv
  exact hv.1

set_option maxRecDepth 100000 in
set_option maxHeartbeats 1000000 in
theorem AreaAt_any (v : Value) (h : List (List Int)) (t : Int) (w : World) (hv : RowsV w v h) :
    Calls Tryd.prog 37 #[v, .int .i64 t] w fun e w' => e = .returned (.int .i64 (areaX h t)) ∧ Grew w w' := by
  have HV := Lib.hid (validLevel_any v h t w hv)
  have HR := Lib.hid hv
  obtain ⟨a, b, o, c, rfl, _, _, _⟩ := hv.shape
  clear hv
  unfold areaX
  cases hp : vLevel h t with
  | false =>
    have HP := Lib.hid hp
    clear hp
    go_enter Tryd.func37, Tryd.ntmps37
    go_wp2_with (fail)
    refine HV.out.mono ?_
    rw [HP.out]
    rintro e w1 ⟨rfl, rfl⟩
    go_wp2
    go_ret
    exact ⟨ret_int (by simp), Grew.refl _⟩
  | true =>
    have hg := vLevel_grid hp
    have hpl := flat_grid_len (Grid.of hg)
    have HP := Lib.hid (And.intro hp (And.intro hg (And.intro hpl (areaL_len h.flatten t))))
    clear hp hg hpl
    go_enter Tryd.func37, Tryd.ntmps37
    go_wp2_with (fail)
    refine HV.out.mono ?_
    rw [HP.out.1]
    rintro e w1 ⟨rfl, rfl⟩
    go_wp2_with (fail)
    refine (higherThan_any _ h t w HR.out HP.out.2.1).mono ?_
    rintro e w2 ⟨lb, rfl, hT, hg2⟩
    have H2 := Lib.hid (And.intro hT hg2)
    clear hT hg2
    go_wp2_with (fail)
    refine (cellsWhere_any _ h h.flatten.length (above h.flatten t) _ lb (enters_of Tryd.func105 (by kernel_rfl) rfl) w2 (HR.out.grew H2.out.2) HP.out.2.1 HP.out.2.2.1.symm H2.out.1).mono ?_
    rintro e w3 ⟨a3, c3, rfl, hO3, hg3⟩
    have HG3 := Lib.hid (H2.out.2.trans hg3)
    obtain ⟨K, eK⟩ : ∃ K, (whereL h.flatten.length (above h.flatten t)).length = K := ⟨_, rfl⟩
    have HK : Hid ((K : Int) = areaL h.flatten t) := by rw [← eK]; exact HP.out.2.2.2
    rw [eK]
    clear hO3 hg3 eK
    go_wp2
    go_ret
    exact ⟨ret_int HK.out, HG3.out⟩

end Go.Proofs.YtaeenedjmakelaaDoor
