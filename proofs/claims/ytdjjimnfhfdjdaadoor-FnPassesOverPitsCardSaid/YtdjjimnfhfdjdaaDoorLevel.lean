/- The contracts of impl.validLevel, higherThan, cellsWhere, AreaAt, and of spec.validTop and AreaAt. -/
import Derived.Test.YtdjjimnfhfdjdaaDoorAt
import Derived.Test.YtdjjimnfhfdjdaaDoorSGrid
import Derived.Test.YtdjjimnfhfdjdaaDoorConcat
import Derived.Test.YtdjjimnfhfdjdaaDoorExact
import Derived.Test.YtdjjimnfhfdjdaaDoorSumTo
import Derived.Shelf.Abstract
namespace Go.Proofs.YtdjjimnfhfdjdaaDoor
open Go.RowKit

def vLevel (h : List (List Int)) (t : Int) : Bool := vGrid h && inR t (-1) 12
/-- Whether a cell is higher than t. -/
def above (p : List Int) (t : Int) (i : Nat) : Bool := decide (t < p.getD i 0)
/-- A function value (function fk, what it captured: lb) that tells P of the cells below N. -/
def Tells (fk : Nat) (lb : Array Value) (N : Nat) (P : Nat → Bool) (w : World) : Prop :=
  ∀ (I : Nat) (W : World), Grew w W → I < N → Calls Tryd.prog fk (#[.int .i64 I] ++ lb) W fun e w' => e = .returned (.bool (P I)) ∧ ∃ q, w' = W.drewN q
theorem Tells.grew {fk : Nat} {lb : Array Value} {N : Nat} {P : Nat → Bool} {w w' : World} (h : Tells fk lb N P w) (hg : Grew w w') : Tells fk lb N P w' := fun I W hW hI => h I W (hg.trans hW) hI
/-- The cells of which P holds. -/
def whereL (N : Nat) (P : Nat → Bool) : List Int := ((List.range N).filter P).map fun (i : Nat) => (i : Int)
theorem whereL_succ (N : Nat) (P : Nat → Bool) : whereL (N + 1) P = whereL N P ++ (if P N = true then [(N : Int)] else []) := by
  unfold whereL
  rw [List.range_succ, List.filter_append, List.map_append]
  cases h : P N <;> simp [h]
theorem whereL_len (N : Nat) (P : Nat → Bool) : (whereL N P).length ≤ N := by
  unfold whereL
  rw [List.length_map]
  exact Nat.le_trans (List.length_filter_le _ _) (by simp)

set_option maxRecDepth 100000 in
set_option maxHeartbeats 2000000 in
theorem cellsWhere_any (v : Value) (h : List (List Int)) (N : Nat) (P : Nat → Bool) (fk : Nat) (lb : Array Value) (eg : ∀ (args : Array Value) (w : World), (callFunc fk args).run Tryd.prog w = .ok (.enter fk args) w)
    (w : World) (hv : RowsV w v h) (hg : vGrid h = true) (eN : h.length * (h.getD 0 []).length = N) (hC : Tells fk lb N P w) :
    Calls Tryd.prog 64 #[v, .func (.func fk) #[] lb] w fun e w' => ∃ a c, e = .returned (.slice a (whereL N P).length c) ∧ IntsO 3 w.heap.size w'.heap.size w' (.slice a (whereL N P).length c) (whereL N P) ∧ Grew w w' := by
  have G := Grid.of hg
  have hn5 := G.n5
  have hn1 := G.n1
  have hm5 := G.m5
  have hm1 := G.m1
  have HC := Lib.hid hC
  obtain ⟨a, b, o, c, rfl, ⟨hlc, hcb⟩, ha, HCR⟩ := hv.shape
  obtain rfl := ha (by omega)
  obtain ⟨u0, hcu0, hu0⟩ := HCR.out 0 (by omega)
  rw [Nat.add_zero] at hcu0
  obtain ⟨m, em⟩ : ∃ m, (h.getD 0 []).length = m := ⟨_, rfl⟩
  obtain ⟨a0, b0, o0, c0, rfl, _, _, _⟩ := hu0.shape
  rw [em] at hcu0 eN hm5 hm1
  have hN25 : N ≤ 25 := by rw [← eN]; exact Nat.mul_le_mul hn5 hm5
  have hmul : (h.length : Int) * (m : Int) = (N : Int) := by rw [← eN]; simp
  have hn0 : 0 < h.length := by omega
  clear hv hg G hC ha HCR hu0 em eN
  go_enter Tryd.func64, Tryd.ntmps64
  go_wp2
  go_loopg [5, 14] N (fun gk v i' wr => ∃ (k n : Nat) (sa : Option Addr) (sc : Nat), v = .slice sa n sc ∧ i' = .int .i64 k ∧ k ≤ N ∧ N ≤ gk + k ∧ Hid (n = (whereL k P).length ∧ IntsO 3 w.heap.size wr.heap.size wr v (whereL k P) ∧ Grew w wr))
  case atStart => exact ⟨0, 0, none, 0, rfl, rfl, Nat.zero_le _, Nat.le_refl _, rfl, ⟨World.ownsRow_nil _ _ _ _, fun g e => by simp [Value.ownBlock] at e⟩, Grew.refl _⟩
  case round =>
    obtain ⟨k, n, sa, sc, rfl, rfl, hk, hgk, HI⟩ := hrel
    by_cases hlt : k < N
    · have hCk := HC.out k wr HI.out.2.2 hlt
      have HCK := Lib.hid hCk
      clear hCk
      have hsc := whereL_succ k P
      go_wp2_with (fail)
      refine HCK.out.mono ?_
      cases hP : P k with
      | true =>
        rw [hP, if_pos rfl] at hsc
        have HS := Lib.hid hsc
        clear hsc hP
        rintro e w2 ⟨rfl, hq⟩
        have HQ := Lib.hid (quiet_grew hq)
        have hsz : w.heap.size ≤ w2.heap.size := (HI.out.2.2.trans HQ.out).size
        have HO := Lib.hid ((HI.out.2.1.grew HQ.out).wide (Nat.le_refl _) HQ.out.size)
        obtain ⟨X, hX⟩ : ∃ X, whereL k P = X := ⟨_, rfl⟩
        have hXl : X.length ≤ k := by rw [← hX]; exact whereL_len k P
        have HX := Lib.hid (And.intro hX HI.out.1)
        rw [hX] at HO
        clear hq hX
        go_wp2_with (at_builtin; refine wpList_append_int rfl (.tmp 20) (.tmp 22) 25 rfl Tryd.underlying25 Tryd.infoE rfl rfl rfl HO.out (by omega) hsz ?_; intro g5 c5 w5 hO5 hW5 hS5)
        have HF : Hid (IntsO 3 w.heap.size w5.heap.size w5 (.slice (some ⟨g5, 0, none⟩) (X.length + 1) c5) (X ++ [(k : Int)]) ∧ Grew w w5) := ⟨hO5, Within.grew (HI.out.2.2.trans HQ.out) hW5 (Nat.le_refl _)⟩
        clear hO5 hW5 hS5
        go_wp2
        go_roundg (gk - 1)
        case measure => omega
        case rel => exact ⟨k + 1, X.length + 1, _, c5, rfl, by go_num, by omega, by omega, by rw [HS.out, HX.out.1]; simp, by rw [HS.out, HX.out.1]; exact HF.out.1, HF.out.2⟩
      | false =>
        rw [hP, if_neg (by simp), List.append_nil] at hsc
        have HS := Lib.hid hsc
        clear hsc hP
        rintro e w2 ⟨rfl, hq⟩
        have HQ := Lib.hid (quiet_grew hq)
        clear hq
        go_wp2
        go_roundg (gk - 1)
        case measure => omega
        case rel => exact ⟨k + 1, n, sa, sc, rfl, by go_num, by omega, by omega, by rw [HS.out]; exact HI.out.1, by rw [HS.out]; exact (HI.out.2.1.grew HQ.out).wide (Nat.le_refl _) HQ.out.size, HI.out.2.2.trans HQ.out⟩
    · obtain rfl : k = N := by omega
      go_wp2
      go_ret
      have h1 := HI.out.1
      subst h1
      exact ⟨_, _, rfl, HI.out.2.1, HI.out.2.2⟩

/-- How many cells are higher than t. -/
def areaL (p : List Int) (t : Int) : Int := sumTo (fun i => if above p t i = true then 1 else 0) p.length
theorem areaL_len (p : List Int) (t : Int) : ((whereL p.length (above p t)).length : Int) = areaL p t := by
  unfold whereL areaL
  rw [List.length_map, filter_len]
def areaX (h : List (List Int)) (t : Int) : Int := if vLevel h t = true then areaL h.flatten t else -1
theorem vLevel_grid {h : List (List Int)} {t : Int} (hv : vLevel h t = true) : vGrid h = true := by
  simp only [vLevel, Bool.and_eq_true] at hv
  exact hv.1


end Go.Proofs.YtdjjimnfhfdjdaaDoor
