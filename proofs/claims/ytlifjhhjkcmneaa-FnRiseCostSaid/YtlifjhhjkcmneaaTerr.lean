/- The contracts of impl.levelCost, impl.costsOfOneTerraceMore and impl.TerraceCost. -/
import Derived.Test.YtlifjhhjkcmneaaRise
import Derived.Test.YtlifjhhjkcmneaaTerrM
import Derived.Test.YtlifjhhjkcmneaaClone
import Derived.Test.YtlifjhhjkcmneaaMin
import Derived.Test.YtlifjhhjkcmneaaRepeat
namespace Go.Proofs.Ytlifjhhjkcmneaa
open Go.RowKit

def awayL (xs : List Int) (x : Int) : Int := sumTo (fun i => iab (xs.getD i 0 - x)) xs.length
def levL (xs : List Int) : Int := mn (fun x => awayL xs x) 12
theorem awayL_bd (xs : List Int) (x : Int) (hb : ∀ i, i < xs.length → 0 ≤ xs.getD i 0 ∧ xs.getD i 0 ≤ 12) (hx : 0 ≤ x ∧ x ≤ 12) : 0 ≤ awayL xs x ∧ awayL xs x ≤ 12 * (xs.length : Int) := by
  have := sumTo_bd (f := fun i => iab (xs.getD i 0 - x)) 0 12 (k := xs.length) fun i hi => by have := hb i hi; simp only [iab]; omega
  simp only [awayL]
  omega
theorem levL_is (p : List Int) (f : Nat → Int) (hf : ∀ i, p.getD i 0 = f i) (s e : Nat) (he : e ≤ p.length) : levL ((p.drop s).take (e - s)) = levT f s e := by
  unfold levL levT
  refine mn_congr fun y _ => ?_
  unfold awayL awayT
  have hl : ((p.drop s).take (e - s)).length = e - s := by simp; omega
  rw [hl]
  refine sumTo_congr fun i hi => ?_
  have e1 : ((p.drop s).take (e - s)).getD i 0 = p.getD (s + i) 0 := by simp [hi]
  rw [e1, hf]
theorem IntsV.sub {w : World} {b o n c : Nat} {p : List Int} (h : IntsV w (.slice (some ⟨b, o, none⟩) n c) p) (s e : Nat) (hs : s < e) (he : e ≤ p.length) : IntsV w (.slice (some ⟨b, o + s, none⟩) (e - s) (c - s)) ((p.drop s).take (e - s)) := by
  obtain ⟨a', b', o', c', e', ⟨h1, h2⟩, hc⟩ := h
  simp only [Value.slice.injEq] at e'
  obtain ⟨rfl, rfl, rfl⟩ := e'
  have hl : ((p.drop s).take (e - s)).length = e - s := by simp; omega
  refine ⟨some ⟨b, o + s, none⟩, b, o + s, c - s, by rw [hl], ⟨by omega, by omega⟩, fun i hi => ?_⟩
  rw [hl] at hi
  obtain ⟨e1, e2⟩ := hc (s + i) (by omega)
  simp only [Option.some.injEq, Addr.mk.injEq] at e1
  obtain ⟨rfl, rfl, _⟩ := e1
  refine ⟨rfl, ?_⟩
  rw [Nat.add_assoc, e2]
  simp [hi]
theorem part_bd {p : List Int} (h : vProf p = true) (s e : Nat) (he : e ≤ p.length) : (∀ i, i < ((p.drop s).take (e - s)).length → 0 ≤ ((p.drop s).take (e - s)).getD i 0 ∧ ((p.drop s).take (e - s)).getD i 0 ≤ 12) ∧ ((p.drop s).take (e - s)).length ≤ 9 := by
  have hl : ((p.drop s).take (e - s)).length = e - s := by simp; omega
  have h9 := ((vProf_iff p).1 h).2.1
  rw [hl]
  refine ⟨fun i hi => ?_, by omega⟩
  have e1 : ((p.drop s).take (e - s)).getD i 0 = p.getD (s + i) 0 := by simp [hi]
  rw [e1]
  exact ((vProf_iff p).1 h).2.2 _ (by omega)
theorem min_is {F : Nat → Int} {m : Int} (h : IsMin ((List.range 13).map F) m) : m = mn F 12 := by
  obtain ⟨⟨i, hi, e⟩, hall⟩ := h
  have hat : ∀ i, i < 13 → ((List.range 13).map F).getD i 0 = F i := fun i hi => by simp [hi]
  simp at hi
  rw [hat i hi] at e
  have h1 := mn_le F 12 i (by omega)
  obtain ⟨y, hy, ey⟩ := mn_at F 12
  have h2 := hall y (by simp; omega)
  rw [hat y (by omega)] at h2
  omega

set_option maxRecDepth 100000 in
theorem levelClo_any (B : Nat) (l x : Int) (W : World) (hB : W.cell? ⟨B, 0, none⟩ = some (.int .i64 l)) (hx : 0 ≤ x ∧ x ≤ 12) (hl : 0 ≤ l ∧ l ≤ 12) :
    Calls Try.prog 101 (#[.int .i64 x] ++ #[.pointer (some ⟨B, 0, none⟩)]) W fun e w' => e = .returned (.int .i64 (iab (x - l))) ∧ ∃ q, w' = W.drewN q := by
  show Calls Try.prog 101 #[.int .i64 x, .pointer (some ⟨B, 0, none⟩)] W _
  have HA := Lib.hid (apart_any x l W (by omega) (by omega))
  go_enter Try.func101, Try.ntmps101
  go_wp2_with (fail)
  refine HA.out.mono ?_
  rintro e w1 ⟨rfl, rfl⟩
  go_wp2
  go_ret
  exact ⟨rfl, 0, rfl⟩

set_option maxRecDepth 100000 in
set_option maxHeartbeats 4000000 in
theorem levelCost_any (v : Value) (xs : List Int) (w : World) (hv : IntsV w v xs) (hl : xs.length ≤ 9) (hb : ∀ i, i < xs.length → 0 ≤ xs.getD i 0 ∧ xs.getD i 0 ≤ 12) :
    Calls Try.prog 96 #[v] w fun e w' => e = .returned (.int .i64 (levL xs)) ∧ Grew w w' := by
  have HV := Lib.hid hv
  have HB := Lib.hid hb
  have HBA := Lib.hid fun x hx => awayL_bd xs x hb hx
  obtain ⟨a, b, o, c, rfl, _, _, _⟩ := hv.shape
  have hmf : ∀ (fn : Fn) (first cap : Array Value) (w : World), (Instr.makeFunc fn first cap).run Try.prog w = .ok (.func fn first cap) w := fun _ _ _ _ => rfl
  clear hv hb
  go_enter Try.func96, Try.ntmps96
  go_wp2
  go_loopw [3, 5] (fun v i wr => ∃ (L : Nat) (sa : Option Addr) (sc : Nat), v = .slice sa L sc ∧ i = .int .i64 L ∧ L ≤ 13 ∧ Hid (IntsO 3 w.heap.size wr.heap.size wr v ((List.range L).map fun (x : Nat) => awayL xs x) ∧ Grew w wr)) (fun _ i _ => 13 - (intOf i).toNat)
  case atStart => exact ⟨0, none, 0, rfl, rfl, Nat.zero_le _, ⟨World.ownsRow_nil _ _ _ _, fun g e => by simp [Value.ownBlock] at e⟩, Grew.refl _⟩
  case round =>
    obtain ⟨L, sa, sc, rfl, rfl, hL, HI⟩ := hrel
    by_cases hlt : L < 13
    · have hba := HBA.out (L : Int) (by omega)
      obtain ⟨y, ey⟩ : ∃ y, awayL xs L = y := ⟨_, rfl⟩
      rw [ey] at hba
      have HS : Hid (Calls Try.prog 77 #[.func (.func 101) #[] #[.pointer (some ⟨wr.heap.size, 0, none⟩)], .slice a xs.length c] (wr.alloc (.cells #[.int .i64 L] 3)) fun e w' => e = .returned (.int .i64 y) ∧ ∃ q, w' = (wr.alloc (.cells #[.int .i64 L] 3)).drewN q) := by
        have hcl : ∀ W, Grew (wr.alloc (.cells #[.int .i64 L] 3)) W → W.cell? ⟨wr.heap.size, 0, none⟩ = some (.int .i64 L) := fun W hW => hW.cell (by simp)
        have := sumOf_any 101 #[.pointer (some ⟨wr.heap.size, 0, none⟩)] (fun _ _ => rfl) (fun x => 0 ≤ x ∧ x ≤ 12) (fun x => iab (x - L)) _ xs (wr.alloc (.cells #[.int .i64 L] 3)) (HV.out.grew (HI.out.2.alloc _)) (by omega)
          (fun x W hW hx => levelClo_any wr.heap.size L x W (hcl W hW) hx (by omega)) (fun i hi => HB.out i hi) (fun i hi => by have := HB.out i hi; simp only [iab]; omega)
        rw [← ey]
        exact this
      have hst : (List.range (L + 1)).map (fun (x : Nat) => awayL xs x) = (List.range L).map (fun (x : Nat) => awayL xs x) ++ [y] := by rw [List.range_succ, List.map_append, ← ey]; rfl
      have HST := Lib.hid hst
      have hsz := HI.out.2.size
      obtain ⟨X, hX⟩ : ∃ X, (List.range L).map (fun (x : Nat) => awayL xs x) = X := ⟨_, rfl⟩
      have hXl : X.length = L := by rw [← hX]; simp
      have HX := Lib.hid (And.intro hX hXl)
      clear ey hst hX hXl
      go_wp2_with (fail)
      refine HS.out.mono ?_
      rintro e w2 ⟨rfl, hq⟩
      have HQ := Lib.hid (((Grew.refl wr).alloc (.cells #[.int .i64 L] 3)).trans (quiet_grew hq))
      have hsz2 := HQ.out.size
      have HO : Hid (IntsO 3 w.heap.size w2.heap.size w2 (.slice sa L sc) X) := by
        rw [← HX.out.1]; exact (HI.out.1.grew HQ.out).wide (Nat.le_refl _) hsz2
      clear hq
      go_wp2_with (at_builtin; refine wpList_append_int rfl (.tmp 8) (.tmp 12) 23 rfl Try.underlying23 Try.infoE rfl rfl rfl HO.out (by rw [HX.out.2]; omega) (by omega) ?_; rw [HX.out.2]; intro g5 c5 w5 hO5 hW5 hS5)
      have HF : Hid (IntsO 3 w.heap.size w5.heap.size w5 (.slice (some ⟨g5, 0, none⟩) (L + 1) c5) ((List.range (L + 1)).map fun (x : Nat) => awayL xs x) ∧ Grew w w5) := by
        rw [HST.out, HX.out.1]; exact ⟨hO5, Within.grew (HI.out.2.trans HQ.out) hW5 (Nat.le_refl _)⟩
      clear hO5 hW5 hS5
      go_wp2
      go_roundw
      case rel => exact ⟨L + 1, some ⟨g5, 0, none⟩, c5, rfl, by go_num, by omega, HF.out⟩
      case measure => simp [intOf]; omega
    · obtain rfl : L = 13 := by omega
      have HM := Lib.hid (slicesMin_any _ _ wr HI.out.1.toV (by simp))
      have HG := Lib.hid HI.out.2
      clear HI
      go_wp2_with (fail)
      refine HM.out.mono ?_
      rintro e w5 ⟨m, rfl, hm, rfl⟩
      have HE : Hid (m = levL xs) := min_is hm
      clear hm
      go_wp2
      go_ret
      exact ⟨ret_int HE.out, HG.out⟩
end Go.Proofs.Ytlifjhhjkcmneaa
