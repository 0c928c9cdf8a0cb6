/- The contracts of spec.mean and spec.SmoothByMeans. -/
import Derived.Test.YtlifjhhjkcmneaaLeast
import Derived.Test.YtlifjhhjkcmneaaSums
namespace Go.Proofs.Ytlifjhhjkcmneaa
open Go.RowKit

theorem frL_pos {u d : Nat} (hd : 1 ≤ d) : 1 ≤ (frL u d).2 := by
  have h1 : Nat.gcd u d ≤ d := Nat.gcd_le_right _ hd
  have h2 := gcd_one (u := u) hd
  have h3 : 1 ≤ d / Nat.gcd u d := Nat.div_pos h1 h2
  unfold frL
  simp only []
  omega
theorem mF_pos (p : List Int) (a b : Nat) (hab : a ≤ b) : 1 ≤ (mF p a b).2 := frL_pos (by omega)
theorem leastF_pos (p : List Int) (a i : Nat) (hai : a ≤ i) : 1 ≤ (leastF p a i).2 := by
  obtain ⟨y, _, e⟩ := minFn_is (fun d => mF p a (i + d)) (p.length - 1 - i)
  unfold leastF
  rw [e]
  exact mF_pos p a (i + y) (by omega)
/-- The best so far, nothing ahead of the first one. -/
def bestTo (p : List Int) (i : Nat) : Nat → Int × Int
  | 0 => (0, 0)
  | a + 1 => maxFn (fun a => leastF p a i) a
theorem bestTo_ok {p : List Int} (hp : vProf p = true) (i a : Nat) (hi : i < p.length) : okF (bestTo p i a) := by
  cases a with
  | zero => show okF (0, 0); exact ⟨⟨by decide, by decide⟩, by decide, by decide⟩
  | succ a =>
    obtain ⟨y, _, e⟩ := maxFn_is (fun a => leastF p a i) a
    show okF (maxFn _ a)
    rw [e]
    exact leastF_ok hp y i hi
theorem bestTo_next (p : List Int) (i a : Nat) (hai : a ≤ i) : bestTo p i (a + 1) = if (bestTo p i a).2 = 0 ∨ ltF (bestTo p i a) (leastF p a i) then leastF p a i else bestTo p i a := by
  cases a with
  | zero => rw [if_pos (.inl rfl)]; rfl
  | succ a =>
    have hn : ¬ (bestTo p i (a + 1)).2 = 0 := by
      obtain ⟨y, hy, e⟩ := maxFn_is (fun a => leastF p a i) a
      have := leastF_pos p y i (by omega)
      show ¬ (maxFn _ a).2 = 0
      rw [e]
      show ¬ (leastF p y i).2 = 0
      omega
    have e : bestTo p i (a + 1 + 1) = if ltF (bestTo p i (a + 1)) (leastF p (a + 1) i) then leastF p (a + 1) i else bestTo p i (a + 1) := rfl
    rw [e]
    by_cases h : ltF (bestTo p i (a + 1)) (leastF p (a + 1) i)
    · rw [if_pos h, if_pos (Or.inr h)]
    · rw [if_neg h, if_neg (fun c => c.elim hn h)]

set_option maxRecDepth 100000 in
set_option maxHeartbeats 2000000 in
theorem smean_any (v : Value) (p : List Int) (a b : Nat) (w : World) (hv : IntsV w v p) (hp : vProf p = true) (hab : a ≤ b) (hb : b < p.length) :
    Calls Try.prog 66 #[v, .int .i64 a, .int .i64 b] w fun e w' => e = .returned (frV (mF p a b)) ∧ Grew w w' := by
  have h9 := ((vProf_iff p).1 hp).2.1
  obtain ⟨ad, bb, o, c, rfl, ⟨hlc, hcb⟩, ha, HC⟩ := hv.shape
  obtain rfl := ha (by omega)
  have hpl := part_len p a (b + 1) (by omega)
  have hsb := sumP_bd hp a (b + 1) (by omega)
  have hsum : ∀ W, Grew w W → Calls Try.prog 94 #[.slice (some ⟨bb, o + a, none⟩) (b + 1 - a) (c - a)] W fun e w' => e = .returned (.int .i64 (sumP p a (b + 1))) ∧ W = w' := fun W hW => by
    have h := ssumTo_any _ _ W (IntsV.part (hv.grew hW) a (b + 1) (by omega) (by omega)) (by rw [hpl]; omega) (fun i hi => by
      rw [hpl] at hi
      rw [part_at p a (b + 1) i hi]
      have := ((vProf_iff p).1 hp).2.2 (a + i) (by omega)
      omega)
    have e : sumTo (fun i => ((p.drop a).take (b + 1 - a)).getD i 0) ((p.drop a).take (b + 1 - a)).length = sumP p a (b + 1) := by
      rw [hpl]
      exact sumTo_congr fun i hi => part_at p a (b + 1) i hi
    rw [e] at h
    exact h
  have hmd : mF p a b = frL (sumP p a (b + 1)).toNat (b + 1 - a) := rfl
  obtain ⟨s, es⟩ : ∃ s, (sumP p a (b + 1)).toNat = s := ⟨_, rfl⟩
  have es2 : sumP p a (b + 1) = (s : Int) := by omega
  rw [es2] at hsum
  rw [es] at hmd
  obtain ⟨t, et⟩ : ∃ t, b + 1 - a = t := ⟨_, rfl⟩
  rw [et] at hmd hsum
  have HME := Lib.hid (fun W => sfrac_any s t W (by omega) (by omega) (by omega))
  rw [← hmd] at HME
  have HSU := Lib.hid hsum
  obtain ⟨F, eF⟩ : ∃ F, mF p a b = F := ⟨_, rfl⟩
  rw [eF] at HME ⊢
  obtain ⟨f1, f2⟩ := F
  have e1 : (b : Int) + 1 = ((b + 1 : Nat) : Int) := by omega
  obtain ⟨b1, eb1⟩ : ∃ b1, b + 1 = b1 := ⟨_, rfl⟩
  rw [eb1] at e1 et
  have e2 : (b1 : Int) - (a : Int) = (t : Int) := by omega
  have w1' : IntKind.i64.wrap (b1 : Int) = (b1 : Int) := wrap_12 _ (by omega) (by omega)
  have w2' : IntKind.i64.wrap (t : Int) = (t : Int) := wrap_12 _ (by omega) (by omega)
  have r3 : (a : Int) ≤ b1 := by omega
  have r4 : (b1 : Int) ≤ c := by omega
  have r5 : b1 - a = t := et
  have r6 : a ≤ c := by omega
  have r7 : b1 ≤ c := by omega
  have r8 : ¬ c - a = 0 := by omega
  have r9 : ¬ c = a := by omega
  have r10 : (0 : Int) ≤ a := by omega
  have r11 : a ≤ b1 := by omega
  unfold frV at HME ⊢
  clear hv ha hpl hsb hsum hmd es es2 eF eb1
  go_enter Try.func66, Try.ntmps66
  go_wp2_with (fail)
  refine (HSU.out _ ((Grew.refl w).alloc _)).mono ?_
  rintro e w2 ⟨rfl, rfl⟩
  go_wp2_with (fail)
  refine (HME.out _).mono ?_
  rintro e w3 ⟨rfl, hg3⟩
  have hB3 : w3.heap[w.heap.size]? = some (.cells #[.int .i64 0, .int .i64 0] 29 (0, 0)) := by rw [hg3.block (by simp)]; exact heap_alloc_new w _
  have hz0 : w3.cell? ⟨w.heap.size, 0, none⟩ = some (.int .i64 0) := by simp [World.cell?, hB3]
  have hz1 : w3.cell? ⟨w.heap.size, 1, none⟩ = some (.int .i64 0) := by simp [World.cell?, hB3]
  have hf0 : w3.frozen? ⟨w.heap.size, 0, none⟩ = false := by simp [World.frozen?, hB3]
  have hf1 : w3.frozen? ⟨w.heap.size, 1, none⟩ = false := by simp [World.frozen?, hB3]
  have HG3 : Hid (Grew w w3) := ((Grew.refl w).alloc _).trans hg3
  have HB3 := Lib.hid hB3
  clear hg3 hB3
  go_wp2
  exact bodyPost_ret (v := .agg #[.int .i64 f1, .int .i64 f2]) (results_cell_row (P := Try.prog) rfl _ _ w.heap.size 29 _ (0, 0) _ rfl (two_heapF HB3.out) Try.underlying29 rfl (by kernel_rfl)) rfl ⟨rfl, two_grewF (Nat.le_refl _) HG3.out⟩
end Go.Proofs.Ytlifjhhjkcmneaa
