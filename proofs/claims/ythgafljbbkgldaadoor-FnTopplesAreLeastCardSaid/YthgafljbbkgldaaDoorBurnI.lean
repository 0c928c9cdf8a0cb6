/- impl.Burns: its closures. -/
import Derived.Test.YthgafljbbkgldaaDoorDelF
import Derived.Test.YthgafljbbkgldaaDoorTop
import Derived.Test.YthgafljbbkgldaaDoorTilt
namespace Go.Proofs.YthgafljbbkgldaaDoor
open Go.RowKit

theorem whereL_at {N : Nat} {P : Nat → Bool} {j : Nat} (hj : j < (whereL N P).length) : ∃ i, (whereL N P).getD j 0 = ((i : Nat) : Int) ∧ i < N ∧ P i = true := by
  have hm : (whereL N P).getD j 0 ∈ whereL N P := by
    rw [List.getD_eq_getElem?_getD, List.getElem?_eq_getElem hj]
    exact List.getElem_mem hj
  obtain ⟨x, hx⟩ : ∃ x, (whereL N P).getD j 0 = x := ⟨_, rfl⟩
  rw [hx] at hm ⊢
  clear hx hj
  induction N with
  | zero => simp [whereL] at hm
  | succ k ih =>
    rw [whereL_succ] at hm
    rcases List.mem_append.1 hm with h | h
    · obtain ⟨i, e, hi, h4⟩ := ih h
      exact ⟨i, e, by omega, h4⟩
    · split at h
      · next hb =>
        rw [List.mem_singleton] at h
        exact ⟨k, h, by omega, hb⟩
      · simp at h
theorem whereL_zero {N : Nat} {P : Nat → Bool} (h : (whereL N P).length = 0) : ∀ i, i < N → P i = false := by
  induction N with
  | zero => intro i hi; omega
  | succ k ih =>
    rw [whereL_succ, List.length_append] at h
    intro i hi
    by_cases hik : i < k
    · exact ih (by omega) i hik
    · obtain rfl : i = k := by omega
      cases hb : P i with
      | false => rfl
      | true => rw [if_pos hb] at h; simp at h
/-- A cell that can burn. -/
def mayB (n m : Nat) (x : List Int) (b : List Bool) (i : Nat) : Bool := !b.getD i false && decide ((degS n m (fun k => !b.getD k false) i : Int) ≤ x.getD i 0)
theorem mayB_iff {n m : Nat} {x : List Int} {b : List Bool} {i : Nat} : mayB n m x b i = true ↔ b.getD i false = false ∧ MayBurn n m x b i := by
  unfold mayB MayBurn
  rw [Bool.and_eq_true, decide_eq_true_eq]
  cases b.getD i false <;> simp
/-- How many have not burnt. -/
def leftB (b : List Bool) : Nat := (b.filter fun z => !z).length
theorem leftB_set : ∀ (b : List Bool) (i : Nat), leftB (b.set i true) ≤ leftB b ∧ (i < b.length → b.getD i false = false → leftB (b.set i true) < leftB b)
  | [], i => by simp [leftB]
  | z :: b, 0 => by cases z <;> simp [leftB]
  | z :: b, i + 1 => by
    have := leftB_set b i
    cases z <;> simp [leftB] at this ⊢ <;> omega
theorem leftB_le (b : List Bool) : leftB b ≤ b.length := List.length_filter_le _ _
theorem BoolsO.at1 {E lo hi : Nat} {w : World} {g n c : Nat} {xs : List Bool} (h : BoolsO E lo hi w (.slice (some ⟨g, 0, none⟩) n c) xs) : BoolsO E g (g + 1) w (.slice (some ⟨g, 0, none⟩) n c) xs := by
  refine ⟨⟨h.1.1, ?_⟩, fun k e => by simp [Value.ownBlock] at e; omega⟩
  rcases h.1.2 with ⟨e, _⟩ | ⟨g1, cap, cur, e, hg, hh⟩
  · simp at e
  · simp only [Value.slice.injEq, Option.some.injEq, Addr.mk.injEq] at e
    obtain ⟨⟨rfl, _⟩, _, rfl⟩ := e
    exact .inr ⟨g, c, cur, by rw [‹n = _›], Nat.le_refl _, hh⟩

/-- What lies in memory while sand burns: the rows behind the box A, the numbers x behind C, what has burnt behind D. -/
structure BurnMem (w wr : World) (v : Value) (A C D gN cN gB N : Nat) (x : List Int) (b : List Bool) : Prop where
  sbox : wr.cell? ⟨A, 0, none⟩ = some v
  nbox : wr.cell? ⟨C, 0, none⟩ = some (.slice (some ⟨gN, 0, none⟩) N cN)
  bbox : wr.cell? ⟨D, 0, none⟩ = some (.slice (some ⟨gB, 0, none⟩) N N)
  num : ∀ i, i < N → wr.cell? ⟨gN, i, none⟩ = some (.int .i64 (x.getD i 0))
  burnt : BoolsO 4 gB (gB + 1) wr (.slice (some ⟨gB, 0, none⟩) N N) b
  blen : b.length = N
  apart : gB ≠ A ∧ gB ≠ C ∧ gB ≠ D ∧ gB ≠ gN
  new : w.heap.size ≤ gB
  lt : A < wr.heap.size ∧ C < wr.heap.size ∧ D < wr.heap.size ∧ gN < wr.heap.size ∧ gB < wr.heap.size
  grew : Grew w wr
theorem BurnMem.later {w wr W : World} {v : Value} {A C D gN cN gB N : Nat} {x : List Int} {b : List Bool} (h : BurnMem w wr v A C D gN cN gB N x b) (hg : Grew wr W) : BurnMem w W v A C D gN cN gB N x b := by
  have := hg.size
  have := h.lt
  exact ⟨hg.cell h.sbox, hg.cell h.nbox, hg.cell h.bbox, fun i hi => hg.cell (h.num i hi), (h.burnt.grew hg).wide (Nat.le_refl _) (Nat.le_refl _), h.blen, h.apart, h.new, ⟨by omega, by omega, by omega, by omega, by omega⟩, h.grew.trans hg⟩
theorem BurnMem.at {w wr : World} {v : Value} {A C D gN cN gB N : Nat} {x : List Int} {b : List Bool} (h : BurnMem w wr v A C D gN cN gB N x b) {i : Nat} (hi : i < N) : wr.cell? ⟨gB, i, none⟩ = some (.bool (b.getD i false)) ∧ wr.frozen? ⟨gB, i, none⟩ = false := h.burnt.at rfl (by rw [h.blen]; exact hi)
theorem BurnMem.set {w wr : World} {v : Value} {A C D gN cN gB N : Nat} {x : List Int} {b : List Bool} (h : BurnMem w wr v A C D gN cN gB N x b) (i : Nat) : BurnMem w (wr.setCell ⟨gB, i, none⟩ (.bool true)) v A C D gN cN gB N x (b.set i true) := by
  have hw := one_within wr gB i (.bool true)
  have hs := hw.size
  have hl := h.lt
  have ha := h.apart
  refine ⟨hw.cell h.sbox (by show A < gB ∨ gB + 1 ≤ A; omega), hw.cell h.nbox (by show C < gB ∨ gB + 1 ≤ C; omega), hw.cell h.bbox (by show D < gB ∨ gB + 1 ≤ D; omega), fun j hj => hw.cell (h.num j hj) (by show gN < gB ∨ gB + 1 ≤ gN; omega), h.burnt.set rfl i true, by rw [List.length_set]; exact h.blen, ha, h.new, ⟨by omega, by omega, by omega, by omega, by omega⟩, Below.setCell h.grew h.new _⟩

set_option maxRecDepth 100000 in
set_option maxHeartbeats 1000000 in
theorem burntClo_any (D g N K : Nat) (z : Bool) (W : World) (hD : W.cell? ⟨D, 0, none⟩ = some (.slice (some ⟨g, 0, none⟩) N N)) (hK : K < N) (hz : W.cell? ⟨g, K, none⟩ = some (.bool z)) :
    Calls Tryd.prog 63 #[.int .i64 K, .pointer (some ⟨D, 0, none⟩)] W fun e w' => e = .returned (.bool z) ∧ W = w' := by
  have hK' : (K : Int) < (N : Int) := by omega
  go_enter Tryd.func63, Tryd.ntmps63
  go_wp2
  go_ret
  exact ⟨rfl, rfl⟩
theorem kept_deg (n m I : Nat) (b : List Bool) : keptN (fun k : Int => b.getD k.toNat false) (aroundL n m I) (aroundL n m I).length = degS n m (fun k => !b.getD k false) I := by
  unfold keptN degS
  rw [List.take_of_length_le (Nat.le_refl _)]

set_option maxRecDepth 100000 in
set_option maxHeartbeats 2000000 in
theorem burnClo_any (w : World) (A C D gN cN gB n m N : Nat) (v : Value) (x : List Int) (b : List Bool) (hb : Box n m) (eN : n * m = N)
    (HCB : ∀ (I : Nat) W, Grew w W → I < N → Calls Tryd.prog 62 #[v, .int .i64 I] W (OwnI W (aroundL n m I)))
    (hsh : ∃ a l c, v = .slice a l c) (I : Nat) (W : World) (hI : I < N) (hM : BurnMem w W v A C D gN cN gB N x b) :
    Calls Tryd.prog 60 #[.int .i64 I, .pointer (some ⟨A, 0, none⟩), .pointer (some ⟨D, 0, none⟩), .pointer (some ⟨C, 0, none⟩)] W fun e w' => e = .returned (.bool (mayB n m x b I)) ∧ Grew W w' := by
  have HB := Lib.hid (HCB I W hM.grew hI)
  have HM := Lib.hid hM
  have hs := hM.sbox
  obtain ⟨a0, l0, c0, rfl⟩ := hsh
  have HMB : Hid (mayB n m x b I = (!b.getD I false && decide ((keptN (fun k : Int => b.getD k.toNat false) (aroundL n m I) (aroundL n m I).length : Int) ≤ x.getD I 0))) := Lib.hid (by rw [kept_deg]; rfl)
  have HKS : Hid (∀ j, j < (aroundL n m I).length → 0 ≤ (aroundL n m I).getD j 0 ∧ (aroundL n m I).getD j 0 < (N : Int)) := fun j hj => by
    have hm : (aroundL n m I).getD j 0 ∈ aroundL n m I := by
      rw [List.getD_eq_getElem?_getD, List.getElem?_eq_getElem hj]
      exact List.getElem_mem hj
    have := box_around hb I (by rw [eN]; exact hI) _ hm
    rw [eN] at this
    exact this
  obtain ⟨ks, eks⟩ : ∃ ks, aroundL n m I = ks := ⟨_, rfl⟩
  rw [eks] at HB HMB HKS
  obtain ⟨R, eR⟩ : ∃ R, mayB n m x b I = R := ⟨_, rfl⟩
  rw [eR] at HMB ⊢
  obtain ⟨q, eq⟩ : ∃ q, keptN (fun k : Int => b.getD k.toNat false) ks ks.length = q := ⟨_, rfl⟩
  rw [eq] at HMB
  have HQ := Lib.hid eq
  have hmf : ∀ (fn : Fn) (first cap : Array Value) (w : World), (Instr.makeFunc fn first cap).run Tryd.prog w = .ok (.func fn first cap) w := fun _ _ _ _ => rfl
  have hI' : (I : Int) < (N : Int) := by omega
  clear hM HCB hb eN eks eR eq
  go_enter Tryd.func60, Tryd.ntmps60
  go_wp2_with (fail)
  refine HB.out.mono ?_
  rintro e w5 ⟨a5, c5, rfl, hO5, hg5⟩
  have H5 := Lib.hid (And.intro hO5 hg5)
  have HD : Hid (Calls Tryd.prog 61 #[.slice a5 ks.length c5, .func (.func 63) #[] #[.pointer (some ⟨D, 0, none⟩)]] w5 fun e w' => ∃ a c, e = .returned (.slice a q c) ∧ Grew W w') := by
    have := deleteFunc_any _ _ _ ks (fun k : Int => b.getD k.toNat false) 63 #[.pointer (some ⟨D, 0, none⟩)] (enters_of Tryd.func63 (by kernel_rfl) rfl) w5 H5.out.1 (fun i W' hW' hi => by
      have hk := HKS.out i hi
      obtain ⟨K, eK⟩ := Int.eq_ofNat_of_zero_le hk.1
      rw [eK] at hk ⊢
      have hKN : K < N := by omega
      have hg := H5.out.2
      have hl := HM.out.lt
      rw [Int.toNat_natCast]
      exact burntClo_any D gB N K _ W' (hW'.cell (hg.cell HM.out.bbox) (.inl (by show D < _; omega))) hKN (hW'.cell (hg.cell (HM.out.at hKN).1) (.inl (by show gB < _; omega))))
    rw [HQ.out] at this
    exact this.mono fun e w' ⟨a, c, he, hw⟩ => ⟨a, c, he, Within.grew H5.out.2 hw (Nat.le_refl _)⟩
  clear hO5 hg5 hs
  go_wp2_with (fail)
  refine HD.out.mono ?_
  rintro e w6 ⟨a6, c6, rfl, hg6⟩
  have h1 := hg6.cell HM.out.bbox
  have h2 := hg6.cell (HM.out.at hI).1
  have h3 := hg6.cell HM.out.nbox
  have h4 := hg6.cell (HM.out.num I hI)
  have HG6 := Lib.hid hg6
  obtain ⟨y, ey⟩ : ∃ y, x.getD I 0 = y := ⟨_, rfl⟩
  rw [ey] at h4 HMB
  clear hg6 ey
  cases hz : b.getD I false with
  | true =>
    rw [hz] at h2 HMB
    clear hz
    go_wp2
    go_ret
    exact ⟨ret_bool (by rw [HMB.out]; rfl), HG6.out⟩
  | false =>
    rw [hz] at h2 HMB
    clear hz
    go_wp2
    go_ret
    exact ⟨ret_bool (by rw [HMB.out]; rfl), HG6.out⟩
end Go.Proofs.YthgafljbbkgldaaDoor
