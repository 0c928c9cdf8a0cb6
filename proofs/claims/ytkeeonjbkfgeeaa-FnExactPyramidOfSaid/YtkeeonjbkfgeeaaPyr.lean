/- The contracts of impl.wholeOf, impl.PyramidOf and spec.PyramidOf. -/
import Derived.Test.YtkeeonjbkfgeeaaGreat
import Derived.Test.YtkeeonjbkfgeeaaTwos
import Derived.Test.YtkeeonjbkfgeeaaSteps3
import Derived.Test.YtkeeonjbkfgeeaaConcat
import Derived.Test.YtkeeonjbkfgeeaaSFlat
import Derived.Test.YtkeeonjbkfgeeaaHeldMono
namespace Go.Proofs.Ytkeeonjbkfgeeaa
open Go.RowKit

theorem Try.infoGrid : (Try.prog.info? 23).map (fun i => (i.zero, i.size, i.bytes)) = some (some (.slice none 0 0), 1, 24) := by kernel_rfl
def NewSteps (w : World) (L : List (List (List Int))) (e : Ending) (w' : World) : Prop := ∃ v, e = .returned v ∧ StepsO 23 27 3 w.heap.size w'.heap.size w' v L ∧ Grew w w'
/-- The grid and its sums; nothing if it is no grid. -/
def pyrX (h : List (List Int)) : List (List (List Int)) := if vGrid h = true then pyrL h (h.getD 0 []).length else []

set_option maxRecDepth 100000 in
set_option maxHeartbeats 1000000 in
theorem wholeOf_any (b o c n m : Nat) (a0 : Option Addr) (c0 : Nat) (w : World) (hn : 1 ≤ n) (hc : w.cell? ⟨b, o, none⟩ = some (.slice a0 m c0)) :
    Calls Try.prog 54 #[.slice (some ⟨b, o, none⟩) n c] w fun e w' => e = .returned (.agg #[.int .i64 0, .int .i64 n, .int .i64 0, .int .i64 m]) ∧ Grew w w' := by
  have hi0 : (0 : Int) < n := by omega
  have hn0 : 0 < n := hn
  have hc' := ((Grew.refl w).alloc (.cells #[.int .i64 0, .int .i64 0, .int .i64 0, .int .i64 0] 53)).cell hc
  go_enter Try.func54, Try.ntmps54
  go_wp2
  refine bodyPost_ret (v := .agg #[.int .i64 0, .int .i64 n, .int .i64 0, .int .i64 m]) ?_ rfl ⟨rfl, ?_⟩
  · simp [results, Try.results54, go_sem]
  · exact (Grew.refl w).alloc _

set_option maxRecDepth 100000 in
set_option maxHeartbeats 8000000 in
theorem PyramidOf_any (v : Value) (h : List (List Int)) (w : World) (hv : RowsV w v h) :
    Calls Try.prog 26 #[v] w (NewSteps w (pyrX h)) := by
  have HK := Lib.hid (ValidGrid_any v h w hv)
  unfold pyrX
  cases hp : vGrid h with
  | false =>
    rw [hp] at HK
    obtain ⟨sa, sb, so, sc, rfl, _, _, _⟩ := hv.shape
    clear hp hv
    go_enter Try.func26, Try.ntmps26
    go_wp2_with (fail)
    refine HK.out.mono ?_
    rintro e w1 ⟨rfl, rfl⟩
    go_wp2
    go_ret
    exact ⟨_, rfl, StepsO.nil _ _ _ _ _ _, Grew.refl _⟩
  | true =>
    rw [hp] at HK
    rw [if_pos rfl]
    have G := Grid.of hp
    obtain ⟨m, em⟩ : ∃ m, (h.getD 0 []).length = m := ⟨_, rfl⟩
    rw [em] at G ⊢
    obtain ⟨n, en⟩ : ∃ n, h.length = n := ⟨_, rfl⟩
    have hl := G.len
    have hCA := fun v' => slicesConcat_any v' h
    have hn1 := G.n1
    have hn5 := G.n5
    have hm1 := G.m1
    have hm5 := G.m5
    have hfl : shapeL h.flatten m h.length = pyrLv (cellS h) h.length m 0 := (shapeL_self hl).trans (pyrLv_zero hl).symm
    have hfN : h.flatten.length = h.length * m := by
      have e : ∀ (X : List (List Int)), (∀ r, r < X.length → (X.getD r []).length = m) → X.flatten.length = X.length * m := fun X => by
        induction X with
        | nil => intro _; simp
        | cons x xs ih =>
          intro hl
          have h0' : x.length = m := by simpa using hl 0 (by simp)
          rw [List.flatten_cons, List.length_append, ih (fun r hr => by simpa using hl (r + 1) (by simpa using hr)), List.length_cons, Nat.succ_mul, h0']
          omega
      exact e h hl
    have hout := cellS_outer hl
    have hbd := pyrF_bd (cellS_bd G)
    have hdi := fun k hk => deps_iff k h.length m ⟨hn1, hn5⟩ ⟨hm1, hm5⟩ hk
    have hp1 := pyrL_one h m
    have hpn := fun k hk => pyrL_next h m k hk
    have hpl := pyrL_len h m
    rw [en] at hn1 hn5 hfl hfN hout hdi hp1 hpn hpl
    obtain ⟨PL, ePL⟩ : ∃ PL, pyrL h m = PL := ⟨_, rfl⟩
    rw [ePL] at hp1 hpn hpl ⊢
    obtain ⟨f, ef⟩ : ∃ f, cellS h = f := ⟨_, rfl⟩
    rw [ef] at hfl hout hbd hp1 hpn
    obtain ⟨FL, eFL⟩ : ∃ FL, h.flatten = FL := ⟨_, rfl⟩
    rw [eFL] at hfl hfN
    obtain ⟨N, eN⟩ : ∃ N, n * m = N := ⟨_, rfl⟩
    have hD3 := deps_le n m
    obtain ⟨D, eD⟩ : ∃ D, deps n m = D := ⟨_, rfl⟩
    rw [eD] at hdi hpn hpl hD3
    have HOUT := Lib.hid (pyrF_outer hout)
    have HBD := Lib.hid hbd
    have HDI : Hid (∀ k, k ≤ 3 → (1 < hlfN k n * hlfN k m ↔ k < D)) := Lib.hid fun k hk => by
      rw [many_iff _ _ (hlfN_pos k n hn1) (hlfN_pos k m hm1), hdi k hk]; omega
    have HDJ : Hid (∀ k, k ≤ 3 → (¬ (hlfN k n = 1 ∧ hlfN k m = 1) ↔ k < D)) := Lib.hid fun k hk => by
      rw [hdi k hk]; omega
    have HP1 := Lib.hid hp1
    have HPN := Lib.hid hpn
    have HPL := Lib.hid hpl
    have HNL : Hid (FL.length = N) := Lib.hid (by rw [hfN, eN])
    have HNM := Lib.hid eN
    have HSH : Hid (shapeL FL m n = tabR n m (pyrF f 0)) := Lib.hid hfl
    have HPB : Hid (∀ k, 1 ≤ hlfN k n ∧ hlfN k n ≤ 5 ∧ 1 ≤ hlfN k m ∧ hlfN k m ≤ 5) := Lib.hid fun k => ⟨hlfN_pos k n hn1, hlfN_le k n hn5, hlfN_pos k m hm1, hlfN_le k m hm5⟩
    have HLV : Hid (∀ k, tabR (hlf (hlfN k n)) (hlf (hlfN k m)) (quadS (pyrF f k)) = pyrLv f n m (k + 1)) := Lib.hid fun k => rfl
    have HL0 : Hid (tabR n m (pyrF f 0) = pyrLv f n m 0) := Lib.hid rfl
    obtain ⟨sa, sb, so, sc, rfl, ⟨hlc, hcb⟩, ha, HC⟩ := hv.shape
    obtain rfl := ha (by rw [en]; exact hn1)
    obtain ⟨u0, hc00, hu0⟩ := HC.out 0 (by rw [en]; exact hn1)
    rw [Nat.add_zero] at hc00
    obtain ⟨a0, b0, o0, c0, rfl, _, _, _⟩ := hu0.shape
    rw [em] at hc00
    have HCW : Hid (∀ W, Grew w W → Calls Try.prog 53 #[.slice (some ⟨sb, so, none⟩) n sc] W (FlatPost W FL)) := Lib.hid fun W hW => by
      have := hCA _ W (hv.grew hW) (by omega) (by omega) (fun r hr => by have := hl r hr; omega)
      rw [eFL, en] at this
      exact this
    rw [en] at HK
    have hi0 : (0 : Int) < n := by omega
    have hn0 : 0 < n := hn1
    rw [en]
    clear hp hv ha HC hu0 G em en hl hCA hfl hfN hout hbd hdi hp1 hpn hpl ePL ef eFL eN eD
    go_enter Try.func26, Try.ntmps26
    go_wp2_with (fail)
    refine HK.out.mono ?_
    rintro e w1 ⟨rfl, rfl⟩
    obtain ⟨W0, eW0⟩ : ∃ W0, W0 = w := ⟨_, rfl⟩
    have hc0 : W0.drew.cell? ⟨sb, so, none⟩ = some (.slice a0 m c0) := by rw [eW0]; exact hc00
    have HCA : Hid (∀ W, Grew W0 W → Calls Try.prog 53 #[.slice (some ⟨sb, so, none⟩) n sc] W (FlatPost W FL)) := by rw [eW0]; exact HCW
    subst eW0
    clear hc00 HCW HK
    go_wp2
    refine wp_region_noPanic ?_
    refine wp_region_held_drew (S := fun W => W.cell? ⟨sb, so, none⟩ = some (.slice a0 m c0) ∧ Grew W0 W) (by kernel_rfl) (by exact ⟨hc0, (Grew.refl W0).drew⟩) (fun hHeld => ?_)
    refine wpAnyH_take (i := 0) (oi := { dst := some 8, op := Op.move (Operand.tmp 0), type := 23, pos := _, after := #[], guard := none }) (v := ?_) rfl (by kernel_rfl) (by kernel_rfl) (by kernel_rfl) (fun _ _ _ h => h) (Or.inl ⟨by rfl, ?hy⟩) (by assumption) ?_
    case hy => (intro w hSw; (try dsimp only at hSw); go_simp; try with_reducible rfl)
    try simp only [Act.put, List.setIfInBounds_toArray, List.set_cons_zero, List.set_cons_succ]
    refine wpAnyH_take (i := 2) (oi := { dst := some 10, op := Op.move (Operand.tmp 0), type := 23, pos := _, after := #[], guard := none }) (v := ?_) rfl (by kernel_rfl) (by kernel_rfl) (by kernel_rfl) (fun _ _ _ h => h) (Or.inl ⟨by rfl, ?hy⟩) (by assumption) ?_
    case hy => (intro w hSw; (try dsimp only at hSw); go_simp; try with_reducible rfl)
    try simp only [Act.put, List.setIfInBounds_toArray, List.set_cons_zero, List.set_cons_succ]
    refine wpAnyH_take (i := 3) (oi := { dst := some 11, op := Op.indexAddr 23 (Operand.tmp 10) (Operand.const (Value.int IntKind.i64 0)), type := 0, pos := _, after := #[{ on := 2, ground := Ground.data }], guard := none }) (v := ?_) rfl (by kernel_rfl) (by kernel_rfl) (by kernel_rfl) (fun _ _ _ h => h) (Or.inl ⟨by rfl, ?hy⟩) (by assumption) ?_
    case hy => (intro w hSw; (try dsimp only at hSw); go_simp; try with_reducible rfl)
    try simp only [Act.put, List.setIfInBounds_toArray, List.set_cons_zero, List.set_cons_succ]
    refine wpAnyH_take (i := 4) (oi := { dst := some 12, op := Op.load 27 (Operand.tmp 11), type := 27, pos := _, after := #[{ on := 3, ground := Ground.data }], guard := none }) (v := ?_) rfl (by kernel_rfl) (by kernel_rfl) (by kernel_rfl) (fun _ _ _ h => h) (Or.inl ⟨by rfl, ?hy⟩) (by assumption) ?_
    case hy => (intro w hSw; (try dsimp only at hSw); go_simp; try with_reducible rfl)
    try simp only [Act.put, List.setIfInBounds_toArray, List.set_cons_zero, List.set_cons_succ]
    refine wpAnyH_take (i := 5) (oi := { dst := some 13, op := Op.call { callee := Callee.builtin Builtin.len, args := #[Operand.tmp 12], argTypes := #[27] }, type := 3, pos := _, after := #[{ on := 4, ground := Ground.data }], guard := none }) (v := ?_) rfl (by kernel_rfl) (by kernel_rfl) (by kernel_rfl) (fun _ _ _ h => h) (Or.inl ⟨by rfl, ?hy⟩) (by assumption) ?_
    case hy => (intro w hSw; (try dsimp only at hSw); go_simp; try with_reducible rfl)
    try simp only [Act.put, List.setIfInBounds_toArray, List.set_cons_zero, List.set_cons_succ]
    refine wpAnyH_ready (rs := [1]) (by kernel_rfl) (by simp) ?_
    refine AllReadyH.cons (i := 1) (o := { dst := some 9, op := Op.call { callee := Callee.value (Operand.func 53), args := #[Operand.tmp 8], argTypes := #[23] }, type := 27, pos := _, after := #[{ on := 0, ground := Ground.data }], guard := none }) rfl (fun KK hKK => ?_) (AllReadyH.nil)
    go_simp
    go_at_call 53
    (with_reducible refine (HCA.out _ hHeld.2).mono ?_)
    rintro e w2 ⟨g2, c2, rfl, hO2, hg2⟩
    rw [HNL.out] at hO2 ⊢
    have H2 := Lib.hid (And.intro hO2 hg2)
    clear hO2 hg2
    refine hKK.out _ _ (by exact ⟨H2.out.2.cell hHeld.1, hHeld.2.trans H2.out.2⟩) (fun hHeld => ?_)
    clear hKK KK
    try simp only [Act.put, List.setIfInBounds_toArray, List.set_cons_zero, List.set_cons_succ]
    refine wpAnyH_ready (rs := [6]) (by kernel_rfl) (by simp) ?_
    refine AllReadyH.cons (i := 6) (o := { dst := some 14, op := Op.call { callee := Callee.value (Operand.func 52), args := #[Operand.tmp 9, Operand.tmp 13], argTypes := #[27, 3] }, type := 23, pos := _, after := #[{ on := 1, ground := Ground.data }, { on := 5, ground := Ground.data }, { on := 1, ground := Ground.chain }], guard := none }) rfl (fun KK hKK => ?_) (AllReadyH.nil)
    go_simp
    go_at_call 52
    refine (inRows_own H2.out.1 hn5 hm1 hm5 HNM.out).mono ?_
    rw [HSH.out]
    rintro e w3 ⟨v3, rfl, hO3, hg3⟩
    have H3 := Lib.hid (And.intro hO3 hg3)
    obtain ⟨g3, c3, rfl, _, _, _, _⟩ := hO3.pos (by rw [tabR_len]; exact hn1)
    rw [tabR_len]
    rw [tabR_len] at H3
    clear hO3 hg3
    refine hKK.out _ _ (by exact ⟨H3.out.2.cell hHeld.1, hHeld.2.trans H3.out.2⟩) (fun hHeld => ?_)
    clear hKK KK
    try simp only [Act.put, List.setIfInBounds_toArray, List.set_cons_zero, List.set_cons_succ]
    refine wpAnyH_take (i := 7) (oi := { dst := some 3, op := Op.assign (Operand.tmp 14), type := 23, pos := _, after := #[{ on := 6, ground := Ground.data }, { on := 6, ground := Ground.chain }, { on := 0, ground := Ground.phase }, { on := 1, ground := Ground.phase }, { on := 2, ground := Ground.phase }, { on := 3, ground := Ground.phase }, { on := 4, ground := Ground.phase }, { on := 5, ground := Ground.phase }, { on := 6, ground := Ground.phase }], guard := none }) (v := ?_) rfl (by kernel_rfl) (by kernel_rfl) (by kernel_rfl) (fun _ _ _ h => h) (Or.inl ⟨by rfl, ?hy⟩) (by assumption) ?_
    case hy => (intro w hSw; (try dsimp only at hSw); go_simp; try with_reducible rfl)
    try simp only [Act.put, List.setIfInBounds_toArray, List.set_cons_zero, List.set_cons_succ]
    refine wpAnyH_done (by kernel_rfl) ?_ _
    refine NoPanic.normal ?_
    have HGA := Lib.hid hHeld.2
    have H4 : Hid (StepsO 23 27 3 W0.heap.size (w3.alloc (.cells #[.slice (some ⟨g3, 0, none⟩) n c3] 23)).heap.size (w3.alloc (.cells #[.slice (some ⟨g3, 0, none⟩) n c3] 23)) (.slice (some ⟨w3.heap.size, 0, none⟩) 1 1) (PL.take 1) ∧ RowsV (w3.alloc (.cells #[.slice (some ⟨g3, 0, none⟩) n c3] 23)) (.slice (some ⟨g3, 0, none⟩) n c3) (pyrLv f n m 0) ∧ Grew W0 (w3.alloc (.cells #[.slice (some ⟨g3, 0, none⟩) n c3] 23))) := by
      have h3 := H3.out.1
      rw [HL0.out] at h3
      have hs2 : W0.heap.size ≤ w2.heap.size := by have := H2.out.2.size; simpa using this
      rw [← HP1.out]
      refine ⟨?_, h3.toV.grew ((Grew.refl _).alloc _), HGA.out.alloc _⟩
      have := StepsO.lit1 (S := 23) (h3.wide (lo' := W0.heap.size) (hi' := w3.heap.size) hs2 (Nat.le_refl _)) HGA.out.size (Nat.le_refl _)
      simpa using this
    clear hHeld hc0 H2 H3
    go_wp2
    go_loopg [3, 4] D (fun gk nv pv wr => ∃ (k gn nk cn g L c' : Nat), nv = .slice (some ⟨gn, 0, none⟩) nk cn ∧ pv = .slice (some ⟨g, 0, none⟩) L c' ∧ Hid (nk = hlfN k n ∧ L = k + 1) ∧ k ≤ D ∧ D ≤ gk + k ∧ Hid (StepsO 23 27 3 W0.heap.size wr.heap.size wr pv (PL.take (k + 1)) ∧ RowsV wr nv (pyrLv f n m k) ∧ Grew W0 wr))
    case atStart => exact ⟨0, _, n, _, _, 1, _, rfl, rfl, ⟨rfl, rfl⟩, Nat.zero_le _, Nat.le_refl _, H4.out⟩
    case round =>
      obtain ⟨k, gn, nk, cn, g, L, c', rfl, rfl, HNK, hk1, hk2, HI⟩ := hrel
      clear H4
      have hkb := HPB.out k
      rw [← HNK.out.1] at hkb
      obtain ⟨hnk1, hnk5, hmk1, hmk5⟩ := hkb
      have hdk := HDI.out k (by omega)
      rw [← HNK.out.1] at hdk
      obtain ⟨mk, emk⟩ : ∃ mk, hlfN k m = mk := ⟨_, rfl⟩
      have hrv := HI.out.2.1
      unfold pyrLv at hrv
      rw [← HNK.out.1, emk] at hrv
      rw [emk] at hmk1 hmk5 hdk
      obtain ⟨b7, o7, c7, e7, _, HC7⟩ := tab_cells hrv hnk1 hmk1
      simp only [Value.slice.injEq, Option.some.injEq, Addr.mk.injEq, and_true, true_and] at e7
      obtain ⟨⟨rfl, rfl⟩, rfl⟩ := e7
      obtain ⟨g8, o8, c8, hc8, _, _, _⟩ := HC7.out 0 hnk1
      rw [Nat.add_zero] at hc8
      have HRV := Lib.hid hrv
      have HWO := Lib.hid (wholeOf_any gn 0 cn nk mk _ c8 wr hnk1 hc8)
      have HPC : Hid (∀ W, Calls Try.prog 50 #[.agg #[.int .i64 0, .int .i64 nk, .int .i64 0, .int .i64 mk]] W fun e w' => e = .returned (.int .i64 ((nk * mk : Nat) : Int)) ∧ Grew W w') := Lib.hid fun W => by
        have := partCells_any 0 nk 0 mk W (by omega) (by omega) (by omega) (by omega) (by omega) (by omega)
        rw [Int.sub_zero, Int.sub_zero, ← Int.natCast_mul] at this
        exact this
      have HEM := Lib.hid emk
      obtain ⟨cc, ecc⟩ : ∃ cc, nk * mk = cc := ⟨_, rfl⟩
      rw [ecc] at HPC hdk
      clear hrv hc8 HC7 ecc emk
      by_cases hlt : k < D
      · have hcc : (1 : Int) < cc := by omega
        obtain ⟨wo, rfl⟩ : ∃ wo : World, wo = wr := ⟨_, rfl⟩
        clear hdk
        go_wp2_with (fail)
        refine HWO.out.mono ?_
        rintro e w4 ⟨rfl, hg4⟩
        have HG4 := Lib.hid hg4
        clear hg4
        go_wp2_with (fail)
        (with_reducible refine (HPC.out _).mono ?_)
        rintro e w5 ⟨rfl, hg5⟩
        have HG5 := Lib.hid (HG4.out.trans hg5)
        clear hg5
        go_wp2_with (fail)
        refine (sumsByTwos_any _ nk mk (pyrF f k) _ (HRV.out.grew HG5.out) hnk1 hnk5 hmk1 hmk5 (by have := HOUT.out k; rw [← HNK.out.1, HEM.out] at this; exact this) (fun a b => by have := HBD.out k (by omega) a b; omega)).mono ?_
        rintro e w6 ⟨v6, rfl, hO6, hg6⟩
        have hlv := HLV.out k
        rw [← HNK.out.1, HEM.out] at hlv
        have hn2 : 1 ≤ hlf nk := by unfold hlf; omega
        have hm2 : 1 ≤ hlf mk := by unfold hlf; omega
        obtain ⟨g6, c6, rfl, _, _, _, _⟩ := hO6.pos (by rw [tabR_len]; exact hn2)
        rw [tabR_len] at hO6 ⊢
        rw [hlv] at hO6
        have HLK : Hid (hlf nk = hlfN (k + 1) n) := Lib.hid (by rw [HNK.out.1]; rfl)
        have HPT := Lib.hid (HPN.out (k + 1) (by omega))
        have HTL : Hid ((PL.take (k + 1)).length = k + 1) := Lib.hid (by rw [List.length_take, HPL.out]; omega)
        obtain ⟨n6, en6⟩ : ∃ n6, hlf nk = n6 := ⟨_, rfl⟩
        rw [en6] at hO6 HLK ⊢
        have H6 : Hid (RowsO 27 3 wo.heap.size w6.heap.size w6 (.slice (some ⟨g6, 0, none⟩) n6 c6) (pyrLv f n m (k + 1)) ∧ Grew wo w6) := Lib.hid ⟨hO6.wide HG5.out.size (Nat.le_refl _), HG5.out.trans hg6⟩
        obtain ⟨PT, ePT⟩ : ∃ PT, PL.take (k + 1) = PT := ⟨_, rfl⟩
        rw [ePT] at HI HPT HTL
        clear hO6 hg6 hlv hn2 hm2 en6 ePT
        go_wp2_with (at_builtin; refine wpList_append_step rfl (.tmp 23) (.tmp 25) 37 rfl Try.underlying37 Try.infoGrid rfl rfl (by simp) (HI.out.1.grew H6.out.2) H6.out.1 H6.out.2.size (Nat.le_refl _) (by rw [HTL.out]; omega) HI.out.2.2.size ?_; intro g8 c8 w8 hO8 hR8 hW8 hS8)
        have H8 : Hid (StepsO 23 27 3 W0.heap.size w8.heap.size w8 (.slice (some ⟨g8, 0, none⟩) (k + 1 + 1) c8) (PL.take (k + 1 + 1)) ∧ RowsV w8 (.slice (some ⟨g6, 0, none⟩) n6 c6) (pyrLv f n m (k + 1)) ∧ Grew W0 w8) := by
          rw [HPT.out, HTL.out] at hO8
          exact ⟨hO8, hR8.toV, Within.grew (HI.out.2.2.trans H6.out.2) hW8 (Nat.le_refl _)⟩
        rw [HTL.out]
        clear hO8 hR8 hW8
        go_wp2
        go_roundg (gk - 1)
        case measure => omega
        case rel => exact ⟨k + 1, g6, n6, c6, g8, k + 1 + 1, c8, rfl, rfl, ⟨HLK.out, rfl⟩, by omega, by omega, H8.out⟩
      · obtain rfl : k = D := by omega
        have hcc : ¬ (1 : Int) < cc := by omega
        clear hdk
        go_wp2_with (fail)
        refine HWO.out.mono ?_
        rintro e w4 ⟨rfl, hg4⟩
        have HG4 := Lib.hid hg4
        clear hg4
        go_wp2_with (fail)
        (with_reducible refine (HPC.out _).mono ?_)
        rintro e w5 ⟨rfl, hg5⟩
        have HF : Hid (StepsO 23 27 3 W0.heap.size w5.heap.size w5 (.slice (some ⟨g, 0, none⟩) L c') PL ∧ Grew W0 w5) := by
          have hg := HG4.out.trans hg5
          have h1 := HI.out.1
          rw [List.take_of_length_le (by rw [HPL.out]; omega)] at h1
          exact ⟨(h1.grew hg).wide (Nat.le_refl _) hg.size, HI.out.2.2.trans hg⟩
        clear hg5
        go_wp2
        go_ret
        exact ⟨_, rfl, HF.out⟩

set_option maxRecDepth 100000 in
set_option maxHeartbeats 8000000 in
theorem SPyramidOf_any (v : Value) (h : List (List Int)) (w : World) (hv : RowsV w v h) :
    Calls Try.prog 28 #[v] w (NewSteps w (pyrX h)) := by
  have HK := Lib.hid (sValidGrid_any v h w hv)
  unfold pyrX
  cases hp : vGrid h with
  | false =>
    rw [hp] at HK
    obtain ⟨sa, sb, so, sc, rfl, _, _, _⟩ := hv.shape
    clear hp hv
    go_enter Try.func28, Try.ntmps28
    go_wp2_with (fail)
    refine HK.out.mono ?_
    rintro e w1 ⟨rfl, hg1⟩
    have HG1 := Lib.hid hg1
    clear hg1
    go_wp2
    go_ret
    exact ⟨_, rfl, StepsO.nil _ _ _ _ _ _, HG1.out⟩
  | true =>
    rw [hp] at HK
    rw [if_pos rfl]
    have G := Grid.of hp
    obtain ⟨m, em⟩ : ∃ m, (h.getD 0 []).length = m := ⟨_, rfl⟩
    rw [em] at G ⊢
    obtain ⟨n, en⟩ : ∃ n, h.length = n := ⟨_, rfl⟩
    have hl := G.len
    have hCA := fun v' => sflat_any v' h
    have hn1 := G.n1
    have hn5 := G.n5
    have hm1 := G.m1
    have hm5 := G.m5
    have hfl : shapeL h.flatten m h.length = pyrLv (cellS h) h.length m 0 := (shapeL_self hl).trans (pyrLv_zero hl).symm
    have hfN : h.flatten.length = h.length * m := by
      have e : ∀ (X : List (List Int)), (∀ r, r < X.length → (X.getD r []).length = m) → X.flatten.length = X.length * m := fun X => by
        induction X with
        | nil => intro _; simp
        | cons x xs ih =>
          intro hl
          have h0' : x.length = m := by simpa using hl 0 (by simp)
          rw [List.flatten_cons, List.length_append, ih (fun r hr => by simpa using hl (r + 1) (by simpa using hr)), List.length_cons, Nat.succ_mul, h0']
          omega
      exact e h hl
    have hout := cellS_outer hl
    have hbd := pyrF_bd (cellS_bd G)
    have hdi := fun k hk => deps_iff k h.length m ⟨hn1, hn5⟩ ⟨hm1, hm5⟩ hk
    have hp1 := pyrL_one h m
    have hpn := fun k hk => pyrL_next h m k hk
    have hpl := pyrL_len h m
    have hpa : ∀ k, k ≤ deps h.length m → ((pyrL h m).take (k + 1)).getD k [] = pyrLv (cellS h) h.length m k := fun k hk => by rw [getD_take _ _ _ _ (Nat.lt_succ_self _)]; exact pyrL_at h m k hk
    rw [en] at hn1 hn5 hfl hfN hout hdi hp1 hpn hpl hpa
    obtain ⟨PL, ePL⟩ : ∃ PL, pyrL h m = PL := ⟨_, rfl⟩
    rw [ePL] at hp1 hpn hpl hpa ⊢
    obtain ⟨f, ef⟩ : ∃ f, cellS h = f := ⟨_, rfl⟩
    rw [ef] at hfl hout hbd hp1 hpn hpa
    obtain ⟨FL, eFL⟩ : ∃ FL, h.flatten = FL := ⟨_, rfl⟩
    rw [eFL] at hfl hfN
    obtain ⟨N, eN⟩ : ∃ N, n * m = N := ⟨_, rfl⟩
    have hD3 := deps_le n m
    obtain ⟨D, eD⟩ : ∃ D, deps n m = D := ⟨_, rfl⟩
    rw [eD] at hdi hpn hpl hpa hD3
    have HOUT := Lib.hid (pyrF_outer hout)
    have HBD := Lib.hid hbd
    have HDI : Hid (∀ k, k ≤ 3 → (1 < hlfN k n * hlfN k m ↔ k < D)) := Lib.hid fun k hk => by
      rw [many_iff _ _ (hlfN_pos k n hn1) (hlfN_pos k m hm1), hdi k hk]; omega
    have HDJ : Hid (∀ k, k ≤ 3 → (¬ (hlfN k n = 1 ∧ hlfN k m = 1) ↔ k < D)) := Lib.hid fun k hk => by
      rw [hdi k hk]; omega
    have HP1 := Lib.hid hp1
    have HPN := Lib.hid hpn
    have HPL := Lib.hid hpl
    have HPA := Lib.hid hpa
    have HNL : Hid (FL.length = N) := Lib.hid (by rw [hfN, eN])
    have HNM := Lib.hid eN
    have HSH : Hid (shapeL FL m n = tabR n m (pyrF f 0)) := Lib.hid hfl
    have HPB : Hid (∀ k, 1 ≤ hlfN k n ∧ hlfN k n ≤ 5 ∧ 1 ≤ hlfN k m ∧ hlfN k m ≤ 5) := Lib.hid fun k => ⟨hlfN_pos k n hn1, hlfN_le k n hn5, hlfN_pos k m hm1, hlfN_le k m hm5⟩
    have HLV : Hid (∀ k, tabR (hlf (hlfN k n)) (hlf (hlfN k m)) (quadS (pyrF f k)) = pyrLv f n m (k + 1)) := Lib.hid fun k => rfl
    have HL0 : Hid (tabR n m (pyrF f 0) = pyrLv f n m 0) := Lib.hid rfl
    obtain ⟨sa, sb, so, sc, rfl, ⟨hlc, hcb⟩, ha, HC⟩ := hv.shape
    obtain rfl := ha (by rw [en]; exact hn1)
    obtain ⟨u0, hc00, hu0⟩ := HC.out 0 (by rw [en]; exact hn1)
    rw [Nat.add_zero] at hc00
    obtain ⟨a0, b0, o0, c0, rfl, _, _, _⟩ := hu0.shape
    rw [em] at hc00
    have HCW : Hid (∀ W, Grew w W → Calls Try.prog 57 #[.slice (some ⟨sb, so, none⟩) n sc] W (FlatPost W FL)) := Lib.hid fun W hW => by
      have := hCA _ W (hv.grew hW) (by omega) (fun r hr => by have := hl r hr; omega)
      rw [eFL, en] at this
      exact this
    rw [en] at HK
    have hi0 : (0 : Int) < n := by omega
    have hn0 : 0 < n := hn1
    rw [en]
    clear hp hv ha HC hu0 G em en hl hCA hfl hfN hout hbd hdi hp1 hpn hpl hpa ePL ef eFL eN eD
    go_enter Try.func28, Try.ntmps28
    go_wp2_with (fail)
    refine HK.out.mono ?_
    rintro e w1 ⟨rfl, hg1⟩
    have HGB := Lib.hid hg1
    obtain ⟨W0, eW0⟩ : ∃ W0, W0 = w1 := ⟨_, rfl⟩
    have hc0 : W0.drew.cell? ⟨sb, so, none⟩ = some (.slice a0 m c0) := by rw [eW0]; exact hg1.cell hc00
    have HCA : Hid (∀ W, Grew W0 W → Calls Try.prog 57 #[.slice (some ⟨sb, so, none⟩) n sc] W (FlatPost W FL)) := by rw [eW0]; exact Lib.hid fun W hW => HCW.out W (hg1.trans hW)
    subst eW0
    clear hc00 HCW HK hg1
    go_wp2
    refine wp_region_noPanic ?_
    refine wp_region_held_drew (S := fun W => W.cell? ⟨sb, so, none⟩ = some (.slice a0 m c0) ∧ Grew W0 W) (by kernel_rfl) (by exact ⟨hc0, (Grew.refl W0).drew⟩) (fun hHeld => ?_)
    refine wpAnyH_take (i := 0) (oi := { dst := some 7, op := Op.move (Operand.tmp 0), type := 23, pos := _, after := #[], guard := none }) (v := ?_) rfl (by kernel_rfl) (by kernel_rfl) (by kernel_rfl) (fun _ _ _ h => h) (Or.inl ⟨by rfl, ?hy⟩) (by assumption) ?_
    case hy => (intro w hSw; (try dsimp only at hSw); go_simp; try with_reducible rfl)
    try simp only [Act.put, List.setIfInBounds_toArray, List.set_cons_zero, List.set_cons_succ]
    refine wpAnyH_take (i := 2) (oi := { dst := some 9, op := Op.move (Operand.tmp 0), type := 23, pos := _, after := #[], guard := none }) (v := ?_) rfl (by kernel_rfl) (by kernel_rfl) (by kernel_rfl) (fun _ _ _ h => h) (Or.inl ⟨by rfl, ?hy⟩) (by assumption) ?_
    case hy => (intro w hSw; (try dsimp only at hSw); go_simp; try with_reducible rfl)
    try simp only [Act.put, List.setIfInBounds_toArray, List.set_cons_zero, List.set_cons_succ]
    refine wpAnyH_take (i := 3) (oi := { dst := some 10, op := Op.indexAddr 23 (Operand.tmp 9) (Operand.const (Value.int IntKind.i64 0)), type := 0, pos := _, after := #[{ on := 2, ground := Ground.data }], guard := none }) (v := ?_) rfl (by kernel_rfl) (by kernel_rfl) (by kernel_rfl) (fun _ _ _ h => h) (Or.inl ⟨by rfl, ?hy⟩) (by assumption) ?_
    case hy => (intro w hSw; (try dsimp only at hSw); go_simp; try with_reducible rfl)
    try simp only [Act.put, List.setIfInBounds_toArray, List.set_cons_zero, List.set_cons_succ]
    refine wpAnyH_take (i := 4) (oi := { dst := some 11, op := Op.load 27 (Operand.tmp 10), type := 27, pos := _, after := #[{ on := 3, ground := Ground.data }], guard := none }) (v := ?_) rfl (by kernel_rfl) (by kernel_rfl) (by kernel_rfl) (fun _ _ _ h => h) (Or.inl ⟨by rfl, ?hy⟩) (by assumption) ?_
    case hy => (intro w hSw; (try dsimp only at hSw); go_simp; try with_reducible rfl)
    try simp only [Act.put, List.setIfInBounds_toArray, List.set_cons_zero, List.set_cons_succ]
    refine wpAnyH_take (i := 5) (oi := { dst := some 12, op := Op.call { callee := Callee.builtin Builtin.len, args := #[Operand.tmp 11], argTypes := #[27] }, type := 3, pos := _, after := #[{ on := 4, ground := Ground.data }], guard := none }) (v := ?_) rfl (by kernel_rfl) (by kernel_rfl) (by kernel_rfl) (fun _ _ _ h => h) (Or.inl ⟨by rfl, ?hy⟩) (by assumption) ?_
    case hy => (intro w hSw; (try dsimp only at hSw); go_simp; try with_reducible rfl)
    try simp only [Act.put, List.setIfInBounds_toArray, List.set_cons_zero, List.set_cons_succ]
    refine wpAnyH_ready (rs := [1]) (by kernel_rfl) (by simp) ?_
    refine AllReadyH.cons (i := 1) (o := { dst := some 8, op := Op.call { callee := Callee.value (Operand.func 57), args := #[Operand.tmp 7], argTypes := #[23] }, type := 27, pos := _, after := #[{ on := 0, ground := Ground.data }], guard := none }) rfl (fun KK hKK => ?_) (AllReadyH.nil)
    go_simp
    go_at_call 57
    (with_reducible refine (HCA.out _ hHeld.2).mono ?_)
    rintro e w2 ⟨g2, c2, rfl, hO2, hg2⟩
    rw [HNL.out] at hO2 ⊢
    have H2 := Lib.hid (And.intro hO2 hg2)
    clear hO2 hg2
    refine hKK.out _ _ (by exact ⟨H2.out.2.cell hHeld.1, hHeld.2.trans H2.out.2⟩) (fun hHeld => ?_)
    clear hKK KK
    try simp only [Act.put, List.setIfInBounds_toArray, List.set_cons_zero, List.set_cons_succ]
    refine wpAnyH_ready (rs := [6]) (by kernel_rfl) (by simp) ?_
    refine AllReadyH.cons (i := 6) (o := { dst := some 13, op := Op.call { callee := Callee.value (Operand.func 56), args := #[Operand.tmp 8, Operand.tmp 12], argTypes := #[27, 3] }, type := 23, pos := _, after := #[{ on := 1, ground := Ground.data }, { on := 5, ground := Ground.data }, { on := 1, ground := Ground.chain }], guard := none }) rfl (fun KK hKK => ?_) (AllReadyH.nil)
    go_simp
    go_at_call 56
    refine (shaped_own H2.out.1 (by rw [HNL.out, HNM.out]) hn5 hm1 hm5).mono ?_
    rw [HSH.out]
    rintro e w3 ⟨v3, rfl, hO3, hg3⟩
    have H3 := Lib.hid (And.intro hO3 hg3)
    obtain ⟨g3, c3, rfl, _, _, _, _⟩ := hO3.pos (by rw [tabR_len]; exact hn1)
    rw [tabR_len]
    rw [tabR_len] at H3
    clear hO3 hg3
    refine hKK.out _ _ (by exact ⟨H3.out.2.cell hHeld.1, hHeld.2.trans H3.out.2⟩) (fun hHeld => ?_)
    clear hKK KK
    try simp only [Act.put, List.setIfInBounds_toArray, List.set_cons_zero, List.set_cons_succ]
    refine wpAnyH_ready (rs := [7]) (by kernel_rfl) (by simp) ?_
    refine AllReadyH.cons (i := 7) (o := { dst := some 14, op := Op.buildSlice 37 1 #[(0, Operand.tmp 13)], type := 37, pos := _, after := #[{ on := 6, ground := Ground.data }], guard := none }) rfl (fun KK hKK => ?_) (AllReadyH.nil)
    go_simp
    refine hKK.out _ _ (by exact ⟨((Grew.refl _).alloc _).cell hHeld.1, hHeld.2.alloc _⟩) (fun hHeld => ?_)
    clear hKK KK
    try simp only [Act.put, List.setIfInBounds_toArray, List.set_cons_zero, List.set_cons_succ]
    refine wpAnyH_take (i := 8) (oi := { dst := some 3, op := Op.assign (Operand.tmp 14), type := 37, pos := _, after := #[{ on := 7, ground := Ground.data }, { on := 6, ground := Ground.chain }, { on := 0, ground := Ground.phase }, { on := 1, ground := Ground.phase }, { on := 2, ground := Ground.phase }, { on := 3, ground := Ground.phase }, { on := 4, ground := Ground.phase }, { on := 5, ground := Ground.phase }, { on := 6, ground := Ground.phase }, { on := 7, ground := Ground.phase }], guard := none }) (v := ?_) rfl (by kernel_rfl) (by kernel_rfl) (by kernel_rfl) (fun _ _ _ h => h) (Or.inl ⟨by rfl, ?hy⟩) (by assumption) ?_
    case hy => (intro w hSw; (try dsimp only at hSw); go_simp; try with_reducible rfl)
    try simp only [Act.put, List.setIfInBounds_toArray, List.set_cons_zero, List.set_cons_succ]
    refine wpAnyH_done (by kernel_rfl) ?_ _
    refine NoPanic.normal ?_
    have HGA := Lib.hid hHeld.2
    have H4 : Hid (StepsO 23 27 3 W0.heap.size (w3.alloc (.cells #[.slice (some ⟨g3, 0, none⟩) n c3] 23)).heap.size (w3.alloc (.cells #[.slice (some ⟨g3, 0, none⟩) n c3] 23)) (.slice (some ⟨w3.heap.size, 0, none⟩) 1 1) (PL.take 1) ∧ Grew W0 (w3.alloc (.cells #[.slice (some ⟨g3, 0, none⟩) n c3] 23))) := by
      have h3 := H3.out.1
      rw [HL0.out] at h3
      have hs2 : W0.heap.size ≤ w2.heap.size := by have := H2.out.2.size; simpa using this
      have hs3 : w2.heap.size ≤ w3.heap.size := H3.out.2.size
      rw [← HP1.out]
      refine ⟨?_, HGA.out⟩
      have := StepsO.lit1 (S := 23) (h3.wide (lo' := W0.heap.size) (hi' := w3.heap.size) hs2 (Nat.le_refl _)) (by omega) (Nat.le_refl _)
      simpa using this
    clear hHeld hc0 H2 H3
    go_wp2
    go_loopg [3] D (fun gk pv wr => ∃ (k g L c' : Nat), pv = .slice (some ⟨g, 0, none⟩) L c' ∧ Hid (L = k + 1) ∧ k ≤ D ∧ D ≤ gk + k ∧ Hid (StepsO 23 27 3 W0.heap.size wr.heap.size wr pv (PL.take (k + 1)) ∧ Grew W0 wr))
    case atStart => exact ⟨0, _, 1, _, rfl, rfl, Nat.zero_le _, Nat.le_refl _, H4.out⟩
    case round =>
      obtain ⟨k, g, L, c', rfl, HLK, hk1, hk2, HI⟩ := hrel
      clear H4
      obtain ⟨nk, enk⟩ : ∃ nk, hlfN k n = nk := ⟨_, rfl⟩
      obtain ⟨mk, emk⟩ : ∃ mk, hlfN k m = mk := ⟨_, rfl⟩
      have hkb := HPB.out k
      rw [enk, emk] at hkb
      obtain ⟨hnk1, hnk5, hmk1, hmk5⟩ := hkb
      have hdk := HDJ.out k (by omega)
      rw [enk, emk] at hdk
      have HTL : Hid ((PL.take (k + 1)).length = k + 1) := Lib.hid (by rw [List.length_take, HPL.out]; omega)
      obtain ⟨u, hcu, hu⟩ := HI.out.1.at rfl (j := k) (by rw [HTL.out]; omega)
      have hrv := hu.toV
      rw [HPA.out k hk1] at hrv
      unfold pyrLv at hrv
      rw [enk, emk] at hrv
      obtain ⟨b7, o7, c7, rfl, _, HC7⟩ := tab_cells hrv hnk1 hmk1
      obtain ⟨g8, o8, c8, hc8, _, _, _⟩ := HC7.out 0 hnk1
      rw [Nat.add_zero] at hc8
      have HRV := Lib.hid hrv
      have HEM := Lib.hid (And.intro enk emk)
      have hLk : k < L := by have := HLK.out; omega
      have hLki : (k : Int) < L := by omega
      have hL4 : L ≤ 4 := by have := HLK.out; omega
      have e1 : IntKind.i64.wrap ((L : Int) - 1) = (k : Int) := by rw [IntWalk.i64_in _ (by omega)]; have := HLK.out; omega
      have hnk0 : (0 : Int) < nk := by omega
      have hnk0' : 0 < nk := hnk1
      by_cases hlt : k < D
      · obtain ⟨wo, rfl⟩ : ∃ wo : World, wo = wr := ⟨_, rfl⟩
        have HCH := Lib.hid (halved_any _ nk mk (pyrF f k) wo HRV.out hnk1 hnk5 hmk1 hmk5 (by have := HOUT.out k; rw [HEM.out.1, HEM.out.2] at this; exact this) (fun a b => by have := HBD.out k (by omega) a b; omega))
        have hlv := HLV.out k
        rw [HEM.out.1, HEM.out.2] at hlv
        rw [hlv] at HCH
        have HPT := Lib.hid (HPN.out (k + 1) (by omega))
        obtain ⟨PT, ePT⟩ : ∃ PT, PL.take (k + 1) = PT := ⟨_, rfl⟩
        rw [ePT] at HI HPT HTL
        have hnm := hdk.2 hlt
        clear hdk enk emk hrv hu HC7 hlv ePT
        by_cases hnk2 : 1 < nk
        all_goals
          first
            | have q1 : (1 : Int) < nk := by omega
            | (have q1 : ¬ (1 : Int) < nk := by omega
               have q2 : (1 : Int) < mk := by omega)
          clear hnm
          go_wp2_with (fail)
          refine HCH.out.mono ?_
          rintro e w6 ⟨v6, rfl, hO6, hg6⟩
          have H6 := Lib.hid (And.intro hO6 hg6)
          obtain ⟨a6, c6, rfl⟩ := hO6.sh
          obtain ⟨L6, eL6⟩ : ∃ L6, (pyrLv f n m (k + 1)).length = L6 := ⟨_, rfl⟩
          rw [eL6] at H6 ⊢
          clear hO6 hg6 eL6 e1
          go_wp2_with (at_builtin; refine wpList_append_step rfl (.tmp 35) (.tmp 43) 37 rfl Try.underlying37 Try.infoGrid rfl rfl (by simp) (HI.out.1.grew H6.out.2) H6.out.1 H6.out.2.size (Nat.le_refl _) (by rw [HTL.out]; omega) HI.out.2.size ?_; intro g8 c8 w8 hO8 hR8 hW8 hS8)
          have H8 : Hid (StepsO 23 27 3 W0.heap.size w8.heap.size w8 (.slice (some ⟨g8, 0, none⟩) (k + 1 + 1) c8) (PL.take (k + 1 + 1)) ∧ Grew W0 w8) := by
            rw [HPT.out, HTL.out] at hO8
            exact ⟨hO8, Within.grew (HI.out.2.trans H6.out.2) hW8 (Nat.le_refl _)⟩
          rw [HTL.out]
          clear hO8 hR8 hW8
          go_wp2
          go_roundg (gk - 1)
          case measure => omega
          case rel => exact ⟨k + 1, g8, k + 1 + 1, c8, rfl, rfl, by omega, by omega, H8.out⟩
      · obtain rfl : k = D := by omega
        have hnm : nk = 1 ∧ mk = 1 := Decidable.byContradiction fun hx => absurd (hdk.1 hx) (Nat.lt_irrefl _)
        have q1 : ¬ (1 : Int) < nk := by omega
        have q2 : ¬ (1 : Int) < mk := by omega
        have HF : Hid (StepsO 23 27 3 w.heap.size wr.heap.size wr (.slice (some ⟨g, 0, none⟩) L c') PL ∧ Grew w wr) := by
          have h1 := HI.out.1
          rw [List.take_of_length_le (by rw [HPL.out]; omega)] at h1
          exact ⟨h1.wide HGB.out.size (Nat.le_refl _), HGB.out.trans HI.out.2⟩
        clear hdk enk emk hrv hu HC7 hnm
        go_wp2
        go_ret
        exact ⟨_, rfl, HF.out⟩

theorem pyrX_total (h : List (List Int)) : totalS (pyrX h) ≤ 1000000 := by
  unfold pyrX
  split
  · rename_i hp
    have G := Grid.of hp
    obtain ⟨m, em⟩ : ∃ m, (h.getD 0 []).length = m := ⟨_, rfl⟩
    rw [em] at G ⊢
    have hn5 := G.n5
    have hm5 := G.m5
    have hd := deps_le h.length m
    have one : ∀ k, total (pyrLv (cellS h) h.length m k) ≤ 25 := fun k =>
      Nat.le_trans (tabR_total _ _ _) (Nat.mul_le_mul (hlfN_le k h.length hn5) (hlfN_le k m hm5))
    have : ∀ k, k ≤ (pyrL h m).length → totalS ((pyrL h m).take k) ≤ k * 25 := fun k => by
      induction k with
      | zero => intro _; simp [totalS]
      | succ k ih =>
        intro hk
        have h1 := ih (by omega)
        rw [pyrL_len] at hk
        have h2 := one k
        rw [totalS_snoc _ k (by rw [pyrL_len]; omega), pyrL_at h m k (by omega), Nat.succ_mul]
        omega
    have h3 := this _ (Nat.le_refl _)
    rw [List.take_length, pyrL_len] at h3
    omega
  · simp [totalS]
end Go.Proofs.Ytkeeonjbkfgeeaa
