/- The contracts of impl.cutBehind and of the iterator that it makes. -/
import Derived.Test.YtdhokofcgfolnaaDoorRange
import Derived.Shelf.RegionOpen
import Derived.Shelf.Abstract
import Derived.OwnWalkIn
import Derived.TacticsInMore
import Derived.LoopNIn
import Derived.LoopIn
namespace Go.Proofs.YtdhokofcgfolnaaDoor
open Go Go.RowKit Go.Shelf
attribute [local go_sem] Oper.semAt_some

theorem round_wide {m m' l l' : Nat} {P : Program} {f : FuncId} {tmps : Array Value} {assign body : Code} {w : World} {R : Ending → World → Prop} (h : RoundIn Fence.wide m P l f tmps assign body w R) : RoundIn (Fence.wide.inRound l') m' P l f tmps assign body w R :=
  ⟨h.1, fun c cs _ => h.2 c cs (room_wide _)⟩

set_option maxRecDepth 100000 in
set_option maxHeartbeats 400000 in
theorem cutBehind_any (gf s : Nat) (lb : Array Value) (w : World) :
    Calls Tryd.prog 57 #[.func (.func gf) #[] lb, .int .i64 s] w fun e' w' => ∃ B, e' = .returned (.func (.func 77) #[] #[.pointer (some ⟨B, 0, none⟩), .pointer (some ⟨B + 1, 0, none⟩)]) ∧
      (w'.cell? ⟨B, 0, none⟩ = some (.func (.func gf) #[] lb) ∧ w'.cell? ⟨B + 1, 0, none⟩ = some (.int .i64 (s : Int))) ∧ Grew w w' ∧ B = w.heap.size ∧ B + 1 < w'.heap.size := by
  have hmf : ∀ (fn : Fn) (first cap : Array Value) (w : World), (Instr.makeFunc fn first cap).run Tryd.prog w = .ok (.func fn first cap) w := fun _ _ _ _ => rfl
  go_enter Tryd.func57, Tryd.ntmps57
  go_wp2
  go_ret
  refine ⟨w.heap.size, rfl, ?_, ((Grew.refl w).alloc _).alloc _, rfl, by simp⟩
  have h1 : (w.alloc (.cells #[.func (.func gf) #[] lb] 50)).cell? ⟨w.heap.size, 0, none⟩ = some (.func (.func gf) #[] lb) := by simp
  have h2 : ((w.alloc (.cells #[.func (.func gf) #[] lb] 50)).alloc (.cells #[.int .i64 (s : Int)] 3)).cell? ⟨(w.alloc (.cells #[.func (.func gf) #[] lb] 50)).heap.size, 0, none⟩ = some (.int .i64 (s : Int)) := by simp
  rw [World.size_alloc] at h2
  exact ⟨((Grew.refl _).alloc _).cell h1, h2⟩

set_option maxRecDepth 100000 in
set_option maxHeartbeats 4000000 in
theorem cutIter_in (nn : Nat) (hnn : 3 ≤ nn) (S : Nat → Prop) (B4 B5 gf s T : Nat) (lb : Array Value) (xs : Nat → List Int) (w : World) (eg : ∀ (args : Array Value) (w : World), (callFunc gf args).run Tryd.prog w = .ok (.enter gf args) w)
    (hS : ∀ k, S k → k < w.heap.size) (h4 : w.cell? ⟨B4, 0, none⟩ = some (.func (.func gf) #[] lb)) (h5 : w.cell? ⟨B5, 0, none⟩ = some (.int .i64 (s : Int))) (hB5 : ¬ S B5)
    (hin : ∀ (S' : Nat → Prop) (w1 : World), Grew w w1 → (∀ k, S' k → (S k ∨ w.heap.size ≤ k) ∧ k < w1.heap.size) → IterV Fence.wide (nn - 1) Tryd.prog gf lb S' xs T w1) :
    IterV Fence.wide nn Tryd.prog 77 #[.pointer (some ⟨B4, 0, none⟩), .pointer (some ⟨B5, 0, none⟩)] S xs (min T s) w := by
  intro l J Jx W hgW hl1 hl2 hJ hJx hY h0
  have b5 : B5 < w.heap.size := World.block_lt_of_cell? _ _ h5
  have h4W := hgW.cell h4
  have h5W := hgW.cell h5
  have hgs := hgW.size
  refine callsIn_of_wp_marks Tryd.func77 rfl trivial ?_ rfl
  simp only [Tryd.ntmps77, List.size_toArray, List.length_cons, List.length_nil, Nat.reduceAdd, Nat.reduceSub, Array.replicate_succ, Array.replicate_zero, List.push_toArray, List.append_toArray, List.nil_append, List.cons_append]
  have h4a := ((Grew.refl W).alloc (.cells #[.func (.yield l) #[] #[]] 68)).cell h4W
  gi_wp2
  obtain ⟨w1, hw1⟩ : ∃ w1, W.alloc (.cells #[.func (.yield l) #[] #[]] 68) = w1 := ⟨_, rfl⟩
  have hg1 : Grew W w1 := by rw [← hw1]; exact (Grew.refl W).alloc _
  have hs1 : w1.heap.size = W.heap.size + 1 := by rw [← hw1]; simp
  have hc1 : w1.cell? ⟨W.heap.size, 0, none⟩ = some (.func (.yield l) #[] #[]) := by rw [← hw1]; simp
  have h5w := hg1.cell h5W
  rw [hw1]
  refine range_law rfl (by omega) (gf := gf) (lb := lb) rfl trivial eg rfl (S := fun k => S k ∨ (w.heap.size ≤ k ∧ k < W.heap.size)) (fun k hk => by rcases hk with hk | hk; have := hS k hk; omega; omega)
    (hin _ w1 (hgW.trans hg1) (fun k hk => by rcases hk with hk | hk; exact ⟨.inl hk, by have := hS k hk; omega⟩; exact ⟨.inr hk.1, by omega⟩))
    (fun t W' => t ≤ s ∧ J t W' ∧ W'.cell? ⟨W.heap.size, 0, none⟩ = some (.func (.yield l) #[] #[]) ∧ W'.cell? ⟨B5, 0, none⟩ = some (.int .i64 (s : Int)))
    (fun c t W' => c = .ret ∧ t ≤ s ∧ (Jx t W' ∨ (t = s ∧ J (s + 1) W'))) ?_ ?_ ⟨Nat.zero_le _, hJ 0 W w1 h0 (hg1.soft _), hc1, h5w⟩ ?_ ?_ ?_
  · rintro t A B ⟨k1, k2, k3, k4⟩ hs
    exact ⟨k1, hJ t A B k2 (hs.less (by omega)), hs.cell k3, hs.cell k4⟩
  · rintro c t A B ⟨k1, k2, k3⟩ hs
    exact ⟨k1, k2, k3.imp (fun h => hJx t A B h (hs.less (by omega))) fun h => ⟨h.1, hJ _ A B h.2 (hs.less (by omega))⟩⟩
  · rintro l' t v W' hl' ht ⟨k1, k2, k3, k4⟩ ⟨⟨g, c, rfl, hg⟩, hv⟩
    gi_wp2
    refine ⟨trivial, ?_⟩
    rintro W2 hs hrec
    have k2' := hJ t W' W2 k2 (hs.less (by omega))
    have k3' := hs.cell k3
    have k4' := hs.cell k4
    have hvs : IntsAt W.heap.size W2 (.slice (some ⟨g, 0, none⟩) (xs t).length c) (xs t) := ⟨⟨g, c, rfl, by omega⟩, hv.soft hs⟩
    by_cases htm : t ≤ min T s
    · obtain ⟨fn, tmps, assign, body, hy, hR⟩ := hY t _ W2 htm k2' hvs
      have HR := Lib.hid (round_wide (m' := nn - 1 - 1 - 1) (l' := l') hR)
      have HK : Hid (W2.cell? ⟨B5, 0, none⟩ = some (.int .i64 (s : Int)) ∧ ¬ (S B5 ∨ (w.heap.size ≤ B5 ∧ B5 < W.heap.size)) ∧ W2.cell? ⟨W.heap.size, 0, none⟩ = some (.func (.yield l) #[] #[]) ∧ ¬ (S W.heap.size ∨ (w.heap.size ≤ W.heap.size ∧ W.heap.size < W.heap.size))) :=
        Lib.hid ⟨k4', fun h => by rcases h with h | h; exact hB5 h; omega, k3', fun h => by rcases h with h | h; have := hS _ h; omega; omega⟩
      have hts : t ≤ s := k1
      clear hR k1 k2 k3 k4 hs hv hvs htm k2'
      gi_wp2
      refine ⟨fun _ => by omega, HR.out.mono ?_⟩
      rintro e W3 ⟨hk3, (⟨rfl, hJ3⟩ | ⟨rfl, hJx3⟩)⟩
      · have k4'' := hk3.cell HK.out.1 HK.out.2.1
        have k3'' := hk3.cell HK.out.2.2.1 HK.out.2.2.2
        by_cases e : t = s
        · subst e
          gi_wp2
          exact ⟨hk3, rfl, Nat.le_refl _, .inr ⟨rfl, hJ3⟩⟩
        · have hne : ((t : Int) == (s : Int)) = false := by simp; omega
          gi_wp2
          exact ⟨hk3, by omega, hJ3, k3'', k4''⟩
      · gi_wp2
        exact ⟨hk3, rfl, hts, .inl hJx3⟩
    · omega
  · rintro D W' hD ⟨k1, k2, k3, k4⟩ hK
    have hs := Soft.put hK rfl hD (.deferred none)
    have e : min T s = T := by omega
    gi_wp2
    refine ⟨by simp, .inl ⟨_, _, rfl, run_takeDeferred hK, ?_⟩⟩
    exact ⟨_, results_none rfl _ _ _, ⟨_, rfl⟩, .inl (by rw [e]; exact hJ _ _ _ k2 (hs.less (by omega)))⟩
  · rintro D c t W' hD ht ⟨rfl, k2, k3⟩ hK
    have hs := Soft.put hK rfl hD (.deferred none)
    gi_wp2
    refine ⟨by simp, .inl ⟨_, _, rfl, run_takeDeferred hK, ?_⟩⟩
    refine ⟨_, results_none rfl _ _ _, ⟨_, rfl⟩, ?_⟩
    rcases k3 with k3 | ⟨rfl, k3⟩
    · exact .inr ⟨t, by omega, hJx _ _ _ k3 (hs.less (by omega))⟩
    · exact .inl (by rw [show min T t = t by omega]; exact hJ _ _ _ k3 (hs.less (by omega)))
end Go.Proofs.YtdhokofcgfolnaaDoor
