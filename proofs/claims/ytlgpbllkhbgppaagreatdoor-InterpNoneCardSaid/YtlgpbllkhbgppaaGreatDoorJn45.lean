/-
  The runner's stack: a value is laid on it.
-/
import Derived.Test.YtlgpbllkhbgppaaGreatDoorJn44
import Derived.StillTailTactics
namespace Go.Proofs.YtlgpbllkhbgppaaGreatDoor
set_option linter.unusedVariables false
set_option linter.unusedSimpArgs false
open Go.RowKit

/-- Worlds between which only the runner and one row changed. -/
structure RK (p : Nat) (row : Option Nat) (w w' : World) : Prop where
  os : w'.os = w.os
  tape : w'.tape = w.tape
  output : w'.output = w.output
  size : w.heap.size ≤ w'.heap.size
  block : ∀ k, k < w.heap.size → k ≠ p → row ≠ some k → w'.heap[k]? = w.heap[k]?
set_option maxRecDepth 100000 in
set_option maxHeartbeats 8000000 in
theorem push_c (p base n c : Nat) (A : Option Addr) (xs : List Value) (v : Int) (q : Option Addr) (cs : Array Value) (w : World) (hp : w.heap[p]? = some (.cells cs 43 (0, 0))) (hcs : cs[13]? = some (.slice A n c)) (ho : w.ownsRow base 82 2 (.slice A n c) n xs) (hpb : p < base) (hb : base ≤ w.heap.size) (hn : n ≤ 1000) :
    Calls Tryz.prog 22 #[.pointer (some ⟨p, 0, none⟩), .agg #[.int .i64 v, .pointer q]] w fun e w' => e = .returned (.tuple #[]) ∧ ∃ g c', w'.heap[p]? = some (.cells (cs.setIfInBounds 13 (.slice (some ⟨g, 0, none⟩) (n + 1) c')) 43 (0, 0)) ∧ w'.ownsRow base 82 2 (.slice (some ⟨g, 0, none⟩) (n + 1) c') (n + 1) (xs ++ [.int .i64 v, .pointer q]) ∧ RK p (Value.slice A n c).ownBlock w w' := by
  have hpl := heap_lt hp
  obtain ⟨W, hW, hbW, hzW, h0W⟩ := gr_one w #[.int .i64 v, .pointer q] 82
  have hpW := (hbW.block p hpl).trans hp
  have c13 : W.cell? ⟨p, 13, none⟩ = some (.slice A n c) := (Lib.cell_of_heap hpW 13).trans hcs
  have x0 := Lib.cell_of_heap h0W 0
  have x1 := Lib.cell_of_heap h0W 1
  have hA := addV base A n c xs v q W.drew (gr_up (gr_up ho hbW) (Below.refl _ _).drew) (by show base ≤ W.heap.size; omega) (by omega)
  have hnp : (Value.slice A n c).ownBlock ≠ some p := fun e => by have := (ho.lt p e).1; omega
  have hfin : ∀ (X : World) (g c' : Nat), W.drew.grownBy X (Value.slice A n c).ownBlock → X.ownsRow base 82 2 (.slice (some ⟨g, 0, none⟩) (n + 1) c') (n + 1) (xs ++ [.int .i64 v, .pointer q]) → (X.setCell ⟨p, 13, none⟩ (.slice (some ⟨g, 0, none⟩) (n + 1) c')).heap[p]? = some (.cells (cs.setIfInBounds 13 (.slice (some ⟨g, 0, none⟩) (n + 1) c')) 43 (0, 0)) ∧ (X.setCell ⟨p, 13, none⟩ (.slice (some ⟨g, 0, none⟩) (n + 1) c')).ownsRow base 82 2 (.slice (some ⟨g, 0, none⟩) (n + 1) c') (n + 1) (xs ++ [.int .i64 v, .pointer q]) ∧ RK p (Value.slice A n c).ownBlock w (X.setCell ⟨p, 13, none⟩ (.slice (some ⟨g, 0, none⟩) (n + 1) c')) ∧ X.cell? ⟨p, 13, none⟩ = some (.slice A n c) ∧ X.frozen? ⟨p, 13, none⟩ = false ∧ (X.cell? ⟨w.heap.size, 0, none⟩ = some (.int .i64 v) ∧ X.cell? ⟨w.heap.size, 1, none⟩ = some (.pointer q)) ∧ ((X.setCell ⟨p, 13, none⟩ (.slice (some ⟨g, 0, none⟩) (n + 1) c')).cell? ⟨w.heap.size, 0, none⟩ = some (.int .i64 v) ∧ (X.setCell ⟨p, 13, none⟩ (.slice (some ⟨g, 0, none⟩) (n + 1) c')).cell? ⟨w.heap.size, 1, none⟩ = some (.pointer q)) := fun X g c' hg hX => by
    have hbox : X.heap[w.heap.size]? = some (.cells #[.int .i64 v, .pointer q] 82 (0, 0)) := (hg.block _ (by show w.heap.size < W.heap.size; omega) (fun e => by have := (ho.lt _ e.symm).2; omega)).trans h0W
    have hbox2 : (X.setCell ⟨p, 13, none⟩ (.slice (some ⟨g, 0, none⟩) (n + 1) c')).heap[w.heap.size]? = some (.cells #[.int .i64 v, .pointer q] 82 (0, 0)) := (Below.heap_setCell _ _ _ _ (by show w.heap.size ≠ p; omega)).trans hbox
    have hXp : X.heap[p]? = some (.cells cs 43 (0, 0)) := (hg.block p (by show p < W.heap.size; omega) (fun e => hnp e.symm)).trans hpW
    have hgp : g ≠ p := fun e => by have := (hX.lt g rfl).1; omega
    refine ⟨heap_set hXp 13 _, own_but hX ((But.refl p X).setCell (p := ⟨p, 13, none⟩) (Or.inl rfl) _) hpb, ⟨hg.os.trans hbW.os, hg.tape.trans hbW.tape, hg.output.trans hbW.output, ?_, fun k hk h1 h2 => ?_⟩, (Lib.cell_of_heap hXp 13).trans hcs, Lib.frozen_of_heap hXp 13, ⟨Lib.cell_of_heap hbox 0, Lib.cell_of_heap hbox 1⟩, ⟨Lib.cell_of_heap hbox2 0, Lib.cell_of_heap hbox2 1⟩⟩
    · have h1 := hg.size
      have h2 : W.heap.size ≤ X.heap.size := h1
      rw [set_size]
      omega
    · refine (Below.heap_setCell _ _ _ _ h1).trans ((hg.block k (by show k < W.heap.size; omega) (fun e => h2 e.symm)).trans (hbW.block k hk))
  have HW := Lib.hid hW
  have Hfin := Lib.hid hfin
  clear hW hbW h0W hp hpW hcs ho hnp hfin hzW
  go_enter Tryz.func22, Tryz.ntmps22
  go_upto_region 1 with fail
  rw [← HW.out]
  have s0 : W.drew.cell? ⟨w.heap.size, 0, none⟩ = some (.int .i64 v) ∧ W.drew.cell? ⟨w.heap.size, 1, none⟩ = some (.pointer q) := ⟨x0, x1⟩
  refine wp_region_held_drew (S := fun w' => w'.cell? ⟨w.heap.size, 0, none⟩ = some (.int .i64 v) ∧ w'.cell? ⟨w.heap.size, 1, none⟩ = some (.pointer q)) (by kernel_rfl) s0 (fun hHeld => ?_)
  refine wpAnyH_take (i := 0) (v := ?_) rfl (by kernel_rfl) (by kernel_rfl) (by kernel_rfl) (fun _ _ _ h => h) (Or.inl ⟨by rfl, ?_⟩) (by assumption) ?_
  rotate_left
  · (intro w hSw; (try dsimp only at hSw); first | (go_simp; done) | (go_simp; with_reducible rfl))
  try simp only [Act.put, List.setIfInBounds_toArray, List.set_cons_zero, List.set_cons_succ]
  refine wpAnyH_take (i := 1) (v := ?_) rfl (by kernel_rfl) (by kernel_rfl) (by kernel_rfl) (fun _ _ _ h => h) (Or.inl ⟨by rfl, ?_⟩) (by assumption) ?_
  rotate_left
  · (intro w hSw; (try dsimp only at hSw); first | (go_simp; done) | (go_simp; with_reducible rfl))
  try simp only [Act.put, List.setIfInBounds_toArray, List.set_cons_zero, List.set_cons_succ]
  refine wpAnyH_take (i := 2) (v := ?_) rfl (by kernel_rfl) (by kernel_rfl) (by kernel_rfl) (fun _ _ _ h => h) (Or.inl ⟨by rfl, ?_⟩) (by assumption) ?_
  rotate_left
  · (intro w hSw; (try dsimp only at hSw); first | (go_simp; done) | (go_simp; with_reducible rfl))
  try simp only [Act.put, List.setIfInBounds_toArray, List.set_cons_zero, List.set_cons_succ]
  refine wpAnyH_take (i := 3) (v := ?_) rfl (by kernel_rfl) (by kernel_rfl) (by kernel_rfl) (fun _ _ _ h => h) (Or.inl ⟨by rfl, ?_⟩) (by assumption) ?_
  rotate_left
  · (intro w hSw; (try dsimp only at hSw); first | (go_simp; done) | (go_simp; with_reducible rfl))
  try simp only [Act.put, List.setIfInBounds_toArray, List.set_cons_zero, List.set_cons_succ]
  refine wpAnyH_take (i := 5) (v := ?_) rfl (by kernel_rfl) (by kernel_rfl) (by kernel_rfl) (fun _ _ _ h => h) (Or.inl ⟨by rfl, ?_⟩) (by assumption) ?_
  rotate_left
  · (intro w hSw; (try dsimp only at hSw); first | (go_simp; done) | (go_simp; with_reducible rfl))
  try simp only [Act.put, List.setIfInBounds_toArray, List.set_cons_zero, List.set_cons_succ]
  refine wpAnyH_ready (rs := [4]) (by kernel_rfl) (by simp) ?_
  refine AllReadyH.cons rfl (fun K hK => ?_) (AllReadyH.nil)
  go_simp
  refine hK.out _ _ ?_ (fun hHeld => ?_)
  · ((try dsimp only); first | with_reducible exact s0 | with_reducible exact s1 | with_reducible exact s2)
  clear hK K
  try simp only [Act.put, List.setIfInBounds_toArray, List.set_cons_zero, List.set_cons_succ]
  refine wpAnyH_ready (rs := [6]) (by kernel_rfl) (by simp) ?_
  refine AllReadyH.cons rfl (fun K hK => ?_) (AllReadyH.nil)
  go_simp
  refine hA.mono ?_
  rintro e X ⟨g, c', rfl, h1, h2, h3⟩
  obtain ⟨e1, e2, e3, e4, e5, s1, s2⟩ := Hfin.out X g c' h2 h1
  have HE := Lib.hid (And.intro e1 (And.intro e2 e3))
  clear e1 e2 e3 h1 h2 h3 hA c13 x0 x1
  refine hK.out _ _ ?_ (fun hHeld => ?_)
  · ((try dsimp only); first | with_reducible exact s0 | with_reducible exact s1 | with_reducible exact s2)
  clear hK K
  try simp only [Act.put, List.setIfInBounds_toArray, List.set_cons_zero, List.set_cons_succ]
  refine wpAnyH_take (i := 7) (v := ?_) rfl (by kernel_rfl) (by kernel_rfl) (by kernel_rfl) (fun _ _ _ h => h) (Or.inl ⟨by rfl, ?_⟩) (by assumption) ?_
  rotate_left
  · (intro w hSw; (try dsimp only at hSw); first | (go_simp; done) | (go_simp; with_reducible rfl))
  try simp only [Act.put, List.setIfInBounds_toArray, List.set_cons_zero, List.set_cons_succ]
  refine wpAnyH_take (i := 8) (v := ?_) rfl (by kernel_rfl) (by kernel_rfl) (by kernel_rfl) (fun _ _ _ h => h) (Or.inl ⟨by rfl, ?_⟩) (by assumption) ?_
  rotate_left
  · (intro w hSw; (try dsimp only at hSw); first | (go_simp; done) | (go_simp; with_reducible rfl))
  try simp only [Act.put, List.setIfInBounds_toArray, List.set_cons_zero, List.set_cons_succ]
  refine wpAnyH_ready (rs := [9]) (by kernel_rfl) (by simp) ?_
  refine AllReadyH.cons rfl (fun K hK => ?_) (AllReadyH.nil)
  go_simp
  refine hK.out _ _ ?_ (fun hHeld => ?_)
  · ((try dsimp only); first | with_reducible exact s0 | with_reducible exact s1 | with_reducible exact s2)
  clear hK K
  try simp only [Act.put, List.setIfInBounds_toArray, List.set_cons_zero, List.set_cons_succ]
  refine wpAnyH_done (by kernel_rfl) ?_ _
  go_wp2
  go_end0
  exact ⟨rfl, _, _, HE.out⟩
end Go.Proofs.YtlgpbllkhbgppaaGreatDoor
