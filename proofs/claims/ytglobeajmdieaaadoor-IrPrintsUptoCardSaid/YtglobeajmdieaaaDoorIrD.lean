/-
  A block is laid down: its end.
-/
import Derived.Test.YtglobeajmdieaaaDoorIrC
namespace Go.Proofs.YtglobeajmdieaaaDoor
open Go.RowKit
set_option linter.unusedVariables false
set_option linter.unusedSimpArgs false

set_option maxRecDepth 100000 in
set_option maxHeartbeats 4000000 in
/-- An end that goes nowhere and names nothing. -/
theorem end_none (p : Nat) (x0 x3 x4 x5 x6 x7 : Value) (VB VI : Option Addr) (nB cB nI cI : Nat) (w : World)
    (hp : w.heap[p]? = some (.cells #[x0, .slice VB nB cB, .slice VI nI cI, x3, x4, x5, x6, x7] 49 (0, 0))) :
    Calls Tryd.prog 29 #[.pointer (some ⟨p, 0, none⟩), .agg #[.int .i64 3, .int .i64 (-1), .slice none 0 0]] w fun e w' => ∃ B, e = .returned (.agg #[.int .i64 3, .int .i64 (-1), .slice B 0 0]) ∧ Below w.heap.size w w' := by
  have hpl := heap_in hp
  obtain ⟨W, hW, hbW, hzW, hT, hZ⟩ := r_two_al w #[.int .i64 3, .int .i64 (-1), .slice none 0 0] #[.int .i64 0, .int .i64 0, .slice none 0 0] 32 32
  have hP := (hbW.block p hpl).trans hp
  have gd : W.drew.cell? ⟨p, 1, none⟩ = some (.slice VB nB cB) ∧ W.drew.cell? ⟨p, 2, none⟩ = some (.slice VI nI cI) := ⟨Lib.cell_of_heap hP 1, Lib.cell_of_heap hP 2⟩
  have t2 : W.drew.cell? ⟨w.heap.size, 2, none⟩ = some (.slice none 0 0) := Lib.cell_of_heap hT 2
  have hX := renamedAll_nil VB nB cB none 0 W.drew
  have Hpl := Lib.hid hpl
  have HW := Lib.hid hW
  have HbW := Lib.hid hbW
  have HT := Lib.hid hT
  have HZ := Lib.hid hZ
  have HP := Lib.hid hP
  have ne : p ≠ w.heap.size := by omega
  clear hW hbW hT hZ hp hpl hP
  go_enter Tryd.func29, Tryd.ntmps29
  go_upto_region 1 with fail
  rw [← HW.out]
  refine wp_region_noPanic ?_
  refine wp_region_held_drew (S := fun w' => w'.cell? ⟨p, 1, none⟩ = some (.slice VB nB cB) ∧ w'.cell? ⟨p, 2, none⟩ = some (.slice VI nI cI)) (by kernel_rfl) gd (fun hHeld => ?_)
  refine wpAnyH_take (i := 0) (v := ?_) rfl (by kernel_rfl) (by kernel_rfl) (by kernel_rfl) (fun _ _ _ h => h) (Or.inl ⟨by rfl, ?_⟩) (by assumption) ?_
  rotate_left
  · (intro w hSw; (try dsimp only at hSw); first | (go_simp; done) | (go_simp; with_reducible rfl))
  try simp only [Act.put, List.setIfInBounds_toArray, List.set_cons_zero, List.set_cons_succ]
  refine wpAnyH_take (i := 1) (v := ?_) rfl (by kernel_rfl) (by kernel_rfl) (by kernel_rfl) (fun _ _ _ h => h) (Or.inl ⟨by rfl, ?_⟩) (by assumption) ?_
  rotate_left
  · (intro w hSw; (try dsimp only at hSw); first | (go_simp; done) | (go_simp; with_reducible rfl))
  try simp only [Act.put, List.setIfInBounds_toArray, List.set_cons_zero, List.set_cons_succ]
  refine wpAnyH_take (i := 2) (v := ?_) rfl (by kernel_rfl) (by kernel_rfl) (by kernel_rfl) (fun _ _ _ h => h) (Or.inl ⟨by rfl, ?_⟩) (by assumption) ?_
  rotate_left
  · (intro w hSw; (try dsimp only at hSw); first | (go_simp; done) | (go_simp; with_reducible rfl))
  try simp only [Act.put, List.setIfInBounds_toArray, List.set_cons_zero, List.set_cons_succ]
  refine wpAnyH_take (i := 3) (v := ?_) rfl (by kernel_rfl) (by kernel_rfl) (by kernel_rfl) (fun _ _ _ h => h) (Or.inl ⟨by rfl, ?_⟩) (by assumption) ?_
  rotate_left
  · (intro w hSw; (try dsimp only at hSw); first | (go_simp; done) | (go_simp; with_reducible rfl))
  try simp only [Act.put, List.setIfInBounds_toArray, List.set_cons_zero, List.set_cons_succ]
  refine wpAnyH_take (i := 4) (v := ?_) rfl (by kernel_rfl) (by kernel_rfl) (by kernel_rfl) (fun _ _ _ h => h) (Or.inl ⟨by rfl, ?_⟩) (by assumption) ?_
  rotate_left
  · (intro w hSw; (try dsimp only at hSw); first | (go_simp; done) | (go_simp; with_reducible rfl))
  try simp only [Act.put, List.setIfInBounds_toArray, List.set_cons_zero, List.set_cons_succ]
  refine wpAnyH_ready (rs := [5]) (by kernel_rfl) (by simp) ?_
  refine AllReadyH.cons rfl (fun K hK => ?_) (AllReadyH.nil)
  go_simp
  refine hK.out _ _ ?_ (fun hHeld => ?_)
  · ((try dsimp only); first | with_reducible exact gd | with_reducible exact g1 | exact ⟨(set_off (by first | exact ne | exact ne2)).trans g1.1, (set_off (by first | exact ne | exact ne2)).trans g1.2⟩)
  clear hK K
  try simp only [Act.put, List.setIfInBounds_toArray, List.set_cons_zero, List.set_cons_succ]
  refine wpAnyH_ready (rs := [6]) (by kernel_rfl) (by simp) ?_
  refine AllReadyH.cons rfl (fun K hK => ?_) (AllReadyH.nil)
  go_simp
  refine hX.mono ?_
  rintro e w1 ⟨B, rfl, hb⟩
  have hT1 := (hb.block w.heap.size (by show w.heap.size < W.heap.size; omega)).trans HT.out
  have hZ1 := (hb.block (w.heap.size + 1) (by show w.heap.size + 1 < W.heap.size; omega)).trans HZ.out
  have hP1 := (hb.block p (by show p < W.heap.size; have := Hpl.out; omega)).trans HP.out
  have hb1 : Below w.heap.size w w1 := HbW.out.drew.trans (hb.mono (by show w.heap.size ≤ W.heap.size; omega))
  have g1 : w1.cell? ⟨p, 1, none⟩ = some (.slice VB nB cB) ∧ w1.cell? ⟨p, 2, none⟩ = some (.slice VI nI cI) := ⟨Lib.cell_of_heap hP1 1, Lib.cell_of_heap hP1 2⟩
  have t2 : w1.cell? ⟨w.heap.size, 2, none⟩ = some (.slice none 0 0) := Lib.cell_of_heap hT1 2
  have ft : w1.frozen? ⟨w.heap.size, 2, none⟩ = false := Lib.frozen_of_heap hT1 2
  obtain ⟨w2, hw2⟩ : ∃ w2, w2 = w1.setCell ⟨w.heap.size, 2, none⟩ (.slice B 0 0) := ⟨_, rfl⟩
  have hT2 : w2.heap[w.heap.size]? = some (.cells #[.int .i64 3, .int .i64 (-1), .slice B 0 0] 32 (0, 0)) := by rw [hw2]; exact heap_put hT1 2 _
  have hZ2 : w2.heap[w.heap.size + 1]? = some (.cells #[.int .i64 0, .int .i64 0, .slice none 0 0] 32 (0, 0)) := by rw [hw2]; exact (Below.heap_setCell _ _ _ _ (by show w.heap.size + 1 ≠ w.heap.size; omega)).trans hZ1
  have hP2 := (Below.heap_setCell w1 ⟨w.heap.size, 2, none⟩ (.slice B 0 0) p ne).trans hP1
  rw [← hw2] at hP2
  have hb2 : Below w.heap.size w w2 := by rw [hw2]; exact hb1.setCell (Nat.le_refl _) _
  have HT2 := Lib.hid hT2
  have HZ2 := Lib.hid hZ2
  have HP2 := Lib.hid hP2
  have Hb2 := Lib.hid hb2
  have Hw2 := Lib.hid hw2
  clear hX hb hT1 hZ1 hP1 hb1 hT2 hZ2 hP2 hb2 hw2
  refine hK.out _ _ ?_ (fun hHeld => ?_)
  · ((try dsimp only); first | with_reducible exact gd | with_reducible exact g1 | exact ⟨(set_off (by first | exact ne | exact ne2)).trans g1.1, (set_off (by first | exact ne | exact ne2)).trans g1.2⟩)
  clear hK K
  try simp only [Act.put, List.setIfInBounds_toArray, List.set_cons_zero, List.set_cons_succ]
  refine wpAnyH_take (i := 7) (v := ?_) rfl (by kernel_rfl) (by kernel_rfl) (by kernel_rfl) (fun _ _ _ h => h) (Or.inl ⟨by rfl, ?_⟩) (by assumption) ?_
  rotate_left
  · (intro w hSw; (try dsimp only at hSw); first | (go_simp; done) | (go_simp; with_reducible rfl))
  try simp only [Act.put, List.setIfInBounds_toArray, List.set_cons_zero, List.set_cons_succ]
  refine wpAnyH_ready (rs := [8]) (by kernel_rfl) (by simp) ?_
  refine AllReadyH.cons rfl (fun K hK => ?_) (AllReadyH.nil)
  go_simp
  refine hK.out _ _ ?_ (fun hHeld => ?_)
  · ((try dsimp only); first | with_reducible exact gd | with_reducible exact g1 | exact ⟨(set_off (by first | exact ne | exact ne2)).trans g1.1, (set_off (by first | exact ne | exact ne2)).trans g1.2⟩)
  clear hK K
  try simp only [Act.put, List.setIfInBounds_toArray, List.set_cons_zero, List.set_cons_succ]
  refine wpAnyH_done (by kernel_rfl) ?_ _
  refine NoPanic.normal ?_
  rw [← Hw2.out]
  clear t2 ft gd g1 HT HZ HP HbW HW Hw2
  have c0 := Lib.cell_of_heap HT2.out 0
  go_upto_region 3 with fail
  have gd : w2.drew.cell? ⟨p, 1, none⟩ = some (.slice VB nB cB) ∧ w2.drew.cell? ⟨p, 2, none⟩ = some (.slice VI nI cI) := ⟨Lib.cell_of_heap HP2.out 1, Lib.cell_of_heap HP2.out 2⟩
  have t1 : w2.drew.cell? ⟨w.heap.size, 1, none⟩ = some (.int .i64 (-1)) := Lib.cell_of_heap HT2.out 1
  have ft : w2.drew.frozen? ⟨w.heap.size, 1, none⟩ = false := Lib.frozen_of_heap HT2.out 1
  have hX := renamed_none VI nI cI w2.drew
  obtain ⟨w3, hw3⟩ : ∃ w3, w3 = (w2.setCell ⟨w.heap.size, 1, none⟩ (.int .i64 (-1))).drew := ⟨_, rfl⟩
  have hT3 : w3.heap[w.heap.size]? = some (.cells #[.int .i64 3, .int .i64 (-1), .slice B 0 0] 32 (0, 0)) := by rw [hw3]; exact heap_put (w := w2) HT2.out 1 _
  have hZ3 : w3.heap[w.heap.size + 1]? = some (.cells #[.int .i64 0, .int .i64 0, .slice none 0 0] 32 (0, 0)) := by rw [hw3]; exact (Below.heap_setCell w2 ⟨w.heap.size, 1, none⟩ _ _ (by show w.heap.size + 1 ≠ w.heap.size; omega)).trans HZ2.out
  have hb3 : Below w.heap.size w w3 := by rw [hw3]; exact (Hb2.out.setCell (Nat.le_refl _) _).drew
  have Hw3 := Lib.hid hw3
  have HT3 := Lib.hid hT3
  have HZ3 := Lib.hid hZ3
  have Hb3 := Lib.hid hb3
  have ne2 : p ≠ w.heap.size := ne
  clear hw3 hT3 hZ3 hb3 HT2 HZ2 Hb2
  refine wp_region_noPanic ?_
  refine wp_region_held_drew (S := fun w' => w'.cell? ⟨p, 1, none⟩ = some (.slice VB nB cB) ∧ w'.cell? ⟨p, 2, none⟩ = some (.slice VI nI cI)) (by kernel_rfl) gd (fun hHeld => ?_)
  refine wpAnyH_take (i := 0) (v := ?_) rfl (by kernel_rfl) (by kernel_rfl) (by kernel_rfl) (fun _ _ _ h => h) (Or.inl ⟨by rfl, ?_⟩) (by assumption) ?_
  rotate_left
  · (intro w hSw; (try dsimp only at hSw); first | (go_simp; done) | (go_simp; with_reducible rfl))
  try simp only [Act.put, List.setIfInBounds_toArray, List.set_cons_zero, List.set_cons_succ]
  refine wpAnyH_take (i := 1) (v := ?_) rfl (by kernel_rfl) (by kernel_rfl) (by kernel_rfl) (fun _ _ _ h => h) (Or.inl ⟨by rfl, ?_⟩) (by assumption) ?_
  rotate_left
  · (intro w hSw; (try dsimp only at hSw); first | (go_simp; done) | (go_simp; with_reducible rfl))
  try simp only [Act.put, List.setIfInBounds_toArray, List.set_cons_zero, List.set_cons_succ]
  refine wpAnyH_take (i := 2) (v := ?_) rfl (by kernel_rfl) (by kernel_rfl) (by kernel_rfl) (fun _ _ _ h => h) (Or.inl ⟨by rfl, ?_⟩) (by assumption) ?_
  rotate_left
  · (intro w hSw; (try dsimp only at hSw); first | (go_simp; done) | (go_simp; with_reducible rfl))
  try simp only [Act.put, List.setIfInBounds_toArray, List.set_cons_zero, List.set_cons_succ]
  refine wpAnyH_take (i := 3) (v := ?_) rfl (by kernel_rfl) (by kernel_rfl) (by kernel_rfl) (fun _ _ _ h => h) (Or.inl ⟨by rfl, ?_⟩) (by assumption) ?_
  rotate_left
  · (intro w hSw; (try dsimp only at hSw); first | (go_simp; done) | (go_simp; with_reducible rfl))
  try simp only [Act.put, List.setIfInBounds_toArray, List.set_cons_zero, List.set_cons_succ]
  refine wpAnyH_take (i := 4) (v := ?_) rfl (by kernel_rfl) (by kernel_rfl) (by kernel_rfl) (fun _ _ _ h => h) (Or.inl ⟨by rfl, ?_⟩) (by assumption) ?_
  rotate_left
  · (intro w hSw; (try dsimp only at hSw); first | (go_simp; done) | (go_simp; with_reducible rfl))
  try simp only [Act.put, List.setIfInBounds_toArray, List.set_cons_zero, List.set_cons_succ]
  refine wpAnyH_ready (rs := [5]) (by kernel_rfl) (by simp) ?_
  refine AllReadyH.cons rfl (fun K hK => ?_) (AllReadyH.nil)
  go_simp
  refine hK.out _ _ ?_ (fun hHeld => ?_)
  · ((try dsimp only); first | with_reducible exact gd | exact ⟨(set_off ne).trans gd.1, (set_off ne).trans gd.2⟩)
  clear hK K
  try simp only [Act.put, List.setIfInBounds_toArray, List.set_cons_zero, List.set_cons_succ]
  refine wpAnyH_ready (rs := [6]) (by kernel_rfl) (by simp) ?_
  refine AllReadyH.cons rfl (fun K hK => ?_) (AllReadyH.nil)
  go_simp
  refine hX.mono ?_
  rintro e w9 ⟨rfl, rfl⟩
  clear hX
  refine hK.out _ _ ?_ (fun hHeld => ?_)
  · ((try dsimp only); first | with_reducible exact gd | exact ⟨(set_off ne).trans gd.1, (set_off ne).trans gd.2⟩)
  clear hK K
  try simp only [Act.put, List.setIfInBounds_toArray, List.set_cons_zero, List.set_cons_succ]
  refine wpAnyH_take (i := 7) (v := ?_) rfl (by kernel_rfl) (by kernel_rfl) (by kernel_rfl) (fun _ _ _ h => h) (Or.inl ⟨by rfl, ?_⟩) (by assumption) ?_
  rotate_left
  · (intro w hSw; (try dsimp only at hSw); first | (go_simp; done) | (go_simp; with_reducible rfl))
  try simp only [Act.put, List.setIfInBounds_toArray, List.set_cons_zero, List.set_cons_succ]
  refine wpAnyH_ready (rs := [8]) (by kernel_rfl) (by simp) ?_
  refine AllReadyH.cons rfl (fun K hK => ?_) (AllReadyH.nil)
  go_simp
  refine hK.out _ _ ?_ (fun hHeld => ?_)
  · ((try dsimp only); first | with_reducible exact gd | exact ⟨(set_off ne).trans gd.1, (set_off ne).trans gd.2⟩)
  clear hK K
  try simp only [Act.put, List.setIfInBounds_toArray, List.set_cons_zero, List.set_cons_succ]
  refine wpAnyH_done (by kernel_rfl) ?_ _
  refine NoPanic.normal ?_
  rw [← Hw3.out]
  clear gd t1 ft Hw3
  have d0 := Lib.cell_of_heap HT3.out 0
  have d1 := Lib.cell_of_heap HT3.out 1
  have d2 := Lib.cell_of_heap HT3.out 2
  have z0 := Lib.cell_of_heap HZ3.out 0
  have z1 := Lib.cell_of_heap HZ3.out 1
  have z2 := Lib.cell_of_heap HZ3.out 2
  have zf := Lib.frozen_of_heap HZ3.out
  obtain ⟨w4, hw4⟩ : ∃ w4, w4 = ((w3.setCell ⟨w.heap.size + 1, 0, none⟩ (.int .i64 3)).setCell ⟨w.heap.size + 1, 1, none⟩ (.int .i64 (-1))).setCell ⟨w.heap.size + 1, 2, none⟩ (.slice B 0 0) := ⟨_, rfl⟩
  have hZ4 : w4.heap[w.heap.size + 1]? = some (.cells #[.int .i64 3, .int .i64 (-1), .slice B 0 0] 32 (0, 0)) := by rw [hw4]; exact heap_put (heap_put (heap_put HZ3.out 0 _) 1 _) 2 _
  have hb4 : Below w.heap.size w w4 := by rw [hw4]; exact ((Hb3.out.setCell (by show w.heap.size ≤ w.heap.size + 1; omega) _).setCell (by show w.heap.size ≤ w.heap.size + 1; omega) _).setCell (by show w.heap.size ≤ w.heap.size + 1; omega) _
  have HZ4 := Lib.hid hZ4
  have Hb4 := Lib.hid hb4
  have Hw4 := Lib.hid hw4
  clear hZ4 hb4 hw4 HT3 HZ3 Hb3
  go_wp2
  rw [← Hw4.out]
  have s0 := Lib.cell_of_heap HZ4.out 0
  have s1 := Lib.cell_of_heap HZ4.out 1
  have s2 := Lib.cell_of_heap HZ4.out 2
  refine ⟨rfl, _, by simp [results, Tryd.results29, go_sem, s0, s1, s2], B, rfl, Hb4.out⟩
end Go.Proofs.YtglobeajmdieaaaDoor
