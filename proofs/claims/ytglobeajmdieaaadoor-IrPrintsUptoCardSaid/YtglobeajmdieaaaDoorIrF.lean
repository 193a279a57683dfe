/-
  Compact of a function of two blocks of which the second one is not come to.
-/
import Derived.Test.YtglobeajmdieaaaDoorIrE
namespace Go.Proofs.YtglobeajmdieaaaDoor
open Go.RowKit
set_option linter.unusedVariables false
set_option linter.unusedSimpArgs false

set_option maxRecDepth 100000 in
set_option maxHeartbeats 8000000 in
theorem compact_two (b : Nat) (w : World) (hb : w.heap[b]? = some (.cells #[.slice none 0 0, .slice none 0 0, .int .i64 3, .int .i64 (-1), .slice none 0 0, .slice none 0 0, .slice none 0 0, .int .i64 3, .int .i64 (-1), .slice none 0 0] 35 (0, 0))) :
    Calls Tryd.prog 8 #[.agg #[.string ⟨#[102]⟩, .slice none 0 0, .int .i64 0, .slice none 0 0, .slice (some ⟨b, 0, none⟩) 2 2]] w fun e w' => ∃ g c, e = .returned (.agg #[.string ⟨#[102]⟩, .slice none 0 0, .int .i64 0, .slice none 0 0, .slice (some ⟨g, 0, none⟩) 1 c]) ∧ Below w.heap.size w w' := by
  have hbl := heap_in hb
  obtain ⟨W, hW, hbW, hzW, hF, hR⟩ := r_two_al w #[.string ⟨#[102]⟩, .slice none 0 0, .int .i64 0, .slice none 0 0, .slice (some ⟨b, 0, none⟩) 2 2] #[.string ⟨#[]⟩, .slice none 0 0, .int .i64 0, .slice none 0 0, .slice none 0 0] 26 26
  have hB := (hbW.block b hbl).trans hb
  have hN := numbers_two b 0 2 none 0 W (Lib.cell_of_heap hB 4) (heap_in hB)
  have c4 := Lib.cell_of_heap hF 4
  have HW := Lib.hid hW
  have HbW := Lib.hid hbW
  have HF := Lib.hid hF
  have HR := Lib.hid hR
  have HB := Lib.hid hB
  have HzW := Lib.hid hzW
  clear hW hbW hF hR hB hzW hb
  go_enter Tryd.func8, Tryd.ntmps8
  go_upto_region 1 with fail
  rw [← HW.out]
  go_upto_region 2 with (go_at_call 17; refine hN.mono ?_; rintro e w1 ⟨k, rfl, hb1, hk1, hlo1⟩; have Hb1 := Lib.hid hb1; have Hk1 := Lib.hid hk1; have Hlo1 := Lib.hid hlo1; clear hb1 hk1 hlo1)
  obtain ⟨w2, hw2, hb2, hz2, hP2⟩ := r_one_al w1 #[.pointer (some ⟨w.heap.size, 0, none⟩), .slice (some ⟨k, 0, none⟩) 2 2, .slice none 0 0, .string ⟨#[]⟩, .slice none 0 0, .int .i64 0, .slice none 0 0, .slice none 0 0] 49
  rw [← hw2]
  have hs1 := Hb1.out.size
  have hF1 := (Hb1.out.block w.heap.size (heap_in HF.out)).trans HF.out
  have hF2 := (hb2.block w.heap.size (heap_in hF1)).trans hF1
  have hk2 := (hb2.block k (heap_in Hk1.out)).trans Hk1.out
  have hB1 := (Hb1.out.block b (heap_in HB.out)).trans HB.out
  have hB2 := (hb2.block b (heap_in hB1)).trans hB1
  have hR1 := (Hb1.out.block (w.heap.size + 1) (heap_in HR.out)).trans HR.out
  have hR2 := (hb2.block (w.heap.size + 1) (heap_in hR1)).trans hR1
  have hw12 : Below w.heap.size w w2 := (HbW.out.trans (Hb1.out.mono HbW.out.size)).trans (hb2.mono (by have := HbW.out.size; omega))
  obtain ⟨p, hp⟩ : ∃ p, p = w1.heap.size := ⟨_, rfl⟩
  have hpk : W.heap.size ≤ p := by omega
  rw [← hp] at hP2 ⊢
  have hI := insNumbers_two p w.heap.size k b 2 none 0 0 (.string ⟨#[]⟩) (.slice none 0 0) (.int .i64 0) (.slice none 0 0) (.slice none 0 0) (.string ⟨#[102]⟩) (.slice none 0 0) (.slice none 0 0) (.int .i64 0) none 0 none 0 w2 hP2 hF2 hk2 (Lib.cell_of_heap hB2 0) (heap_in hB2)
  have Hpk := Lib.hid hpk
  have Hw12 := Lib.hid hw12
  have HF2 := Lib.hid hF2
  have HP2 := Lib.hid hP2
  have Hk2 := Lib.hid hk2
  have HB2 := Lib.hid hB2
  have HR2 := Lib.hid hR2
  clear hw2 hb2 hz2 hs1 hF1 hF2 hk2 hB1 hB2 hR1 hR2 hw12 hP2 hp hpk HF HB HR hbl c4 hN
  go_upto_region 3 with (go_at_call 18; refine hI.mono ?_; rintro e w3 ⟨g, rfl, hb3⟩; have Hb3 := Lib.hid hb3; have hP3 := (hb3.block p (heap_in HP2.out)).trans HP2.out; have HP3 := Lib.hid hP3; have q2 := Lib.cell_of_heap hP3 2; have f2 := Lib.frozen_of_heap hP3 2; clear hb3 hP3)
  obtain ⟨w4, hw4⟩ : ∃ w4, w4 = w3.setCell ⟨p, 2, none⟩ (.slice g 0 0) := ⟨_, rfl⟩
  rw [← hw4]
  have hP4 : w4.heap[p]? = some (.cells #[.pointer (some ⟨w.heap.size, 0, none⟩), .slice (some ⟨k, 0, none⟩) 2 2, .slice g 0 0, .string ⟨#[]⟩, .slice none 0 0, .int .i64 0, .slice none 0 0, .slice none 0 0] 49 (0, 0)) := by rw [hw4]; exact heap_put HP3.out 2 _
  have hbu : Bu p w2 w4 := by rw [hw4]; exact Bu.setCell (g := p) (p := ⟨p, 2, none⟩) (Bu.of_below Hb3.out) (Or.inl rfl) _
  have zW := HzW.out
  have zP := Hpk.out
  have kP : k ≠ p := by intro e; subst e; have h1 := Hk2.out; rw [HP2.out] at h1; simp at h1
  have bP : b ≠ p := by intro e; subst e; have h1 := HB2.out; rw [HP2.out] at h1; simp at h1
  have hF4 := (hbu.block w.heap.size (heap_in HF2.out) (by omega)).trans HF2.out
  have hk4 := (hbu.block k (heap_in Hk2.out) kP).trans Hk2.out
  have hB4 := (hbu.block b (heap_in HB2.out) bP).trans HB2.out
  have hR4 := (hbu.block (w.heap.size + 1) (heap_in HR2.out) (by omega)).trans HR2.out
  have hw4b : Below w.heap.size w w4 := hbu.below Hw12.out (by omega) Hw12.out.size
  have gd : w4.drew.cell? ⟨w.heap.size, 0, none⟩ = some (.string ⟨#[102]⟩) ∧ w4.drew.cell? ⟨w.heap.size, 1, none⟩ = some (.slice none 0 0) ∧ w4.drew.cell? ⟨w.heap.size, 2, none⟩ = some (.int .i64 0) := ⟨Lib.cell_of_heap hF4 0, Lib.cell_of_heap hF4 1, Lib.cell_of_heap hF4 2⟩
  have npf : w.heap.size ≠ p := by omega
  have u3 : w4.drew.cell? ⟨p, 3, none⟩ = some (.string ⟨#[]⟩) := Lib.cell_of_heap hP4 3
  have u4 : w4.drew.cell? ⟨p, 4, none⟩ = some (.slice none 0 0) := Lib.cell_of_heap hP4 4
  have u5 : w4.drew.cell? ⟨p, 5, none⟩ = some (.int .i64 0) := Lib.cell_of_heap hP4 5
  have u6 : w4.drew.cell? ⟨p, 6, none⟩ = some (.slice none 0 0) := Lib.cell_of_heap hP4 6
  have u7 : w4.drew.cell? ⟨p, 7, none⟩ = some (.slice none 0 0) := Lib.cell_of_heap hP4 7
  have y3 : w4.cell? ⟨p, 3, none⟩ = some (.string ⟨#[]⟩) := Lib.cell_of_heap hP4 3
  have y4 : w4.cell? ⟨p, 4, none⟩ = some (.slice none 0 0) := Lib.cell_of_heap hP4 4
  have y5 : w4.cell? ⟨p, 5, none⟩ = some (.int .i64 0) := Lib.cell_of_heap hP4 5
  have y6 : w4.cell? ⟨p, 6, none⟩ = some (.slice none 0 0) := Lib.cell_of_heap hP4 6
  have y7 : w4.cell? ⟨p, 7, none⟩ = some (.slice none 0 0) := Lib.cell_of_heap hP4 7
  have yf : ∀ j, w4.frozen? ⟨p, j, none⟩ = false := fun j => Lib.frozen_of_heap hP4 j
  have uf : ∀ j, w4.drew.frozen? ⟨p, j, none⟩ = false := fun j => Lib.frozen_of_heap hP4 j
  obtain ⟨w5, hw5⟩ : ∃ w5, w5 = (((((w4.setCell ⟨p, 3, none⟩ (.string ⟨#[102]⟩)).setCell ⟨p, 4, none⟩ (.slice none 0 0)).setCell ⟨p, 5, none⟩ (.int .i64 0)).setCell ⟨p, 6, none⟩ (.slice none 0 0)).setCell ⟨p, 7, none⟩ (.slice none 0 0)).drew := ⟨_, rfl⟩
  have hP5 : w5.heap[p]? = some (.cells #[.pointer (some ⟨w.heap.size, 0, none⟩), .slice (some ⟨k, 0, none⟩) 2 2, .slice g 0 0, .string ⟨#[102]⟩, .slice none 0 0, .int .i64 0, .slice none 0 0, .slice none 0 0] 49 (0, 0)) := by rw [hw5]; exact heap_put (heap_put (heap_put (heap_put (heap_put hP4 3 _) 4 _) 5 _) 6 _) 7 _
  have hbu5 : Bu p w4 w5 := by rw [hw5]; exact ((((((Bu.refl p w4).setCell (Or.inl rfl) _).setCell (Or.inl rfl) _).setCell (Or.inl rfl) _).setCell (Or.inl rfl) _).setCell (Or.inl rfl) _).drew
  have hF5 := (hbu5.block w.heap.size (heap_in hF4) (by omega)).trans hF4
  have hk5 := (hbu5.block k (heap_in hk4) kP).trans hk4
  have hB5 := (hbu5.block b (heap_in hB4) bP).trans hB4
  have hR5 := (hbu5.block (w.heap.size + 1) (heap_in hR4) (by omega)).trans hR4
  have hw5b : Below w.heap.size w w5 := hbu5.below hw4b (by omega) hw4b.size
  have g5 : w5.cell? ⟨w.heap.size, 0, none⟩ = some (.string ⟨#[102]⟩) ∧ w5.cell? ⟨w.heap.size, 1, none⟩ = some (.slice none 0 0) ∧ w5.cell? ⟨w.heap.size, 2, none⟩ = some (.int .i64 0) := ⟨Lib.cell_of_heap hF5 0, Lib.cell_of_heap hF5 1, Lib.cell_of_heap hF5 2⟩
  have Hw5 := Lib.hid hw5
  have HP5 := Lib.hid hP5
  have HF5 := Lib.hid hF5
  have Hk5 := Lib.hid hk5
  have HB5 := Lib.hid hB5
  have HR5 := Lib.hid hR5
  have Hw5b := Lib.hid hw5b
  have HkP := Lib.hid kP
  have HbP := Lib.hid bP
  clear hw4 hP4 hbu hF4 hk4 hB4 hR4 hw4b hw5 hP5 hbu5 hF5 hk5 hB5 hR5 hw5b kP bP q2 f2 HP3 HF2 HP2 Hk2 HB2 HR2 Hw12 Hb3 Hb1 Hk1 HW HbW zW zP hI Hlo1
  refine wp_region_noPanic ?_
  refine wp_region_held_drew (S := fun w' => w'.cell? ⟨w.heap.size, 0, none⟩ = some (.string ⟨#[102]⟩) ∧ w'.cell? ⟨w.heap.size, 1, none⟩ = some (.slice none 0 0) ∧ w'.cell? ⟨w.heap.size, 2, none⟩ = some (.int .i64 0)) (by kernel_rfl) gd (fun hHeld => ?_)
  refine wpAnyH_take (i := 0) (v := ?_) rfl (by kernel_rfl) (by kernel_rfl) (by kernel_rfl) (fun _ _ _ h => h) (Or.inl ⟨by rfl, ?_⟩) (by assumption) ?_
  rotate_left
  · (intro w hSw; (try dsimp only at hSw); first | (go_simp; done) | (go_simp; with_reducible rfl))
  try simp only [Act.put, List.setIfInBounds_toArray, List.set_cons_zero, List.set_cons_succ]
  refine wpAnyH_take (i := 1) (v := ?_) rfl (by kernel_rfl) (by kernel_rfl) (by kernel_rfl) (fun _ _ _ h => h) (Or.inl ⟨by rfl, ?_⟩) (by assumption) ?_
  rotate_left
  · (intro w hSw; (try dsimp only at hSw); first | (go_simp; done) | (go_simp; with_reducible rfl))
  try simp only [Act.put, List.setIfInBounds_toArray, List.set_cons_zero, List.set_cons_succ]
  refine wpAnyH_take (i := 2) (v := ?_) rfl (by kernel_rfl) (by kernel_rfl) (by kernel_rfl) (fun _ _ _ h => h) (Or.inl ⟨by rfl, ?_⟩) (by assumption) ?_
  rotate_left
  · (intro w hSw; (try dsimp only at hSw); first | (go_simp; done) | (go_simp; with_reducible rfl))
  try simp only [Act.put, List.setIfInBounds_toArray, List.set_cons_zero, List.set_cons_succ]
  refine wpAnyH_take (i := 3) (v := ?_) rfl (by kernel_rfl) (by kernel_rfl) (by kernel_rfl) (fun _ _ _ h => h) (Or.inl ⟨by rfl, ?_⟩) (by assumption) ?_
  rotate_left
  · (intro w hSw; (try dsimp only at hSw); first | (go_simp; done) | (go_simp; with_reducible rfl))
  try simp only [Act.put, List.setIfInBounds_toArray, List.set_cons_zero, List.set_cons_succ]
  refine wpAnyH_take (i := 5) (v := ?_) rfl (by kernel_rfl) (by kernel_rfl) (by kernel_rfl) (fun _ _ _ h => h) (Or.inl ⟨by rfl, ?_⟩) (by assumption) ?_
  rotate_left
  · (intro w hSw; (try dsimp only at hSw); first | (go_simp; done) | (go_simp; with_reducible rfl))
  try simp only [Act.put, List.setIfInBounds_toArray, List.set_cons_zero, List.set_cons_succ]
  refine wpAnyH_take (i := 6) (v := ?_) rfl (by kernel_rfl) (by kernel_rfl) (by kernel_rfl) (fun _ _ _ h => h) (Or.inl ⟨by rfl, ?_⟩) (by assumption) ?_
  rotate_left
  · (intro w hSw; (try dsimp only at hSw); first | (go_simp; done) | (go_simp; with_reducible rfl))
  try simp only [Act.put, List.setIfInBounds_toArray, List.set_cons_zero, List.set_cons_succ]
  refine wpAnyH_ready (rs := [4]) (by kernel_rfl) (by simp) ?_
  refine AllReadyH.cons rfl (fun K hK => ?_) (AllReadyH.nil)
  go_simp
  refine (cloneI_nil _).mono ?_
  rintro e w9 ⟨rfl, rfl⟩
  refine hK.out _ _ ?_ (fun hHeld => ?_)
  · ((try dsimp only); first | with_reducible exact gd | with_reducible exact g5)
  clear hK K
  try simp only [Act.put, List.setIfInBounds_toArray, List.set_cons_zero, List.set_cons_succ]
  refine wpAnyH_take (i := 7) (v := ?_) rfl (by kernel_rfl) (by kernel_rfl) (by kernel_rfl) (fun _ _ _ h => h) (Or.inl ⟨by rfl, ?_⟩) (by assumption) ?_
  rotate_left
  · (intro w hSw; (try dsimp only at hSw); first | (go_simp; done) | (go_simp; with_reducible rfl))
  try simp only [Act.put, List.setIfInBounds_toArray, List.set_cons_zero, List.set_cons_succ]
  refine wpAnyH_take (i := 8) (v := ?_) rfl (by kernel_rfl) (by kernel_rfl) (by kernel_rfl) (fun _ _ _ h => h) (Or.inl ⟨by rfl, ?_⟩) (by assumption) ?_
  rotate_left
  · (intro w hSw; (try dsimp only at hSw); first | (go_simp; done) | (go_simp; with_reducible rfl))
  try simp only [Act.put, List.setIfInBounds_toArray, List.set_cons_zero, List.set_cons_succ]
  refine wpAnyH_ready (rs := [9]) (by kernel_rfl) (by simp) ?_
  refine AllReadyH.cons rfl (fun K hK => ?_) (AllReadyH.nil)
  go_simp
  rw [← Hw5.out]
  refine hK.out _ _ ?_ (fun hHeld => ?_)
  · ((try dsimp only); first | with_reducible exact gd | with_reducible exact g5)
  clear hK K
  try simp only [Act.put, List.setIfInBounds_toArray, List.set_cons_zero, List.set_cons_succ]
  refine wpAnyH_done (by kernel_rfl) ?_ _
  refine NoPanic.normal ?_
  clear gd g5 u3 u4 u5 u6 u7 uf y3 y4 y5 y6 y7 yf Hw5
  have q1 := Lib.cell_of_heap HP5.out 1
  have v4 := Lib.cell_of_heap HF5.out 4
  have k0 := Lib.cell_of_heap Hk5.out 0
  have b0 := Lib.cell_of_heap HB5.out 0
  have b1 := Lib.cell_of_heap HB5.out 1
  have b2 := Lib.cell_of_heap HB5.out 2
  have b3 := Lib.cell_of_heap HB5.out 3
  have b4 := Lib.cell_of_heap HB5.out 4
  have hL := block_none p (.pointer (some ⟨w.heap.size, 0, none⟩)) (.string ⟨#[102]⟩) (.slice none 0 0) (.int .i64 0) (.slice none 0 0) (some ⟨k, 0, none⟩) g 2 2 0 0 w5 HP5.out
  go_upto_region 5 with fail
  refine wp_loop_rounds 3 ?_
  rw [rounds_succ]
  go_wp2_with (go_at_call 20; refine hL.mono ?_; rintro e w6 ⟨rfl, hbu, g1, cp, hP6⟩)
  have k1 := ((World.cell?_of_block (a := ⟨k, 1, none⟩) (hbu.block k (heap_in Hk5.out) HkP.out))).trans (Lib.cell_of_heap Hk5.out 1)
  have hR6 := (hbu.block (w.heap.size + 1) (heap_in HR5.out) (by have := Hpk.out; have := HzW.out; omega)).trans HR5.out
  have hb6 : Below w.heap.size w w6 := hbu.below Hw5b.out (by have := Hpk.out; have := HzW.out; omega) Hw5b.out.size
  have HP6 := Lib.hid hP6
  have HR6 := Lib.hid hR6
  have Hb6 := Lib.hid hb6
  clear hbu hP6 hR6 hb6 hL q1 v4 k0 b0 b1 b2 b3 b4
  rw [rounds_succ]
  go_wp2
  rw [rounds_succ]
  have p3 := Lib.cell_of_heap HP6.out 3
  have p4 := Lib.cell_of_heap HP6.out 4
  have p5 := Lib.cell_of_heap HP6.out 5
  have p6 := Lib.cell_of_heap HP6.out 6
  have p7 := Lib.cell_of_heap HP6.out 7
  obtain ⟨r0, r1, r2, r3, r4, rf⟩ := cells5 HR6.out
  obtain ⟨w7, hw7⟩ : ∃ w7, w7 = put5 w6 (w.heap.size + 1) (.string ⟨#[102]⟩) (.slice none 0 0) (.int .i64 0) (.slice none 0 0) (.slice (some ⟨g1, 0, none⟩) 1 cp) := ⟨_, rfl⟩
  have hR7 : w7.heap[w.heap.size + 1]? = some (.cells #[.string ⟨#[102]⟩, .slice none 0 0, .int .i64 0, .slice none 0 0, .slice (some ⟨g1, 0, none⟩) 1 cp] 26 (0, 0)) := by rw [hw7]; exact put5_at HR6.out _ _ _ _ _
  have hb7 : Below w.heap.size w w7 := by rw [hw7]; exact (put5_bu _ _ _ _ _).below Hb6.out (by omega) Hb6.out.size
  unfold put5 at hw7
  have HR7 := Lib.hid hR7
  have Hb7 := Lib.hid hb7
  have Hw7 := Lib.hid hw7
  clear hR7 hb7 hw7
  go_wp2
  rw [← Hw7.out]
  obtain ⟨s0, s1, s2, s3, s4, -⟩ := cells5 HR7.out
  refine ⟨rfl, _, by simp [results, Tryd.results8, go_sem, s0, s1, s2, s3, s4], g1, cp, rfl, Hb7.out⟩
end Go.Proofs.YtglobeajmdieaaaDoor
