/-
  A function that can be changed, of nothing.
-/
import Derived.Test.YtdjpjonikceadaaIrQ
namespace Go.Proofs.Ytdjpjonikceadaa
open Go.RowKit
set_option linter.unusedVariables false
set_option linter.unusedSimpArgs false

set_option maxRecDepth 100000 in
theorem mappedN_nil (H : Value) (w : World) :
    Calls Try.prog 35 #[.slice none 0 0, H] w fun e w' => e = .returned (.slice (some ⟨w.heap.size, 0, none⟩) 0 0) ∧ w' = w.alloc (.cells #[] 38) := by
  have hmk : ∀ w : World, (Instr.makeSlice 27 (.int .i64 0) (.int .i64 0)).run Try.prog w = .ok (.slice (some ⟨w.heap.size, 0, none⟩) 0 0) (w.alloc (.cells #[] 38)) := fun _ => by kernel_rfl
  go_enter Try.func35, Try.ntmps35
  go_wp2
  refine wp_loop_rounds 1 ?_
  rw [rounds_succ]
  go_wp2
  go_ret
  exact ⟨rfl, rfl⟩

set_option maxRecDepth 100000 in
theorem mappedB_nil (H : Value) (w : World) :
    Calls Try.prog 37 #[.slice none 0 0, H] w fun e w' => e = .returned (.slice (some ⟨w.heap.size, 0, none⟩) 0 0) ∧ w' = w.alloc (.cells #[] 46) := by
  have hmk : ∀ w : World, (Instr.makeSlice 28 (.int .i64 0) (.int .i64 0)).run Try.prog w = .ok (.slice (some ⟨w.heap.size, 0, none⟩) 0 0) (w.alloc (.cells #[] 46)) := fun _ => by kernel_rfl
  go_enter Try.func37, Try.ntmps37
  go_wp2
  refine wp_loop_rounds 1 ?_
  rw [rounds_succ]
  go_wp2
  go_ret
  exact ⟨rfl, rfl⟩

def F00 (IV BV : Value) : Nat → Rw := fun k => if k = 0 then ⟨46, 5, BV, 0, []⟩ else if k = 1 then ⟨38, 5, IV, 0, []⟩ else ⟨3, 1, .slice none 0 0, 0, []⟩
set_option maxRecDepth 100000 in
set_option maxHeartbeats 8000000 in
theorem clone_zero (w : World) :
    Calls Try.prog 21 #[.agg #[.string ⟨#[]⟩, .slice none 0 0, .int .i64 0, .slice none 0 0, .slice none 0 0]] w fun e w' => ∃ x y, e = .returned (.agg #[.string ⟨#[]⟩, .slice none 0 0, .int .i64 0, .slice (some ⟨x, 0, none⟩) 0 0, .slice (some ⟨y, 0, none⟩) 0 0]) ∧ Below w.heap.size w w' ∧ w'.heap[x]? = some (.cells #[] 38 (0, 0)) ∧ w'.heap[y]? = some (.cells #[] 46 (0, 0)) ∧ w.heap.size ≤ x ∧ x < y := by
  obtain ⟨W, hW, hbW, hzW, hF, hR⟩ := r_two_al w #[.string ⟨#[]⟩, .slice none 0 0, .int .i64 0, .slice none 0 0, .slice none 0 0] #[.string ⟨#[]⟩, .slice none 0 0, .int .i64 0, .slice none 0 0, .slice none 0 0] 30 30
  obtain ⟨c0, c1, c2, c3, c4, cf⟩ := cells5 (w := W.drew) hF
  have gd := And.intro c0 (And.intro c1 (And.intro c2 (And.intro c3 c4)))
  have HW := Lib.hid hW
  have HbW := Lib.hid hbW
  have HzW := Lib.hid hzW
  have HF := Lib.hid hF
  have HR := Lib.hid hR
  clear hW hbW hzW hF hR c0 c1 c2 c3 c4 cf
  go_enter Try.func21, Try.ntmps21
  go_upto_region 1 with fail
  rw [← HW.out]
  refine wp_region_noPanic ?_
  refine wp_region_held_drew (S := fun w' => w'.cell? ⟨w.heap.size, 0, none⟩ = some (.string ⟨#[]⟩) ∧ w'.cell? ⟨w.heap.size, 1, none⟩ = some (.slice none 0 0) ∧ w'.cell? ⟨w.heap.size, 2, none⟩ = some (.int .i64 0) ∧ w'.cell? ⟨w.heap.size, 3, none⟩ = some (.slice none 0 0) ∧ w'.cell? ⟨w.heap.size, 4, none⟩ = some (.slice none 0 0)) (by kernel_rfl) gd (fun hHeld => ?_)
  refine wpAnyH_take (i := 0) (v := ?_) rfl (by kernel_rfl) (by kernel_rfl) (by kernel_rfl) (fun _ _ _ h => h) (Or.inl ⟨by rfl, ?_⟩) (by assumption) ?_
  rotate_left
  · (intro w hSw; (try dsimp only at hSw); first | (go_simp; done) | (go_simp; with_reducible rfl))
  try simp only [Act.put, List.setIfInBounds_toArray, List.set_cons_zero, List.set_cons_succ]
  refine wpAnyH_take (i := 1) (v := ?_) rfl (by kernel_rfl) (by kernel_rfl) (by kernel_rfl) (fun _ _ _ h => h) (Or.inl ⟨by rfl, ?_⟩) (by assumption) ?_
  rotate_left
  · (intro w hSw; (try dsimp only at hSw); first | (go_simp; done) | (go_simp; with_reducible rfl))
  try simp only [Act.put, List.setIfInBounds_toArray, List.set_cons_zero, List.set_cons_succ]
  refine wpAnyH_take (i := 2) (v := ?_) rfl (by kernel_rfl) (by kernel_rfl) (by kernel_rfl) (fun _ _ _ h => h) (Or.inl ⟨by rfl, ?_⟩) (by assumption) ?_
  rotate_left
  · (intro w hSw; (try dsimp only at hSw); first | (go_simp; done) | (go_simp; with_reducible rfl))
  try simp only [Act.put, List.setIfInBounds_toArray, List.set_cons_zero, List.set_cons_succ]
  refine wpAnyH_take (i := 3) (v := ?_) rfl (by kernel_rfl) (by kernel_rfl) (by kernel_rfl) (fun _ _ _ h => h) (Or.inl ⟨by rfl, ?_⟩) (by assumption) ?_
  rotate_left
  · (intro w hSw; (try dsimp only at hSw); first | (go_simp; done) | (go_simp; with_reducible rfl))
  try simp only [Act.put, List.setIfInBounds_toArray, List.set_cons_zero, List.set_cons_succ]
  refine wpAnyH_take (i := 5) (v := ?_) rfl (by kernel_rfl) (by kernel_rfl) (by kernel_rfl) (fun _ _ _ h => h) (Or.inl ⟨by rfl, ?_⟩) (by assumption) ?_
  rotate_left
  · (intro w hSw; (try dsimp only at hSw); first | (go_simp; done) | (go_simp; with_reducible rfl))
  try simp only [Act.put, List.setIfInBounds_toArray, List.set_cons_zero, List.set_cons_succ]
  refine wpAnyH_take (i := 6) (v := ?_) rfl (by kernel_rfl) (by kernel_rfl) (by kernel_rfl) (fun _ _ _ h => h) (Or.inl ⟨by rfl, ?_⟩) (by assumption) ?_
  rotate_left
  · (intro w hSw; (try dsimp only at hSw); first | (go_simp; done) | (go_simp; with_reducible rfl))
  try simp only [Act.put, List.setIfInBounds_toArray, List.set_cons_zero, List.set_cons_succ]
  refine wpAnyH_take (i := 7) (v := ?_) rfl (by kernel_rfl) (by kernel_rfl) (by kernel_rfl) (fun _ _ _ h => h) (Or.inl ⟨by rfl, ?_⟩) (by assumption) ?_
  rotate_left
  · (intro w hSw; (try dsimp only at hSw); first | (go_simp; done) | (go_simp; with_reducible rfl))
  try simp only [Act.put, List.setIfInBounds_toArray, List.set_cons_zero, List.set_cons_succ]
  refine wpAnyH_take (i := 8) (v := ?_) rfl (by kernel_rfl) (by kernel_rfl) (by kernel_rfl) (fun _ _ _ h => h) (Or.inl ⟨by rfl, ?_⟩) (by assumption) ?_
  rotate_left
  · (intro w hSw; (try dsimp only at hSw); first | (go_simp; done) | (go_simp; with_reducible rfl))
  try simp only [Act.put, List.setIfInBounds_toArray, List.set_cons_zero, List.set_cons_succ]
  refine wpAnyH_take (i := 10) (v := ?_) rfl (by kernel_rfl) (by kernel_rfl) (by kernel_rfl) (fun _ _ _ h => h) (Or.inl ⟨by rfl, ?_⟩) (by assumption) ?_
  rotate_left
  · (intro w hSw; (try dsimp only at hSw); first | (go_simp; done) | (go_simp; with_reducible rfl))
  try simp only [Act.put, List.setIfInBounds_toArray, List.set_cons_zero, List.set_cons_succ]
  refine wpAnyH_take (i := 11) (v := ?_) rfl (by kernel_rfl) (by kernel_rfl) (by kernel_rfl) (fun _ _ _ h => h) (Or.inl ⟨by rfl, ?_⟩) (by assumption) ?_
  rotate_left
  · (intro w hSw; (try dsimp only at hSw); first | (go_simp; done) | (go_simp; with_reducible rfl))
  try simp only [Act.put, List.setIfInBounds_toArray, List.set_cons_zero, List.set_cons_succ]
  refine wpAnyH_ready (rs := [4]) (by kernel_rfl) (by simp) ?_
  refine AllReadyH.cons rfl (fun K hK => ?_) (AllReadyH.nil)
  go_simp
  refine (cloneI_nil _).mono ?_
  rintro e w9 ⟨rfl, rfl⟩
  refine hK.out _ _ ?_ (fun hHeld => ?_)
  · ((try dsimp only); first | with_reducible exact gd | with_reducible exact g1 | with_reducible exact g2 | with_reducible exact g3)
  clear hK K
  try simp only [Act.put, List.setIfInBounds_toArray, List.set_cons_zero, List.set_cons_succ]
  refine wpAnyH_ready (rs := [9]) (by kernel_rfl) (by simp) ?_
  refine AllReadyH.cons rfl (fun K hK => ?_) (AllReadyH.nil)
  go_simp
  refine (mappedN_nil _ _).mono ?_
  rintro e w1 ⟨rfl, e1⟩
  obtain ⟨A, hA, hbA, hzA, hXA⟩ := r_one_al W #[] 38
  obtain ⟨w2, hw2⟩ : ∃ w2, w2 = A.drew := ⟨_, rfl⟩
  have e2 : w1 = w2 := by rw [e1, hw2, hA]; rfl
  subst e2
  have hX2 : w1.heap[W.heap.size]? = some (.cells #[] 38 (0, 0)) := by rw [hw2]; exact hXA
  have hb2 : Below W.heap.size W w1 := by rw [hw2]; exact hbA.drew
  have hz2 : w1.heap.size = W.heap.size + 1 := by rw [hw2]; exact hzA
  have hF2 := (hb2.block _ (heap_in HF.out)).trans HF.out
  have hR2 := (hb2.block _ (heap_in HR.out)).trans HR.out
  have g1 : w1.cell? ⟨w.heap.size, 0, none⟩ = some (.string ⟨#[]⟩) ∧ w1.cell? ⟨w.heap.size, 1, none⟩ = some (.slice none 0 0) ∧ w1.cell? ⟨w.heap.size, 2, none⟩ = some (.int .i64 0) ∧ w1.cell? ⟨w.heap.size, 3, none⟩ = some (.slice none 0 0) ∧ w1.cell? ⟨w.heap.size, 4, none⟩ = some (.slice none 0 0) := ⟨Lib.cell_of_heap hF2 0, Lib.cell_of_heap hF2 1, Lib.cell_of_heap hF2 2, Lib.cell_of_heap hF2 3, Lib.cell_of_heap hF2 4⟩
  have HX2 := Lib.hid hX2
  have Hb2 := Lib.hid hb2
  have Hz2 := Lib.hid hz2
  have HF2 := Lib.hid hF2
  have HR2 := Lib.hid hR2
  have hwd : W.drew.heap.size = W.heap.size := rfl
  rw [hwd]
  clear e1 hA hbA hzA hXA hw2 hX2 hb2 hz2 hF2 hR2 hwd
  refine hK.out _ _ ?_ (fun hHeld => ?_)
  · ((try dsimp only); first | with_reducible exact gd | with_reducible exact g1 | with_reducible exact g2 | with_reducible exact g3)
  clear hK K
  try simp only [Act.put, List.setIfInBounds_toArray, List.set_cons_zero, List.set_cons_succ]
  refine wpAnyH_ready (rs := [12]) (by kernel_rfl) (by simp) ?_
  refine AllReadyH.cons rfl (fun K hK => ?_) (AllReadyH.nil)
  go_simp
  refine (mappedB_nil _ _).mono ?_
  rintro e w3 ⟨rfl, e3⟩
  obtain ⟨A3, hA3, hbA3, hzA3, hXA3⟩ := r_one_al w1 #[] 46
  have e4 : w3 = A3 := by rw [e3, hA3]
  subst e4
  have hF3 := (hbA3.block _ (heap_in HF2.out)).trans HF2.out
  have hR3 := (hbA3.block _ (heap_in HR2.out)).trans HR2.out
  have hX3 := (hbA3.block _ (heap_in HX2.out)).trans HX2.out
  have hb3 : Below w.heap.size w w3 := (HbW.out.trans (Hb2.out.mono HbW.out.size)).trans (hbA3.mono (by have := HbW.out.size; have := Hz2.out; omega))
  have g2 : w3.cell? ⟨w.heap.size, 0, none⟩ = some (.string ⟨#[]⟩) ∧ w3.cell? ⟨w.heap.size, 1, none⟩ = some (.slice none 0 0) ∧ w3.cell? ⟨w.heap.size, 2, none⟩ = some (.int .i64 0) ∧ w3.cell? ⟨w.heap.size, 3, none⟩ = some (.slice none 0 0) ∧ w3.cell? ⟨w.heap.size, 4, none⟩ = some (.slice none 0 0) := ⟨Lib.cell_of_heap hF3 0, Lib.cell_of_heap hF3 1, Lib.cell_of_heap hF3 2, Lib.cell_of_heap hF3 3, Lib.cell_of_heap hF3 4⟩
  have HR3 := Lib.hid hR3
  have HX3 := Lib.hid hX3
  have HY3 := Lib.hid hXA3
  have Hb3 := Lib.hid hb3
  obtain ⟨r0, r1, r2, r3, r4, rf⟩ := cells5 hR3
  obtain ⟨y, hy⟩ : ∃ y, y = w1.heap.size := ⟨_, rfl⟩
  rw [← hy] at HY3 ⊢
  have Hy : Hid (y = W.heap.size + 1) := Lib.hid (by rw [hy]; exact Hz2.out)
  clear e3 hA3 hbA3 hzA3 hXA3 hF3 hR3 hX3 hb3 hy
  refine hK.out _ _ ?_ (fun hHeld => ?_)
  · ((try dsimp only); first | with_reducible exact gd | with_reducible exact g1 | with_reducible exact g2 | with_reducible exact g3)
  clear hK K
  try simp only [Act.put, List.setIfInBounds_toArray, List.set_cons_zero, List.set_cons_succ]
  refine wpAnyH_take (i := 13) (v := ?_) rfl (by kernel_rfl) (by kernel_rfl) (by kernel_rfl) (fun _ _ _ h => h) (Or.inl ⟨by rfl, ?_⟩) (by assumption) ?_
  rotate_left
  · (intro w hSw; (try dsimp only at hSw); first | (go_simp; done) | (go_simp; with_reducible rfl))
  try simp only [Act.put, List.setIfInBounds_toArray, List.set_cons_zero, List.set_cons_succ]
  refine wpAnyH_ready (rs := [14]) (by kernel_rfl) (by simp) ?_
  refine AllReadyH.cons rfl (fun K hK => ?_) (AllReadyH.nil)
  obtain ⟨w5, hw5⟩ : ∃ w5, w5 = put5 w3 (w.heap.size + 1) (.string ⟨#[]⟩) (.slice none 0 0) (.int .i64 0) (.slice (some ⟨W.heap.size, 0, none⟩) 0 0) (.slice (some ⟨y, 0, none⟩) 0 0) := ⟨_, rfl⟩
  have hR5 : w5.heap[w.heap.size + 1]? = some (.cells #[.string ⟨#[]⟩, .slice none 0 0, .int .i64 0, .slice (some ⟨W.heap.size, 0, none⟩) 0 0, .slice (some ⟨y, 0, none⟩) 0 0] 30 (0, 0)) := by rw [hw5]; exact put5_at HR3.out _ _ _ _ _
  have hbu : Bu (w.heap.size + 1) w3 w5 := by rw [hw5]; exact put5_bu _ _ _ _ _
  have n0 : w.heap.size ≠ w.heap.size + 1 := by omega
  have g3 : w5.cell? ⟨w.heap.size, 0, none⟩ = some (.string ⟨#[]⟩) ∧ w5.cell? ⟨w.heap.size, 1, none⟩ = some (.slice none 0 0) ∧ w5.cell? ⟨w.heap.size, 2, none⟩ = some (.int .i64 0) ∧ w5.cell? ⟨w.heap.size, 3, none⟩ = some (.slice none 0 0) ∧ w5.cell? ⟨w.heap.size, 4, none⟩ = some (.slice none 0 0) := ⟨(hbu.cell (p := ⟨w.heap.size, 0, none⟩) (by have := heap_in HR3.out; show w.heap.size < _; omega) n0).trans g2.1, (hbu.cell (p := ⟨w.heap.size, 1, none⟩) (by have := heap_in HR3.out; show w.heap.size < _; omega) n0).trans g2.2.1, (hbu.cell (p := ⟨w.heap.size, 2, none⟩) (by have := heap_in HR3.out; show w.heap.size < _; omega) n0).trans g2.2.2.1, (hbu.cell (p := ⟨w.heap.size, 3, none⟩) (by have := heap_in HR3.out; show w.heap.size < _; omega) n0).trans g2.2.2.2.1, (hbu.cell (p := ⟨w.heap.size, 4, none⟩) (by have := heap_in HR3.out; show w.heap.size < _; omega) n0).trans g2.2.2.2.2⟩
  have hb5 : Below w.heap.size w w5 := hbu.below Hb3.out (by omega) Hb3.out.size
  have hX5 := (hbu.block _ (heap_in HX3.out) (by have := HzW.out; omega)).trans HX3.out
  have hY5 := (hbu.block _ (heap_in HY3.out) (by have := HzW.out; have := Hy.out; omega)).trans HY3.out
  unfold put5 at hw5
  have HR5 := Lib.hid hR5
  have Hb5 := Lib.hid hb5
  have HX5 := Lib.hid hX5
  have HY5 := Lib.hid hY5
  clear hR5 hb5 hX5 hY5 hbu n0
  go_simp
  rw [← hw5]
  clear hw5 r0 r1 r2 r3 r4 rf
  refine hK.out _ _ ?_ (fun hHeld => ?_)
  · ((try dsimp only); first | with_reducible exact gd | with_reducible exact g1 | with_reducible exact g2 | with_reducible exact g3)
  clear hK K
  try simp only [Act.put, List.setIfInBounds_toArray, List.set_cons_zero, List.set_cons_succ]
  refine wpAnyH_done (by kernel_rfl) ?_ _
  refine NoPanic.normal ?_
  clear gd g1 g2 g3
  go_wp2
  obtain ⟨s0, s1, s2, s3, s4, -⟩ := cells5 HR5.out
  refine ⟨rfl, _, by simp [results, Try.results21, go_sem, s0, s1, s2, s3, s4], W.heap.size, y, rfl, Hb5.out, HX5.out, HY5.out, by have := HzW.out; omega, by have := Hy.out; omega⟩

set_option maxRecDepth 100000 in
set_option maxHeartbeats 4000000 in
theorem new_zero (w : World) :
    Calls Try.prog 8 #[.agg #[.string ⟨#[]⟩, .slice none 0 0, .int .i64 0, .slice none 0 0, .slice none 0 0]] w fun e w' => ∃ E IV BV, e = .returned (.pointer (some ⟨E, 0, none⟩)) ∧ Below w.heap.size w w' ∧ w.heap.size ≤ E ∧ EdC w' E IV BV ∧ Fam w' w.heap.size E (F00 IV BV) := by
  obtain ⟨W, hW, hbW, hzW, h0⟩ := r_one_al w #[.string ⟨#[]⟩, .slice none 0 0, .int .i64 0, .slice none 0 0, .slice none 0 0] 30
  have hC := clone_zero W
  obtain ⟨c0, c1, c2, c3, c4, cf⟩ := cells5 h0
  have HW := Lib.hid hW
  have HbW := Lib.hid hbW
  have HzW := Lib.hid hzW
  clear hW hbW hzW h0
  go_enter Try.func8, Try.ntmps8
  go_upto_region 1 with fail
  rw [← HW.out]
  go_wp2_with (go_at_call 21; refine hC.mono ?_; rintro e w1 ⟨x, y, rfl, hb1, hx1, hy1, hlo, hxy⟩; have Hb1 := Lib.hid hb1; have HX := Lib.hid hx1; have HY := Lib.hid hy1; have Hlo := Lib.hid hlo; have Hxy := Lib.hid hxy; clear hb1 hx1 hy1 hlo hxy hC)
  go_ret
  obtain ⟨A, hA, hbA, hzA, hEA⟩ := r_one_al w1 #[.string ⟨#[]⟩, .slice none 0 0, .int .i64 0, .slice (some ⟨x, 0, none⟩) 0 0, .slice (some ⟨y, 0, none⟩) 0 0] 51
  rw [← hA]
  have hXA := (hbA.block _ (heap_in HX.out)).trans HX.out
  have hYA := (hbA.block _ (heap_in HY.out)).trans HY.out
  have hxl := heap_in HX.out
  have hyl := heap_in HY.out
  have hlo := Hlo.out
  have hxy := Hxy.out
  have hzW := HzW.out
  have h1 := Hb1.out.size
  refine ⟨w1.heap.size, _, _, rfl, (HbW.out.trans (Hb1.out.mono (by omega))).trans (hbA.mono (by omega)), by omega, hEA, by omega, fun k => ?_, fun k => ?_, fun k l hkl => ?_⟩
  · unfold F00
    split
    · simp [Value.ownBlock]; omega
    · split
      · simp [Value.ownBlock]; omega
      · simp [Value.ownBlock]
  · unfold F00
    split
    · exact ⟨by simp, .inr ⟨y, 0, #[], rfl, by omega, hYA, Nat.le_refl _, by decide, rfl, by simp⟩⟩
    · split
      · exact ⟨by simp, .inr ⟨x, 0, #[], rfl, by omega, hXA, Nat.le_refl _, by decide, rfl, by simp⟩⟩
      · exact World.ownsRow_nil _ _ _ _
  · unfold F00
    by_cases k0 : k = 0
    · subst k0
      by_cases l1 : l = 1
      · subst l1; simp [Value.ownBlock]; omega
      · simp [Value.ownBlock, Ne.symm hkl, l1]
    · by_cases k1 : k = 1
      · subst k1
        by_cases l0 : l = 0
        · subst l0; simp [Value.ownBlock]; omega
        · simp [Value.ownBlock, Ne.symm hkl, l0]
      · simp [Value.ownBlock, k0, k1]

end Go.Proofs.Ytdjpjonikceadaa
