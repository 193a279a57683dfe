/-
  Programs that may be: the base.
-/
import Derived.Test.YthhjhdmdfneegaaJc14
import Derived.Laws.Rows
namespace Go.Proofs.Ythhjhdmdfneegaa
set_option linter.unusedVariables false
set_option linter.unusedSimpArgs false
open Go.RowKit

set_option maxRecDepth 100000 in
set_option maxHeartbeats 8000000 in
theorem base_any (w : World) : Calls Try.prog 11 #[] w fun e w' => ∃ (fb bb : Nat) (v0 v1 : FV), e = .returned (.agg #[.slice (some ⟨fb, 0, none⟩) 2 2, .int .i64 0]) ∧ BaseAt w w' fb bb v0 v1 := by
  go_enter Try.func11, Try.ntmps11
  go_upto_region 2 with fail
  generalize hW1 : World.alloc _ _ = W1
  have F1 : allocs w [.cells #[.slice none 0 0, .int .i64 0] 25, .cells #[.int .i64 1] 3, .cells #[.int .i64 3, .int .i64 9] 3, .cells #[.int .i64 4, .int .i64 0] 3, .cells #[.int .i64 2] 3, .cells #[.int .i64 4, .int .i64 6] 3, .cells #[.int .i64 7] 3, .cells #[.int .i64 4, .int .i64 11] 3, .cells #[.int .i64 2, .int .i64 4, .int .i64 0] 3, .cells #[.int .i64 2, .int .i64 3] 3, .cells #[.int .i64 12] 3, .cells #[.int .i64 12, .int .i64 5] 3, .cells #[.int .i64 34, .int .i64 1, .slice none 0 0, .int .i64 0, .int .i64 0, .int .i64 1, .int .i64 1, .slice none 0 0, .int .i64 4, .int .i64 0, .int .i64 30, .int .i64 3, .slice (some ⟨w.heap.size + 1, 0, none⟩) 1 1, .int .i64 0, .int .i64 0, .int .i64 1, .int .i64 1, .slice none 0 0, .int .i64 0, .int .i64 0, .int .i64 3, .int .i64 1, .slice (some ⟨w.heap.size + 1 + 1, 0, none⟩) 2 2, .int .i64 0, .int .i64 0, .int .i64 19, .int .i64 2, .slice (some ⟨w.heap.size + 1 + 1 + 1, 0, none⟩) 2 2, .int .i64 0, .int .i64 0, .int .i64 26, .int .i64 1, .slice (some ⟨w.heap.size + 1 + 1 + 1 + 1, 0, none⟩) 1 1, .int .i64 0, .int .i64 0, .int .i64 23, .int .i64 2, .slice (some ⟨w.heap.size + 1 + 1 + 1 + 1 + 1, 0, none⟩) 2 2, .int .i64 0, .int .i64 0, .int .i64 35, .int .i64 0, .slice (some ⟨w.heap.size + 1 + 1 + 1 + 1 + 1 + 1, 0, none⟩) 1 1, .int .i64 1, .int .i64 0, .int .i64 4, .int .i64 1, .slice (some ⟨w.heap.size + 1 + 1 + 1 + 1 + 1 + 1 + 1, 0, none⟩) 2 2, .int .i64 0, .int .i64 0, .int .i64 32, .int .i64 0, .slice (some ⟨w.heap.size + 1 + 1 + 1 + 1 + 1 + 1 + 1 + 1, 0, none⟩) 3 3, .int .i64 0, .int .i64 0, .int .i64 1, .int .i64 1, .slice none 0 0, .int .i64 1, .int .i64 0, .int .i64 29, .int .i64 1, .slice (some ⟨w.heap.size + 1 + 1 + 1 + 1 + 1 + 1 + 1 + 1 + 1, 0, none⟩) 2 2, .int .i64 0, .int .i64 0, .int .i64 33, .int .i64 0, .slice (some ⟨w.heap.size + 1 + 1 + 1 + 1 + 1 + 1 + 1 + 1 + 1 + 1, 0, none⟩) 1 1, .int .i64 0, .int .i64 0, .int .i64 36, .int .i64 1, .slice (some ⟨w.heap.size + 1 + 1 + 1 + 1 + 1 + 1 + 1 + 1 + 1 + 1 + 1, 0, none⟩) 2 2, .int .i64 0, .int .i64 1] 46] = W1 := hW1
  have z1 : W1.heap.size = w.heap.size + 13 := by rw [← F1, allocs_size]; rfl
  have H1 := Lib.hid F1
  clear hW1 F1
  go_upto_region 3 with fail
  generalize hW2 : World.alloc _ _ = W2
  have F2 : allocs W1 [.cells #[.int .i64 0, .int .i64 1, .int .i64 2, .int .i64 3] 3, .cells #[.int .i64 1] 3, .cells #[.int .i64 4, .int .i64 5] 3, .cells #[.int .i64 0, .int .i64 2] 3, .cells #[.int .i64 2, .int .i64 3] 3, .cells #[.int .i64 11, .int .i64 6, .int .i64 7, .int .i64 8, .int .i64 10, .int .i64 9] 3, .cells #[.int .i64 1] 3, .cells #[.int .i64 1] 3, .cells #[.int .i64 12, .int .i64 13, .int .i64 14] 3, .cells #[.int .i64 1] 3, .cells #[.slice (some ⟨w.heap.size + 13, 0, none⟩) 4 4, .slice none 0 0, .int .i64 1, .int .i64 (-1), .slice (some ⟨w.heap.size + 13 + 1, 0, none⟩) 1 1, .slice (some ⟨w.heap.size + 13 + 1 + 1, 0, none⟩) 2 2, .slice (some ⟨w.heap.size + 13 + 1 + 1 + 1, 0, none⟩) 2 2, .int .i64 2, .int .i64 5, .slice (some ⟨w.heap.size + 13 + 1 + 1 + 1 + 1, 0, none⟩) 2 2, .slice (some ⟨w.heap.size + 13 + 1 + 1 + 1 + 1 + 1, 0, none⟩) 6 6, .slice (some ⟨w.heap.size + 13 + 1 + 1 + 1 + 1 + 1 + 1, 0, none⟩) 1 1, .int .i64 1, .int .i64 (-1), .slice (some ⟨w.heap.size + 13 + 1 + 1 + 1 + 1 + 1 + 1 + 1, 0, none⟩) 1 1, .slice (some ⟨w.heap.size + 13 + 1 + 1 + 1 + 1 + 1 + 1 + 1 + 1, 0, none⟩) 3 3, .slice (some ⟨w.heap.size + 13 + 1 + 1 + 1 + 1 + 1 + 1 + 1 + 1 + 1, 0, none⟩) 1 1, .int .i64 3, .int .i64 14, .slice none 0 0] 51, .cells #[.string ⟨#[109, 97, 105, 110]⟩, .slice none 0 0, .int .i64 1, .slice (some ⟨w.heap.size + 1 + 1 + 1 + 1 + 1 + 1 + 1 + 1 + 1 + 1 + 1 + 1, 0, none⟩) 15 15, .slice (some ⟨w.heap.size + 13 + 1 + 1 + 1 + 1 + 1 + 1 + 1 + 1 + 1 + 1, 0, none⟩) 4 4] 43] = W2 := hW2
  have z2 : W2.heap.size = w.heap.size + 25 := by rw [← F2, allocs_size, z1]; rfl
  have H2 := Lib.hid F2
  clear hW2 F2 z1
  go_upto_region 4 with fail
  generalize hW3 : World.alloc _ _ = W3
  have F3 : allocs W2 [.cells #[.int .i64 1, .int .i64 2] 3, .cells #[.int .i64 0] 3, .cells #[.int .i64 1, .int .i64 0, .int .i64 2] 3, .cells #[.int .i64 2, .int .i64 1, .slice none 0 0, .int .i64 0, .int .i64 0, .int .i64 2, .int .i64 2, .slice none 0 0, .int .i64 1, .int .i64 0, .int .i64 15, .int .i64 1, .slice (some ⟨w.heap.size + 25 + 1, 0, none⟩) 1 1, .int .i64 0, .int .i64 0, .int .i64 25, .int .i64 1, .slice (some ⟨w.heap.size + 25 + 1 + 1, 0, none⟩) 3 3, .int .i64 0, .int .i64 0] 46, .cells #[.int .i64 0, .int .i64 1, .int .i64 2, .int .i64 3] 3, .cells #[.slice (some ⟨w.heap.size + 25 + 1 + 1 + 1 + 1, 0, none⟩) 4 4, .slice none 0 0, .int .i64 3, .int .i64 3, .slice none 0 0] 51, .cells #[.string ⟨#[102]⟩, .slice (some ⟨w.heap.size + 25, 0, none⟩) 2 2, .int .i64 1, .slice (some ⟨w.heap.size + 25 + 1 + 1 + 1, 0, none⟩) 4 4, .slice (some ⟨w.heap.size + 25 + 1 + 1 + 1 + 1 + 1, 0, none⟩) 1 1] 43] = W3 := hW3
  have z3 : W3.heap.size = w.heap.size + 32 := by rw [← F3, allocs_size, z2]; rfl
  clear hW3
  have F1 := H1.out
  have F2 := H2.out
  have z1 : W1.heap.size = w.heap.size + 13 := by rw [← F1, allocs_size]; rfl
  have b1 : Below w.heap.size w W1 := F1 ▸ allocs_below _ _ w (Nat.le_refl _)
  have b2 : Below W1.heap.size W1 W2 := F2 ▸ allocs_below _ _ W1 (Nat.le_refl _)
  have b3 : Below W2.heap.size W2 W3 := F3 ▸ allocs_below _ _ W2 (Nat.le_refl _)
  have q24 : W3.heap[w.heap.size + 24]? = some (.cells #[.string ⟨#[109, 97, 105, 110]⟩, .slice none 0 0, .int .i64 1, .slice (some ⟨w.heap.size + 1 + 1 + 1 + 1 + 1 + 1 + 1 + 1 + 1 + 1 + 1 + 1, 0, none⟩) 15 15, .slice (some ⟨w.heap.size + 13 + 1 + 1 + 1 + 1 + 1 + 1 + 1 + 1 + 1 + 1, 0, none⟩) 4 4] 43 (0, 0)) := by
    have h := allocs_at [.cells #[.int .i64 0, .int .i64 1, .int .i64 2, .int .i64 3] 3, .cells #[.int .i64 1] 3, .cells #[.int .i64 4, .int .i64 5] 3, .cells #[.int .i64 0, .int .i64 2] 3, .cells #[.int .i64 2, .int .i64 3] 3, .cells #[.int .i64 11, .int .i64 6, .int .i64 7, .int .i64 8, .int .i64 10, .int .i64 9] 3, .cells #[.int .i64 1] 3, .cells #[.int .i64 1] 3, .cells #[.int .i64 12, .int .i64 13, .int .i64 14] 3, .cells #[.int .i64 1] 3, .cells #[.slice (some ⟨w.heap.size + 13, 0, none⟩) 4 4, .slice none 0 0, .int .i64 1, .int .i64 (-1), .slice (some ⟨w.heap.size + 13 + 1, 0, none⟩) 1 1, .slice (some ⟨w.heap.size + 13 + 1 + 1, 0, none⟩) 2 2, .slice (some ⟨w.heap.size + 13 + 1 + 1 + 1, 0, none⟩) 2 2, .int .i64 2, .int .i64 5, .slice (some ⟨w.heap.size + 13 + 1 + 1 + 1 + 1, 0, none⟩) 2 2, .slice (some ⟨w.heap.size + 13 + 1 + 1 + 1 + 1 + 1, 0, none⟩) 6 6, .slice (some ⟨w.heap.size + 13 + 1 + 1 + 1 + 1 + 1 + 1, 0, none⟩) 1 1, .int .i64 1, .int .i64 (-1), .slice (some ⟨w.heap.size + 13 + 1 + 1 + 1 + 1 + 1 + 1 + 1, 0, none⟩) 1 1, .slice (some ⟨w.heap.size + 13 + 1 + 1 + 1 + 1 + 1 + 1 + 1 + 1, 0, none⟩) 3 3, .slice (some ⟨w.heap.size + 13 + 1 + 1 + 1 + 1 + 1 + 1 + 1 + 1 + 1, 0, none⟩) 1 1, .int .i64 3, .int .i64 14, .slice none 0 0] 51, .cells #[.string ⟨#[109, 97, 105, 110]⟩, .slice none 0 0, .int .i64 1, .slice (some ⟨w.heap.size + 1 + 1 + 1 + 1 + 1 + 1 + 1 + 1 + 1 + 1 + 1 + 1, 0, none⟩) 15 15, .slice (some ⟨w.heap.size + 13 + 1 + 1 + 1 + 1 + 1 + 1 + 1 + 1 + 1 + 1, 0, none⟩) 4 4] 43] W1 11 _ _ rfl
    rw [F2] at h
    rw [z1] at h
    exact (b3.block _ (by omega)).trans h
  have q31 : W3.heap[w.heap.size + 31]? = some (.cells #[.string ⟨#[102]⟩, .slice (some ⟨w.heap.size + 25, 0, none⟩) 2 2, .int .i64 1, .slice (some ⟨w.heap.size + 25 + 1 + 1 + 1, 0, none⟩) 4 4, .slice (some ⟨w.heap.size + 25 + 1 + 1 + 1 + 1 + 1, 0, none⟩) 1 1] 43 (0, 0)) := by
    have h := allocs_at [.cells #[.int .i64 1, .int .i64 2] 3, .cells #[.int .i64 0] 3, .cells #[.int .i64 1, .int .i64 0, .int .i64 2] 3, .cells #[.int .i64 2, .int .i64 1, .slice none 0 0, .int .i64 0, .int .i64 0, .int .i64 2, .int .i64 2, .slice none 0 0, .int .i64 1, .int .i64 0, .int .i64 15, .int .i64 1, .slice (some ⟨w.heap.size + 25 + 1, 0, none⟩) 1 1, .int .i64 0, .int .i64 0, .int .i64 25, .int .i64 1, .slice (some ⟨w.heap.size + 25 + 1 + 1, 0, none⟩) 3 3, .int .i64 0, .int .i64 0] 46, .cells #[.int .i64 0, .int .i64 1, .int .i64 2, .int .i64 3] 3, .cells #[.slice (some ⟨w.heap.size + 25 + 1 + 1 + 1 + 1, 0, none⟩) 4 4, .slice none 0 0, .int .i64 3, .int .i64 3, .slice none 0 0] 51, .cells #[.string ⟨#[102]⟩, .slice (some ⟨w.heap.size + 25, 0, none⟩) 2 2, .int .i64 1, .slice (some ⟨w.heap.size + 25 + 1 + 1 + 1, 0, none⟩) 4 4, .slice (some ⟨w.heap.size + 25 + 1 + 1 + 1 + 1 + 1, 0, none⟩) 1 1] 43] W2 6 _ _ rfl
    rw [F3] at h
    rw [z2] at h
    exact h
  have e24_0 := Lib.cell_of_heap q24 0
  have e24_1 := Lib.cell_of_heap q24 1
  have e24_2 := Lib.cell_of_heap q24 2
  have e24_3 := Lib.cell_of_heap q24 3
  have e24_4 := Lib.cell_of_heap q24 4
  have e31_0 := Lib.cell_of_heap q31 0
  have e31_1 := Lib.cell_of_heap q31 1
  have e31_2 := Lib.cell_of_heap q31 2
  have e31_3 := Lib.cell_of_heap q31 3
  have e31_4 := Lib.cell_of_heap q31 4
  have q0 : W3.heap[w.heap.size]? = some (.cells #[.slice none 0 0, .int .i64 0] 25 (0, 0)) := by
    have h := allocs_at [.cells #[.slice none 0 0, .int .i64 0] 25, .cells #[.int .i64 1] 3, .cells #[.int .i64 3, .int .i64 9] 3, .cells #[.int .i64 4, .int .i64 0] 3, .cells #[.int .i64 2] 3, .cells #[.int .i64 4, .int .i64 6] 3, .cells #[.int .i64 7] 3, .cells #[.int .i64 4, .int .i64 11] 3, .cells #[.int .i64 2, .int .i64 4, .int .i64 0] 3, .cells #[.int .i64 2, .int .i64 3] 3, .cells #[.int .i64 12] 3, .cells #[.int .i64 12, .int .i64 5] 3, .cells #[.int .i64 34, .int .i64 1, .slice none 0 0, .int .i64 0, .int .i64 0, .int .i64 1, .int .i64 1, .slice none 0 0, .int .i64 4, .int .i64 0, .int .i64 30, .int .i64 3, .slice (some ⟨w.heap.size + 1, 0, none⟩) 1 1, .int .i64 0, .int .i64 0, .int .i64 1, .int .i64 1, .slice none 0 0, .int .i64 0, .int .i64 0, .int .i64 3, .int .i64 1, .slice (some ⟨w.heap.size + 1 + 1, 0, none⟩) 2 2, .int .i64 0, .int .i64 0, .int .i64 19, .int .i64 2, .slice (some ⟨w.heap.size + 1 + 1 + 1, 0, none⟩) 2 2, .int .i64 0, .int .i64 0, .int .i64 26, .int .i64 1, .slice (some ⟨w.heap.size + 1 + 1 + 1 + 1, 0, none⟩) 1 1, .int .i64 0, .int .i64 0, .int .i64 23, .int .i64 2, .slice (some ⟨w.heap.size + 1 + 1 + 1 + 1 + 1, 0, none⟩) 2 2, .int .i64 0, .int .i64 0, .int .i64 35, .int .i64 0, .slice (some ⟨w.heap.size + 1 + 1 + 1 + 1 + 1 + 1, 0, none⟩) 1 1, .int .i64 1, .int .i64 0, .int .i64 4, .int .i64 1, .slice (some ⟨w.heap.size + 1 + 1 + 1 + 1 + 1 + 1 + 1, 0, none⟩) 2 2, .int .i64 0, .int .i64 0, .int .i64 32, .int .i64 0, .slice (some ⟨w.heap.size + 1 + 1 + 1 + 1 + 1 + 1 + 1 + 1, 0, none⟩) 3 3, .int .i64 0, .int .i64 0, .int .i64 1, .int .i64 1, .slice none 0 0, .int .i64 1, .int .i64 0, .int .i64 29, .int .i64 1, .slice (some ⟨w.heap.size + 1 + 1 + 1 + 1 + 1 + 1 + 1 + 1 + 1, 0, none⟩) 2 2, .int .i64 0, .int .i64 0, .int .i64 33, .int .i64 0, .slice (some ⟨w.heap.size + 1 + 1 + 1 + 1 + 1 + 1 + 1 + 1 + 1 + 1, 0, none⟩) 1 1, .int .i64 0, .int .i64 0, .int .i64 36, .int .i64 1, .slice (some ⟨w.heap.size + 1 + 1 + 1 + 1 + 1 + 1 + 1 + 1 + 1 + 1 + 1, 0, none⟩) 2 2, .int .i64 0, .int .i64 1] 46] w 0 _ _ rfl
    rw [F1] at h
    exact (b3.block _ (by omega)).trans ((b2.block _ (by omega)).trans h)
  have e0_0 := Lib.cell_of_heap q0 0
  have e0_1 := Lib.cell_of_heap q0 1
  have g0_0 := Lib.frozen_of_heap q0 0
  have g0_1 := Lib.frozen_of_heap q0 1
  have H3 := Lib.hid F3
  clear F1 F2 F3 b1 b2 b3 z1 z2 q24 q31 q0
  go_wp2
  generalize hZ : World.alloc _ _ = Z
  obtain ⟨hB, hr⟩ := base_lay w W1 W2 W3 Z _ _ H1.out H2.out H3.out hZ.symm
  clear hZ
  try simp only [Exit.inBlock, Exit.then]
  refine bodyPost_ret (results_cell_row rfl _ _ w.heap.size _ _ _ _ rfl hr Try.underlying25 rfl (by kernel_rfl)) rfl ?_
  clear H1 H2 H3
  exact ⟨_, rfl, _, _, _, hB⟩
end Go.Proofs.Ythhjhdmdfneegaa
