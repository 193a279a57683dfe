/-
  New numbers of two blocks of which one is come to; of no instructions.
-/
import Derived.Test.YtglobeajmdieaaaDoorIrB
namespace Go.Proofs.YtglobeajmdieaaaDoor
open Go.RowKit
set_option linter.unusedVariables false
set_option linter.unusedSimpArgs false

set_option maxRecDepth 100000 in
set_option maxHeartbeats 4000000 in
theorem numbers_two (b o c : Nat) (A : Option Addr) (cT : Nat) (w : World) (hT : w.cell? ⟨b, o + 4, none⟩ = some (.slice A 0 cT)) (hb : b < w.heap.size) :
    Calls Tryd.prog 17 #[.slice (some ⟨b, o, none⟩) 2 c] w fun e w' => ∃ g, e = .returned (.slice (some ⟨g, 0, none⟩) 2 2) ∧ Below w.heap.size w w' ∧ w'.heap[g]? = some (.cells #[.int .i64 0, .int .i64 (-1)] 3 (0, 0)) ∧ w.heap.size ≤ g := by
  have hR := reach_two b o c A cT w hT hb
  have hmk : ∀ w : World, (Instr.makeSlice 22 (.int .i64 2) (.int .i64 2)).run Tryd.prog w = .ok (.slice (some ⟨w.heap.size, 0, none⟩) 2 2) (w.alloc (.cells #[.int .i64 0, .int .i64 0] 3)) := fun _ => by kernel_rfl
  go_enter Tryd.func17, Tryd.ntmps17
  go_upto_region 2 with (go_at_call 24; refine hR.mono ?_; rintro e w1 ⟨g, rfl, hb1, hg1, hlo⟩)
  obtain ⟨W, hW, hbW, hzW, h0⟩ := r_one_al w1 #[.int .i64 0, .int .i64 0] 3
  have hgW := (hbW.block g (heap_in hg1)).trans hg1
  have hgl := heap_in hg1
  have g0 : W.cell? ⟨g, 0, none⟩ = some (.bool true) := Lib.cell_of_heap hgW 0
  have g1 : W.cell? ⟨g, 1, none⟩ = some (.bool false) := Lib.cell_of_heap hgW 1
  have n0 := Lib.cell_of_heap h0 0
  have n1 := Lib.cell_of_heap h0 1
  have fn := Lib.frozen_of_heap h0
  have ne : g ≠ w1.heap.size := by omega
  obtain ⟨w2, hw2⟩ : ∃ w2, w2 = W.setCell ⟨w1.heap.size, 0, none⟩ (.int .i64 (-1)) := ⟨_, rfl⟩
  obtain ⟨w3, hw3⟩ : ∃ w3, w3 = w2.setCell ⟨w1.heap.size, 0, none⟩ (.int .i64 0) := ⟨_, rfl⟩
  obtain ⟨w4, hw4⟩ : ∃ w4, w4 = w3.setCell ⟨w1.heap.size, 1, none⟩ (.int .i64 (-1)) := ⟨_, rfl⟩
  have h2 : w2.heap[w1.heap.size]? = some (.cells #[.int .i64 (-1), .int .i64 0] 3 (0, 0)) := by rw [hw2]; exact heap_put h0 0 _
  have h3 : w3.heap[w1.heap.size]? = some (.cells #[.int .i64 0, .int .i64 0] 3 (0, 0)) := by rw [hw3]; exact heap_put h2 0 _
  have h4 : w4.heap[w1.heap.size]? = some (.cells #[.int .i64 0, .int .i64 (-1)] 3 (0, 0)) := by rw [hw4]; exact heap_put h3 1 _
  have hb4 : Below w.heap.size w w4 := by rw [hw4, hw3, hw2]; exact (((hb1.trans (hbW.mono hb1.size)).setCell hb1.size _).setCell hb1.size _).setCell hb1.size _
  have k0 : w2.cell? ⟨g, 0, none⟩ = some (.bool true) := by rw [hw2]; exact (set_off (by show g ≠ w1.heap.size; omega)).trans g0
  have k1 : w4.cell? ⟨g, 1, none⟩ = some (.bool false) := by rw [hw4, hw3, hw2]; exact ((set_off (by show g ≠ w1.heap.size; omega)).trans ((set_off (by show g ≠ w1.heap.size; omega)).trans (set_off (by show g ≠ w1.heap.size; omega)))).trans g1
  have f2 := Lib.frozen_of_heap h2
  have f3 := Lib.frozen_of_heap h3
  have p2 := Lib.cell_of_heap h2 0
  have p3 := Lib.cell_of_heap h3 1
  have hs := hb1.size
  have HW := Lib.hid hW
  have Hw2 := Lib.hid hw2
  have Hw3 := Lib.hid hw3
  have Hw4 := Lib.hid hw4
  have HE := Lib.hid (And.intro hb4 (And.intro h4 hs))
  clear hW hw2 hw3 hw4 h0 h2 h3 h4 hb4 hgW hbW hb1 hR
  go_upto_region 4 with fail
  rw [← HW.out]
  go_wp2
  refine wp_loop_rounds 3 ?_
  rw [rounds_succ]
  go_upto_region 8 with fail
  rw [← Hw2.out]
  go_upto_region 10 with fail
  rw [← Hw3.out]
  go_wp2
  rw [rounds_succ]
  go_upto_region 8 with fail
  rw [← Hw4.out]
  go_wp2
  rw [rounds_succ]
  go_wp2
  go_ret
  exact ⟨w1.heap.size, rfl, HE.out.1, HE.out.2.1, HE.out.2.2⟩

set_option maxRecDepth 100000 in
set_option maxHeartbeats 4000000 in
/-- No instruction: c is the compaction, f the function, k what its blocks' numbers lie in. -/
theorem insNumbers_two (p f k bb c : Nat) (V : Option Addr) (vn vc : Nat) (x3 x4 x5 x6 x7 : Value) (nm : Value) (P I : Value) (R : Value) (A : Option Addr) (cA : Nat) (I0 : Option Addr) (cI : Nat) (w : World)
    (hp : w.heap[p]? = some (.cells #[.pointer (some ⟨f, 0, none⟩), .slice (some ⟨k, 0, none⟩) 2 2, .slice V vn vc, x3, x4, x5, x6, x7] 49 (0, 0)))
    (hf : w.heap[f]? = some (.cells #[nm, P, R, .slice I0 0 cI, .slice (some ⟨bb, 0, none⟩) 2 c] 26 (0, 0)))
    (hk : w.heap[k]? = some (.cells #[.int .i64 0, .int .i64 (-1)] 3 (0, 0))) (hL : w.cell? ⟨bb, 0, none⟩ = some (.slice A 0 cA)) (hb : bb < w.heap.size) :
    Calls Tryd.prog 18 #[.pointer (some ⟨p, 0, none⟩)] w fun e w' => ∃ g, e = .returned (.slice g 0 0) ∧ Below w.heap.size w w' := by
  have hmk : ∀ w : World, (Instr.makeSlice 22 (.int .i64 0) (.int .i64 0)).run Tryd.prog w = .ok (.slice (some ⟨w.heap.size, 0, none⟩) 0 0) (w.alloc (.cells #[] 3)) := fun _ => by kernel_rfl
  have p0 : w.cell? ⟨p, 0, none⟩ = some (.pointer (some ⟨f, 0, none⟩)) := Lib.cell_of_heap hp 0
  have p1 : w.cell? ⟨p, 1, none⟩ = some (.slice (some ⟨k, 0, none⟩) 2 2) := Lib.cell_of_heap hp 1
  have q3 : w.cell? ⟨f, 3, none⟩ = some (.slice I0 0 cI) := Lib.cell_of_heap hf 3
  obtain ⟨W, hW, hbW, hzW, h0⟩ := r_one_al w #[] 3
  have u0 := (hbW.cell (p := ⟨p, 0, none⟩) (heap_in hp)).trans p0
  have u1 := (hbW.cell (p := ⟨p, 1, none⟩) (heap_in hp)).trans p1
  have u4 : W.cell? ⟨f, 4, none⟩ = some (.slice (some ⟨bb, 0, none⟩) 2 c) := (hbW.cell (p := ⟨f, 4, none⟩) (heap_in hf)).trans (Lib.cell_of_heap hf 4)
  have k0 : W.cell? ⟨k, 0, none⟩ = some (.int .i64 0) := (hbW.cell (p := ⟨k, 0, none⟩) (heap_in hk)).trans (Lib.cell_of_heap hk 0)
  have k1 : W.cell? ⟨k, 1, none⟩ = some (.int .i64 (-1)) := (hbW.cell (p := ⟨k, 1, none⟩) (heap_in hk)).trans (Lib.cell_of_heap hk 1)
  have l0 := (hbW.cell (p := ⟨bb, 0, none⟩) hb).trans hL
  have HW := Lib.hid hW
  clear hW h0 hp hf hk hL
  go_enter Tryd.func18, Tryd.ntmps18
  go_upto_region 2 with fail
  rw [← HW.out]
  go_wp2
  refine wp_loop_rounds 1 ?_
  rw [rounds_succ]
  go_wp2
  refine wp_loop_rounds 3 ?_
  rw [rounds_succ]
  go_wp2
  refine wp_loop_rounds 1 ?_
  rw [rounds_succ]
  go_wp2
  rw [rounds_succ]
  go_wp2
  rw [rounds_succ]
  go_wp2
  go_ret
  exact ⟨_, rfl, hbW⟩
end Go.Proofs.YtglobeajmdieaaaDoor
