/-
  Programs in single assignment: small functions, and lists that are empty.
-/
import Derived.Test.YtglobeajmdieaaaDoorChecked
import Derived.WalkKit
import Derived.Defers
import Derived.Below
import Derived.Lib.Hide
import Derived.Lib.Builder
import Derived.Outline
import Derived.Deep.RegionHeld3
import Derived.Deep.DeepCutAuto
import Derived.Deep.AppendLies
import Derived.OwnWalk
namespace Go.Proofs.YtglobeajmdieaaaDoor
open Go.RowKit
set_option linter.unusedVariables false
set_option linter.unusedSimpArgs false

theorem r_one_al (w : World) (x : Array Value) (T : TypeId) : ∃ W, W = w.alloc (.cells x T) ∧ Below w.heap.size w W ∧ W.heap.size = w.heap.size + 1 ∧ W.heap[w.heap.size]? = some (.cells x T (0, 0)) :=
  ⟨_, rfl, (Below.refl _ _).alloc (Nat.le_refl _) _, by simp, heap_alloc_new w _⟩

set_option maxRecDepth 100000 in
theorem ret_any (v : Int) (w : World) :
    Calls Tryd.prog 9 #[.int .i64 v] w fun e w' => e = .returned (.agg #[.int .i64 3, .int .i64 v, .slice none 0 0]) ∧ Below w.heap.size w w' := by
  go_enter Tryd.func9, Tryd.ntmps9
  go_wp2
  obtain ⟨W, hW, hbW, hzW, h0⟩ := r_one_al w #[.int .i64 3, .int .i64 v, .slice none 0 0] 32
  rw [← hW]
  have c0 : W.cell? ⟨w.heap.size, 0, none⟩ = some (.int .i64 3) := Lib.cell_of_heap h0 0
  have c1 : W.cell? ⟨w.heap.size, 1, none⟩ = some (.int .i64 v) := Lib.cell_of_heap h0 1
  have c2 : W.cell? ⟨w.heap.size, 2, none⟩ = some (.slice none 0 0) := Lib.cell_of_heap h0 2
  clear hW
  refine ⟨rfl, _, by simp [results, Tryd.results9, go_sem, c0, c1, c2], rfl, hbW⟩

set_option maxRecDepth 100000 in
theorem cloneI_nil (w : World) :
    Calls Tryd.prog 19 #[.slice none 0 0] w fun e w' => e = .returned (.slice none 0 0) ∧ w' = w := by
  have hq : ∀ w, (binOp .eql 22 (.slice none 0 0) (.slice none 0 0)).run Tryd.prog w = .ok (.bool true) w := fun _ => by kernel_rfl
  go_enter Tryd.func19, Tryd.ntmps19
  go_wp2
  exact ⟨rfl, _, by simp [results, Tryd.results19, go_sem], rfl, rfl⟩

set_option maxRecDepth 100000 in
theorem mappedI_nil (A : Option Addr) (c : Nat) (F : Value) (w : World) :
    Calls Tryd.prog 36 #[.slice A 0 c, F] w fun e w' => ∃ B, e = .returned (.slice B 0 0) ∧ Below w.heap.size w w' := by
  have hmk : ∀ w : World, (Instr.makeSlice 22 (.int .i64 0) (.int .i64 0)).run Tryd.prog w = .ok (.slice (some ⟨w.heap.size, 0, none⟩) 0 0) (w.alloc (.cells #[] 3)) := fun _ => by kernel_rfl
  go_enter Tryd.func36, Tryd.ntmps36
  go_wp2
  refine wp_loop_rounds 1 ?_
  rw [rounds_succ]
  go_wp2
  go_ret
  exact ⟨_, rfl, (Below.refl _ _).alloc (Nat.le_refl _) _⟩

set_option maxRecDepth 100000 in
theorem without_nil (A : Option Addr) (c : Nat) (F : Value) (w : World) :
    Calls Tryd.prog 28 #[.slice A 0 c, F] w fun e w' => e = .returned (.slice none 0 0) ∧ w' = w := by
  go_enter Tryd.func28, Tryd.ntmps28
  go_wp2
  refine wp_loop_rounds 1 ?_
  rw [rounds_succ]
  go_wp2
  go_ret
  exact ⟨rfl, rfl⟩

set_option maxRecDepth 100000 in
theorem renamedAll_nil (V : Option Addr) (n d : Nat) (A : Option Addr) (c : Nat) (w : World) :
    Calls Tryd.prog 27 #[.slice V n d, .slice A 0 c] w fun e w' => ∃ B, e = .returned (.slice B 0 0) ∧ Below w.heap.size w w' := by
  obtain ⟨W, hW, hbW, hzW, h0⟩ := r_one_al w #[.slice V n d] 22
  have hM := fun F => mappedI_nil A c F W
  have hmf : ∀ (fn : Fn) (first cap : Array Value) (w : World), (Instr.makeFunc fn first cap).run Tryd.prog w = .ok (.func fn first cap) w := fun _ _ _ _ => rfl
  have HW := Lib.hid hW
  clear hW
  go_enter Tryd.func27, Tryd.ntmps27
  go_upto_region 1 with fail
  rw [← HW.out]
  go_wp2_with (go_at_call 36; refine (hM _).mono ?_; rintro e w1 ⟨B, rfl, hb⟩)
  go_ret
  exact ⟨B, rfl, hbW.trans (hb.mono (by omega))⟩

set_option maxRecDepth 100000 in
theorem renamed_none (V : Option Addr) (n d : Nat) (w : World) :
    Calls Tryd.prog 26 #[.slice V n d, .int .i64 (-1)] w fun e w' => e = .returned (.int .i64 (-1)) ∧ w' = w := by
  go_enter Tryd.func26, Tryd.ntmps26
  go_wp2
  go_ret
  exact ⟨rfl, rfl⟩

theorem pure_any (op : Int) (w : World) :
    Calls Tryd.prog 10 #[.int .i64 op] w fun e w' => e = .returned (.bool (!(op == 7 || op == 8) && (decide (1 ≤ op) && decide (op ≤ 28)))) ∧ w' = w := by
  rcases h1 : (op == 7) with _ | _ <;> rcases h2 : (op == 8) with _ | _ <;> rcases h3 : decide (1 ≤ op) with _ | _ <;> rcases h4 : decide (op ≤ 28) with _ | _
  all_goals
    go_enter Tryd.func10, Tryd.ntmps10
    go_wp2
    go_ret
    try exact ⟨rfl, rfl⟩

end Go.Proofs.YtglobeajmdieaaaDoor
