/-
  Ways back: by Preds, by rows; sources is made.
-/
import Derived.Test.YtlejpoofgnenhaaGrQ
import Derived.Shelf.Abstract
namespace Go.Proofs.Ytlejpoofgnenhaa
open Go.RowKit Go.Shelf
set_option linter.unusedVariables false
set_option linter.unusedSimpArgs false

theorem enters_values : ∀ args w, (callFunc 57 args).run Try.prog w = .ok (.enter 57 args) w := enters_of Try.func57 (by kernel_rfl) rfl
theorem enters_byEnds : ∀ args w, (callFunc 41 args).run Try.prog w = .ok (.enter 41 args) w := enters_of Try.func41 (by kernel_rfl) rfl
theorem enters_sources : ∀ args w, (callFunc 44 args).run Try.prog w = .ok (.enter 44 args) w := enters_of Try.func44 (by kernel_rfl) rfl

set_option maxRecDepth 100000 in
theorem values_g (A : Option Addr) (n c : Nat) (w : World) :
    Calls Try.prog 42 #[.slice A n c] w fun e w' => e = .returned (.func (.func 57) #[] #[.pointer (some ⟨w.heap.size, 0, none⟩)]) ∧ Below w.heap.size w w' ∧ w'.heap.size = w.heap.size + 1 ∧ w'.heap[w.heap.size]? = some (.cells #[.slice A n c] 23 (0, 0)) := by
  obtain ⟨W, hW, hbW, hzW, h0W⟩ := gr_one w #[.slice A n c] 23
  have hmf : ∀ (fn : Fn) (first cap : Array Value) (w : World), (Instr.makeFunc fn first cap).run Try.prog w = .ok (.func fn first cap) w := fun _ _ _ _ => rfl
  have H := Lib.hid (And.intro hbW (And.intro hzW h0W))
  have HW := Lib.hid hW
  clear hbW hzW h0W hW
  go_enter Try.func42, Try.ntmps42
  go_upto_region 1 with fail
  rw [← HW.out]
  go_wp2
  go_ret
  exact ⟨rfl, H.out⟩

set_option maxRecDepth 100000 in
set_option maxHeartbeats 2000000 in
/-- sources is made: three boxes. -/
theorem sources_g (gf : Nat) (lb : Array Value) (to_ sb n : Nat) (w : World) :
    Calls Try.prog 29 #[.func (.func gf) #[] lb, .int .i64 (to_ : Int), .slice (some ⟨sb, 0, none⟩) n n] w fun e w' => e = .returned (.func (.func 44) #[] #[.pointer (some ⟨w.heap.size + 2, 0, none⟩), .pointer (some ⟨w.heap.size + 1, 0, none⟩), .pointer (some ⟨w.heap.size, 0, none⟩)]) ∧ Below w.heap.size w w' ∧ w'.heap.size = w.heap.size + 3 ∧
      w'.heap[w.heap.size]? = some (.cells #[.func (.func gf) #[] lb] 53 (0, 0)) ∧ w'.heap[w.heap.size + 1]? = some (.cells #[.int .i64 (to_ : Int)] 3 (0, 0)) ∧ w'.heap[w.heap.size + 2]? = some (.cells #[.slice (some ⟨sb, 0, none⟩) n n] 32 (0, 0)) := by
  obtain ⟨W1, hW1, hb1, hz1, h01⟩ := gr_one w #[.func (.func gf) #[] lb] 53
  obtain ⟨W2, hW2, hb2, hz2, h02⟩ := gr_one W1 #[.int .i64 (to_ : Int)] 3
  obtain ⟨W3, hW3, hb3, hz3, h03⟩ := gr_one W2 #[.slice (some ⟨sb, 0, none⟩) n n] 32
  have hmf : ∀ (fn : Fn) (first cap : Array Value) (w : World), (Instr.makeFunc fn first cap).run Try.prog w = .ok (.func fn first cap) w := fun _ _ _ _ => rfl
  have hend : Below w.heap.size w W3 ∧ W3.heap.size = w.heap.size + 3 ∧ W3.heap[w.heap.size]? = some (.cells #[.func (.func gf) #[] lb] 53 (0, 0)) ∧ W3.heap[w.heap.size + 1]? = some (.cells #[.int .i64 (to_ : Int)] 3 (0, 0)) ∧ W3.heap[w.heap.size + 2]? = some (.cells #[.slice (some ⟨sb, 0, none⟩) n n] 32 (0, 0)) := by
    refine ⟨(hb1.trans (hb2.mono (by omega))).trans (hb3.mono (by omega)), by omega, (hb3.block _ (by omega)).trans ((hb2.block _ (by omega)).trans h01), ?_, ?_⟩
    · rw [← hz1]; exact (hb3.block _ (by omega)).trans h02
    · rw [show w.heap.size + 2 = W2.heap.size by omega]; exact h03
  have H := Lib.hid hend
  have HW3 : Hid (W3 = ((w.alloc (.cells #[.func (.func gf) #[] lb] 53)).alloc (.cells #[.int .i64 (to_ : Int)] 3)).alloc (.cells #[.slice (some ⟨sb, 0, none⟩) n n] 32)) := Lib.hid (by rw [hW3, hW2, hW1])
  clear hend hb1 hb2 hb3 hz1 hz2 hz3 h01 h02 h03 hW1 hW2 hW3
  go_enter Try.func29, Try.ntmps29
  go_upto_region 1 with fail
  rw [← HW3.out]
  go_wp2
  go_ret
  exact ⟨rfl, H.out⟩
end Go.Proofs.Ytlejpoofgnenhaa
