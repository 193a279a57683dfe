/-
  A function in memory: whether it has a number.
-/
import Derived.Test.YtglobeajmdieaaaDoorIpT
namespace Go.Proofs.YtglobeajmdieaaaDoor
open Go.RowKit
set_option linter.unusedVariables false
set_option linter.unusedSimpArgs false

set_option maxHeartbeats 2000000 in
theorem hasF_any (E n c : Nat) (A : Option Addr) (id : Int) (w : World) (h0 : InR id) (hn : n ≤ maxLen) (h3 : w.cell? ⟨E, 3, none⟩ = some (.slice A n c)) :
    Calls Tryd.prog 12 #[.pointer (some ⟨E, 0, none⟩), .int .i64 id] w fun e w' => e = .returned (.bool (decide (0 ≤ id ∧ id < n))) ∧ w' = w := by
  obtain ⟨a, b⟩ := h0
  unfold maxLen at hn
  go_enter Tryd.func12, Tryd.ntmps12
  by_cases h : 0 ≤ id
  · by_cases h' : id < n
    · go_wp2
      go_ret
      exact ⟨by simp [h, h'], rfl⟩
    · go_wp2
      go_ret
      exact ⟨by simp [h, h'], rfl⟩
  · go_wp2
    go_ret
    exact ⟨by simp; omega, rfl⟩
end Go.Proofs.YtglobeajmdieaaaDoor
