/-
  Rows of one's own, while one other block is changed.
-/
import Derived.Test.YtglobeajmdieaaaJe19
namespace Go.Proofs.Ytglobeajmdieaaa
set_option linter.unusedVariables false
set_option linter.unusedSimpArgs false
open Go.RowKit

/-- While all that is older but one block lies as it lay, rows of one's own do. -/
theorem own_far {w w' : World} {base s : Nat} {T : TypeId} {n : Nat} {v : Value} {xs : List Value} (h : w.ownsRow base T 1 v n xs) (hz : w.heap.size ≤ w'.heap.size) (hb : ∀ k, k < w.heap.size → k ≠ s → w'.heap[k]? = w.heap[k]?) (hs : v.ownBlock ≠ some s) : w'.ownsRow base T 1 v n xs := by
  refine ⟨h.1, ?_⟩
  rcases h.2 with h1 | ⟨g, cap, cur, hv, h2, h3, rest⟩
  · exact .inl h1
  · exact .inr ⟨g, cap, cur, hv, h2, (hb g (gr_in h3) (fun e => hs (by rw [hv, ← e]; rfl))).trans h3, rest⟩
end Go.Proofs.Ytglobeajmdieaaa
