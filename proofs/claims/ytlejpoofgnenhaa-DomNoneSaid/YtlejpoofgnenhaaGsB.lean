/-
  A row of numbers that comes in.
-/
import Derived.Test.YtlejpoofgnenhaaGrA
import Derived.ProofKit
import Derived.OpenShut
import Derived.ChangeSame
import Derived.ChangeSlices
namespace Go.Proofs.Ytlejpoofgnenhaa
open Go.RowKit Go.ChangeShapes Go.WideShapes Go.ChangeAt
set_option linter.unusedVariables false

theorem gr_add_at (g o k : Nat) : (⟨g, o, none⟩ : Addr).add k = ⟨g, o + k, none⟩ := by
  unfold Addr.add
  by_cases h : k = 0 <;> simp [h]
theorem open_gns {H : Type} {enc : TypeId × Value → H} {w : World} {fuel : Nat} {cs : List Value} {x : DataW H × List MemPlace} (h : DataW.trod enc Try.prog w 0 (fun _ => true) true fuel 23 cs = some x) :
    ∃ (A : Option Addr) (len cap : Nat) (l : List Int), cs = [.slice A len cap] ∧ len ≤ cap ∧ cap ≤ maxLen ∧ (∀ y ∈ l, InG y) ∧ GNs w.heap.size w (.slice A len cap) l := by
  rcases open_ints Try.underlying23 Try.underlying3 (by kernel_rfl) h with ⟨h0, _⟩ | ⟨a, len, cap, zs, hcs, hb, hl, hm, hzl, hx, hc, hw⟩
  · exact ⟨none, 0, 0, [], h0, by omega, by unfold maxLen; omega, (fun y hy => by cases hy), ⟨none, 0, rfl, fun h => by simp at h⟩⟩
  · simp only [if_true] at hzl
    have hll : (zs.take len).length = len := by rw [List.length_take]; omega
    refine ⟨some a, len, cap, zs.take len, hcs, hl, hm, fun y hy => ?_, ⟨some a, cap, by rw [hll], fun hp => ?_⟩⟩
    · have := hw y (List.mem_of_mem_take hy)
      unfold Lit.wf at this
      rw [Bool.and_eq_true] at this
      exact ⟨of_decide_eq_true this.1, of_decide_eq_true this.2⟩
    · rw [hll] at hp
      have c0 := hc 0 (by omega)
      have hs : a.spot = none := World.cell?_spot (a := a) (by simpa [Addr.add] using c0)
      obtain ⟨g, o, sp⟩ := a
      simp only at hs
      subst hs
      refine ⟨g, o, rfl, ?_, fun j y hy => ?_⟩
      · rcases Nat.lt_or_ge g w.heap.size with h' | h'
        · exact h'
        · rw [gr_add_at] at c0
          simp only [World.cell?] at c0
          rw [Array.getElem?_eq_none h'] at c0
          simp at c0
      · rw [List.getElem?_take] at hy
        split at hy
        · have h1 := (List.getElem?_eq_some_iff.1 hy).1
          have := hc j h1
          rw [gr_add_at] at this
          rw [this]
          simp [List.getD, hy]
        · cases hy
end Go.Proofs.Ytlejpoofgnenhaa
