/-
  Whether two rows are the same; whether a function can be gone through.
-/
import Derived.Test.YthjlpbglnnebkaaGrA
namespace Go.Proofs.Ythjlpbglnnebkaa
open Go.RowKit
set_option linter.unusedVariables false
set_option linter.unusedSimpArgs false

theorem below_dr {B : Nat} {a w : World} (h : Below B a w) (n : Nat) : Below B a (w.drewN n) := ⟨h.os, h.tape, h.output, h.size, h.block⟩
theorem int_ne {x y : Int} (h : (x == y) = false) : x ≠ y := fun e => by rw [e] at h; simp at h

def allTo (g : List GB) (i : Nat) : Prop := ∀ j d, j < i → g[j]? = some d → ∀ t ∈ d.to_, hasG g.length t = true
theorem wholeG_true {g : List GB} (h : allTo g g.length) : wholeG g = decide (0 < g.length) := by
  unfold wholeG
  have : (g.all fun k => k.to_.all fun t => hasG g.length t) = true := by
    rw [List.all_eq_true]
    intro d hd
    rw [List.all_eq_true]
    intro t ht
    obtain ⟨j, hj, rfl⟩ := List.getElem_of_mem hd
    exact h j _ hj (List.getElem?_eq_getElem hj) t ht
  rw [this, Bool.true_and]
theorem wholeG_false {g : List GB} {j : Nat} {d : GB} {t : Int} (hd : g[j]? = some d) (ht : t ∈ d.to_) (h : hasG g.length t = false) : wholeG g = false := by
  unfold wholeG
  have : (g.all fun k => k.to_.all fun t => hasG g.length t) = false := by
    rw [List.all_eq_false]
    refine ⟨d, List.mem_of_getElem? hd, ?_⟩
    intro e
    rw [List.all_eq_true] at e
    have := e t ht
    rw [h] at this
    cases this
  rw [this, Bool.false_and]
theorem wholeG_all {g : List GB} (h : wholeG g = true) : 0 < g.length ∧ ∀ (j : Nat) (d : GB), g[j]? = some d → ∀ t ∈ d.to_, 0 ≤ t ∧ t < g.length := by
  unfold wholeG at h
  rw [Bool.and_eq_true, List.all_eq_true] at h
  refine ⟨of_decide_eq_true h.2, fun j d hd t ht => ?_⟩
  have h1 := h.1 d (List.mem_of_getElem? hd)
  rw [List.all_eq_true] at h1
  exact of_decide_eq_true (h1 t ht)

end Go.Proofs.Ythjlpbglnnebkaa
