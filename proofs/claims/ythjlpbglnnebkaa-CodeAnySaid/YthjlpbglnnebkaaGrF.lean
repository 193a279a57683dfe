/-
  A row is reversed.
-/
import Derived.Test.YthjlpbglnnebkaaGrE
namespace Go.Proofs.Ythjlpbglnnebkaa
open Go.RowKit
set_option linter.unusedVariables false
set_option linter.unusedSimpArgs false

/-- The first i and the last i exchanged. -/
def revTo (xs : List Value) (i : Nat) : List Value := xs.mapIdx fun j x => if j < i ∨ xs.length - 1 - i < j then xs.getD (xs.length - 1 - j) x else x
theorem revTo_len (xs : List Value) (i : Nat) : (revTo xs i).length = xs.length := by simp [revTo]
theorem revTo_zero (xs : List Value) : revTo xs 0 = xs := by
  apply List.ext_getElem (by simp [revTo])
  intro j h1 h2
  simp [revTo]
  intro h
  omega
theorem revTo_at (xs : List Value) (i j : Nat) (h : ¬ (j < i ∨ xs.length - 1 - i < j)) : (revTo xs i)[j]? = xs[j]? := by
  unfold revTo
  rw [List.getElem?_mapIdx]
  cases hx : xs[j]? with
  | none => rfl
  | some x => simp [h]
theorem revTo_step (xs : List Value) (i : Nat) (x y : Value) (hi : 2 * i + 1 < xs.length) (hx : xs[i]? = some x) (hy : xs[xs.length - 1 - i]? = some y) : ((revTo xs i).set i y).set (xs.length - 1 - i) x = revTo xs (i + 1) := by
  apply List.ext_getElem?
  intro j
  rw [List.getElem?_set, List.getElem?_set]
  simp only [List.length_set, revTo_len]
  unfold revTo
  rw [List.getElem?_mapIdx, List.getElem?_mapIdx]
  by_cases h1 : xs.length - 1 - i = j
  · subst h1
    rw [if_pos rfl, if_pos (by omega), hy]
    simp only [Option.map_some]
    rw [if_pos (by right; omega), show xs.length - 1 - (xs.length - 1 - i) = i by omega, List.getD, hx]
    rfl
  · rw [if_neg h1]
    by_cases h2 : i = j
    · subst h2
      rw [if_pos rfl, if_pos (by omega), hx]
      simp only [Option.map_some]
      rw [if_pos (by left; omega), List.getD, hy]
      rfl
    · rw [if_neg h2]
      cases xs[j]? with
      | none => rfl
      | some z =>
        simp only [Option.map_some]
        have e : (j < i ∨ xs.length - 1 - i < j) ↔ (j < i + 1 ∨ xs.length - 1 - (i + 1) < j) := by omega
        by_cases h3 : j < i ∨ xs.length - 1 - i < j
        · rw [if_pos h3, if_pos (e.1 h3)]
        · rw [if_neg h3, if_neg (fun h => h3 (e.2 h))]
theorem revTo_end (xs : List Value) (i : Nat) (hi : xs.length ≤ 2 * i + 1) : revTo xs i = xs.reverse := by
  apply List.ext_getElem? 
  intro j
  unfold revTo
  rw [List.getElem?_mapIdx]
  by_cases hj : j < xs.length
  · rw [List.getElem?_reverse hj, List.getElem?_eq_getElem hj]
    simp only [Option.map_some]
    by_cases h : j < i ∨ xs.length - 1 - i < j
    · rw [if_pos h, List.getD, List.getElem?_eq_getElem (by omega : xs.length - 1 - j < xs.length)]
      rfl
    · rw [if_neg h]
      have : xs.length - 1 - j = j := by omega
      rw [this, List.getElem?_eq_getElem hj]
  · rw [List.getElem?_eq_none (by omega), List.getElem?_eq_none (by rw [List.length_reverse]; omega)]
    rfl

theorem grown_tr {a b c : World} {row : Option Nat} (h : a.grownBy b row) (k : b.grownBy c row) : a.grownBy c row :=
  ⟨k.os.trans h.os, k.tape.trans h.tape, k.output.trans h.output, Nat.le_trans h.size k.size, fun i hi hn => (k.block i (Nat.lt_of_lt_of_le hi h.size) hn).trans (h.block i hi hn)⟩
theorem grown_dr {a b : World} {row : Option Nat} (h : a.grownBy b row) : a.grownBy b.drew row := ⟨h.os, h.tape, h.output, h.size, h.block⟩

end Go.Proofs.Ythjlpbglnnebkaa
