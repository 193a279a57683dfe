/-
  graph.Places.
-/
import Derived.Test.YthjlpbglnnebkaaGrG
import Derived.Lib.MinMax
namespace Go.Proofs.Ythjlpbglnnebkaa
open Go.RowKit
set_option linter.unusedVariables false
set_option linter.unusedSimpArgs false

/-- From here on: of each block the last place. -/
def placeP : List Int → Nat → List Int → List Int
  | [], _, acc => acc
  | b :: l, i, acc => placeP l (i + 1) (if 0 ≤ b ∧ b < acc.length then acc.set b.toNat (i : Int) else acc)
def placesP (l : List Int) (n : Nat) : List Int := placeP l 0 (List.replicate n (-1))
theorem placeP_len : ∀ (l : List Int) (i : Nat) (acc : List Int), (placeP l i acc).length = acc.length
  | [], _, _ => rfl
  | b :: l, i, acc => by
    unfold placeP
    rw [placeP_len l]
    split <;> simp
def minusV (n i : Nat) : List Value := List.replicate i (Value.int .i64 (-1)) ++ List.replicate (n - i) (Value.int .i64 0)
theorem minusV_step (n i : Nat) (h : i < n) : (minusV n i).set i (.int .i64 (-1)) = minusV n (i + 1) := by
  unfold minusV
  rw [List.set_append_right _ _ (by simp), List.length_replicate, Nat.sub_self, show n - i = (n - (i + 1)) + 1 by omega, List.replicate_succ, List.set_cons_zero, List.replicate_succ' (n := i), List.append_assoc]
  rfl
theorem minusV_end (n : Nat) : minusV n n = intsV (List.replicate n (-1)) := by simp [minusV, intsV]

end Go.Proofs.Ythjlpbglnnebkaa
