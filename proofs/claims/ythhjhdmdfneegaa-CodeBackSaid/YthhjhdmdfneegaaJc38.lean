/-
  A region that draws, whose operations but the last ones only read, some under guards: its head by the cheap step.
-/
import Derived.Test.YthhjhdmdfneegaaJc1
import Derived.StillTailTactics
import Derived.BigQuiet
namespace Go.Proofs.Ythhjhdmdfneegaa
set_option linter.unusedVariables false
set_option linter.unusedSimpArgs false
open Go.RowKit

theorem wpStill_of_quiet {P : Program} {ops : Array Oper} {w : World} {Q : Act → Prop} : ∀ (l : List Oper) (a : Act), wpQuiet P ops (fun w' => w' = w) Q l a → wpStill P ops w Q l a
  | [], a, h => h
  | o :: l, a, h => by
    unfold wpQuiet at h
    unfold wpStill
    split at h
    · next hw =>
      rw [if_pos hw]
      obtain ⟨v, h1, h2⟩ := h
      have h3 := h1 w rfl
      unfold Oper.quietAt at h3
      unfold Oper.still
      generalize (execOp a.eval o).run P w = r at h3 ⊢
      have h4 := wpStill_of_quiet l _ h2
      cases r with
      | ok x w' =>
        cases x with
        | value u =>
          obtain ⟨e1, e2⟩ := h3
          subst e2
          exact ⟨e1, h4⟩
        | skip =>
          obtain ⟨e1, e2⟩ := h3
          subst e2
          exact ⟨e1, h4⟩
        | enter f args =>
          obtain ⟨e1, e2⟩ := h3
          exact ⟨e1, v, e2, h4⟩
        | _ => exact h3.elim
      | _ => exact h3.elim
    · next hw =>
      rw [if_neg hw]
      exact wpStill_of_quiet l _ h
end Go.Proofs.Ythhjhdmdfneegaa
