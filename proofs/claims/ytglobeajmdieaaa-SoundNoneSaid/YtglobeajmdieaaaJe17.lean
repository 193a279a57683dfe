/-
  sources: the iterator, walked.
-/
import Derived.Test.YtglobeajmdieaaaJe16
import Derived.Laws.EntriesVeiled
namespace Go.Proofs.Ytglobeajmdieaaa
set_option linter.unusedVariables false
set_option linter.unusedSimpArgs false
open Go.RowKit

attribute [local go_sem] Oper.semAt_some

/-- What sources knows of its rounds. -/
structure SrcH (W : World) (bxs sb : Nat) (J : List Nat → (Nat → Prop) → World → Prop) (F0 S : Nat → Prop) : Prop where
  off : ∀ pre F A B, J pre F A → StepOff F A B → J pre F B
  jlt : ∀ pre F A, J pre F A → ∀ k, F k → k < A.heap.size
  slt : ∀ k, S k → k < W.heap.size
  ss : S bxs ∧ S sb
  s0 : ∀ k, S k → ¬ F0 k
variable {W A B : World} {bxs sb n : Nat} {J : List Nat → (Nat → Prop) → World → Prop} {F0 S : Nat → Prop} {ds : List Deferred} {shut shut2 : List Bool} {left left2 o o2 : List Nat} {LV LV2 : Value} {F F2 : Nat → Prop}
theorem FE.cells {base bxs sb L n : Nat} {w : World} {shut : List Bool} {left : List Nat} {LV : Value} (h : Ent base bxs sb L n w shut left LV) {k : Nat} (hk : FE sb L LV k) : w.heap[k]? ≠ some (.deferred (some [])) := by
  rcases hk with rfl | rfl | hk
  · rw [h.sh]; simp
  · rw [h.bl]; simp
  · rcases h.row.2 with ⟨h1, _⟩ | ⟨g, cap, cur, hv, h2, h3, rest⟩
    · rw [h1] at hk; simp [Value.ownBlock] at hk
    · rw [hv] at hk
      simp [Value.ownBlock] at hk
      subst hk
      rw [h3]; simp
theorem foldl_enter_lt (n : Nat) : ∀ (l : List Int) (s : List Bool × List Nat), (∀ x ∈ l, 0 ≤ x ∧ x < n) → (∀ b ∈ s.2, b < n) → ∀ b ∈ (l.foldl (fun s x => enterP x.toNat s) s).2, b < n
  | [], s, _, h => h
  | x :: l, s, hl, h => by
    refine foldl_enter_lt n l (enterP x.toNat s) (fun y hy => hl y (List.mem_cons_of_mem _ hy)) ?_
    intro b hb
    unfold enterP at hb
    split at hb
    · exact h b hb
    · rcases List.mem_cons.1 hb with rfl | hb
      · have := hl x (by simp); omega
      · exact h b hb

end Go.Proofs.Ytglobeajmdieaaa
