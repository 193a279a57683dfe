/-
  sources: the iterator, walked.
  Ways back: by Preds, by rows; sources is made.
  Ways back among some blocks, as their ends go.
-/
import Derived.Test.YthhjhdmdfneegaaJc35
import Derived.Laws.EntriesVeiled
import Derived.Shelf.Abstract
namespace Go.Proofs.Ythhjhdmdfneegaa
set_option linter.unusedVariables false
set_option linter.unusedSimpArgs false
open Go.RowKit

attribute [local go_sem] Oper.semAt_some

/-- What sources knows of its rounds. -/
structure SrcH (W : World) (bxs sb : Nat) (J : List Nat → (Nat → Prop) → World → Prop) (F0 S : Nat → Prop) : Prop where
  off : ∀ pre F A B, J pre F A → StepOff F A B → J pre F B
  jlt : ∀ pre F A, J pre F A → ∀ k, F k → k < A.heap.size
  slt : ∀ k, S k → k < W.heap.size
  ss : S bxs ∧ S sb
  s0 : ∀ k, S k → ¬ F0 k
variable {W A B : World} {bxs sb n : Nat} {J : List Nat → (Nat → Prop) → World → Prop} {F0 S : Nat → Prop} {ds : List Deferred} {shut shut2 : List Bool} {left left2 o o2 : List Nat} {LV LV2 : Value} {F F2 : Nat → Prop}
theorem FE.cells {base bxs sb L n : Nat} {w : World} {shut : List Bool} {left : List Nat} {LV : Value} (h : Ent base bxs sb L n w shut left LV) {k : Nat} (hk : FE sb L LV k) : w.heap[k]? ≠ some (.deferred (some [])) := by
  rcases hk with rfl | rfl | hk
  · rw [h.sh]; simp
  · rw [h.bl]; simp
  · rcases h.row.2 with ⟨h1, _⟩ | ⟨g, cap, cur, hv, h2, h3, rest⟩
    · rw [h1] at hk; simp [Value.ownBlock] at hk
    · rw [hv] at hk
      simp [Value.ownBlock] at hk
      subst hk
      rw [h3]; simp
theorem foldl_enter_lt (n : Nat) : ∀ (l : List Int) (s : List Bool × List Nat), (∀ x ∈ l, 0 ≤ x ∧ x < n) → (∀ b ∈ s.2, b < n) → ∀ b ∈ (l.foldl (fun s x => enterP x.toNat s) s).2, b < n
  | [], s, _, h => h
  | x :: l, s, hl, h => by
    refine foldl_enter_lt n l (enterP x.toNat s) (fun y hy => hl y (List.mem_cons_of_mem _ hy)) ?_
    intro b hb
    unfold enterP at hb
    split at hb
    · exact h b hb
    · rcases List.mem_cons.1 hb with rfl | hb
      · have := hl x (by simp); omega
      · exact h b hb

end Go.Proofs.Ythhjhdmdfneegaa
namespace Go.Proofs.Ythhjhdmdfneegaa
set_option linter.unusedVariables false
set_option linter.unusedSimpArgs false
open Go.RowKit Go.Shelf

end Go.Proofs.Ythhjhdmdfneegaa
namespace Go.Proofs.Ythhjhdmdfneegaa
set_option linter.unusedVariables false
set_option linter.unusedSimpArgs false
open Go.RowKit Go.Shelf

theorem infoRowsG : (Try.prog.info? 39).map (fun i => (i.zero, i.size, i.bytes)) = some (some (.slice none 0 0), 1, 24) := by kernel_rfl
/-- The rows of blocks from which one comes. -/
def famE (RV : Value) (rs : List (Value × List Int)) : Nat → GRw
  | 0 => ⟨39, 1, RV, rs.length, rs.map (·.1)⟩
  | k + 1 => match rs[k]? with
    | none => rowNo
    | some r => ⟨3, 1, r.1, r.2.length, intsV r.2⟩
theorem famE_succ (RV : Value) (rs : List (Value × List Int)) (k : Nat) : famE RV rs (k + 1) = match rs[k]? with
    | none => rowNo
    | some r => ⟨3, 1, r.1, r.2.length, intsV r.2⟩ := rfl
theorem famE_row (RV : Value) (rs : List (Value × List Int)) (j : Nat) (r : Value × List Int) (h : rs[j]? = some r) : famE RV rs (j + 1) = ⟨3, 1, r.1, r.2.length, intsV r.2⟩ := by
  rw [famE_succ, h]
theorem famE_set (RV : Value) (rs : List (Value × List Int)) (j : Nat) (r r2 : Value × List Int) (h : rs[j]? = some r) :
    upG (upG (famE RV rs) (j + 1) ⟨3, 1, r2.1, r2.2.length, intsV r2.2⟩) 0 ⟨39, 1, RV, rs.length, (rs.map (·.1)).set j r2.1⟩ = famE RV (rs.set j r2) := by
  have hj : j < rs.length := (List.getElem?_eq_some_iff.1 h).1
  funext k
  cases k with
  | zero => rw [upG_at]; simp [famE, List.map_set]
  | succ k =>
    rw [upG_off _ _ _ _ (by omega)]
    by_cases hk : k = j
    · subst hk
      rw [upG_at, famE_row _ _ _ r2 (by simp [hj])]
    · rw [upG_off _ _ _ _ (by omega), famE_succ, famE_succ]
      rw [List.getElem?_set_ne (fun e => hk e.symm)]
theorem GNs_same {n0 : Nat} {w w' : World} {v : Value} {l : List Int} (h : GNs n0 w v l) (hb : ∀ k, k < n0 → w'.heap[k]? = w.heap[k]?) : GNs n0 w' v l := by
  obtain ⟨A, c, hv, hr⟩ := h
  refine ⟨A, c, hv, fun hp => ?_⟩
  obtain ⟨b, o, hA, hbn, hc⟩ := hr hp
  exact ⟨b, o, hA, hbn, fun j x hx => (World.cell?_of_block (a := ⟨b, o + j, none⟩) (hb b hbn)).trans (hc j x hx)⟩
/-- The edges of blocks, in the order of the blocks. -/
def edgesOf (g : List GB) (l : List Nat) : List (Nat × Int) := l.flatMap fun b => (tosG g b).map fun x => (b, x)
theorem edgesOf_snoc (g : List GB) (l : List Nat) (b : Nat) : edgesOf g (l ++ [b]) = edgesOf g l ++ (tosG g b).map fun x => (b, x) := by simp [edgesOf]
end Go.Proofs.Ythhjhdmdfneegaa
