/-
  A range over a function that yields several values at once: as in the text of one value.
-/
import Derived.Test.YtlejpoofgnenhaaDoG
import Derived.Test.YtlejpoofgnenhaaGrM
namespace Go.Proofs.Ytlejpoofgnenhaa
open Go.RowKit Go.Shelf
set_option linter.unusedVariables false
set_option linter.unusedSimpArgs false

def SepGivs {α : Type} (P : Program) (g : Nat) (lb : Array Value) (enc : α → Array Value) (xs : List α) (S Wr : Nat → Prop) (Post : World → Prop) (W : World) : Prop :=
  ∀ (l : Nat) (J : List α → (Nat → Prop) → World → Prop) (F0 : Nat → Prop),
    (∀ pre F A B, J pre F A → StepOff F A B → J pre F B) →
    (∀ pre F A, J pre F A → ∀ k, F k → k < A.heap.size) →
    (∀ pre x F A, J pre F A → (pre ++ [x]) <+: xs → YieldAt Fence.wide 0 P l (enc x) A fun e B => e = .returned (.bool true) ∧ ∃ F', J (pre ++ [x]) F' B ∧ StepOn F F' A B) →
    (∀ k, F0 k → ¬ S k) → J [] F0 W →
    Calls P g (#[.func (.yield l) #[] #[]] ++ lb) W fun e W' => (∃ v, e = .returned v) ∧ ∃ F', J xs F' W' ∧ Post W' ∧ Framed F0 F' Wr W W'

theorem wp_range_sepv {P : Program} {α : Type} {g : Operand} {ps : Array Tmp} {assign body : Code} {Q : Exit → Act → World → Prop} {a : Act} {w : World} {gf : Nat} {lb : Array Value}
    (hg : a.eval g = .func (.func gf) #[] lb) (eg : ∀ args w, (callFunc gf args).run P w = .ok (.enter gf args) w)
    {enc : α → Array Value} {xs : List α} {S Wr : Nat → Prop} {Post : World → Prop} (hseq : ∀ W1, Below w.heap.size w W1 → SepGivs P gf lb enc xs S Wr Post W1) (hps : ∀ x, (enc x).size = ps.size)
    (hPost : ∀ A B : World, Post A → A.heap.size ≤ B.heap.size → (∀ k, k < w.heap.size → B.heap[k]? = A.heap[k]?) → Post B)
    (I : List α → (Nat → Prop) → World → Prop) (F0 : Nat → Prop)
    (hIoff : ∀ pre F A B, I pre F A → StepOff F A B → I pre F B) (hIlt : ∀ pre F A, I pre F A → ∀ k, F k → k < A.heap.size)
    (hF0 : ∀ k, F0 k → ¬ S k) (hS : ∀ k, S k → k < w.heap.size) (h0 : I [] F0 w) (a₁ : α → Act)
    (hassign : ∀ (l : Nat) (x : α) (W : World) (K : Act → World → Prop), K (a₁ x) W →
      assign.wpIn (Fence.wide.inRound l) 0 P (Exit.then K (fun _ _ _ => False)) { tmps := (ps.zip (enc x)).foldl (fun t (p, v) => t.setIfInBounds p v) a.tmps, defers := [] } W)
    (hbody : ∀ (l : Nat) (pre : List α) (x : α) (F : Nat → Prop) (A : World), I pre F A → (pre ++ [x]) <+: xs → body.wpIn (Fence.wide.inRound l) 0 P (fun e a' B => e = .normal ∧ ∃ F', I (pre ++ [x]) F' B ∧ StepOn F F' A B) (a₁ x) A)
    (hdone : ∀ (D : Nat) (F' : Nat → Prop) (W' : World), I xs F' W' → Post W' → Framed F0 F' Wr w W' → W'.heap[D]? = some (.deferred (some [])) → w.heap.size ≤ D → ¬ F' D → Q .normal { a with defers := { target := .collected D, args := #[] } :: a.defers } W') :
    (Code.rangeFunc g ps assign body).wp P Q a w := by
  refine (wpIn_wide (n := 0)).1 (wpIn_rangeFunc ?_)
  intro fn hfn
  obtain ⟨rec, hrec⟩ : ∃ rec : LoopState → Option Code → Loop, rec = fun st pe => { state := st, pending := pe, fn, tmps := a.tmps, params := ps, assign, body, defers := w.heap.size } := ⟨_, rfl⟩
  obtain ⟨W1, hW1⟩ : ∃ W1, (w.alloc (.deferred (some []))).alloc (.loop (rec .ready none)) = W1 := ⟨_, rfl⟩
  have hL1 : W1.heap[w.heap.size + 1]? = some (.loop (rec .ready none)) := by
    rw [← hW1]; have := World.alloc_heap_new (w.alloc (.deferred (some []))) (.loop (rec .ready none)); rwa [World.size_alloc] at this
  have hK1 : W1.heap[w.heap.size]? = some (.deferred (some [])) := by
    rw [← hW1]; exact (Below.heap_alloc _ _ _ (by simp)).trans (World.alloc_heap_new w _)
  have hb1 : Below w.heap.size w W1 := by
    rw [← hW1]; exact ((Below.refl _ w).alloc (Nat.le_refl _) _).alloc (by simp) _
  have hsz1 : W1.heap.size = w.heap.size + 2 := by rw [← hW1]; simp
  have hI1 : I [] F0 W1 := hIoff _ _ _ _ h0 ⟨hb1.os, hb1.tape, hb1.output, hb1.size, fun k hk => hb1.block k (hIlt _ _ _ h0 k hk)⟩
  have hout : ∀ k, F0 k → k < w.heap.size := fun k hk => hIlt _ _ _ h0 k hk
  refine ⟨w.heap.size + 1, [{ target := .collected w.heap.size, args := #[] }], W1, { target := .fn (.func gf) lb, args := #[.func (.yield (w.heap.size + 1)) #[] #[]] }, W1, gf,
    #[.func (.yield (w.heap.size + 1)) #[] #[]] ++ lb, W1, ?_, ?_, ?_, ?_, fun h => by simp [Fence.wide] at h, ?_⟩
  · rw [← hW1, hrec]; exact run_enterLoop_outer _ _ _ _ _
  · simp only [resolve, hg]
    simp [go_sem]
  · intro f' hf'; trivial
  · simp [invoke, go_sem, eg]
  · refine callsIn_wide.2 ((hseq W1 hb1 (w.heap.size + 1)
      (fun pre F A => ∃ Fu : Nat → Prop, (∀ k, F k ↔ (Fu k ∨ k = w.heap.size + 1 ∨ k = w.heap.size)) ∧ I pre Fu A ∧ ¬ Fu (w.heap.size + 1) ∧ ¬ Fu w.heap.size ∧ A.heap[w.heap.size + 1]? = some (.loop (rec .ready none)) ∧ A.heap[w.heap.size]? = some (.deferred (some [])) ∧ (∀ k, Fu k → F0 k ∨ w.heap.size ≤ k) ∧ w.heap.size + 2 ≤ A.heap.size)
      (fun k => F0 k ∨ k = w.heap.size + 1 ∨ k = w.heap.size) ?_ ?_ ?_ ?_ ?_).mono ?_)
    · rintro pre F A B ⟨Fu, hF, hi, h1, h2, h3, h4, h5, h6⟩ hst
      exact ⟨Fu, hF, hIoff _ _ _ _ hi ⟨hst.os, hst.tape, hst.output, hst.size, fun k hk => hst.block k ((hF k).2 (.inl hk))⟩, h1, h2, (hst.block _ ((hF _).2 (.inr (.inl rfl)))).trans h3, (hst.block _ ((hF _).2 (.inr (.inr rfl)))).trans h4, h5, Nat.le_trans h6 hst.size⟩
    · rintro pre F A ⟨Fu, hF, hi, h1, h2, h3, h4, h5, h6⟩ k hk
      rcases (hF k).1 hk with h | rfl | rfl
      · exact hIlt _ _ _ hi k h
      · omega
      · omega
    · rintro pre x F A ⟨Fu, hF, hi, h1, h2, h3, h4, h5, h6⟩ hpre
      have hy := run_yield (P := P) (args := (enc x)) h3 (by rw [hrec]; simp [hps])
      rw [hrec] at hy
      have hl2 : (A.putObj (w.heap.size + 1) (.loop { rec .ready none with state := .busy })).heap[w.heap.size + 1]? = some (.loop { rec .ready none with state := .busy }) := World.putObj_heap_same (by omega)
      have hi2 : I pre Fu (A.putObj (w.heap.size + 1) (.loop { rec .ready none with state := .busy })) := hIoff _ _ _ _ hi ⟨rfl, rfl, rfl, by simp, fun k hk => World.putObj_heap_other (fun e => h1 (e ▸ hk))⟩
      refine ⟨fn, _, assign, body, hy, roundIn_of_wpIn trivial (hassign _ x A _ ⟨_, run_beginRound h3 (by rw [hrec]), ?_⟩)⟩
      refine wpIn_mono (hbody _ pre x Fu _ hi2 hpre) ?_
      rintro e a3 B ⟨rfl, Fu', hi3, hon⟩
      have hl3 : B.heap[w.heap.size + 1]? = some (.loop { rec .ready none with state := .busy }) := (hon.block _ (by simp; omega) h1).trans hl2
      have hd3 : B.heap[w.heap.size]? = some (.deferred (some [])) := ((hon.block _ (by simp; omega) h2).trans (World.putObj_heap_other (by omega))).trans h4
      have hsB : A.heap.size ≤ B.heap.size := by have := hon.size; simpa using this
      have hend := run_endRound (P := P) none hl3
      have n1 : ¬ Fu' (w.heap.size + 1) := fun e => by
        rcases hon.foot _ e with h | h
        · exact h1 h
        · simp at h; omega
      have n2 : ¬ Fu' w.heap.size := fun e => by
        rcases hon.foot _ e with h | h
        · exact h2 h
        · simp at h; omega
      obtain ⟨r2, hr2⟩ : ∃ r2 : Loop, r2 = { ({ rec .ready none with state := .busy } : Loop) with state := if (none : Option Code).isNone then .ready else .done, pending := none } := ⟨_, rfl⟩
      have hr3 : r2 = rec .ready none := by rw [hr2, hrec]; rfl
      rw [← hr2, hr3] at hend
      refine ⟨_, _, hend, rfl, fun k => Fu' k ∨ k = w.heap.size + 1 ∨ k = w.heap.size, ⟨Fu', fun _ => Iff.rfl, hIoff _ _ _ _ hi3 ⟨rfl, rfl, rfl, by simp, fun k hk => World.putObj_heap_other (fun e => n1 (e ▸ hk))⟩, n1, n2, World.putObj_heap_same (by omega), (World.putObj_heap_other (by omega)).trans hd3, fun k hk => ?_, by simp; omega⟩, ?_⟩
      · rcases hon.foot k hk with h | h
        · exact h5 k h
        · simp at h; right; omega
      · refine ⟨hon.os, hon.tape, hon.output, by simpa using hsB, fun k hk hn => ?_, fun k hk => ?_⟩
        · have hk1 : k ≠ w.heap.size + 1 := fun e => hn ((hF k).2 (.inr (.inl e)))
          have hk2 : ¬ Fu k := fun e => hn ((hF k).2 (.inl e))
          exact (World.putObj_heap_other hk1).trans ((hon.block k (by simpa using hk) hk2).trans (World.putObj_heap_other hk1))
        · rcases hk with h | h
          · rcases hon.foot k h with h' | h'
            · exact .inl ((hF k).2 (.inl h'))
            · exact .inr (by simpa using h')
          · exact .inl ((hF k).2 (.inr h))
    · rintro k (h | rfl | rfl)
      · exact hF0 k h
      · intro e; have := hS _ e; omega
      · intro e; have := hS _ e; omega
    · exact ⟨F0, fun _ => Iff.rfl, hI1, fun e => by have := hout _ e; omega, fun e => by have := hout _ e; omega, hL1, hK1, fun k hk => .inl hk, by omega⟩
    · rintro e W2 ⟨⟨v, rfl⟩, F', ⟨Fu, hF, hi, h1, h2, h3, h4, h5, h6⟩, hp, hfr⟩
      have hend := run_endLoop (P := P) h3 (by rw [hrec]; simp)
      rw [hrec] at hend
      refine ⟨none, _, hend, hdone w.heap.size Fu _ (hIoff _ _ _ _ hi ⟨rfl, rfl, rfl, by simp, fun k hk => World.putObj_heap_other (fun e => h1 (e ▸ hk))⟩) (hPost _ _ hp (by simp) (fun k hk => World.putObj_heap_other (by omega))) ?_ ((World.putObj_heap_other (by omega)).trans h4) (Nat.le_refl _) h2⟩
      refine ⟨hfr.os.trans hb1.os, hfr.tape.trans hb1.tape, hfr.output.trans hb1.output, by have := hfr.size; simp; omega, fun k hk hn hw => ?_, fun k hk => h5 k hk⟩
      exact (World.putObj_heap_other (by omega)).trans ((hfr.block k (by omega) (fun e => by
        rcases e with e | e | e
        · exact hn e
        · omega
        · omega) hw).trans (hb1.block k hk))
end Go.Proofs.Ytlejpoofgnenhaa
