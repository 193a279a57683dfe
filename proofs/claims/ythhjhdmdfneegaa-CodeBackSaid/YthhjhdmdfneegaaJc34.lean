/-
  A range over a function, whose iterator keeps a state of its own in memory: which blocks the rounds hold is carried along; what is not theirs they leave, and the iterator leaves what is theirs.
  Iterators: over a row of numbers.
  sources: a block is entered; over plain data; what a way back gives.
-/
import Derived.Test.YthhjhdmdfneegaaJc33
import Derived.RangeFuncNested
import Derived.RangeFuncBound
import Derived.RangeFuncCalls
import Derived.RangeFuncLeaves
import Derived.OwnWalkIn
import Derived.TacticsInMore
namespace Go.Proofs.Ythhjhdmdfneegaa
set_option linter.unusedVariables false
set_option linter.unusedSimpArgs false
open Go.RowKit

/-- A step of the iterator: what is in F is as it was. -/
structure StepOff (F : Nat → Prop) (A B : World) : Prop where
  os : B.os = A.os
  tape : B.tape = A.tape
  output : B.output = A.output
  size : A.heap.size ≤ B.heap.size
  block : ∀ k, F k → B.heap[k]? = A.heap[k]?
theorem StepOff.refl (F : Nat → Prop) (A : World) : StepOff F A A := ⟨rfl, rfl, rfl, Nat.le_refl _, fun _ _ => rfl⟩
theorem StepOff.trans {F : Nat → Prop} {A B C : World} (h : StepOff F A B) (k : StepOff F B C) : StepOff F A C :=
  ⟨k.os.trans h.os, k.tape.trans h.tape, k.output.trans h.output, Nat.le_trans h.size k.size, fun i hi => (k.block i hi).trans (h.block i hi)⟩
/-- A round: what is not in F is as it was; F' is F and new blocks. -/
structure StepOn (F F' : Nat → Prop) (A B : World) : Prop where
  os : B.os = A.os
  tape : B.tape = A.tape
  output : B.output = A.output
  size : A.heap.size ≤ B.heap.size
  block : ∀ k, k < A.heap.size → ¬ F k → B.heap[k]? = A.heap[k]?
  foot : ∀ k, F' k → F k ∨ A.heap.size ≤ k
/-- The whole walk: what is neither the rounds' nor in Wr is as it was. -/
structure Framed (F0 F' Wr : Nat → Prop) (A B : World) : Prop where
  os : B.os = A.os
  tape : B.tape = A.tape
  output : B.output = A.output
  size : A.heap.size ≤ B.heap.size
  block : ∀ k, k < A.heap.size → ¬ F0 k → ¬ Wr k → B.heap[k]? = A.heap[k]?
  foot : ∀ k, F' k → F0 k ∨ A.heap.size ≤ k
def SepGives {α : Type} (P : Program) (g : Nat) (lb : Array Value) (enc : α → Value) (xs : List α) (S Wr : Nat → Prop) (Post : World → Prop) (W : World) : Prop :=
  ∀ (l : Nat) (J : List α → (Nat → Prop) → World → Prop) (F0 : Nat → Prop),
    (∀ pre F A B, J pre F A → StepOff F A B → J pre F B) →
    (∀ pre F A, J pre F A → ∀ k, F k → k < A.heap.size) →
    (∀ pre x F A, J pre F A → (pre ++ [x]) <+: xs → YieldAt Fence.wide 0 P l #[enc x] A fun e B => e = .returned (.bool true) ∧ ∃ F', J (pre ++ [x]) F' B ∧ StepOn F F' A B) →
    (∀ k, F0 k → ¬ S k) → J [] F0 W →
    Calls P g (#[.func (.yield l) #[] #[]] ++ lb) W fun e W' => (∃ v, e = .returned v) ∧ ∃ F', J xs F' W' ∧ Post W' ∧ Framed F0 F' Wr W W'

theorem wp_range_sep {P : Program} {α : Type} {g : Operand} {ps : Array Tmp} {assign body : Code} {Q : Exit → Act → World → Prop} {a : Act} {w : World} {gf : Nat} {lb : Array Value}
    (hg : a.eval g = .func (.func gf) #[] lb) (eg : ∀ args w, (callFunc gf args).run P w = .ok (.enter gf args) w)
    {enc : α → Value} {xs : List α} {S Wr : Nat → Prop} {Post : World → Prop} (hseq : ∀ W1, Below w.heap.size w W1 → SepGives P gf lb enc xs S Wr Post W1) (hps : ps.size = 1)
    (hPost : ∀ A B : World, Post A → A.heap.size ≤ B.heap.size → (∀ k, k < w.heap.size → B.heap[k]? = A.heap[k]?) → Post B)
    (I : List α → (Nat → Prop) → World → Prop) (F0 : Nat → Prop)
    (hIoff : ∀ pre F A B, I pre F A → StepOff F A B → I pre F B) (hIlt : ∀ pre F A, I pre F A → ∀ k, F k → k < A.heap.size)
    (hF0 : ∀ k, F0 k → ¬ S k) (hS : ∀ k, S k → k < w.heap.size) (h0 : I [] F0 w) (a₁ : α → Act)
    (hassign : ∀ (l : Nat) (x : α) (W : World) (K : Act → World → Prop), K (a₁ x) W →
      assign.wpIn (Fence.wide.inRound l) 0 P (Exit.then K (fun _ _ _ => False)) { tmps := (ps.zip #[enc x]).foldl (fun t (p, v) => t.setIfInBounds p v) a.tmps, defers := [] } W)
    (hbody : ∀ (l : Nat) (pre : List α) (x : α) (F : Nat → Prop) (A : World), I pre F A → (pre ++ [x]) <+: xs → body.wpIn (Fence.wide.inRound l) 0 P (fun e a' B => e = .normal ∧ ∃ F', I (pre ++ [x]) F' B ∧ StepOn F F' A B) (a₁ x) A)
    (hdone : ∀ (D : Nat) (F' : Nat → Prop) (W' : World), I xs F' W' → Post W' → Framed F0 F' Wr w W' → W'.heap[D]? = some (.deferred (some [])) → w.heap.size ≤ D → ¬ F' D → Q .normal { a with defers := { target := .collected D, args := #[] } :: a.defers } W') :
    (Code.rangeFunc g ps assign body).wp P Q a w := by
  refine (wpIn_wide (n := 0)).1 (wpIn_rangeFunc ?_)
  intro fn hfn
  obtain ⟨rec, hrec⟩ : ∃ rec : LoopState → Option Code → Loop, rec = fun st pe => { state := st, pending := pe, fn, tmps := a.tmps, params := ps, assign, body, defers := w.heap.size } := ⟨_, rfl⟩
  obtain ⟨W1, hW1⟩ : ∃ W1, (w.alloc (.deferred (some []))).alloc (.loop (rec .ready none)) = W1 := ⟨_, rfl⟩
  have hL1 : W1.heap[w.heap.size + 1]? = some (.loop (rec .ready none)) := by
    rw [← hW1]; have := World.alloc_heap_new (w.alloc (.deferred (some []))) (.loop (rec .ready none)); rwa [World.size_alloc] at this
  have hK1 : W1.heap[w.heap.size]? = some (.deferred (some [])) := by
    rw [← hW1]; exact (Below.heap_alloc _ _ _ (by simp)).trans (World.alloc_heap_new w _)
  have hb1 : Below w.heap.size w W1 := by
    rw [← hW1]; exact ((Below.refl _ w).alloc (Nat.le_refl _) _).alloc (by simp) _
  have hsz1 : W1.heap.size = w.heap.size + 2 := by rw [← hW1]; simp
  have hI1 : I [] F0 W1 := hIoff _ _ _ _ h0 ⟨hb1.os, hb1.tape, hb1.output, hb1.size, fun k hk => hb1.block k (hIlt _ _ _ h0 k hk)⟩
  have hout : ∀ k, F0 k → k < w.heap.size := fun k hk => hIlt _ _ _ h0 k hk
  refine ⟨w.heap.size + 1, [{ target := .collected w.heap.size, args := #[] }], W1, { target := .fn (.func gf) lb, args := #[.func (.yield (w.heap.size + 1)) #[] #[]] }, W1, gf,
    #[.func (.yield (w.heap.size + 1)) #[] #[]] ++ lb, W1, ?_, ?_, ?_, ?_, fun h => by simp [Fence.wide] at h, ?_⟩
  · rw [← hW1, hrec]; exact run_enterLoop_outer _ _ _ _ _
  · simp only [resolve, hg]
    simp [go_sem]
  · intro f' hf'; trivial
  · simp [invoke, go_sem, eg]
  · refine callsIn_wide.2 ((hseq W1 hb1 (w.heap.size + 1)
      (fun pre F A => ∃ Fu : Nat → Prop, (∀ k, F k ↔ (Fu k ∨ k = w.heap.size + 1 ∨ k = w.heap.size)) ∧ I pre Fu A ∧ ¬ Fu (w.heap.size + 1) ∧ ¬ Fu w.heap.size ∧ A.heap[w.heap.size + 1]? = some (.loop (rec .ready none)) ∧ A.heap[w.heap.size]? = some (.deferred (some [])) ∧ (∀ k, Fu k → F0 k ∨ w.heap.size ≤ k) ∧ w.heap.size + 2 ≤ A.heap.size)
      (fun k => F0 k ∨ k = w.heap.size + 1 ∨ k = w.heap.size) ?_ ?_ ?_ ?_ ?_).mono ?_)
    · rintro pre F A B ⟨Fu, hF, hi, h1, h2, h3, h4, h5, h6⟩ hst
      exact ⟨Fu, hF, hIoff _ _ _ _ hi ⟨hst.os, hst.tape, hst.output, hst.size, fun k hk => hst.block k ((hF k).2 (.inl hk))⟩, h1, h2, (hst.block _ ((hF _).2 (.inr (.inl rfl)))).trans h3, (hst.block _ ((hF _).2 (.inr (.inr rfl)))).trans h4, h5, Nat.le_trans h6 hst.size⟩
    · rintro pre F A ⟨Fu, hF, hi, h1, h2, h3, h4, h5, h6⟩ k hk
      rcases (hF k).1 hk with h | rfl | rfl
      · exact hIlt _ _ _ hi k h
      · omega
      · omega
    · rintro pre x F A ⟨Fu, hF, hi, h1, h2, h3, h4, h5, h6⟩ hpre
      have hy := run_yield (P := P) (args := #[enc x]) h3 (by rw [hrec]; simp [hps])
      rw [hrec] at hy
      have hl2 : (A.putObj (w.heap.size + 1) (.loop { rec .ready none with state := .busy })).heap[w.heap.size + 1]? = some (.loop { rec .ready none with state := .busy }) := World.putObj_heap_same (by omega)
      have hi2 : I pre Fu (A.putObj (w.heap.size + 1) (.loop { rec .ready none with state := .busy })) := hIoff _ _ _ _ hi ⟨rfl, rfl, rfl, by simp, fun k hk => World.putObj_heap_other (fun e => h1 (e ▸ hk))⟩
      refine ⟨fn, _, assign, body, hy, roundIn_of_wpIn trivial (hassign _ x A _ ⟨_, run_beginRound h3 (by rw [hrec]), ?_⟩)⟩
      refine wpIn_mono (hbody _ pre x Fu _ hi2 hpre) ?_
      rintro e a3 B ⟨rfl, Fu', hi3, hon⟩
      have hl3 : B.heap[w.heap.size + 1]? = some (.loop { rec .ready none with state := .busy }) := (hon.block _ (by simp; omega) h1).trans hl2
      have hd3 : B.heap[w.heap.size]? = some (.deferred (some [])) := ((hon.block _ (by simp; omega) h2).trans (World.putObj_heap_other (by omega))).trans h4
      have hsB : A.heap.size ≤ B.heap.size := by have := hon.size; simpa using this
      have hend := run_endRound (P := P) none hl3
      have n1 : ¬ Fu' (w.heap.size + 1) := fun e => by
        rcases hon.foot _ e with h | h
        · exact h1 h
        · simp at h; omega
      have n2 : ¬ Fu' w.heap.size := fun e => by
        rcases hon.foot _ e with h | h
        · exact h2 h
        · simp at h; omega
      obtain ⟨r2, hr2⟩ : ∃ r2 : Loop, r2 = { ({ rec .ready none with state := .busy } : Loop) with state := if (none : Option Code).isNone then .ready else .done, pending := none } := ⟨_, rfl⟩
      have hr3 : r2 = rec .ready none := by rw [hr2, hrec]; rfl
      rw [← hr2, hr3] at hend
      refine ⟨_, _, hend, rfl, fun k => Fu' k ∨ k = w.heap.size + 1 ∨ k = w.heap.size, ⟨Fu', fun _ => Iff.rfl, hIoff _ _ _ _ hi3 ⟨rfl, rfl, rfl, by simp, fun k hk => World.putObj_heap_other (fun e => n1 (e ▸ hk))⟩, n1, n2, World.putObj_heap_same (by omega), (World.putObj_heap_other (by omega)).trans hd3, fun k hk => ?_, by simp; omega⟩, ?_⟩
      · rcases hon.foot k hk with h | h
        · exact h5 k h
        · simp at h; right; omega
      · refine ⟨hon.os, hon.tape, hon.output, by simpa using hsB, fun k hk hn => ?_, fun k hk => ?_⟩
        · have hk1 : k ≠ w.heap.size + 1 := fun e => hn ((hF k).2 (.inr (.inl e)))
          have hk2 : ¬ Fu k := fun e => hn ((hF k).2 (.inl e))
          exact (World.putObj_heap_other hk1).trans ((hon.block k (by simpa using hk) hk2).trans (World.putObj_heap_other hk1))
        · rcases hk with h | h
          · rcases hon.foot k h with h' | h'
            · exact .inl ((hF k).2 (.inl h'))
            · exact .inr (by simpa using h')
          · exact .inl ((hF k).2 (.inr h))
    · rintro k (h | rfl | rfl)
      · exact hF0 k h
      · intro e; have := hS _ e; omega
      · intro e; have := hS _ e; omega
    · exact ⟨F0, fun _ => Iff.rfl, hI1, fun e => by have := hout _ e; omega, fun e => by have := hout _ e; omega, hL1, hK1, fun k hk => .inl hk, by omega⟩
    · rintro e W2 ⟨⟨v, rfl⟩, F', ⟨Fu, hF, hi, h1, h2, h3, h4, h5, h6⟩, hp, hfr⟩
      have hend := run_endLoop (P := P) h3 (by rw [hrec]; simp)
      rw [hrec] at hend
      refine ⟨none, _, hend, hdone w.heap.size Fu _ (hIoff _ _ _ _ hi ⟨rfl, rfl, rfl, by simp, fun k hk => World.putObj_heap_other (fun e => h1 (e ▸ hk))⟩) (hPost _ _ hp (by simp) (fun k hk => World.putObj_heap_other (by omega))) ?_ ((World.putObj_heap_other (by omega)).trans h4) (Nat.le_refl _) h2⟩
      refine ⟨hfr.os.trans hb1.os, hfr.tape.trans hb1.tape, hfr.output.trans hb1.output, by have := hfr.size; simp; omega, fun k hk hn hw => ?_, fun k hk => h5 k hk⟩
      exact (World.putObj_heap_other (by omega)).trans ((hfr.block k (by omega) (fun e => by
        rcases e with e | e | e
        · exact hn e
        · omega
        · omega) hw).trans (hb1.block k hk))
end Go.Proofs.Ythhjhdmdfneegaa
namespace Go.Proofs.Ythhjhdmdfneegaa
set_option linter.unusedVariables false
set_option linter.unusedSimpArgs false
open Go.RowKit

attribute [local go_sem] Oper.semAt_some

def NoW : Nat → Prop := fun _ => False
theorem Framed.refl (F0 Wr : Nat → Prop) (A : World) : Framed F0 F0 Wr A A := ⟨rfl, rfl, rfl, Nat.le_refl _, fun _ _ _ _ => rfl, fun _ h => .inl h⟩
theorem Framed.on {F0 F F' Wr : Nat → Prop} {W A B : World} (h : Framed F0 F Wr W A) (k : StepOn F F' A B) : Framed F0 F' Wr W B :=
  ⟨k.os.trans h.os, k.tape.trans h.tape, k.output.trans h.output, Nat.le_trans h.size k.size, fun i hi hn hw => (k.block i (Nat.lt_of_lt_of_le hi h.size) (fun e => by
    rcases h.foot i e with q | q
    · exact hn q
    · omega)).trans (h.block i hi hn hw), fun i hi => by
    rcases k.foot i hi with q | q
    · exact h.foot i q
    · exact .inr (Nat.le_trans h.size q)⟩
theorem Framed.below {F0 F Wr : Nat → Prop} {W A B : World} (h : Framed F0 F Wr W A) (k : Below A.heap.size A B) : Framed F0 F Wr W B :=
  ⟨k.os.trans h.os, k.tape.trans h.tape, k.output.trans h.output, Nat.le_trans h.size k.size, fun i hi hn hw => (k.block i (Nat.lt_of_lt_of_le hi h.size)).trans (h.block i hi hn hw), h.foot⟩
theorem StepOff.below {F : Nat → Prop} {A B : World} (k : Below A.heap.size A B) (hF : ∀ i, F i → i < A.heap.size) : StepOff F A B := ⟨k.os, k.tape, k.output, k.size, fun i hi => k.block i (hF i hi)⟩
/-- What the rounds do not hold. -/
theorem apart_on {S F F' : Nat → Prop} {A B : World} (h : ∀ k, S k → ¬ F k) (hS : ∀ k, S k → k < A.heap.size) (k : StepOn F F' A B) : ∀ k, S k → ¬ F' k := fun i hi e => by
  rcases k.foot i e with q | q
  · exact h i hi q
  · have := hS i hi; omega
theorem take_pre {α : Type} (l : List α) (i : Nat) (hi : i < l.length) : (l.take i ++ [l[i]]) <+: l := by
  rw [← List.take_succ_eq_append_getElem hi]
  exact List.take_prefix _ _
/-- Below n0, where the rounds hold nothing, all is as it was. -/
theorem Framed.low {F0 F : Nat → Prop} {S : Nat → Prop} {W A : World} {n0 : Nat} (h : Framed F0 F NoW W A) (hs : ∀ k, k < n0 → S k) (hS : ∀ k, S k → ¬ F0 k) (hl : ∀ k, S k → k < W.heap.size) : Below n0 W A :=
  ⟨h.os, h.tape, h.output, h.size, fun k hk => h.block k (hl k (hs k hk)) (hS k (hs k hk)) (fun e => e)⟩
theorem Framed.cell {F0 F S : Nat → Prop} {W A : World} {b j : Nat} {v : Value} (h : Framed F0 F NoW W A) (hb : S b) (hS : ∀ k, S k → ¬ F0 k) (hl : ∀ k, S k → k < W.heap.size) (hc : W.cell? ⟨b, j, none⟩ = some v) : A.cell? ⟨b, j, none⟩ = some v :=
  (World.cell?_of_block (a := ⟨b, j, none⟩) (h.block b (hl b hb) (hS b hb) (fun e => e))).trans hc

theorem filter_pre (p : Int → Bool) (l : List Int) (i : Nat) (hi : i < l.length) (hp : p l[i] = true) : ((l.take i).filter p ++ [l[i]]) <+: l.filter p := by
  have h := List.take_append_drop (i + 1) l
  have h2 : l.filter p = (l.take (i + 1)).filter p ++ (l.drop (i + 1)).filter p := by rw [← List.filter_append, h]
  rw [h2, List.take_succ_eq_append_getElem hi, List.filter_append]
  simp [hp]
theorem filter_step (p : Int → Bool) (l : List Int) (i : Nat) (hi : i < l.length) : (l.take (i + 1)).filter p = (l.take i).filter p ++ (if p l[i] then [l[i]] else []) := by
  rw [List.take_succ_eq_append_getElem hi, List.filter_append]
  cases h : p l[i] <;> simp [h]

end Go.Proofs.Ythhjhdmdfneegaa
namespace Go.Proofs.Ythhjhdmdfneegaa
set_option linter.unusedVariables false
set_option linter.unusedSimpArgs false
open Go.RowKit

def enterP (b : Nat) (s : List Bool × List Nat) : List Bool × List Nat := if s.1.getD b false then s else (s.1.set b true, b :: s.2)
/-- From which blocks one comes: what is shut, what is left to look at (the next one first), what was told. -/
def srcRun (bk : Nat → List Int) : Nat → List Bool → List Nat → List Nat → Option (List Bool × List Nat)
  | _, sh, [], o => some (sh, o)
  | 0, _, _ :: _, _ => none
  | k + 1, sh, b :: left, o => srcRun bk k ((bk b).foldl (fun s x => enterP x.toNat s) (sh, left)).1 ((bk b).foldl (fun s x => enterP x.toNat s) (sh, left)).2 (o ++ [b])
/-- The stack of blocks, and what is shut. -/
structure Ent (base bxs sb L n : Nat) (w : World) (shut : List Bool) (left : List Nat) (LV : Value) : Prop where
  bs : w.cell? ⟨bxs, 0, none⟩ = some (.slice (some ⟨sb, 0, none⟩) n n)
  sh : w.heap[sb]? = some (.cells (boolsV shut).toArray 4 (0, 0))
  bl : w.heap[L]? = some (.cells #[LV] 39 (0, 0))
  row : w.ownsRow base 3 1 LV left.length (natsV left.reverse)
  len : shut.length = n
  cnt : left.length + unseen shut ≤ n
  lt : bxs < base ∧ sb < base ∧ L < base
  ne : bxs ≠ sb ∧ bxs ≠ L ∧ sb ≠ L
  hb : base ≤ w.heap.size
  few : n ≤ 1048576
/-- What the iterator writes. -/
def FE (sb L : Nat) (LV : Value) : Nat → Prop := fun k => k = sb ∨ k = L ∨ LV.ownBlock = some k
theorem Ent.step {base bxs sb L n : Nat} {w w' : World} {shut : List Bool} {left : List Nat} {LV : Value} (h : Ent base bxs sb L n w shut left LV) (hb : StepOff (FE sb L LV) w w') (hx : w'.heap[bxs]? = w.heap[bxs]?) : Ent base bxs sb L n w' shut left LV := by
  have hr := h.row
  refine ⟨(World.cell?_of_block (a := ⟨bxs, 0, none⟩) hx).trans h.bs, (hb.block sb (.inl rfl)).trans h.sh, (hb.block L (.inr (.inl rfl))).trans h.bl, ?_, h.len, h.cnt, h.lt, h.ne, Nat.le_trans h.hb hb.size, h.few⟩
  refine ⟨hr.1, ?_⟩
  rcases hr.2 with h1 | ⟨g, cap, cur, hv, h2, h3, rest⟩
  · exact .inl h1
  · exact .inr ⟨g, cap, cur, hv, h2, (hb.block g (.inr (.inr (by rw [hv]; rfl)))).trans h3, rest⟩
theorem Ent.below {base bxs sb L n : Nat} {w w' : World} {shut : List Bool} {left : List Nat} {LV : Value} (h : Ent base bxs sb L n w shut left LV) (hb : Below w.heap.size w w') : Ent base bxs sb L n w' shut left LV :=
  ⟨(hb.cell (p := ⟨bxs, 0, none⟩) (by have := h.lt.1; have := h.hb; show bxs < w.heap.size; omega)).trans h.bs, (hb.block sb (by have := h.lt.2.1; have := h.hb; omega)).trans h.sh, (hb.block L (by have := h.lt.2.2; have := h.hb; omega)).trans h.bl, gr_up h.row hb, h.len, h.cnt, h.lt, h.ne, Nat.le_trans h.hb hb.size, h.few⟩
theorem FE.lt {base bxs sb L n : Nat} {w : World} {shut : List Bool} {left : List Nat} {LV : Value} (h : Ent base bxs sb L n w shut left LV) : ∀ k, FE sb L LV k → k < w.heap.size := fun k hk => by
  rcases hk with rfl | rfl | hk
  · have := h.lt.2.1; have := h.hb; omega
  · have := h.lt.2.2; have := h.hb; omega
  · exact (h.row.lt k hk).2
theorem StepOn.refl (F : Nat → Prop) (A : World) : StepOn F F A A := ⟨rfl, rfl, rfl, Nat.le_refl _, fun _ _ _ => rfl, fun _ h => .inl h⟩
theorem StepOn.trans {F F' F2 : Nat → Prop} {A B C : World} (h : StepOn F F' A B) (k : StepOn F' F2 B C) : StepOn F F2 A C :=
  ⟨k.os.trans h.os, k.tape.trans h.tape, k.output.trans h.output, Nat.le_trans h.size k.size, fun i hi hn => (k.block i (Nat.lt_of_lt_of_le hi h.size) (fun e => by
    rcases h.foot i e with q | q
    · exact hn q
    · omega)).trans (h.block i hi hn), fun i hi => by
    rcases k.foot i hi with q | q
    · exact h.foot i q
    · exact .inr (Nat.le_trans h.size q)⟩
theorem StepOn.below {F : Nat → Prop} {A B : World} (h : Below A.heap.size A B) : StepOn F F A B := ⟨h.os, h.tape, h.output, h.size, fun k hk _ => h.block k hk, fun _ h => .inl h⟩

end Go.Proofs.Ythhjhdmdfneegaa
