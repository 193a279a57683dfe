/-
  A range over a function, whose iterator keeps a state of its own in memory: which blocks the rounds hold is carried along; what is not theirs they leave, and the iterator leaves what is theirs.
  Iterators: over a row of numbers.
  sources: a block is entered; over plain data; what a way back gives.
  sources: the marks of its loops; ways back; the walk.
  sources: the iterator, walked.
  Ways back: by Preds, by rows; sources is made.
  Ways back among some blocks, as their ends go.
  slices.AppendSeq and slices.Collect over an iterator that keeps a state of its own.
  sources over plain data: it ends; what it tells; a way back stands in later worlds.
  graph.Reach.
-/
import Derived.Test.YtagagpappjkgbaaJx5
import Derived.RangeFuncNested
import Derived.RangeFuncBound
import Derived.RangeFuncCalls
import Derived.RangeFuncLeaves
import Derived.OwnWalkIn
import Derived.TacticsInMore
import Derived.Deep.LoopGhost
import Derived.Laws.EntriesVeiled
import Derived.Shelf.Abstract
import Derived.Maps.OwnIn
namespace Go.Proofs.Ytagagpappjkgbaa
set_option linter.unusedVariables false
set_option linter.unusedSimpArgs false
open Go.RowKit

/-- A step of the iterator: what is in F is as it was. -/
structure StepOff (F : Nat → Prop) (A B : World) : Prop where
  os : B.os = A.os
  tape : B.tape = A.tape
  output : B.output = A.output
  size : A.heap.size ≤ B.heap.size
  block : ∀ k, F k → B.heap[k]? = A.heap[k]?
theorem StepOff.refl (F : Nat → Prop) (A : World) : StepOff F A A := ⟨rfl, rfl, rfl, Nat.le_refl _, fun _ _ => rfl⟩
theorem StepOff.trans {F : Nat → Prop} {A B C : World} (h : StepOff F A B) (k : StepOff F B C) : StepOff F A C :=
  ⟨k.os.trans h.os, k.tape.trans h.tape, k.output.trans h.output, Nat.le_trans h.size k.size, fun i hi => (k.block i hi).trans (h.block i hi)⟩
/-- A round: what is not in F is as it was; F' is F and new blocks. -/
structure StepOn (F F' : Nat → Prop) (A B : World) : Prop where
  os : B.os = A.os
  tape : B.tape = A.tape
  output : B.output = A.output
  size : A.heap.size ≤ B.heap.size
  block : ∀ k, k < A.heap.size → ¬ F k → B.heap[k]? = A.heap[k]?
  foot : ∀ k, F' k → F k ∨ A.heap.size ≤ k
/-- The whole walk: what is neither the rounds' nor in Wr is as it was. -/
structure Framed (F0 F' Wr : Nat → Prop) (A B : World) : Prop where
  os : B.os = A.os
  tape : B.tape = A.tape
  output : B.output = A.output
  size : A.heap.size ≤ B.heap.size
  block : ∀ k, k < A.heap.size → ¬ F0 k → ¬ Wr k → B.heap[k]? = A.heap[k]?
  foot : ∀ k, F' k → F0 k ∨ A.heap.size ≤ k
def SepGives {α : Type} (P : Program) (g : Nat) (lb : Array Value) (enc : α → Value) (xs : List α) (S Wr : Nat → Prop) (Post : World → Prop) (W : World) : Prop :=
  ∀ (l : Nat) (J : List α → (Nat → Prop) → World → Prop) (F0 : Nat → Prop),
    (∀ pre F A B, J pre F A → StepOff F A B → J pre F B) →
    (∀ pre F A, J pre F A → ∀ k, F k → k < A.heap.size) →
    (∀ pre x F A, J pre F A → (pre ++ [x]) <+: xs → YieldAt Fence.wide 0 P l #[enc x] A fun e B => e = .returned (.bool true) ∧ ∃ F', J (pre ++ [x]) F' B ∧ StepOn F F' A B) →
    (∀ k, F0 k → ¬ S k) → J [] F0 W →
    Calls P g (#[.func (.yield l) #[] #[]] ++ lb) W fun e W' => (∃ v, e = .returned v) ∧ ∃ F', J xs F' W' ∧ Post W' ∧ Framed F0 F' Wr W W'

end Go.Proofs.Ytagagpappjkgbaa
namespace Go.Proofs.Ytagagpappjkgbaa
set_option linter.unusedVariables false
set_option linter.unusedSimpArgs false
open Go.RowKit

attribute [local go_sem] Oper.semAt_some

def NoW : Nat → Prop := fun _ => False
theorem Framed.refl (F0 Wr : Nat → Prop) (A : World) : Framed F0 F0 Wr A A := ⟨rfl, rfl, rfl, Nat.le_refl _, fun _ _ _ _ => rfl, fun _ h => .inl h⟩
theorem Framed.on {F0 F F' Wr : Nat → Prop} {W A B : World} (h : Framed F0 F Wr W A) (k : StepOn F F' A B) : Framed F0 F' Wr W B :=
  ⟨k.os.trans h.os, k.tape.trans h.tape, k.output.trans h.output, Nat.le_trans h.size k.size, fun i hi hn hw => (k.block i (Nat.lt_of_lt_of_le hi h.size) (fun e => by
    rcases h.foot i e with q | q
    · exact hn q
    · omega)).trans (h.block i hi hn hw), fun i hi => by
    rcases k.foot i hi with q | q
    · exact h.foot i q
    · exact .inr (Nat.le_trans h.size q)⟩
theorem Framed.below {F0 F Wr : Nat → Prop} {W A B : World} (h : Framed F0 F Wr W A) (k : Below A.heap.size A B) : Framed F0 F Wr W B :=
  ⟨k.os.trans h.os, k.tape.trans h.tape, k.output.trans h.output, Nat.le_trans h.size k.size, fun i hi hn hw => (k.block i (Nat.lt_of_lt_of_le hi h.size)).trans (h.block i hi hn hw), h.foot⟩
theorem StepOff.below {F : Nat → Prop} {A B : World} (k : Below A.heap.size A B) (hF : ∀ i, F i → i < A.heap.size) : StepOff F A B := ⟨k.os, k.tape, k.output, k.size, fun i hi => k.block i (hF i hi)⟩
/-- What the rounds do not hold. -/
theorem apart_on {S F F' : Nat → Prop} {A B : World} (h : ∀ k, S k → ¬ F k) (hS : ∀ k, S k → k < A.heap.size) (k : StepOn F F' A B) : ∀ k, S k → ¬ F' k := fun i hi e => by
  rcases k.foot i e with q | q
  · exact h i hi q
  · have := hS i hi; omega
theorem Framed.cell {F0 F S : Nat → Prop} {W A : World} {b j : Nat} {v : Value} (h : Framed F0 F NoW W A) (hb : S b) (hS : ∀ k, S k → ¬ F0 k) (hl : ∀ k, S k → k < W.heap.size) (hc : W.cell? ⟨b, j, none⟩ = some v) : A.cell? ⟨b, j, none⟩ = some v :=
  (World.cell?_of_block (a := ⟨b, j, none⟩) (h.block b (hl b hb) (hS b hb) (fun e => e))).trans hc

end Go.Proofs.Ytagagpappjkgbaa
namespace Go.Proofs.Ytagagpappjkgbaa
set_option linter.unusedVariables false
set_option linter.unusedSimpArgs false
open Go.RowKit

def enterP (b : Nat) (s : List Bool × List Nat) : List Bool × List Nat := if s.1.getD b false then s else (s.1.set b true, b :: s.2)
/-- The stack of blocks, and what is shut. -/
structure Ent (base bxs sb L n : Nat) (w : World) (shut : List Bool) (left : List Nat) (LV : Value) : Prop where
  bs : w.cell? ⟨bxs, 0, none⟩ = some (.slice (some ⟨sb, 0, none⟩) n n)
  sh : w.heap[sb]? = some (.cells (boolsV shut).toArray 4 (0, 0))
  bl : w.heap[L]? = some (.cells #[LV] 64 (0, 0))
  row : w.ownsRow base 3 1 LV left.length (natsV left.reverse)
  len : shut.length = n
  cnt : left.length + unseen shut ≤ n
  lt : bxs < base ∧ sb < base ∧ L < base
  ne : bxs ≠ sb ∧ bxs ≠ L ∧ sb ≠ L
  hb : base ≤ w.heap.size
  few : n ≤ 1048576
/-- What the iterator writes. -/
def FE (sb L : Nat) (LV : Value) : Nat → Prop := fun k => k = sb ∨ k = L ∨ LV.ownBlock = some k
theorem Ent.step {base bxs sb L n : Nat} {w w' : World} {shut : List Bool} {left : List Nat} {LV : Value} (h : Ent base bxs sb L n w shut left LV) (hb : StepOff (FE sb L LV) w w') (hx : w'.heap[bxs]? = w.heap[bxs]?) : Ent base bxs sb L n w' shut left LV := by
  have hr := h.row
  refine ⟨(World.cell?_of_block (a := ⟨bxs, 0, none⟩) hx).trans h.bs, (hb.block sb (.inl rfl)).trans h.sh, (hb.block L (.inr (.inl rfl))).trans h.bl, ?_, h.len, h.cnt, h.lt, h.ne, Nat.le_trans h.hb hb.size, h.few⟩
  refine ⟨hr.1, ?_⟩
  rcases hr.2 with h1 | ⟨g, cap, cur, hv, h2, h3, rest⟩
  · exact .inl h1
  · exact .inr ⟨g, cap, cur, hv, h2, (hb.block g (.inr (.inr (by rw [hv]; rfl)))).trans h3, rest⟩
theorem Ent.below {base bxs sb L n : Nat} {w w' : World} {shut : List Bool} {left : List Nat} {LV : Value} (h : Ent base bxs sb L n w shut left LV) (hb : Below w.heap.size w w') : Ent base bxs sb L n w' shut left LV :=
  ⟨(hb.cell (p := ⟨bxs, 0, none⟩) (by have := h.lt.1; have := h.hb; show bxs < w.heap.size; omega)).trans h.bs, (hb.block sb (by have := h.lt.2.1; have := h.hb; omega)).trans h.sh, (hb.block L (by have := h.lt.2.2; have := h.hb; omega)).trans h.bl, gr_up h.row hb, h.len, h.cnt, h.lt, h.ne, Nat.le_trans h.hb hb.size, h.few⟩
theorem FE.lt {base bxs sb L n : Nat} {w : World} {shut : List Bool} {left : List Nat} {LV : Value} (h : Ent base bxs sb L n w shut left LV) : ∀ k, FE sb L LV k → k < w.heap.size := fun k hk => by
  rcases hk with rfl | rfl | hk
  · have := h.lt.2.1; have := h.hb; omega
  · have := h.lt.2.2; have := h.hb; omega
  · exact (h.row.lt k hk).2
theorem StepOn.refl (F : Nat → Prop) (A : World) : StepOn F F A A := ⟨rfl, rfl, rfl, Nat.le_refl _, fun _ _ _ => rfl, fun _ h => .inl h⟩
theorem StepOn.trans {F F' F2 : Nat → Prop} {A B C : World} (h : StepOn F F' A B) (k : StepOn F' F2 B C) : StepOn F F2 A C :=
  ⟨k.os.trans h.os, k.tape.trans h.tape, k.output.trans h.output, Nat.le_trans h.size k.size, fun i hi hn => (k.block i (Nat.lt_of_lt_of_le hi h.size) (fun e => by
    rcases h.foot i e with q | q
    · exact hn q
    · omega)).trans (h.block i hi hn), fun i hi => by
    rcases k.foot i hi with q | q
    · exact h.foot i q
    · exact .inr (Nat.le_trans h.size q)⟩
theorem StepOn.below {F : Nat → Prop} {A B : World} (h : Below A.heap.size A B) : StepOn F F A B := ⟨h.os, h.tape, h.output, h.size, fun k hk _ => h.block k hk, fun _ h => .inl h⟩

end Go.Proofs.Ytagagpappjkgbaa
namespace Go.Proofs.Ytagagpappjkgbaa
set_option linter.unusedVariables false
set_option linter.unusedSimpArgs false
open Go.RowKit

attribute [local go_sem] Oper.semAt_some

theorem calls_of_wp_marks {P : Program} {f : FuncId} {fn : Func} {c : Code} {args : Array Value} {w : World} {R : Ending → World → Prop} (hf : P.funcs[f]? = some fn) (hb : fn.body = some c)
    (h : c.wp P (bodyPostM Fence.wide 0 P fn R) { tmps := args ++ Array.replicate (fn.ntmps - args.size) undef, defers := [] } w) : Calls P f args w R :=
  callsIn_wide.1 (callsIn_of_wp_marks (n := 0) hf hb trivial (wpIn_wide.2 h) rfl)
/-- The marks that loops have left: each its own block, none of the rounds', none that was there. -/
def Mks (n0 : Nat) (A : World) (F : Nat → Prop) (ds : List Deferred) : Prop := ∃ Ds : List Nat, ds = Ds.map (fun D => { target := .collected D, args := #[] }) ∧ Ds.Nodup ∧ ∀ D ∈ Ds, A.heap[D]? = some (.deferred (some [])) ∧ n0 ≤ D ∧ ¬ F D
/-- Only blocks that are neither old nor the rounds' were put. -/
structure PutOff (n0 : Nat) (F : Nat → Prop) (A B : World) : Prop where
  os : B.os = A.os
  tape : B.tape = A.tape
  output : B.output = A.output
  size : B.heap.size = A.heap.size
  block : ∀ k, (k < n0 ∨ F k) → B.heap[k]? = A.heap[k]?
theorem Mks.leave {n0 : Nat} {F : Nat → Prop} {P : Program} {fn : Func} {tmps : Array Value} {R : Ending → World → Prop} : ∀ (ds : List Deferred) (A : World), Mks n0 A F ds → (∀ B, PutOff n0 F A B → ∃ v, (results fn tmps).run P B = .ok v B ∧ R (.returned v) B) → LeavesInM Fence.wide 0 P fn tmps R ds .returning A := by
  intro ds A ⟨Ds, hd, hn, hD⟩ hend
  subst hd
  induction Ds generalizing A with
  | nil => exact hend A ⟨rfl, rfl, rfl, rfl, fun _ _ => rfl⟩
  | cons D Ds ih =>
    obtain ⟨h1, h2, h3⟩ := hD D (by simp)
    obtain ⟨hnd, hn2⟩ := List.nodup_cons.1 hn
    refine ⟨by simp, .inl ⟨D, _, rfl, run_takeDeferred h1, ih _ hn2 (fun D' hD' => ?_) (fun B hB => hend B ?_)⟩⟩
    · obtain ⟨k1, k2, k3⟩ := hD D' (by simp [hD'])
      exact ⟨(World.putObj_heap_other (fun e : D' = D => hnd (by rw [← e]; exact hD'))).trans k1, k2, k3⟩
    · refine ⟨hB.os, hB.tape, hB.output, by rw [hB.size]; simp, fun k hk => (hB.block k hk).trans (World.putObj_heap_other (fun e => ?_))⟩
      subst e
      rcases hk with hk | hk
      · omega
      · exact h3 hk
theorem Mks.nil (n0 : Nat) (A : World) (F : Nat → Prop) : Mks n0 A F [] := ⟨[], rfl, List.nodup_nil, fun D hD => by cases hD⟩
theorem Mks.step {n0 : Nat} {A B : World} {F F' : Nat → Prop} {ds : List Deferred} (h : Mks n0 A F ds) (hb : ∀ k, n0 ≤ k → ¬ F k → A.heap[k]? = some (.deferred (some [])) → B.heap[k]? = some (.deferred (some [])) ∧ ¬ F' k) : Mks n0 B F' ds := by
  obtain ⟨Ds, h1, h2, h3⟩ := h
  exact ⟨Ds, h1, h2, fun D hD => by
    obtain ⟨k1, k2, k3⟩ := h3 D hD
    obtain ⟨k4, k5⟩ := hb D k2 k3 k1
    exact ⟨k4, k2, k5⟩⟩
theorem Mks.cons {n0 D : Nat} {A : World} {F : Nat → Prop} {ds : List Deferred} (h : Mks n0 A F ds) (hD : A.heap[D]? = some (.deferred (some []))) (hn : n0 ≤ D) (hF : ¬ F D) (hnew : ∀ Ds : List Nat, ds = Ds.map (fun D => { target := .collected D, args := #[] }) → D ∉ Ds) : Mks n0 A F ({ target := .collected D, args := #[] } :: ds) := by
  obtain ⟨Ds, h1, h2, h3⟩ := h
  refine ⟨D :: Ds, by rw [h1]; rfl, List.nodup_cons.2 ⟨hnew Ds h1, h2⟩, fun D' hD' => ?_⟩
  rcases List.mem_cons.1 hD' with rfl | hD'
  · exact ⟨hD, hn, hF⟩
  · exact h3 D' hD'
/-- All marks lie below so many blocks. -/
theorem Mks.lt {n0 : Nat} {A : World} {F : Nat → Prop} {ds : List Deferred} (h : Mks n0 A F ds) {D : Nat} (hD : A.heap.size ≤ D) : ∀ Ds : List Nat, ds = Ds.map (fun D => { target := .collected D, args := #[] }) → D ∉ Ds := by
  obtain ⟨Ds', h1, h2, h3⟩ := h
  intro Ds hd hm
  have hinj : Ds.map (fun D => ({ target := .collected D, args := #[] } : Deferred)) = Ds'.map (fun D => { target := .collected D, args := #[] }) := by rw [← hd, h1]
  have he : Ds = Ds' := by
    have : Function.Injective (fun D : Nat => ({ target := .collected D, args := #[] } : Deferred)) := fun a b e => by
      injection e with e1 _
      injection e1
    exact (List.map_inj_right (fun a b e => this e)).1 hinj
  subst he
  have := gr_in (h3 D hm).1
  omega

/-- A function value that gives the ways back from each block. -/
def BackAt (P : Program) (bv : Value) (bk : Nat → List Int) (n : Nat) (S0 : Nat → Prop) (W : World) : Prop :=
  ∃ (gf : Nat) (lb : Array Value), bv = .func (.func gf) #[] lb ∧ (∀ args w, (callFunc gf args).run P w = .ok (.enter gf args) w) ∧ ∀ (W1 : World) (b : Nat), b < n → W.heap.size ≤ W1.heap.size → (∀ k, S0 k → W1.heap[k]? = W.heap[k]?) →
    Calls P gf (#[.int .i64 (b : Int)] ++ lb) W1 fun e W2 => Below W1.heap.size W1 W2 ∧ ∃ (g2 : Nat) (lb2 : Array Value) (S2 : Nat → Prop), e = .returned (.func (.func g2) #[] lb2) ∧ (∀ args w, (callFunc g2 args).run P w = .ok (.enter g2 args) w) ∧ (∀ k, S2 k → S0 k ∨ W1.heap.size ≤ k) ∧ (∀ k, S2 k → k < W2.heap.size) ∧
      ∀ W3, Below W2.heap.size W2 W3 → SepGives P g2 lb2 (fun x : Int => .int .i64 x) (bk b) S2 NoW (fun _ => True) W3

/-- The next block is taken from the stack. -/
theorem Ent.pop {base bxs sb L n b : Nat} {w : World} {shut : List Bool} {left : List Nat} {g c : Nat} (h : Ent base bxs sb L n w shut (b :: left) (.slice (some ⟨g, 0, none⟩) (left.length + 1) c)) :
    Ent base bxs sb L n (w.setCell ⟨L, 0, none⟩ (.slice (some ⟨g, 0, none⟩) left.length c)) shut left (.slice (some ⟨g, 0, none⟩) left.length c) ∧ StepOn (FE sb L (.slice (some ⟨g, 0, none⟩) (left.length + 1) c)) (FE sb L (.slice (some ⟨g, 0, none⟩) left.length c)) w (w.setCell ⟨L, 0, none⟩ (.slice (some ⟨g, 0, none⟩) left.length c)) := by
  obtain ⟨Z, hZ⟩ : ∃ Z, Z = w.setCell ⟨L, 0, none⟩ (.slice (some ⟨g, 0, none⟩) left.length c) := ⟨_, rfl⟩
  rw [← hZ]
  have hZo : ∀ k, k ≠ L → Z.heap[k]? = w.heap[k]? := fun k hk => by rw [hZ]; exact Below.heap_setCell _ _ _ _ hk
  have hZz : Z.heap.size = w.heap.size := by rw [hZ]; simp [World.setCell]
  have hZL : Z.heap[L]? = some (.cells #[.slice (some ⟨g, 0, none⟩) left.length c] 64 (0, 0)) := by rw [hZ, gr_put h.bl 0]; rfl
  have hr : w.ownsRow base 3 1 (.slice (some ⟨g, 0, none⟩) left.length c) left.length (natsV left.reverse) := by
    have := gr_cut h.row left.length (by simp)
    have e : (natsV (b :: left).reverse).take (left.length * 1) = natsV left.reverse := by
      simp [natsV]
    rw [e] at this
    exact this
  have hgb := (h.row.lt g rfl).1
  have hLb := h.lt.2.2
  have hr2 := hr.kept (w' := Z) (row := some L) ⟨by rw [hZ]; rfl, by rw [hZ]; rfl, by rw [hZ]; rfl, by omega, fun k _ hk => hZo k (fun e => hk (by rw [e]))⟩ (.inr (by simp [Value.ownBlock]; omega))
  exact ⟨⟨(World.cell?_of_block (a := ⟨bxs, 0, none⟩) (hZo bxs h.ne.2.1)).trans h.bs, (hZo sb h.ne.2.2).trans h.sh, hZL, hr2, h.len, by have := h.cnt; simp at this; omega, h.lt, h.ne, by have := h.hb; omega, h.few⟩,
    ⟨by rw [hZ]; rfl, by rw [hZ]; rfl, by rw [hZ]; rfl, by omega, fun k hk hn => hZo k (fun e => hn (.inr (.inl e))), fun k hk => .inl hk⟩⟩
end Go.Proofs.Ytagagpappjkgbaa
namespace Go.Proofs.Ytagagpappjkgbaa
set_option linter.unusedVariables false
set_option linter.unusedSimpArgs false
open Go.RowKit

attribute [local go_sem] Oper.semAt_some

variable {W A B : World} {bxs sb n : Nat} {J : List Nat → (Nat → Prop) → World → Prop} {F0 S : Nat → Prop} {ds : List Deferred} {shut shut2 : List Bool} {left left2 o o2 : List Nat} {LV LV2 : Value} {F F2 : Nat → Prop}
theorem FE.cells {base bxs sb L n : Nat} {w : World} {shut : List Bool} {left : List Nat} {LV : Value} (h : Ent base bxs sb L n w shut left LV) {k : Nat} (hk : FE sb L LV k) : w.heap[k]? ≠ some (.deferred (some [])) := by
  rcases hk with rfl | rfl | hk
  · rw [h.sh]; simp
  · rw [h.bl]; simp
  · rcases h.row.2 with ⟨h1, _⟩ | ⟨g, cap, cur, hv, h2, h3, rest⟩
    · rw [h1] at hk; simp [Value.ownBlock] at hk
    · rw [hv] at hk
      simp [Value.ownBlock] at hk
      subst hk
      rw [h3]; simp
end Go.Proofs.Ytagagpappjkgbaa
namespace Go.Proofs.Ytagagpappjkgbaa
set_option linter.unusedVariables false
set_option linter.unusedSimpArgs false
open Go.RowKit Go.Shelf

end Go.Proofs.Ytagagpappjkgbaa
namespace Go.Proofs.Ytagagpappjkgbaa
set_option linter.unusedVariables false
set_option linter.unusedSimpArgs false
open Go.RowKit Go.Shelf

theorem infoRowsG : (Try.prog.info? 64).map (fun i => (i.zero, i.size, i.bytes)) = some (some (.slice none 0 0), 1, 24) := by kernel_rfl
/-- The rows of blocks from which one comes. -/
def famE (RV : Value) (rs : List (Value × List Int)) : Nat → GRw
  | 0 => ⟨64, 1, RV, rs.length, rs.map (·.1)⟩
  | k + 1 => match rs[k]? with
    | none => rowNo
    | some r => ⟨3, 1, r.1, r.2.length, intsV r.2⟩
theorem GNs_same {n0 : Nat} {w w' : World} {v : Value} {l : List Int} (h : GNs n0 w v l) (hb : ∀ k, k < n0 → w'.heap[k]? = w.heap[k]?) : GNs n0 w' v l := by
  obtain ⟨A, c, hv, hr⟩ := h
  refine ⟨A, c, hv, fun hp => ?_⟩
  obtain ⟨b, o, hA, hbn, hc⟩ := hr hp
  exact ⟨b, o, hA, hbn, fun j x hx => (World.cell?_of_block (a := ⟨b, o + j, none⟩) (hb b hbn)).trans (hc j x hx)⟩
/-- The rows, with so many edges entered. -/
structure EMk (base E n : Nat) (w0 w : World) (RV : Value) (rs : List (Value × List Int)) (Ed : List (Nat × Int)) : Prop where
  box : w.heap[E]? = some (.cells #[RV] 190 (0, 0))
  fam : GFam w base E (famE RV rs)
  bd : GBd E base w0 w
  hb : base ≤ w.heap.size
  len : rs.length = n
  is : ∀ j r, rs[j]? = some r → r.2 = predsG Ed j
theorem EMk.keep {base E n : Nat} {w0 w w' : World} {RV : Value} {rs : List (Value × List Int)} {Ed : List (Nat × Int)} (h : EMk base E n w0 w RV rs Ed) (hb : Below w.heap.size w w') : EMk base E n w0 w' RV rs Ed :=
  ⟨(hb.block E h.fam.el).trans h.box, h.fam.keep hb, h.bd.trans (GBd.of_below hb h.hb), Nat.le_trans h.hb hb.size, h.len, h.is⟩
theorem EMk.row {base E n : Nat} {w0 w : World} {gb m c : Nat} {rs : List (Value × List Int)} {Ed : List (Nat × Int)} (h : EMk base E n w0 w (.slice (some ⟨gb, 0, none⟩) m c) rs Ed) : w.ownsRow base 64 1 (.slice (some ⟨gb, 0, none⟩) m c) m (rs.map (·.1)) := by
  have h1 := h.fam.own 0
  have hn : m = rs.length := (gr_len h1).2
  rw [hn]
  rw [hn] at h1
  exact h1

end Go.Proofs.Ytagagpappjkgbaa
namespace Go.Proofs.Ytagagpappjkgbaa
set_option linter.unusedVariables false
set_option linter.unusedSimpArgs false
open Go.RowKit Go.Shelf

attribute [local go_sem] Oper.semAt_some

end Go.Proofs.Ytagagpappjkgbaa
namespace Go.Proofs.Ytagagpappjkgbaa
set_option linter.unusedVariables false
set_option linter.unusedSimpArgs false
open Go.RowKit Go.Shelf

theorem BackAt.later {P : Program} {bv : Value} {bk : Nat → List Int} {n : Nat} {S0 : Nat → Prop} {W W' : World} (h : BackAt P bv bk n S0 W) (hz : W.heap.size ≤ W'.heap.size) (hs : ∀ k, S0 k → W'.heap[k]? = W.heap[k]?) : BackAt P bv bk n S0 W' := by
  obtain ⟨gf, lb, h1, h2, h3⟩ := h
  exact ⟨gf, lb, h1, h2, fun W1 b hb hz1 hs1 => h3 W1 b hb (Nat.le_trans hz hz1) (fun k hk => (hs1 k hk).trans (hs k hk))⟩

/-- From which one comes, where nothing is shut. -/
inductive RB (bk : Nat → List Int) (sh : List Bool) (to_ : Nat) : Nat → Prop
  | here : sh.getD to_ false = false → RB bk sh to_ to_
  | back (b : Nat) (x : Int) : RB bk sh to_ b → x ∈ bk b → sh.getD x.toNat false = false → RB bk sh to_ x.toNat
/-- While it goes on: what is shut is what was, what waits, and what was told; all that was told had its ways looked at. -/
structure SI (bk : Nat → List Int) (sh0 : List Bool) (to_ n : Nat) (sh : List Bool) (left o done : List Nat) : Prop where
  len : sh.length = sh0.length
  n0 : sh0.length = n
  all : ∀ b, sh.getD b false = true ↔ (sh0.getD b false = true ∨ b ∈ left ∨ b ∈ o)
  rb : ∀ b, (b ∈ left ∨ b ∈ o) → RB bk sh0 to_ b
  nd : (left ++ o).Nodup
  new : ∀ b, (b ∈ left ∨ b ∈ o) → sh0.getD b false = false ∧ b < n
  cl : ∀ b ∈ done, ∀ x ∈ bk b, sh.getD x.toNat false = true
theorem getD_set (s : List Bool) (b c : Nat) (hb : b < s.length) : (s.set b true).getD c false = true ↔ (s.getD c false = true ∨ c = b) := by
  by_cases e : b = c
  · subst e
    exact ⟨fun _ => .inr rfl, fun _ => set_getD s b hb⟩
  · rw [set_getD_ne s b c e]
    constructor
    · exact .inl
    · rintro (h | h)
      · exact h
      · exact absurd h.symm e
theorem SI.enter {bk : Nat → List Int} {sh0 : List Bool} {to_ n x : Nat} {sh : List Bool} {left o done : List Nat} (h : SI bk sh0 to_ n sh left o done) (hx : x < n) (hr : sh0.getD x false = false → RB bk sh0 to_ x) :
    SI bk sh0 to_ n (enterP x (sh, left)).1 (enterP x (sh, left)).2 o done ∧ (enterP x (sh, left)).1.getD x false = true ∧ ∀ c, sh.getD c false = true → (enterP x (sh, left)).1.getD c false = true := by
  have hxs : x < sh.length := by rw [h.len, h.n0]; exact hx
  unfold enterP
  cases hq : sh.getD x false with
  | true => simp only [hq, if_true]; exact ⟨h, trivial, fun c hc => hc⟩
  | false =>
    simp only [hq, Bool.false_eq_true, if_false]
    have hq0 : sh0.getD x false = false := by
      cases h0 : sh0.getD x false with
      | false => rfl
      | true => have := (h.all x).2 (.inl h0); rw [hq] at this; cases this
    have hxl : x ∉ left := fun e => by have := (h.all x).2 (.inr (.inl e)); rw [hq] at this; cases this
    have hxo : x ∉ o := fun e => by have := (h.all x).2 (.inr (.inr e)); rw [hq] at this; cases this
    refine ⟨⟨by simpa using h.len, h.n0, fun b => ?_, fun b hb => ?_, ?_, fun b hb => ?_, fun b hb y hy => (getD_set sh x _ hxs).2 (.inl (h.cl b hb y hy))⟩, set_getD sh x hxs, fun c hc => (getD_set sh x c hxs).2 (.inl hc)⟩
    · rw [getD_set sh x b hxs, h.all b, List.mem_cons]
      constructor
      · rintro ((q | q | q) | q)
        · exact .inl q
        · exact .inr (.inl (.inr q))
        · exact .inr (.inr q)
        · exact .inr (.inl (.inl q))
      · rintro (q | (q | q) | q)
        · exact .inl (.inl q)
        · exact .inr q
        · exact .inl (.inr (.inl q))
        · exact .inl (.inr (.inr q))
    · rcases hb with hb | hb
      · rcases List.mem_cons.1 hb with rfl | hb
        · exact hr hq0
        · exact h.rb b (.inl hb)
      · exact h.rb b (.inr hb)
    · rw [List.cons_append, List.nodup_cons]
      exact ⟨fun e => by
        rcases List.mem_append.1 e with e | e
        · exact hxl e
        · exact hxo e, h.nd⟩
    · rcases hb with hb | hb
      · rcases List.mem_cons.1 hb with rfl | hb
        · exact ⟨hq0, hx⟩
        · exact h.new b (.inl hb)
      · exact h.new b (.inr hb)
end Go.Proofs.Ytagagpappjkgbaa
namespace Go.Proofs.Ytagagpappjkgbaa
set_option linter.unusedVariables false
set_option linter.unusedSimpArgs false
open Go.RowKit Go.Shelf

attribute [local go_sem] Oper.semAt_some

theorem own_full {w : World} {base : Nat} {T : TypeId} {g n : Nat} {xs : List Value} (h : w.ownsRow base T 1 (.slice (some ⟨g, 0, none⟩) n n) n xs) : w.heap[g]? = some (.cells xs.toArray T (0, 0)) := by
  rcases h.2 with ⟨h', _⟩ | ⟨g', cap, cur, h', hb, hg, hnc, hcm, hcs, ht⟩
  · simp at h'
  · simp only [Value.slice.injEq, Option.some.injEq, Addr.mk.injEq, and_true, true_and] at h'
    obtain ⟨rfl, rfl⟩ := h'
    rw [hg, ← ht, Nat.mul_one, List.take_of_length_le (by rw [Array.length_toList, hcs]; omega)]
theorem full_own {w : World} {base : Nat} {T : TypeId} {g n : Nat} {xs : List Value} (h : w.heap[g]? = some (.cells xs.toArray T (0, 0))) (hl : xs.length = n) (hb : base ≤ g) (hm : n ≤ maxLen) : w.ownsRow base T 1 (.slice (some ⟨g, 0, none⟩) n n) n xs :=
  ⟨by omega, .inr ⟨g, n, xs.toArray, rfl, hb, h, Nat.le_refl _, hm, by simp; omega, by rw [Nat.mul_one]; simp; rw [← hl, List.take_length]⟩⟩
end Go.Proofs.Ytagagpappjkgbaa
