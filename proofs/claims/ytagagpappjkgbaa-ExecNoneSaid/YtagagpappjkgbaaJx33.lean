/-
  Rows of one's own, while one other block is changed.
  Blocks on all ways: the walk that enters blocks, over plain data; how it lies.
  Blocks on all ways: rows of rows within a family.
  A region that draws its order, within a round of a range over a function: as everywhere, if nothing in it is put off.
  A range over a function that yields several values at once: as in the text of one value.
  slices.Backward over a row of numbers.
  Blocks on all ways: the search's chains, over plain data; how the search lies.
  A region within a round whose operations but the last ones only read: these first, then the rest one by one.
-/
import Derived.Test.YtagagpappjkgbaaJx6
import Derived.Test.YtagagpappjkgbaaJx8
import Derived.StillTailTactics
namespace Go.Proofs.Ytagagpappjkgbaa
set_option linter.unusedVariables false
set_option linter.unusedSimpArgs false
open Go.RowKit

/-- While all that is older but one block lies as it lay, rows of one's own do. -/
theorem own_far {w w' : World} {base s : Nat} {T : TypeId} {n : Nat} {v : Value} {xs : List Value} (h : w.ownsRow base T 1 v n xs) (hz : w.heap.size ≤ w'.heap.size) (hb : ∀ k, k < w.heap.size → k ≠ s → w'.heap[k]? = w.heap[k]?) (hs : v.ownBlock ≠ some s) : w'.ownsRow base T 1 v n xs := by
  refine ⟨h.1, ?_⟩
  rcases h.2 with h1 | ⟨g, cap, cur, hv, h2, h3, rest⟩
  · exact .inl h1
  · exact .inr ⟨g, cap, cur, hv, h2, (hb g (gr_in h3) (fun e => hs (by rw [hv, ← e]; rfl))).trans h3, rest⟩
end Go.Proofs.Ytagagpappjkgbaa
namespace Go.Proofs.Ytagagpappjkgbaa
set_option linter.unusedVariables false
set_option linter.unusedSimpArgs false
open Go.RowKit Go.Shelf

structure En where
  blocks : List Int
  turn : List Int
  from_ : List Int
def pushT (n : Int) : List Int → List (Int × Int) → List (Int × Int)
  | [], st => st
  | x :: l, st => pushT n l ((n, x) :: st)
/-- The walk, its stack's top first. -/
def enRun (g : List GB) : Nat → En → List (Int × Int) → Option En
  | _, e, [] => some e
  | 0, _, _ :: _ => none
  | k + 1, e, s :: l => (rdI e.turn s.2).bind fun t =>
      if t = -1 then
        if e.blocks.length < 1048576 ∧ l.length + (tosG g s.2.toNat).length ≤ 1048576 then
          enRun g k ⟨e.blocks ++ [s.2], e.turn.set s.2.toNat (e.blocks.length : Int), e.from_ ++ [s.1]⟩ (pushT (e.blocks.length : Int) (tosG g s.2.toNat) l)
        else none
      else enRun g k e l
theorem pushT_snoc (n : Int) (x : Int) : ∀ (l : List Int) (st : List (Int × Int)), pushT n (l ++ [x]) st = (n, x) :: pushT n l st
  | [], st => rfl
  | y :: l, st => by rw [List.cons_append, pushT, pushT_snoc n x l, pushT]
theorem pushT_len (n : Int) : ∀ (l : List Int) (st : List (Int × Int)), (pushT n l st).length = l.length + st.length
  | [], st => by simp [pushT]
  | y :: l, st => by rw [pushT, pushT_len n l]; simp; omega
def stkV : List (Int × Int) → List Value
  | [] => []
  | s :: l => stkV l ++ [.int .i64 s.1, .int .i64 s.2]
theorem stkV_len : ∀ l : List (Int × Int), (stkV l).length = l.length * 2
  | [] => rfl
  | s :: l => by rw [stkV, List.length_append, stkV_len l]; simp; omega
def stkR (v : Value) (st : List (Int × Int)) : GRw := ⟨222, 2, v, st.length, stkV st⟩
theorem stkR_pop {w : World} {base gw p c : Nat} {s : Int × Int} {st : List (Int × Int)} (h : w.ownsRow base 222 2 (.slice (some ⟨gw, 0, none⟩) p c) (st.length + 1) (stkV (s :: st))) : w.ownsRow base 222 2 (.slice (some ⟨gw, 0, none⟩) st.length c) st.length (stkV st) := by
  have hp := (gr_len h).2
  subst hp
  have h1 := gr_cut h st.length (by omega)
  have e : (stkV (s :: st)).take (st.length * 2) = stkV st := by
    rw [stkV, ← stkV_len st, List.take_left]
  rw [e] at h1
  exact h1
structure EnS (base E n : Nat) (w0 w : World) (vb vf u4 : Value) (tb : Nat) (e : En) (st : List (Int × Int)) (r4 : GRw) (F : Nat → GRw) : Prop where
  sq : Sq 211 w base E F [vb, .slice (some ⟨tb, 0, none⟩) n n, vf]
  f0 : F 0 = intR vb e.blocks
  f1 : F 1 = wholeR tb e.turn
  f2 : F 2 = intR vf e.from_
  f3 : F 3 = stkR u4 st
  f4 : F 4 = r4
  tl : e.turn.length = n
  bl : e.blocks.length ≤ 1048576
  sl : st.length ≤ 1048576
  bw : Below base w0 w
theorem EnS.keep {base E n : Nat} {w0 w w' : World} {vb vf u4 : Value} {tb : Nat} {e : En} {st : List (Int × Int)} {r4 : GRw} {F : Nat → GRw} (h : EnS base E n w0 w vb vf u4 tb e st r4 F) (hb : Below w.heap.size w w') : EnS base E n w0 w' vb vf u4 tb e st r4 F :=
  ⟨h.sq.keep hb, h.f0, h.f1, h.f2, h.f3, h.f4, h.tl, h.bl, h.sl, h.bw.trans (hb.mono h.sq.hb)⟩
theorem EnS.pop {base E n : Nat} {w0 w : World} {vb vf : Value} {gw p c tb : Nat} {e : En} {s : Int × Int} {st : List (Int × Int)} {r4 : GRw} {F : Nat → GRw} (h : EnS base E n w0 w vb vf (.slice (some ⟨gw, 0, none⟩) p c) tb e (s :: st) r4 F) : EnS base E n w0 w vb vf (.slice (some ⟨gw, 0, none⟩) st.length c) tb e st r4 (upG F 3 (stkR (.slice (some ⟨gw, 0, none⟩) st.length c) st)) := by
  have h3 := h.sq.at h.f3
  have hk := h.sq.grown 3 (World.grownBy.refl _ _) (stkR (.slice (some ⟨gw, 0, none⟩) st.length c) st) (stkR_pop h3) (fun g e => .inl (by rw [h.f3]; exact e))
  exact ⟨hk, by rw [upG_off _ _ _ _ (by omega)]; exact h.f0, by rw [upG_off _ _ _ _ (by omega)]; exact h.f1, by rw [upG_off _ _ _ _ (by omega)]; exact h.f2, upG_at _ _ _, by rw [upG_off _ _ _ _ (by omega)]; exact h.f4, h.tl, h.bl, by have := h.sl; simp at this; omega, h.bw⟩
/-- A block is entered: its turn. -/
theorem EnS.turn {base E n : Nat} {w0 w : World} {vb vf u4 : Value} {tb : Nat} {e : En} {st : List (Int × Int)} {r4 : GRw} {F : Nat → GRw} (h : EnS base E n w0 w vb vf u4 tb e st r4 F) (j : Nat) (x : Int) :
    EnS base E n w0 (w.setCell ⟨tb, j, none⟩ (.int .i64 x)) vb vf u4 tb { e with turn := e.turn.set j x } st r4 (upG F 1 (wholeR tb (e.turn.set j x))) :=
  ⟨h.sq.set h.f1 j x, by rw [upG_off _ _ _ _ (by omega)]; exact h.f0, upG_at _ _ _, by rw [upG_off _ _ _ _ (by omega)]; exact h.f2, by rw [upG_off _ _ _ _ (by omega)]; exact h.f3, by rw [upG_off _ _ _ _ (by omega)]; exact h.f4, by simpa using h.tl, h.bl, h.sl, h.bw.trans (h.sq.b_put h.f1 j _)⟩
theorem EnS.blk {base E n : Nat} {w0 w w' : World} {vb vf u4 vb' : Value} {tb : Nat} {e : En} {st : List (Int × Int)} {r4 : GRw} {F : Nat → GRw} {x : Int} (h : EnS base E n w0 w vb vf u4 tb e st r4 F) (hg : w.grownBy w' vb.ownBlock) (ho : w'.ownsRow base 3 1 vb' (e.blocks.length + 1) (intsV e.blocks ++ [.int .i64 x])) (hat : ∀ g, vb'.ownBlock = some g → vb.ownBlock = some g ∨ w.heap.size ≤ g) (hb : e.blocks.length < 1048576) :
    EnS base E n w0 (w'.setCell ⟨E, 0, none⟩ vb') vb' vf u4 tb { e with blocks := e.blocks ++ [x] } st r4 (upG F 0 (intR vb' (e.blocks ++ [x]))) := by
  have hg0 : w.grownBy w' (F 0).v.ownBlock := by rw [h.f0]; exact hg
  have h1 := h.sq.grown 0 hg0 (intR vb' (e.blocks ++ [x])) (by simpa [intR, intsV] using ho) (fun g e => by rw [h.f0]; exact hat g e)
  exact ⟨h1.field 0 vb', upG_at _ _ _, by rw [upG_off _ _ _ _ (by omega)]; exact h.f1, by rw [upG_off _ _ _ _ (by omega)]; exact h.f2, by rw [upG_off _ _ _ _ (by omega)]; exact h.f3, by rw [upG_off _ _ _ _ (by omega)]; exact h.f4, h.tl, by simp; omega, h.sl, (h.bw.trans (h.sq.b_grown 0 hg0)).trans (h1.b_field 0 _)⟩
theorem EnS.frm {base E n : Nat} {w0 w w' : World} {vb vf u4 vf' : Value} {tb : Nat} {e : En} {st : List (Int × Int)} {r4 : GRw} {F : Nat → GRw} {x : Int} (h : EnS base E n w0 w vb vf u4 tb e st r4 F) (hg : w.grownBy w' vf.ownBlock) (ho : w'.ownsRow base 3 1 vf' (e.from_.length + 1) (intsV e.from_ ++ [.int .i64 x])) (hat : ∀ g, vf'.ownBlock = some g → vf.ownBlock = some g ∨ w.heap.size ≤ g) :
    EnS base E n w0 (w'.setCell ⟨E, 2, none⟩ vf') vb vf' u4 tb { e with from_ := e.from_ ++ [x] } st r4 (upG F 2 (intR vf' (e.from_ ++ [x]))) := by
  have hg0 : w.grownBy w' (F 2).v.ownBlock := by rw [h.f2]; exact hg
  have h1 := h.sq.grown 2 hg0 (intR vf' (e.from_ ++ [x])) (by simpa [intR, intsV] using ho) (fun g e => by rw [h.f2]; exact hat g e)
  exact ⟨h1.field 2 vf', by rw [upG_off _ _ _ _ (by omega)]; exact h.f0, by rw [upG_off _ _ _ _ (by omega)]; exact h.f1, upG_at _ _ _, by rw [upG_off _ _ _ _ (by omega)]; exact h.f3, by rw [upG_off _ _ _ _ (by omega)]; exact h.f4, h.tl, h.bl, h.sl, (h.bw.trans (h.sq.b_grown 2 hg0)).trans (h1.b_field 2 _)⟩
theorem EnS.push {base E n : Nat} {w0 w w' : World} {vb vf u4 u4' : Value} {tb : Nat} {e : En} {st : List (Int × Int)} {r4 : GRw} {F : Nat → GRw} {s : Int × Int} (h : EnS base E n w0 w vb vf u4 tb e st r4 F) (hg : w.grownBy w' u4.ownBlock) (ho : w'.ownsRow base 222 2 u4' (st.length + 1) (stkV st ++ [.int .i64 s.1, .int .i64 s.2])) (hat : ∀ g, u4'.ownBlock = some g → u4.ownBlock = some g ∨ w.heap.size ≤ g) (hs : st.length < 1048576) :
    EnS base E n w0 w' vb vf u4' tb e (s :: st) r4 (upG F 3 (stkR u4' (s :: st))) := by
  have hg0 : w.grownBy w' (F 3).v.ownBlock := by rw [h.f3]; exact hg
  have h1 := h.sq.grown 3 hg0 (stkR u4' (s :: st)) ho (fun g e => by rw [h.f3]; exact hat g e)
  exact ⟨h1, by rw [upG_off _ _ _ _ (by omega)]; exact h.f0, by rw [upG_off _ _ _ _ (by omega)]; exact h.f1, by rw [upG_off _ _ _ _ (by omega)]; exact h.f2, upG_at _ _ _, by rw [upG_off _ _ _ _ (by omega)]; exact h.f4, h.tl, h.bl, by simp; omega, h.bw.trans (h.sq.b_grown 3 hg0)⟩
/-- The start with one row. -/
theorem Sq.start1 {T : TypeId} {w : World} {base : Nat} {E : Nat} {cs : List Value} (hbox : w.heap[E]? = some (.cells cs.toArray T (0, 0))) (hb : base ≤ E) (k : Nat) (r : GRw) (hown : w.ownsRow base r.T r.z r.v r.n r.xs) (hne : r.v.ownBlock ≠ some E) : Sq T w base E (upG (fun _ => noRow) k r) cs := by
  refine ⟨⟨gr_in hbox, fun j => ?_, fun j => ?_, fun i j hij => ?_⟩, hbox, hb, by have := gr_in hbox; omega⟩
  · by_cases h : j = k
    · subst h; rw [upG_at]; exact hne
    · rw [upG_off _ _ _ _ h]; simp [noRow, Value.ownBlock]
  · by_cases h : j = k
    · subst h; rw [upG_at]; exact hown
    · rw [upG_off _ _ _ _ h]; exact World.ownsRow_nil _ _ _ _
  · by_cases h : i = k
    · subst h
      rw [upG_at, upG_off _ _ _ _ (fun e => hij e.symm)]
      cases hr : r.v.ownBlock with
      | none => exact .inl rfl
      | some g => right; simp [noRow, Value.ownBlock]
    · left; rw [upG_off _ _ _ _ h]; rfl
theorem grown_any {w w' : World} {row : Option Nat} (h : Below w.heap.size w w') : w.grownBy w' row := ⟨h.os, h.tape, h.output, h.size, fun k hk _ => h.block k hk⟩
def sR (sb : Nat) (fr to_ : Int) : GRw := ⟨222, 2, .slice (some ⟨sb, 0, none⟩) 1 1, 1, [.int .i64 fr, .int .i64 to_]⟩
theorem EnS.str {base E n : Nat} {w0 w w' : World} {vb vf u4 : Value} {tb : Nat} {e : En} {st : List (Int × Int)} {r4 : GRw} {F : Nat → GRw} (h : EnS base E n w0 w vb vf u4 tb e st r4 F) (fr to_ : Int) (hw' : w' = w.alloc (.cells #[.int .i64 fr, .int .i64 to_] 222)) : EnS base E n w0 w' vb vf u4 tb e st (sR w.heap.size fr to_) (upG F 4 (sR w.heap.size fr to_)) := by
  have hal : Below w.heap.size w w' := by rw [hw']; exact (Below.refl _ _).alloc (Nat.le_refl _) _
  have hr : w'.ownsRow base 222 2 (.slice (some ⟨w.heap.size, 0, none⟩) 1 1) 1 [.int .i64 fr, .int .i64 to_] := by
    rw [hw']
    exact World.ownsRow_lit w #[.int .i64 fr, .int .i64 to_] 1 h.sq.hb (by decide) rfl
  have hs := h.sq.grown 4 (grown_any hal) (sR w.heap.size fr to_) hr (fun g e => .inr (by cases e; exact Nat.le_refl _))
  exact ⟨hs, by rw [upG_off _ _ _ _ (by omega)]; exact h.f0, by rw [upG_off _ _ _ _ (by omega)]; exact h.f1, by rw [upG_off _ _ _ _ (by omega)]; exact h.f2, by rw [upG_off _ _ _ _ (by omega)]; exact h.f3, upG_at _ _ _, h.tl, h.bl, h.sl, h.bw.trans (hal.mono h.sq.hb)⟩
theorem EnS.s0 {base E n sb : Nat} {w0 w : World} {vb vf u4 : Value} {tb : Nat} {e : En} {st : List (Int × Int)} {fr to_ : Int} {F : Nat → GRw} (h : EnS base E n w0 w vb vf u4 tb e st (sR sb fr to_) F) : w.cell? ⟨sb, 0, none⟩ = some (.int .i64 fr) ∧ w.cell? ⟨sb, 1, none⟩ = some (.int .i64 to_) := by
  have h4 := h.sq.at h.f4
  exact ⟨by rw [h4.cellAt 0 (by show 0 < 1 * 2; decide)]; rfl, by rw [h4.cellAt 1 (by show 1 < 1 * 2; decide)]; rfl⟩
def EnK (base E n : Nat) (w0 : World) (g : List GB) (res : En) (k : Nat) (u4 : Value) (w : World) : Prop := ∃ vb vf tb e st r4 F, EnS base E n w0 w vb vf u4 tb e st r4 F ∧ e.from_.length = e.blocks.length ∧ enRun g k e st = some res
theorem infoStepD : (Try.prog.info? 222).map (fun i => (i.zero, i.size, i.bytes)) = some (some (.agg #[.int .i64 0, .int .i64 0]), 2, 16) := by kernel_rfl
theorem cut_step {gw n c : Nat} (m : Nat) (hm : m ≤ n) (hn : n ≤ c) (hc : 0 < c) (W : World) : (Instr.slice 223 (.slice (some ⟨gw, 0, none⟩) n c) none (some (.int .i64 (m : Int))) none).run Try.prog W = .ok (.slice (some ⟨gw, 0, none⟩) m c) W := by
  rw [run_slice_h W 223 (some ⟨gw, 0, none⟩) n c (by simp [Program.elem, Try.underlying223]) .i64 (m : Int) (by omega) (by omega)]
  have : c ≠ 0 := by omega
  go_simp
theorem EnS.first {base E n tb : Nat} {w0 w w' : World} (hbox : w.heap[E]? = some (.cells #[.slice none 0 0, .slice (some ⟨tb, 0, none⟩) n n, .slice none 0 0] 211 (0, 0))) (hb : base ≤ E) (htb : base ≤ tb) (hne : tb ≠ E) (hrow : IRow w tb (List.replicate n (-1))) (hn : n ≤ 1048576) (hw0 : Below base w0 w)
    (hw' : w' = w.alloc (.cells #[.int .i64 (-1), .int .i64 0] 222)) : ∃ F, EnS base E n w0 w' (.slice none 0 0) (.slice none 0 0) (.slice (some ⟨w.heap.size, 0, none⟩) 1 1) tb ⟨[], List.replicate n (-1), []⟩ [(-1, 0)] noRow F := by
  have hl : (List.replicate n (-1 : Int)).length = n := by simp
  have hs := Sq.start1 (cs := [.slice none 0 0, .slice (some ⟨tb, 0, none⟩) n n, .slice none 0 0]) hbox hb 1 (wholeR tb (List.replicate n (-1))) (by rw [wholeR, hl]; exact hrow.own hl htb hn) (by simp [wholeR, Value.ownBlock]; exact hne)
  have hal : Below w.heap.size w w' := by rw [hw']; exact (Below.refl _ _).alloc (Nat.le_refl _) _
  have hst : w'.ownsRow w.heap.size 222 2 (.slice (some ⟨w.heap.size, 0, none⟩) 1 1) 1 (stkV [(-1, 0)]) := by
    rw [hw']
    exact World.ownsRow_lit w #[.int .i64 (-1), .int .i64 0] 1 (Nat.le_refl _) (by decide) rfl
  have h2 := hs.new 3 (by rw [upG_off _ _ _ _ (by omega)]; rfl) hal (stkR (.slice (some ⟨w.heap.size, 0, none⟩) 1 1) [(-1, 0)]) hst
  exact ⟨_, h2, by rw [upG_off _ _ _ _ (by omega), upG_off _ _ _ _ (by omega)]; rfl, by rw [upG_off _ _ _ _ (by omega), upG_at], by rw [upG_off _ _ _ _ (by omega), upG_off _ _ _ _ (by omega)]; rfl, upG_at _ _ _, by rw [upG_off _ _ _ _ (by omega), upG_off _ _ _ _ (by omega)], hl, by simp, by simp, hw0.trans (hal.mono hs.hb)⟩
theorem enter_res {base E n s : Nat} {w0 w w' : World} {vb vf u4 : Value} {tb : Nat} {e : En} {st : List (Int × Int)} {r4 : GRw} {F : Nat → GRw} (h : EnS base E n w0 w vb vf u4 tb e st r4 F) (hz : w.heap.size ≤ w'.heap.size) (hk : ∀ k, k < w.heap.size → k ≠ s → w'.heap[k]? = w.heap[k]?) (hs : s < base) : GNs w'.heap.size w' vb e.blocks ∧ GNs w'.heap.size w' (.slice (some ⟨tb, 0, none⟩) n n) e.turn ∧ GNs w'.heap.size w' vf e.from_ := by
  have o : ∀ k, (F k).v.ownBlock ≠ some s := fun k e => by have := ((h.sq.fam.own k).lt s e).1; omega
  have o0 := o 0
  have o1 := o 1
  have o2 := o 2
  rw [h.f0] at o0
  rw [h.f1] at o1
  rw [h.f2] at o2
  refine ⟨GNs.of_own (own_far (h.sq.at h.f0) hz hk o0), ?_, GNs.of_own (own_far (h.sq.at h.f2) hz hk o2)⟩
  have := GNs.of_own (own_far (h.sq.at h.f1) hz hk o1)
  have e1 := h.tl
  subst e1
  exact this
end Go.Proofs.Ytagagpappjkgbaa
namespace Go.Proofs.Ytagagpappjkgbaa
set_option linter.unusedVariables false
set_option linter.unusedSimpArgs false
open Go.RowKit Go.Shelf

/-- The rows of a family from number k on: first the row of the rows. -/
def RowsAt (F : Nat → GRw) (k gb m : Nat) (vs : List Value) (ls : List (List Int)) : Prop :=
  vs.length = m ∧ ls.length = m ∧ F k = ⟨64, 1, .slice (some ⟨gb, 0, none⟩) m m, m, vs⟩ ∧ ∀ j v l, vs[j]? = some v → ls[j]? = some l → F (k + 1 + j) = intR v l
theorem RowsAt.off {F : Nat → GRw} {k gb m : Nat} {vs : List Value} {ls : List (List Int)} (h : RowsAt F k gb m vs ls) (i : Nat) (r : GRw) (hi : i < k ∨ k + m < i) : RowsAt (upG F i r) k gb m vs ls := by
  obtain ⟨h1, h2, h3, h4⟩ := h
  refine ⟨h1, h2, by rw [upG_off _ _ _ _ (by omega)]; exact h3, fun j v l hv hl => ?_⟩
  have hj : j < m := by rw [← h1]; exact (List.getElem?_eq_some_iff.1 hv).1
  rw [upG_off _ _ _ _ (by omega)]
  exact h4 j v l hv hl
theorem RowsAt.same {F F' : Nat → GRw} {k gb m : Nat} {vs : List Value} {ls : List (List Int)} (h : RowsAt F k gb m vs ls) (hs : ∀ i, k ≤ i → i ≤ k + m → F' i = F i) : RowsAt F' k gb m vs ls := by
  obtain ⟨h1, h2, h3, h4⟩ := h
  refine ⟨h1, h2, by rw [hs k (Nat.le_refl _) (by omega)]; exact h3, fun j v l hv hl => ?_⟩
  have hj : j < m := by rw [← h1]; exact (List.getElem?_eq_some_iff.1 hv).1
  rw [hs _ (by omega) (by omega)]
  exact h4 j v l hv hl
theorem RowsAt.upd {F : Nat → GRw} {k gb m t : Nat} {vs : List Value} {ls : List (List Int)} (h : RowsAt F k gb m vs ls) (ht : t < m) (u : Value) (l' : List Int) : RowsAt (upG (upG F (k + 1 + t) (intR u l')) k ⟨64, 1, .slice (some ⟨gb, 0, none⟩) m m, m, vs.set t u⟩) k gb m (vs.set t u) (ls.set t l') := by
  obtain ⟨h1, h2, h3, h4⟩ := h
  refine ⟨by simpa using h1, by simpa using h2, upG_at _ _ _, fun j v l hv hl => ?_⟩
  rw [upG_off _ _ _ _ (by omega)]
  by_cases hj : t = j
  · subst hj
    rw [List.getElem?_set_self (by omega)] at hv hl
    injection hv with hv
    injection hl with hl
    rw [upG_at, hv, hl]
  · rw [List.getElem?_set_ne hj] at hv hl
    rw [upG_off _ _ _ _ (by omega)]
    exact h4 j v l hv hl
theorem RowsAt.start {F : Nat → GRw} {k gb m : Nat} (hF : ∀ j, j < m → F (k + 1 + j) = noRow) : RowsAt (upG F k ⟨64, 1, .slice (some ⟨gb, 0, none⟩) m m, m, List.replicate m (.slice none 0 0)⟩) k gb m (List.replicate m (.slice none 0 0)) (List.replicate m []) := by
  refine ⟨by simp, by simp, upG_at _ _ _, fun j v l hv hl => ?_⟩
  have hj : j < m := by have := (List.getElem?_eq_some_iff.1 hv).1; simpa using this
  have e1 := List.eq_of_mem_replicate (List.mem_of_getElem? hv)
  have e2 := List.eq_of_mem_replicate (List.mem_of_getElem? hl)
  subst e1 e2
  rw [upG_off _ _ _ _ (by omega), hF j hj]
  rfl
theorem RowsAt.at {F : Nat → GRw} {k gb m j : Nat} {vs : List Value} {ls : List (List Int)} (h : RowsAt F k gb m vs ls) (hj : j < m) : ∃ v l, vs[j]? = some v ∧ ls[j]? = some l ∧ ls.getD j [] = l ∧ F (k + 1 + j) = intR v l := by
  obtain ⟨h1, h2, h3, h4⟩ := h
  have e1 : vs[j]? = some vs[j] := List.getElem?_eq_getElem (by omega)
  have e2 : ls[j]? = some ls[j] := List.getElem?_eq_getElem (by omega)
  exact ⟨_, _, e1, e2, by simp [List.getD, e2], h4 j _ _ e1 e2⟩
/-- One of the rows, where it lies. -/
theorem RowsAt.cell {T : TypeId} {w : World} {base E : Nat} {F : Nat → GRw} {cs : List Value} {k gb m j : Nat} {vs : List Value} {ls : List (List Int)} {v : Value} (h : RowsAt F k gb m vs ls) (hs : Sq T w base E F cs) (hv : vs[j]? = some v) : w.cell? ⟨gb, j, none⟩ = some v := by
  have hj : j < m := by rw [← h.1]; exact (List.getElem?_eq_some_iff.1 hv).1
  rw [(hs.at h.2.2.1).cellAt j (by show j < m * 1; omega)]
  exact hv
theorem RowsAt.fro {T : TypeId} {w : World} {base E : Nat} {F : Nat → GRw} {cs : List Value} {k gb m : Nat} {vs : List Value} {ls : List (List Int)} (h : RowsAt F k gb m vs ls) (hs : Sq T w base E F cs) (j : Nat) : w.frozen? ⟨gb, j, none⟩ = false := (hs.at h.2.2.1).frozenAt j
/-- One row is longer now (w2): before it is entered in the row of the rows. -/
theorem RowsAt.grown {T : TypeId} {w w2 : World} {base E : Nat} {F : Nat → GRw} {cs : List Value} {k gb m t g c2 : Nat} {vs : List Value} {ls : List (List Int)} {v : Value} {l : List Int} {x : Int} (h : RowsAt F k gb m vs ls) (hs : Sq T w base E F cs) (hv : vs[t]? = some v) (hl : ls[t]? = some l)
    (hg : w.grownBy w2 v.ownBlock) (ho : w2.ownsRow base 3 1 (.slice (some ⟨g, 0, none⟩) (l.length + 1) c2) (l.length + 1) (intsV l ++ [.int .i64 x])) (hat : v.ownBlock = some g ∨ w.heap.size ≤ g) :
    Sq T w2 base E (upG F (k + 1 + t) (intR (.slice (some ⟨g, 0, none⟩) (l.length + 1) c2) (l ++ [x]))) cs ∧ Below base w w2 := by
  have hf := h.2.2.2 t v l hv hl
  have hg0 : w.grownBy w2 (F (k + 1 + t)).v.ownBlock := by rw [hf]; exact hg
  refine ⟨hs.grown _ hg0 _ (by simpa [intR, intsV] using ho) (fun g' e => ?_), hs.b_grown _ hg0⟩
  simp only [intR, Value.ownBlock, Option.some.injEq] at e
  subst e
  rw [hf]
  exact hat
/-- And then entered. -/
theorem RowsAt.enter {T : TypeId} {w : World} {base E : Nat} {F : Nat → GRw} {cs : List Value} {k gb m t : Nat} {vs : List Value} {ls : List (List Int)} {u : Value} {l' : List Int} (h : RowsAt F k gb m vs ls) (ht : t < m) (hs : Sq T w base E (upG F (k + 1 + t) (intR u l')) cs) :
    Sq T (w.setCell ⟨gb, t, none⟩ u) base E (upG (upG F (k + 1 + t) (intR u l')) k ⟨64, 1, .slice (some ⟨gb, 0, none⟩) m m, m, vs.set t u⟩) cs ∧ RowsAt (upG (upG F (k + 1 + t) (intR u l')) k ⟨64, 1, .slice (some ⟨gb, 0, none⟩) m m, m, vs.set t u⟩) k gb m (vs.set t u) (ls.set t l') ∧ Below base w (w.setCell ⟨gb, t, none⟩ u) := by
  have hk : (upG F (k + 1 + t) (intR u l')) k = ⟨64, 1, .slice (some ⟨gb, 0, none⟩) m m, m, vs⟩ := by rw [upG_off _ _ _ _ (by omega)]; exact h.2.2.1
  exact ⟨hs.put hk t u, h.upd ht u l', hs.b_put hk t u⟩

/-- Of each turn the turns that lead to it. -/
def bkIns (turn : List Int) (i : Int) : List Int → List (List Int) → Option (List (List Int))
  | [], ls => some ls
  | x :: xs, ls => (rdI turn x).bind fun t =>
      if 0 ≤ t ∧ t < ls.length ∧ (ls.getD t.toNat []).length < 1048576 then bkIns turn i xs (ls.set t.toNat (ls.getD t.toNat [] ++ [i])) else none
def bkRun (g : List GB) (turn : List Int) : Nat → List Int → List (List Int) → Option (List (List Int))
  | _, [], ls => some ls
  | i, b :: bs, ls => if 0 ≤ b ∧ b < g.length then (bkIns turn (i : Int) (tosG g b.toNat) ls).bind (bkRun g turn (i + 1) bs) else none
end Go.Proofs.Ytagagpappjkgbaa
namespace Go.Proofs.Ytagagpappjkgbaa
set_option linter.unusedVariables false
set_option linter.unusedSimpArgs false
open Go.RowKit Go.Shelf

/-- Only the normal end is asked. -/
def OnlyN (Q : Exit → Act → World → Prop) : Exit → Act → World → Prop := fun e a w => e = .normal ∧ Q .normal a w
theorem onlyN_out {Q : Exit → Act → World → Prop} : ¬ LetsOut (OnlyN Q) := by
  rintro ⟨a, w, h, _⟩
  cases h
theorem round_op {P : Program} {ops : Array Oper} {Q : Exit → Act → World → Prop} {l i : Nat} {K : Act → World → Prop} {a : Act} {w : World} (hnd : ∀ (i : Nat) o, ops[i]? = some o → ∀ c, o.op ≠ .defer c)
    (h : wpOp P ops (OnlyN Q) i K a w) : wpOpIn (Fence.wide.inRound l) 0 P ops Q i K a w := by
  unfold wpOp at h
  unfold wpOpIn
  cases ho : ops[i]? with
  | none => rw [ho] at h; exact h
  | some o =>
    rw [ho] at h
    dsimp only at h ⊢
    split at h
    · next hw =>
      rw [if_pos hw]
      rcases h with h | ⟨_, h⟩
      · refine ⟨fun f _ => trivial, ?_⟩
        rw [Fence.inRound_round, Oper.semAt_some l _ _ (hnd i o ho)]
        unfold Oper.wp at h
        generalize (execOp a.eval o).run P w = r at *
        cases r with
        | ok x w' =>
          cases x <;> simp only [Oper.upon, Oper.uponIn] at h ⊢
          case value v => exact h
          case skip => exact h
          case defer d => exact h
          case enter f args =>
            refine ⟨fun e => by simp [Fence.wide, Fence.inRound] at e, CallsIn.inRound l (callsIn_wide.2 (Calls.mono h fun e w'' he => ?_))⟩
            cases e with
            | returned v => exact he
            | panicked c => exact absurd he.1 (by simp)
            | outgrown => exact absurd he onlyN_out
          case row row args =>
            refine ⟨fun e => by simp [Fence.wide, Fence.inRound] at e, fun c cs _ => ?_⟩
            obtain ⟨v, w'', r, s⟩ := h c cs
            exact ⟨v, w'', r, stepsIn_wide.2 s⟩
        | halt x w' =>
          cases x <;> simp only [Oper.upon, Oper.uponIn] at h ⊢
          case panic v => exact absurd h.1 (by simp)
      · exact absurd h onlyN_out
    · next hw =>
      rw [if_neg hw]
      exact ⟨fun f _ => trivial, h⟩
theorem round_any {P : Program} {ops : Array Oper} {Q : Exit → Act → World → Prop} {l : Nat} {md : Region.Mode} (hnd : ∀ (i : Nat) o, ops[i]? = some o → ∀ c, o.op ≠ .defer c) : ∀ (fuel : Nat) (listed : Array Bool) (a : Act) (w : World),
    wpAny P md ops (OnlyN Q) fuel listed a w → wpAnyIn (Fence.wide.inRound l) 0 P md ops Q fuel listed a w
  | 0, _, _, _, h => ⟨h.1, h.2.2⟩
  | fuel + 1, listed, a, w, h => ⟨fun e => (h.1 e).2, fun i hi => wpOpIn_mono (fun a' w' h' => round_any hnd fuel _ a' w' h') (round_op hnd (h.2 i hi))⟩
end Go.Proofs.Ytagagpappjkgbaa
namespace Go.Proofs.Ytagagpappjkgbaa
set_option linter.unusedVariables false
set_option linter.unusedSimpArgs false
open Go.RowKit Go.Shelf

def SepGivs {α : Type} (P : Program) (g : Nat) (lb : Array Value) (enc : α → Array Value) (xs : List α) (S Wr : Nat → Prop) (Post : World → Prop) (W : World) : Prop :=
  ∀ (l : Nat) (J : List α → (Nat → Prop) → World → Prop) (F0 : Nat → Prop),
    (∀ pre F A B, J pre F A → StepOff F A B → J pre F B) →
    (∀ pre F A, J pre F A → ∀ k, F k → k < A.heap.size) →
    (∀ pre x F A, J pre F A → (pre ++ [x]) <+: xs → YieldAt Fence.wide 0 P l (enc x) A fun e B => e = .returned (.bool true) ∧ ∃ F', J (pre ++ [x]) F' B ∧ StepOn F F' A B) →
    (∀ k, F0 k → ¬ S k) → J [] F0 W →
    Calls P g (#[.func (.yield l) #[] #[]] ++ lb) W fun e W' => (∃ v, e = .returned v) ∧ ∃ F', J xs F' W' ∧ Post W' ∧ Framed F0 F' Wr W W'

theorem wp_range_sepv {P : Program} {α : Type} {g : Operand} {ps : Array Tmp} {assign body : Code} {Q : Exit → Act → World → Prop} {a : Act} {w : World} {gf : Nat} {lb : Array Value}
    (hg : a.eval g = .func (.func gf) #[] lb) (eg : ∀ args w, (callFunc gf args).run P w = .ok (.enter gf args) w)
    {enc : α → Array Value} {xs : List α} {S Wr : Nat → Prop} {Post : World → Prop} (hseq : ∀ W1, Below w.heap.size w W1 → SepGivs P gf lb enc xs S Wr Post W1) (hps : ∀ x, (enc x).size = ps.size)
    (hPost : ∀ A B : World, Post A → A.heap.size ≤ B.heap.size → (∀ k, k < w.heap.size → B.heap[k]? = A.heap[k]?) → Post B)
    (I : List α → (Nat → Prop) → World → Prop) (F0 : Nat → Prop)
    (hIoff : ∀ pre F A B, I pre F A → StepOff F A B → I pre F B) (hIlt : ∀ pre F A, I pre F A → ∀ k, F k → k < A.heap.size)
    (hF0 : ∀ k, F0 k → ¬ S k) (hS : ∀ k, S k → k < w.heap.size) (h0 : I [] F0 w) (a₁ : α → Act)
    (hassign : ∀ (l : Nat) (x : α) (W : World) (K : Act → World → Prop), K (a₁ x) W →
      assign.wpIn (Fence.wide.inRound l) 0 P (Exit.then K (fun _ _ _ => False)) { tmps := (ps.zip (enc x)).foldl (fun t (p, v) => t.setIfInBounds p v) a.tmps, defers := [] } W)
    (hbody : ∀ (l : Nat) (pre : List α) (x : α) (F : Nat → Prop) (A : World), I pre F A → (pre ++ [x]) <+: xs → body.wpIn (Fence.wide.inRound l) 0 P (fun e a' B => e = .normal ∧ ∃ F', I (pre ++ [x]) F' B ∧ StepOn F F' A B) (a₁ x) A)
    (hdone : ∀ (D : Nat) (F' : Nat → Prop) (W' : World), I xs F' W' → Post W' → Framed F0 F' Wr w W' → W'.heap[D]? = some (.deferred (some [])) → w.heap.size ≤ D → ¬ F' D → Q .normal { a with defers := { target := .collected D, args := #[] } :: a.defers } W') :
    (Code.rangeFunc g ps assign body).wp P Q a w := by
  refine (wpIn_wide (n := 0)).1 (wpIn_rangeFunc ?_)
  intro fn hfn
  obtain ⟨rec, hrec⟩ : ∃ rec : LoopState → Option Code → Loop, rec = fun st pe => { state := st, pending := pe, fn, tmps := a.tmps, params := ps, assign, body, defers := w.heap.size } := ⟨_, rfl⟩
  obtain ⟨W1, hW1⟩ : ∃ W1, (w.alloc (.deferred (some []))).alloc (.loop (rec .ready none)) = W1 := ⟨_, rfl⟩
  have hL1 : W1.heap[w.heap.size + 1]? = some (.loop (rec .ready none)) := by
    rw [← hW1]; have := World.alloc_heap_new (w.alloc (.deferred (some []))) (.loop (rec .ready none)); rwa [World.size_alloc] at this
  have hK1 : W1.heap[w.heap.size]? = some (.deferred (some [])) := by
    rw [← hW1]; exact (Below.heap_alloc _ _ _ (by simp)).trans (World.alloc_heap_new w _)
  have hb1 : Below w.heap.size w W1 := by
    rw [← hW1]; exact ((Below.refl _ w).alloc (Nat.le_refl _) _).alloc (by simp) _
  have hsz1 : W1.heap.size = w.heap.size + 2 := by rw [← hW1]; simp
  have hI1 : I [] F0 W1 := hIoff _ _ _ _ h0 ⟨hb1.os, hb1.tape, hb1.output, hb1.size, fun k hk => hb1.block k (hIlt _ _ _ h0 k hk)⟩
  have hout : ∀ k, F0 k → k < w.heap.size := fun k hk => hIlt _ _ _ h0 k hk
  refine ⟨w.heap.size + 1, [{ target := .collected w.heap.size, args := #[] }], W1, { target := .fn (.func gf) lb, args := #[.func (.yield (w.heap.size + 1)) #[] #[]] }, W1, gf,
    #[.func (.yield (w.heap.size + 1)) #[] #[]] ++ lb, W1, ?_, ?_, ?_, ?_, fun h => by simp [Fence.wide] at h, ?_⟩
  · rw [← hW1, hrec]; exact run_enterLoop_outer _ _ _ _ _
  · simp only [resolve, hg]
    simp [go_sem]
  · intro f' hf'; trivial
  · simp [invoke, go_sem, eg]
  · refine callsIn_wide.2 ((hseq W1 hb1 (w.heap.size + 1)
      (fun pre F A => ∃ Fu : Nat → Prop, (∀ k, F k ↔ (Fu k ∨ k = w.heap.size + 1 ∨ k = w.heap.size)) ∧ I pre Fu A ∧ ¬ Fu (w.heap.size + 1) ∧ ¬ Fu w.heap.size ∧ A.heap[w.heap.size + 1]? = some (.loop (rec .ready none)) ∧ A.heap[w.heap.size]? = some (.deferred (some [])) ∧ (∀ k, Fu k → F0 k ∨ w.heap.size ≤ k) ∧ w.heap.size + 2 ≤ A.heap.size)
      (fun k => F0 k ∨ k = w.heap.size + 1 ∨ k = w.heap.size) ?_ ?_ ?_ ?_ ?_).mono ?_)
    · rintro pre F A B ⟨Fu, hF, hi, h1, h2, h3, h4, h5, h6⟩ hst
      exact ⟨Fu, hF, hIoff _ _ _ _ hi ⟨hst.os, hst.tape, hst.output, hst.size, fun k hk => hst.block k ((hF k).2 (.inl hk))⟩, h1, h2, (hst.block _ ((hF _).2 (.inr (.inl rfl)))).trans h3, (hst.block _ ((hF _).2 (.inr (.inr rfl)))).trans h4, h5, Nat.le_trans h6 hst.size⟩
    · rintro pre F A ⟨Fu, hF, hi, h1, h2, h3, h4, h5, h6⟩ k hk
      rcases (hF k).1 hk with h | rfl | rfl
      · exact hIlt _ _ _ hi k h
      · omega
      · omega
    · rintro pre x F A ⟨Fu, hF, hi, h1, h2, h3, h4, h5, h6⟩ hpre
      have hy := run_yield (P := P) (args := (enc x)) h3 (by rw [hrec]; simp [hps])
      rw [hrec] at hy
      have hl2 : (A.putObj (w.heap.size + 1) (.loop { rec .ready none with state := .busy })).heap[w.heap.size + 1]? = some (.loop { rec .ready none with state := .busy }) := World.putObj_heap_same (by omega)
      have hi2 : I pre Fu (A.putObj (w.heap.size + 1) (.loop { rec .ready none with state := .busy })) := hIoff _ _ _ _ hi ⟨rfl, rfl, rfl, by simp, fun k hk => World.putObj_heap_other (fun e => h1 (e ▸ hk))⟩
      refine ⟨fn, _, assign, body, hy, roundIn_of_wpIn trivial (hassign _ x A _ ⟨_, run_beginRound h3 (by rw [hrec]), ?_⟩)⟩
      refine wpIn_mono (hbody _ pre x Fu _ hi2 hpre) ?_
      rintro e a3 B ⟨rfl, Fu', hi3, hon⟩
      have hl3 : B.heap[w.heap.size + 1]? = some (.loop { rec .ready none with state := .busy }) := (hon.block _ (by simp; omega) h1).trans hl2
      have hd3 : B.heap[w.heap.size]? = some (.deferred (some [])) := ((hon.block _ (by simp; omega) h2).trans (World.putObj_heap_other (by omega))).trans h4
      have hsB : A.heap.size ≤ B.heap.size := by have := hon.size; simpa using this
      have hend := run_endRound (P := P) none hl3
      have n1 : ¬ Fu' (w.heap.size + 1) := fun e => by
        rcases hon.foot _ e with h | h
        · exact h1 h
        · simp at h; omega
      have n2 : ¬ Fu' w.heap.size := fun e => by
        rcases hon.foot _ e with h | h
        · exact h2 h
        · simp at h; omega
      obtain ⟨r2, hr2⟩ : ∃ r2 : Loop, r2 = { ({ rec .ready none with state := .busy } : Loop) with state := if (none : Option Code).isNone then .ready else .done, pending := none } := ⟨_, rfl⟩
      have hr3 : r2 = rec .ready none := by rw [hr2, hrec]; rfl
      rw [← hr2, hr3] at hend
      refine ⟨_, _, hend, rfl, fun k => Fu' k ∨ k = w.heap.size + 1 ∨ k = w.heap.size, ⟨Fu', fun _ => Iff.rfl, hIoff _ _ _ _ hi3 ⟨rfl, rfl, rfl, by simp, fun k hk => World.putObj_heap_other (fun e => n1 (e ▸ hk))⟩, n1, n2, World.putObj_heap_same (by omega), (World.putObj_heap_other (by omega)).trans hd3, fun k hk => ?_, by simp; omega⟩, ?_⟩
      · rcases hon.foot k hk with h | h
        · exact h5 k h
        · simp at h; right; omega
      · refine ⟨hon.os, hon.tape, hon.output, by simpa using hsB, fun k hk hn => ?_, fun k hk => ?_⟩
        · have hk1 : k ≠ w.heap.size + 1 := fun e => hn ((hF k).2 (.inr (.inl e)))
          have hk2 : ¬ Fu k := fun e => hn ((hF k).2 (.inl e))
          exact (World.putObj_heap_other hk1).trans ((hon.block k (by simpa using hk) hk2).trans (World.putObj_heap_other hk1))
        · rcases hk with h | h
          · rcases hon.foot k h with h' | h'
            · exact .inl ((hF k).2 (.inl h'))
            · exact .inr (by simpa using h')
          · exact .inl ((hF k).2 (.inr h))
    · rintro k (h | rfl | rfl)
      · exact hF0 k h
      · intro e; have := hS _ e; omega
      · intro e; have := hS _ e; omega
    · exact ⟨F0, fun _ => Iff.rfl, hI1, fun e => by have := hout _ e; omega, fun e => by have := hout _ e; omega, hL1, hK1, fun k hk => .inl hk, by omega⟩
    · rintro e W2 ⟨⟨v, rfl⟩, F', ⟨Fu, hF, hi, h1, h2, h3, h4, h5, h6⟩, hp, hfr⟩
      have hend := run_endLoop (P := P) h3 (by rw [hrec]; simp)
      rw [hrec] at hend
      refine ⟨none, _, hend, hdone w.heap.size Fu _ (hIoff _ _ _ _ hi ⟨rfl, rfl, rfl, by simp, fun k hk => World.putObj_heap_other (fun e => h1 (e ▸ hk))⟩) (hPost _ _ hp (by simp) (fun k hk => World.putObj_heap_other (by omega))) ?_ ((World.putObj_heap_other (by omega)).trans h4) (Nat.le_refl _) h2⟩
      refine ⟨hfr.os.trans hb1.os, hfr.tape.trans hb1.tape, hfr.output.trans hb1.output, by have := hfr.size; simp; omega, fun k hk hn hw => ?_, fun k hk => h5 k hk⟩
      exact (World.putObj_heap_other (by omega)).trans ((hfr.block k (by omega) (fun e => by
        rcases e with e | e | e
        · exact hn e
        · omega
        · omega) hw).trans (hb1.block k hk))
end Go.Proofs.Ytagagpappjkgbaa
namespace Go.Proofs.Ytagagpappjkgbaa
set_option linter.unusedVariables false
set_option linter.unusedSimpArgs false
open Go.RowKit Go.Shelf

attribute [local go_sem] Oper.semAt_some

def backL (l : List Int) : List (Nat × Int) := (List.range l.length).reverse.map fun i => (i, l.getD i 0)
theorem backL_len (l : List Int) : (backL l).length = l.length := by simp [backL]
theorem backL_at (l : List Int) (j : Nat) (hj : 0 < j) (hl : j ≤ l.length) : (backL l)[l.length - j]? = some (j - 1, l.getD (j - 1) 0) := by
  unfold backL
  rw [List.getElem?_map, List.getElem?_reverse (by simp; omega), List.length_range, List.getElem?_range (by omega)]
  have e : l.length - 1 - (l.length - j) = j - 1 := by omega
  rw [e]
  rfl
theorem backL_snd (l : List Int) : (backL l).map (·.2) = l.reverse := by
  unfold backL
  rw [List.map_map, List.map_reverse]
  congr 1
  refine List.ext_getElem? fun i => ?_
  rw [List.getElem?_map]
  by_cases h : i < l.length
  · rw [List.getElem?_range h]
    simp [List.getD, h]
  · rw [List.getElem?_eq_none (by simp; omega), List.getElem?_eq_none (by omega)]
    rfl
def encB (p : Nat × Int) : Array Value := #[.int .i64 (p.1 : Int), .int .i64 p.2]
theorem enters_backward : ∀ args w, (callFunc 165 args).run Try.prog w = .ok (.enter 165 args) w := enters_of Try.func165 (by kernel_rfl) rfl

set_option maxRecDepth 100000 in
theorem backward_g (A : Option Addr) (n c : Nat) (w : World) :
    Calls Try.prog 162 #[.slice A n c] w fun e w' => e = .returned (.func (.func 165) #[] #[.pointer (some ⟨w.heap.size, 0, none⟩)]) ∧ Below w.heap.size w w' ∧ w'.heap.size = w.heap.size + 1 ∧ w'.heap[w.heap.size]? = some (.cells #[.slice A n c] 64 (0, 0)) := by
  obtain ⟨W, hW, hbW, hzW, h0W⟩ := gr_one w #[.slice A n c] 64
  have hmf : ∀ (fn : Fn) (first cap : Array Value) (w : World), (Instr.makeFunc fn first cap).run Try.prog w = .ok (.func fn first cap) w := fun _ _ _ _ => rfl
  have H := Lib.hid (And.intro hbW (And.intro hzW h0W))
  have HW := Lib.hid hW
  clear hbW hzW h0W hW
  go_enter Try.func162, Try.ntmps162
  go_upto_region 1 with fail
  rw [← HW.out]
  go_wp2
  go_ret
  exact ⟨rfl, H.out⟩

set_option maxRecDepth 100000 in
set_option maxHeartbeats 4000000 in
theorem backward_sep (bx : Nat) (A : Option Addr) (m c : Nat) (l : List Int) (S : Nat → Prop) (W : World) (hbx : W.cell? ⟨bx, 0, none⟩ = some (.slice A m c)) (hml : m = l.length) (hm : m ≤ 1048576)
    (hrow : 0 < m → ∃ rb, A = some ⟨rb, 0, none⟩ ∧ S rb ∧ ∀ j, j < m → W.cell? ⟨rb, j, none⟩ = some (.int .i64 (l.getD j 0))) (hsx : S bx) (hSl : ∀ k, S k → k < W.heap.size) :
    SepGivs Try.prog 165 #[.pointer (some ⟨bx, 0, none⟩)] encB (backL l) S NoW (fun _ => True) W := by
  intro y J F0 hJoff hJlt hJ hF0 h0
  have hS0 : ∀ k, S k → ¬ F0 k := fun k hk e => hF0 k e hk
  have Hml := Lib.hid hml
  have Hbx := Lib.hid hbx
  have Hsx := Lib.hid hsx
  have Hrow := Lib.hid hrow
  have HJ := Lib.hid hJ
  have HS0 := Lib.hid hS0
  have HSl := Lib.hid hSl
  have H0 : Hid (J ((backL l).take (m - m)) F0 W) := Lib.hid (by rw [Nat.sub_self]; exact h0)
  clear hml hrow hJ hJlt hJoff hS0 hF0 h0 hSl hsx
  have HR0 : Hid (Framed F0 F0 NoW W W) := Lib.hid (Framed.refl _ _ _)
  change Calls _ _ #[.func (.yield y) #[] #[], .pointer (some ⟨bx, 0, none⟩)] _ _
  go_enter Try.func165, Try.ntmps165
  go_upto_region 1 with fail
  clear hbx
  go_loopw [3] (fun u3 wr => ∃ (j : Nat) (F : Nat → Prop), j ≤ m ∧ u3 = .int .i64 ((j : Int) - 1) ∧ Hid (J ((backL l).take (m - j)) F wr) ∧ Hid (Framed F0 F NoW W wr) ∧ Hid (∀ k, S k → ¬ F k)) (fun u3 _ => (intOf u3 + 1).toNat)
  case atStart => exact ⟨m, F0, Nat.le_refl _, rfl, H0, HR0, HS0⟩
  case round =>
    clear H0 HR0
    obtain ⟨j, F, hj, rfl, HJi, HR, HF⟩ := hrel
    cases j with
    | zero =>
      go_wp2
      go_end0
      refine ⟨⟨_, rfl⟩, F, ?_, trivial, HR.out⟩
      have := HJi.out
      rw [Nat.sub_zero, Hml.out, ← backL_len l, List.take_length] at this
      exact this
    | succ j =>
      obtain ⟨rb, rfl, hSr, hcell⟩ := Hrow.out (by omega)
      have hj1 : (((j + 1 : Nat) : Int) - 1) = (j : Int) := by omega
      have hb := HR.out.cell Hsx.out HS0.out HSl.out Hbx.out
      have hc := HR.out.cell hSr HS0.out HSl.out (hcell j (by omega))
      have hat := backL_at l (j + 1) (by omega) (by rw [← Hml.out]; exact hj)
      rw [← Hml.out, Nat.add_sub_cancel] at hat
      obtain ⟨x, hx⟩ : ∃ x, x = l.getD j 0 := ⟨_, rfl⟩
      rw [← hx] at hc hat
      have hst : (backL l).take (m - j) = (backL l).take (m - (j + 1)) ++ [(j, x)] := by
        have h1 : m - j = (m - (j + 1)) + 1 := by omega
        have hlt := (List.getElem?_eq_some_iff.1 hat).1
        have he := (List.getElem?_eq_some_iff.1 hat).2
        rw [h1, List.take_succ_eq_append_getElem hlt, he]
      obtain ⟨fn, tmps, assign, body, hy, hR⟩ := HJ.out ((backL l).take (m - (j + 1))) (j, x) F wr HJi.out (by rw [← hst]; exact List.take_prefix _ _)
      have Hst := Lib.hid hst
      have HR2 := Lib.hid hR
      rw [hj1]
      clear hx hst hR hat hcell hj1
      go_upto_region 3 with fail
      refine (wpIn_wide (n := 0)).1 ?_
      unfold encB at hy
      dsimp only at hy
      gi_wp2
      refine ⟨rfl, HR2.out.mono ?_⟩
      rintro e W3 ⟨rfl, F', hJ3, hon⟩
      have HJ3 := Lib.hid hJ3
      have HR3 := Lib.hid (HR.out.on hon)
      have HF3 := Lib.hid (apart_on HF.out (fun k hk => Nat.lt_of_lt_of_le (HSl.out k hk) HR.out.size) hon)
      clear hJ3 hon hy HR2 hb hc
      dsimp only
      gi_wp2
      go_wp2
      go_roundw
      case rel => exact ⟨j, F', by omega, by go_num, Lib.hid (by rw [Hst.out]; exact HJ3.out), HR3, HF3⟩
      case measure => first | (simp [intOf]; done) | (simp [intOf]; omega)
end Go.Proofs.Ytagagpappjkgbaa
namespace Go.Proofs.Ytagagpappjkgbaa
set_option linter.unusedVariables false
set_option linter.unusedSimpArgs false
open Go.RowKit Go.Shelf

/-- The chain from x on, but for its last two. -/
def chainP (above : List Int) : Nat → Int → Option (List Int)
  | 0, _ => none
  | k + 1, x => (rdI above x).bind fun a => if a = -1 then some [] else (rdI above a).bind fun aa => if aa = -1 then some [] else (chainP above k a).map (x :: ·)
/-- It is made shorter. -/
def cmpP (early : List Int) : List Int → List Int → List Int → Option (List Int × List Int)
  | [], ab, be => some (ab, be)
  | x :: xs, ab, be => (rdI ab x).bind fun a => (rdI be a).bind fun ba => (rdI early ba).bind fun ea => (rdI be x).bind fun bx => (rdI early bx).bind fun ex => (rdI ab a).bind fun aa =>
      cmpP early xs (ab.set x.toNat aa) (if ea < ex then be.set x.toNat ba else be)
def leastP (early above best : List Int) (k : Nat) (b : Int) : Option (List Int × List Int × Int) :=
  (chainP above k b).bind fun p => (cmpP early p.reverse above best).bind fun r => (rdI r.2 b).map fun v => (r.1, r.2, v)
def sl (b m : Nat) : Value := .slice (some ⟨b, 0, none⟩) m m
/-- A block beside the family. -/
structure Fx (w : World) (E : Nat) (F : Nat → GRw) (b : Nat) (o : Obj) : Prop where
  at_ : w.heap[b]? = some o
  ne : ∀ k, (F k).v.ownBlock ≠ some b
  nE : b ≠ E
theorem Fx.keep {w w' : World} {E b : Nat} {F : Nat → GRw} {o : Obj} (h : Fx w E F b o) (hb : Below w.heap.size w w') : Fx w' E F b o := ⟨(hb.block b (gr_in h.at_)).trans h.at_, h.ne, h.nE⟩
theorem Fx.grown {w w' : World} {E b : Nat} {F : Nat → GRw} {o : Obj} (h : Fx w E F b o) (k : Nat) (hg : w.grownBy w' (F k).v.ownBlock) (r : GRw) (hat : ∀ g, r.v.ownBlock = some g → (F k).v.ownBlock = some g ∨ w.heap.size ≤ g) : Fx w' E (upG F k r) b o := by
  refine ⟨(hg.block b (gr_in h.at_) (fun e => h.ne k e.symm)).trans h.at_, fun j => ?_, h.nE⟩
  by_cases hj : j = k
  · subst hj
    rw [upG_at]
    intro e
    rcases hat b e with h1 | h1
    · exact h.ne j h1
    · have := gr_in h.at_; omega
  · rw [upG_off _ _ _ _ hj]; exact h.ne j
theorem Fx.put {w : World} {E b : Nat} {F : Nat → GRw} {o : Obj} (h : Fx w E F b o) {k g : Nat} (hk : (F k).v.ownBlock = some g) (j : Nat) (u : Value) (r : GRw) (hr : r.v.ownBlock = some g) : Fx (w.setCell ⟨g, j, none⟩ u) E (upG F k r) b o := by
  refine ⟨(Below.heap_setCell _ _ _ _ (fun e => h.ne k (by rw [hk]; exact congrArg some e.symm))).trans h.at_, fun i => ?_, h.nE⟩
  by_cases hi : i = k
  · subst hi; rw [upG_at, hr, ← hk]; exact h.ne i
  · rw [upG_off _ _ _ _ hi]; exact h.ne i
theorem Fx.field {w : World} {E b : Nat} {F : Nat → GRw} {o : Obj} (h : Fx w E F b o) (j : Nat) (u : Value) : Fx (w.setCell ⟨E, j, none⟩ u) E F b o := ⟨(Below.heap_setCell _ _ _ _ (fun e => h.nE e)).trans h.at_, h.ne, h.nE⟩

/-- The search, as it lies. -/
structure LsS (base sp m : Nat) (w : World) (bu be ba bb : Nat) (PV : Value) (path up early above best : List Int) (F : Nat → GRw) : Prop where
  sq : Sq 225 w base sp F [sl bu m, sl be m, sl ba m, sl bb m, PV]
  f0 : F 0 = wholeR bu up
  f1 : F 1 = wholeR be early
  f2 : F 2 = wholeR ba above
  f3 : F 3 = wholeR bb best
  f4 : F 4 = intR PV path
  l0 : up.length = m
  l1 : early.length = m
  l2 : above.length = m
  l3 : best.length = m
  mb : m ≤ 1048576
theorem LsS.keep {base sp m : Nat} {w w' : World} {bu be ba bb : Nat} {PV : Value} {path up early above best : List Int} {F : Nat → GRw} (h : LsS base sp m w bu be ba bb PV path up early above best F) (hb : Below w.heap.size w w') : LsS base sp m w' bu be ba bb PV path up early above best F := { h with sq := h.sq.keep hb }
/-- Its path is another one now. -/
theorem LsS.path_ {base sp m : Nat} {w w' : World} {bu be ba bb : Nat} {PV PV' : Value} {path path' up early above best : List Int} {F : Nat → GRw} (h : LsS base sp m w bu be ba bb PV path up early above best F) (hg : w.grownBy w' PV.ownBlock) (ho : w'.ownsRow base 3 1 PV' path'.length (intsV path')) (hat : ∀ g, PV'.ownBlock = some g → PV.ownBlock = some g ∨ w.heap.size ≤ g) :
    LsS base sp m (w'.setCell ⟨sp, 4, none⟩ PV') bu be ba bb PV' path' up early above best (upG F 4 (intR PV' path')) ∧ Below base w (w'.setCell ⟨sp, 4, none⟩ PV') ∧ Sq 225 w' base sp (upG F 4 (intR PV' path')) [sl bu m, sl be m, sl ba m, sl bb m, PV] ∧ (∀ b o, Fx w sp F b o → Fx w' sp (upG F 4 (intR PV' path')) b o) := by
  have hg0 : w.grownBy w' (F 4).v.ownBlock := by rw [h.f4]; exact hg
  have hat0 : ∀ g, (intR PV' path').v.ownBlock = some g → (F 4).v.ownBlock = some g ∨ w.heap.size ≤ g := fun g e => by rw [h.f4]; exact hat g e
  have h1 := h.sq.grown 4 hg0 (intR PV' path') ho hat0
  refine ⟨⟨h1.field 4 PV', ?_, ?_, ?_, ?_, upG_at _ _ _, h.l0, h.l1, h.l2, h.l3, h.mb⟩, (h.sq.b_grown 4 hg0).trans (h1.b_field 4 _), h1, fun b o hx => hx.grown 4 hg0 _ hat0⟩
  · rw [upG_off _ _ _ _ (by omega)]; exact h.f0
  · rw [upG_off _ _ _ _ (by omega)]; exact h.f1
  · rw [upG_off _ _ _ _ (by omega)]; exact h.f2
  · rw [upG_off _ _ _ _ (by omega)]; exact h.f3
theorem LsS.r0 {base sp m : Nat} {w : World} {bu be ba bb : Nat} {PV : Value} {path up early above best : List Int} {F : Nat → GRw} (h : LsS base sp m w bu be ba bb PV path up early above best F) : IRow w bu up ∧ IRow w be early ∧ IRow w ba above ∧ IRow w bb best := ⟨h.sq.whole h.f0, h.sq.whole h.f1, h.sq.whole h.f2, h.sq.whole h.f3⟩
theorem LsS.apart {base sp m : Nat} {w : World} {bu be ba bb : Nat} {PV : Value} {path up early above best : List Int} {F : Nat → GRw} (h : LsS base sp m w bu be ba bb PV path up early above best F) : be ≠ ba ∧ be ≠ bb ∧ ba ≠ bb ∧ bu ≠ be ∧ bu ≠ ba ∧ bu ≠ bb ∧ sp ≠ bu ∧ sp ≠ be ∧ sp ≠ ba ∧ sp ≠ bb := by
  have n : ∀ i j bi bj li lj, i ≠ j → F i = wholeR bi li → F j = wholeR bj lj → bi ≠ bj := fun i j bi bj li lj hij hi hj e => by
    rcases h.sq.fam.ne i j hij with q | q
    · rw [hi] at q; simp [wholeR, Value.ownBlock] at q
    · rw [hi, hj] at q; exact q (by simp [wholeR, Value.ownBlock, e])
  have s : ∀ i bi li, F i = wholeR bi li → sp ≠ bi := fun i bi li hi e => by
    have := h.sq.fam.av i
    rw [hi] at this
    exact this (by simp [wholeR, Value.ownBlock, e])
  exact ⟨n 1 2 _ _ _ _ (by omega) h.f1 h.f2, n 1 3 _ _ _ _ (by omega) h.f1 h.f3, n 2 3 _ _ _ _ (by omega) h.f2 h.f3, n 0 1 _ _ _ _ (by omega) h.f0 h.f1, n 0 2 _ _ _ _ (by omega) h.f0 h.f2, n 0 3 _ _ _ _ (by omega) h.f0 h.f3, s 0 _ _ h.f0, s 1 _ _ h.f1, s 2 _ _ h.f2, s 3 _ _ h.f3⟩
/-- The path without its numbers. -/
theorem path_cut {w : World} {base n : Nat} {PV : Value} {xs : List Value} (h : w.ownsRow base 3 1 PV n xs) : ∃ V0 : Value, (∀ W, (Instr.slice 64 PV none (some (.int .i64 0)) none).run Try.prog W = .ok V0 W) ∧ w.ownsRow base 3 1 V0 0 [] ∧ (∀ g, V0.ownBlock = some g → PV.ownBlock = some g) := by
  rcases h.2 with ⟨rfl, h0⟩ | ⟨g, cap, cur, rfl, hb, hg, hnc, hcm, hcs, ht⟩
  · refine ⟨.slice none 0 0, fun W => ?_, World.ownsRow_nil _ _ _ _, fun g e => by simp [Value.ownBlock] at e⟩
    rw [run_slice_h W 64 none 0 0 (by simp [Program.elem, Try.underlying64]) .i64 0 (by omega) (by omega)]
    go_simp
  · refine ⟨.slice (some ⟨g, 0, none⟩) 0 cap, fun W => ?_, ?_, fun g' e => e⟩
    · rw [run_slice_h W 64 (some ⟨g, 0, none⟩) n cap (by simp [Program.elem, Try.underlying64]) .i64 0 (by omega) (by omega)]
      go_simp
    · have := gr_cut h 0 (Nat.zero_le _)
      simpa using this
/-- Nothing is put off. -/
def noDefer (ops : Array Oper) : Bool := ops.all fun o => match o.op with | .defer _ => false | _ => true
theorem noDefer_spec {ops : Array Oper} (h : noDefer ops = true) : ∀ (i : Nat) o, ops[i]? = some o → ∀ c, o.op ≠ .defer c := by
  intro i o ho c e
  have hm := Array.mem_of_getElem? ho
  have h1 := (Array.all_eq_true_iff_forall_mem.1 h) o hm
  rw [e] at h1
  cases h1
theorem wp_range_back {P : Program} {g : Operand} {p1 p2 q : Tmp} {assign body : Code} {Q : Exit → Act → World → Prop} {a : Act} {w : World} {gf : Nat} {lb : Array Value}
    (hg : a.eval g = .func (.func gf) #[] lb) (eg : ∀ args w, (callFunc gf args).run P w = .ok (.enter gf args) w)
    {xs : List (Nat × Int)} {S Wr : Nat → Prop} (hseq : ∀ W1, Below w.heap.size w W1 → SepGivs P gf lb encB xs S Wr (fun _ => True) W1)
    (I : List (Nat × Int) → (Nat → Prop) → World → Prop) (F0 : Nat → Prop)
    (hIoff : ∀ pre F A B, I pre F A → StepOff F A B → I pre F B) (hIlt : ∀ pre F A, I pre F A → ∀ k, F k → k < A.heap.size)
    (hF0 : ∀ k, F0 k → ¬ S k) (hS : ∀ k, S k → k < w.heap.size) (h0 : I [] F0 w)
    (hassign : ∀ (l : Nat) (x : Nat × Int) (W : World) (K : Act → World → Prop), K { tmps := ((a.tmps.setIfInBounds p1 (.int .i64 (x.1 : Int))).setIfInBounds p2 (.int .i64 x.2)).setIfInBounds q (.int .i64 x.2), defers := [] } W →
      assign.wpIn (Fence.wide.inRound l) 0 P (Exit.then K (fun _ _ _ => False)) { tmps := (a.tmps.setIfInBounds p1 (.int .i64 (x.1 : Int))).setIfInBounds p2 (.int .i64 x.2), defers := [] } W)
    (hbody : ∀ (l : Nat) (pre : List (Nat × Int)) (x : Nat × Int) (F : Nat → Prop) (A : World), I pre F A → (pre ++ [x]) <+: xs → body.wpIn (Fence.wide.inRound l) 0 P (fun e a' B => e = .normal ∧ ∃ F', I (pre ++ [x]) F' B ∧ StepOn F F' A B) { tmps := ((a.tmps.setIfInBounds p1 (.int .i64 (x.1 : Int))).setIfInBounds p2 (.int .i64 x.2)).setIfInBounds q (.int .i64 x.2), defers := [] } A)
    (hdone : ∀ (D : Nat) (F' : Nat → Prop) (W' : World), I xs F' W' → Framed F0 F' Wr w W' → W'.heap[D]? = some (.deferred (some [])) → w.heap.size ≤ D → ¬ F' D → Q .normal { a with defers := { target := .collected D, args := #[] } :: a.defers } W') :
    (Code.rangeFunc g #[p1, p2] assign body).wp P Q a w :=
  wp_range_sepv hg eg hseq (fun _ => rfl) (fun _ _ _ _ _ => trivial) I F0 hIoff hIlt hF0 hS h0 (fun x => { tmps := ((a.tmps.setIfInBounds p1 (.int .i64 (x.1 : Int))).setIfInBounds p2 (.int .i64 x.2)).setIfInBounds q (.int .i64 x.2), defers := [] }) (fun l x W K hK => by
    have := hassign l x W K hK
    simpa [encB] using this) hbody (fun D F' W' h1 _ h3 h4 h5 h6 => hdone D F' W' h1 h3 h4 h5 h6)
theorem own_same {w w' : World} {base : Nat} {T : TypeId} {z n : Nat} {v : Value} {xs : List Value} (h : w.ownsRow base T z v n xs) (hs : ∀ g, v.ownBlock = some g → w'.heap[g]? = w.heap[g]?) : w'.ownsRow base T z v n xs := by
  refine ⟨h.1, ?_⟩
  rcases h.2 with q | ⟨g, cap, cur, hv, q2, q3, rest⟩
  · exact .inl q
  · exact .inr ⟨g, cap, cur, hv, q2, (hs g (by rw [hv]; rfl)).trans q3, rest⟩
/-- Behind the rounds. -/
theorem LsS.after {base sp m bx : Nat} {w Wf : World} {bu be ba bb : Nat} {PV : Value} {path up early above best ab bst : List Int} {F : Nat → GRw} {o : Obj} (h : LsS base sp m w bu be ba bb PV path up early above best F) (hx : Fx w sp F bx o) (hz : w.heap.size ≤ Wf.heap.size)
    (hk : ∀ k, k < w.heap.size → ¬ (k = bx ∨ k = sp ∨ k = be ∨ k = ba ∨ k = bb) → Wf.heap[k]? = w.heap[k]?) (hsp : Wf.heap[sp]? = w.heap[sp]?) (hbe : Wf.heap[be]? = w.heap[be]?) (hba : IRow Wf ba ab) (hbb : IRow Wf bb bst) (hla : ab.length = m) (hlb : bst.length = m) :
    LsS base sp m Wf bu be ba bb PV path up early ab bst (upG (upG F 2 (wholeR ba ab)) 3 (wholeR bb bst)) := by
  have hown : ∀ k, k ≠ 2 → k ≠ 3 → Wf.ownsRow base (F k).T (F k).z (F k).v (F k).n (F k).xs := fun k h2 h3 => by
    refine own_same (h.sq.fam.own k) (fun g hg => ?_)
    by_cases h1 : g = be
    · subst h1; exact hbe
    · refine hk g ((h.sq.fam.own k).lt g hg).2 ?_
      rintro (e | e | e | e | e)
      · subst e; exact hx.ne k hg
      · subst e; exact h.sq.fam.av k hg
      · exact h1 e
      · subst e
        rcases h.sq.fam.ne k 2 h2 with q | q
        · rw [hg] at q; cases q
        · rw [hg, h.f2] at q; exact q rfl
      · subst e
        rcases h.sq.fam.ne k 3 h3 with q | q
        · rw [hg] at q; cases q
        · rw [hg, h.f3] at q; exact q rfl
  have hb2 : base ≤ ba := by have := ((h.sq.fam.own 2).lt ba (by rw [h.f2]; rfl)).1; exact this
  have hb3 : base ≤ bb := by have := ((h.sq.fam.own 3).lt bb (by rw [h.f3]; rfl)).1; exact this
  have v2 : ∀ r : List Int, (upG (upG F 2 (wholeR ba ab)) 3 (wholeR bb r)) 2 = wholeR ba ab := fun r => by rw [upG_off _ _ _ _ (by omega), upG_at]
  have hv : ∀ k, ((upG (upG F 2 (wholeR ba ab)) 3 (wholeR bb bst)) k).v.ownBlock = (F k).v.ownBlock := fun k => by
    by_cases e3 : k = 3
    · subst e3; rw [upG_at, h.f3]; rfl
    · rw [upG_off _ _ _ _ e3]
      by_cases e2 : k = 2
      · subst e2; rw [upG_at, h.f2]; rfl
      · rw [upG_off _ _ _ _ e2]
  refine ⟨⟨⟨Nat.lt_of_lt_of_le h.sq.fam.el hz, fun k => by rw [hv]; exact h.sq.fam.av k, fun k => ?_, fun k l hkl => by rw [hv, hv]; exact h.sq.fam.ne k l hkl⟩, hsp.trans h.sq.box, h.sq.bE, Nat.le_trans h.sq.hb hz⟩, ?_, ?_, v2 _, upG_at _ _ _, ?_, h.l0, h.l1, hla, hlb, h.mb⟩
  · by_cases e3 : k = 3
    · subst e3; rw [upG_at]; exact hbb.own rfl hb3 (by rw [hlb]; exact h.mb)
    · rw [upG_off _ _ _ _ e3]
      by_cases e2 : k = 2
      · subst e2; rw [upG_at]; exact hba.own rfl hb2 (by rw [hla]; exact h.mb)
      · rw [upG_off _ _ _ _ e2]; exact hown k e2 e3
  · rw [upG_off _ _ _ _ (by omega), upG_off _ _ _ _ (by omega)]; exact h.f0
  · rw [upG_off _ _ _ _ (by omega), upG_off _ _ _ _ (by omega)]; exact h.f1
  · rw [upG_off _ _ _ _ (by omega), upG_off _ _ _ _ (by omega)]; exact h.f4
end Go.Proofs.Ytagagpappjkgbaa
namespace Go.Proofs.Ytagagpappjkgbaa
set_option linter.unusedVariables false
set_option linter.unusedSimpArgs false
open Go.RowKit Go.Shelf

theorem round_still_tail {P : Program} {id r : Nat} {Q : Exit → Act → World → Prop} {a : Act} {w : World} {l : List Oper} (n : Nat) (hm : P.follows .mixedOrders = true) (hnd : noDefer l.toArray = true) (hB : Region.lexTailB .any l.toArray n = true)
    (h : wpStill P l.toArray w.drew (fun a' => wpList P l.toArray (OnlyN Q) (l.drop n) a' w.drew) (l.take n) a) : (Code.region id l.toArray true).wpIn (Fence.wide.inRound r) 0 P Q a w := by
  simp only [Region.lexTailB, Bool.and_eq_true, decide_eq_true_eq] at hB
  obtain ⟨⟨⟨⟨hsel, hn⟩, hs⟩, hc⟩, hlex⟩ := hB
  have hn' : n < l.length := by simpa using hn
  have htl : (l.take n).length = n := by simp; omega
  have hdl : (l.drop n).length = l.toArray.size - n := by simp
  have inv0 : HeadInv .any l.toArray n (Array.replicate l.toArray.size false) :=
    ⟨by simp, fun j oj _ hl => (by rw [getD_replicate_false] at hl; cases hl), fun t _ ht => getD_in (by simpa using ht) (getD_replicate_false _ _)⟩
  have H := wpAnyL_lex (md := .any) (g := l.toArray.size - n) hsel hs hc hn (l.take n) 0 _ a (fun j hj => by
    have hj' : j < n := by rw [htl] at hj; exact hj
    simp [hj']) (by simpa using htl) inv0 (by rw [htl]; exact hlex) h
  refine wpIn_region_any hm (round_any (noDefer_spec hnd) _ _ _ _ ?_)
  have := wpAny_of_head (Q' := OnlyN Q) (g := l.toArray.size - n) (fun listed a' hL => by
    have := wpAny_of_seq (md := .any) (Q' := OnlyN Q) (l.drop n) n listed a' w.drew (fun j => by simp [List.getElem?_drop]) (by rw [hdl]; exact hL.1) hL.2
    rwa [hdl] at this) _ _ _ H
  rw [htl, show n + (l.toArray.size - n) = l.toArray.size by omega] at this
  exact this
end Go.Proofs.Ytagagpappjkgbaa
