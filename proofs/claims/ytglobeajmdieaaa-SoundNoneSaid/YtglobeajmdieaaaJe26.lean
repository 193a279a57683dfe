/-
  Blocks on all ways: the walk that enters blocks, over plain data; how it lies.
  Blocks on all ways: rows of rows within a family.
  A region that draws its order, within a round of a range over a function: as everywhere, if nothing in it is put off.
-/
import Derived.Test.YtglobeajmdieaaaJe24
import Derived.Test.YtglobeajmdieaaaJe25
namespace Go.Proofs.Ytglobeajmdieaaa
set_option linter.unusedVariables false
set_option linter.unusedSimpArgs false
open Go.RowKit Go.Shelf

structure En where
  blocks : List Int
  turn : List Int
  from_ : List Int
def pushT (n : Int) : List Int → List (Int × Int) → List (Int × Int)
  | [], st => st
  | x :: l, st => pushT n l ((n, x) :: st)
/-- The walk, its stack's top first. -/
def enRun (g : List GB) : Nat → En → List (Int × Int) → Option En
  | _, e, [] => some e
  | 0, _, _ :: _ => none
  | k + 1, e, s :: l => (rdI e.turn s.2).bind fun t =>
      if t = -1 then
        if e.blocks.length < 1048576 ∧ l.length + (tosG g s.2.toNat).length ≤ 1048576 then
          enRun g k ⟨e.blocks ++ [s.2], e.turn.set s.2.toNat (e.blocks.length : Int), e.from_ ++ [s.1]⟩ (pushT (e.blocks.length : Int) (tosG g s.2.toNat) l)
        else none
      else enRun g k e l
theorem pushT_snoc (n : Int) (x : Int) : ∀ (l : List Int) (st : List (Int × Int)), pushT n (l ++ [x]) st = (n, x) :: pushT n l st
  | [], st => rfl
  | y :: l, st => by rw [List.cons_append, pushT, pushT_snoc n x l, pushT]
theorem pushT_len (n : Int) : ∀ (l : List Int) (st : List (Int × Int)), (pushT n l st).length = l.length + st.length
  | [], st => by simp [pushT]
  | y :: l, st => by rw [pushT, pushT_len n l]; simp; omega
def stkV : List (Int × Int) → List Value
  | [] => []
  | s :: l => stkV l ++ [.int .i64 s.1, .int .i64 s.2]
theorem stkV_len : ∀ l : List (Int × Int), (stkV l).length = l.length * 2
  | [] => rfl
  | s :: l => by rw [stkV, List.length_append, stkV_len l]; simp; omega
def stkR (v : Value) (st : List (Int × Int)) : GRw := ⟨152, 2, v, st.length, stkV st⟩
theorem stkR_pop {w : World} {base gw p c : Nat} {s : Int × Int} {st : List (Int × Int)} (h : w.ownsRow base 152 2 (.slice (some ⟨gw, 0, none⟩) p c) (st.length + 1) (stkV (s :: st))) : w.ownsRow base 152 2 (.slice (some ⟨gw, 0, none⟩) st.length c) st.length (stkV st) := by
  have hp := (gr_len h).2
  subst hp
  have h1 := gr_cut h st.length (by omega)
  have e : (stkV (s :: st)).take (st.length * 2) = stkV st := by
    rw [stkV, ← stkV_len st, List.take_left]
  rw [e] at h1
  exact h1
structure EnS (base E n : Nat) (w0 w : World) (vb vf u4 : Value) (tb : Nat) (e : En) (st : List (Int × Int)) (r4 : GRw) (F : Nat → GRw) : Prop where
  sq : Sq 128 w base E F [vb, .slice (some ⟨tb, 0, none⟩) n n, vf]
  f0 : F 0 = intR vb e.blocks
  f1 : F 1 = wholeR tb e.turn
  f2 : F 2 = intR vf e.from_
  f3 : F 3 = stkR u4 st
  f4 : F 4 = r4
  tl : e.turn.length = n
  bl : e.blocks.length ≤ 1048576
  sl : st.length ≤ 1048576
  bw : Below base w0 w
theorem EnS.keep {base E n : Nat} {w0 w w' : World} {vb vf u4 : Value} {tb : Nat} {e : En} {st : List (Int × Int)} {r4 : GRw} {F : Nat → GRw} (h : EnS base E n w0 w vb vf u4 tb e st r4 F) (hb : Below w.heap.size w w') : EnS base E n w0 w' vb vf u4 tb e st r4 F :=
  ⟨h.sq.keep hb, h.f0, h.f1, h.f2, h.f3, h.f4, h.tl, h.bl, h.sl, h.bw.trans (hb.mono h.sq.hb)⟩
theorem EnS.pop {base E n : Nat} {w0 w : World} {vb vf : Value} {gw p c tb : Nat} {e : En} {s : Int × Int} {st : List (Int × Int)} {r4 : GRw} {F : Nat → GRw} (h : EnS base E n w0 w vb vf (.slice (some ⟨gw, 0, none⟩) p c) tb e (s :: st) r4 F) : EnS base E n w0 w vb vf (.slice (some ⟨gw, 0, none⟩) st.length c) tb e st r4 (upG F 3 (stkR (.slice (some ⟨gw, 0, none⟩) st.length c) st)) := by
  have h3 := h.sq.at h.f3
  have hk := h.sq.grown 3 (World.grownBy.refl _ _) (stkR (.slice (some ⟨gw, 0, none⟩) st.length c) st) (stkR_pop h3) (fun g e => .inl (by rw [h.f3]; exact e))
  exact ⟨hk, by rw [upG_off _ _ _ _ (by omega)]; exact h.f0, by rw [upG_off _ _ _ _ (by omega)]; exact h.f1, by rw [upG_off _ _ _ _ (by omega)]; exact h.f2, upG_at _ _ _, by rw [upG_off _ _ _ _ (by omega)]; exact h.f4, h.tl, h.bl, by have := h.sl; simp at this; omega, h.bw⟩
/-- A block is entered: its turn. -/
theorem EnS.turn {base E n : Nat} {w0 w : World} {vb vf u4 : Value} {tb : Nat} {e : En} {st : List (Int × Int)} {r4 : GRw} {F : Nat → GRw} (h : EnS base E n w0 w vb vf u4 tb e st r4 F) (j : Nat) (x : Int) :
    EnS base E n w0 (w.setCell ⟨tb, j, none⟩ (.int .i64 x)) vb vf u4 tb { e with turn := e.turn.set j x } st r4 (upG F 1 (wholeR tb (e.turn.set j x))) :=
  ⟨h.sq.set h.f1 j x, by rw [upG_off _ _ _ _ (by omega)]; exact h.f0, upG_at _ _ _, by rw [upG_off _ _ _ _ (by omega)]; exact h.f2, by rw [upG_off _ _ _ _ (by omega)]; exact h.f3, by rw [upG_off _ _ _ _ (by omega)]; exact h.f4, by simpa using h.tl, h.bl, h.sl, h.bw.trans (h.sq.b_put h.f1 j _)⟩
theorem EnS.blk {base E n : Nat} {w0 w w' : World} {vb vf u4 vb' : Value} {tb : Nat} {e : En} {st : List (Int × Int)} {r4 : GRw} {F : Nat → GRw} {x : Int} (h : EnS base E n w0 w vb vf u4 tb e st r4 F) (hg : w.grownBy w' vb.ownBlock) (ho : w'.ownsRow base 3 1 vb' (e.blocks.length + 1) (intsV e.blocks ++ [.int .i64 x])) (hat : ∀ g, vb'.ownBlock = some g → vb.ownBlock = some g ∨ w.heap.size ≤ g) (hb : e.blocks.length < 1048576) :
    EnS base E n w0 (w'.setCell ⟨E, 0, none⟩ vb') vb' vf u4 tb { e with blocks := e.blocks ++ [x] } st r4 (upG F 0 (intR vb' (e.blocks ++ [x]))) := by
  have hg0 : w.grownBy w' (F 0).v.ownBlock := by rw [h.f0]; exact hg
  have h1 := h.sq.grown 0 hg0 (intR vb' (e.blocks ++ [x])) (by simpa [intR, intsV] using ho) (fun g e => by rw [h.f0]; exact hat g e)
  exact ⟨h1.field 0 vb', upG_at _ _ _, by rw [upG_off _ _ _ _ (by omega)]; exact h.f1, by rw [upG_off _ _ _ _ (by omega)]; exact h.f2, by rw [upG_off _ _ _ _ (by omega)]; exact h.f3, by rw [upG_off _ _ _ _ (by omega)]; exact h.f4, h.tl, by simp; omega, h.sl, (h.bw.trans (h.sq.b_grown 0 hg0)).trans (h1.b_field 0 _)⟩
theorem EnS.frm {base E n : Nat} {w0 w w' : World} {vb vf u4 vf' : Value} {tb : Nat} {e : En} {st : List (Int × Int)} {r4 : GRw} {F : Nat → GRw} {x : Int} (h : EnS base E n w0 w vb vf u4 tb e st r4 F) (hg : w.grownBy w' vf.ownBlock) (ho : w'.ownsRow base 3 1 vf' (e.from_.length + 1) (intsV e.from_ ++ [.int .i64 x])) (hat : ∀ g, vf'.ownBlock = some g → vf.ownBlock = some g ∨ w.heap.size ≤ g) :
    EnS base E n w0 (w'.setCell ⟨E, 2, none⟩ vf') vb vf' u4 tb { e with from_ := e.from_ ++ [x] } st r4 (upG F 2 (intR vf' (e.from_ ++ [x]))) := by
  have hg0 : w.grownBy w' (F 2).v.ownBlock := by rw [h.f2]; exact hg
  have h1 := h.sq.grown 2 hg0 (intR vf' (e.from_ ++ [x])) (by simpa [intR, intsV] using ho) (fun g e => by rw [h.f2]; exact hat g e)
  exact ⟨h1.field 2 vf', by rw [upG_off _ _ _ _ (by omega)]; exact h.f0, by rw [upG_off _ _ _ _ (by omega)]; exact h.f1, upG_at _ _ _, by rw [upG_off _ _ _ _ (by omega)]; exact h.f3, by rw [upG_off _ _ _ _ (by omega)]; exact h.f4, h.tl, h.bl, h.sl, (h.bw.trans (h.sq.b_grown 2 hg0)).trans (h1.b_field 2 _)⟩
theorem EnS.push {base E n : Nat} {w0 w w' : World} {vb vf u4 u4' : Value} {tb : Nat} {e : En} {st : List (Int × Int)} {r4 : GRw} {F : Nat → GRw} {s : Int × Int} (h : EnS base E n w0 w vb vf u4 tb e st r4 F) (hg : w.grownBy w' u4.ownBlock) (ho : w'.ownsRow base 152 2 u4' (st.length + 1) (stkV st ++ [.int .i64 s.1, .int .i64 s.2])) (hat : ∀ g, u4'.ownBlock = some g → u4.ownBlock = some g ∨ w.heap.size ≤ g) (hs : st.length < 1048576) :
    EnS base E n w0 w' vb vf u4' tb e (s :: st) r4 (upG F 3 (stkR u4' (s :: st))) := by
  have hg0 : w.grownBy w' (F 3).v.ownBlock := by rw [h.f3]; exact hg
  have h1 := h.sq.grown 3 hg0 (stkR u4' (s :: st)) ho (fun g e => by rw [h.f3]; exact hat g e)
  exact ⟨h1, by rw [upG_off _ _ _ _ (by omega)]; exact h.f0, by rw [upG_off _ _ _ _ (by omega)]; exact h.f1, by rw [upG_off _ _ _ _ (by omega)]; exact h.f2, upG_at _ _ _, by rw [upG_off _ _ _ _ (by omega)]; exact h.f4, h.tl, h.bl, by simp; omega, h.bw.trans (h.sq.b_grown 3 hg0)⟩
/-- The start with one row. -/
theorem Sq.start1 {T : TypeId} {w : World} {base : Nat} {E : Nat} {cs : List Value} (hbox : w.heap[E]? = some (.cells cs.toArray T (0, 0))) (hb : base ≤ E) (k : Nat) (r : GRw) (hown : w.ownsRow base r.T r.z r.v r.n r.xs) (hne : r.v.ownBlock ≠ some E) : Sq T w base E (upG (fun _ => noRow) k r) cs := by
  refine ⟨⟨gr_in hbox, fun j => ?_, fun j => ?_, fun i j hij => ?_⟩, hbox, hb, by have := gr_in hbox; omega⟩
  · by_cases h : j = k
    · subst h; rw [upG_at]; exact hne
    · rw [upG_off _ _ _ _ h]; simp [noRow, Value.ownBlock]
  · by_cases h : j = k
    · subst h; rw [upG_at]; exact hown
    · rw [upG_off _ _ _ _ h]; exact World.ownsRow_nil _ _ _ _
  · by_cases h : i = k
    · subst h
      rw [upG_at, upG_off _ _ _ _ (fun e => hij e.symm)]
      cases hr : r.v.ownBlock with
      | none => exact .inl rfl
      | some g => right; simp [noRow, Value.ownBlock]
    · left; rw [upG_off _ _ _ _ h]; rfl
theorem grown_any {w w' : World} {row : Option Nat} (h : Below w.heap.size w w') : w.grownBy w' row := ⟨h.os, h.tape, h.output, h.size, fun k hk _ => h.block k hk⟩
def sR (sb : Nat) (fr to_ : Int) : GRw := ⟨152, 2, .slice (some ⟨sb, 0, none⟩) 1 1, 1, [.int .i64 fr, .int .i64 to_]⟩
theorem EnS.str {base E n : Nat} {w0 w w' : World} {vb vf u4 : Value} {tb : Nat} {e : En} {st : List (Int × Int)} {r4 : GRw} {F : Nat → GRw} (h : EnS base E n w0 w vb vf u4 tb e st r4 F) (fr to_ : Int) (hw' : w' = w.alloc (.cells #[.int .i64 fr, .int .i64 to_] 152)) : EnS base E n w0 w' vb vf u4 tb e st (sR w.heap.size fr to_) (upG F 4 (sR w.heap.size fr to_)) := by
  have hal : Below w.heap.size w w' := by rw [hw']; exact (Below.refl _ _).alloc (Nat.le_refl _) _
  have hr : w'.ownsRow base 152 2 (.slice (some ⟨w.heap.size, 0, none⟩) 1 1) 1 [.int .i64 fr, .int .i64 to_] := by
    rw [hw']
    exact World.ownsRow_lit w #[.int .i64 fr, .int .i64 to_] 1 h.sq.hb (by decide) rfl
  have hs := h.sq.grown 4 (grown_any hal) (sR w.heap.size fr to_) hr (fun g e => .inr (by cases e; exact Nat.le_refl _))
  exact ⟨hs, by rw [upG_off _ _ _ _ (by omega)]; exact h.f0, by rw [upG_off _ _ _ _ (by omega)]; exact h.f1, by rw [upG_off _ _ _ _ (by omega)]; exact h.f2, by rw [upG_off _ _ _ _ (by omega)]; exact h.f3, upG_at _ _ _, h.tl, h.bl, h.sl, h.bw.trans (hal.mono h.sq.hb)⟩
theorem EnS.s0 {base E n sb : Nat} {w0 w : World} {vb vf u4 : Value} {tb : Nat} {e : En} {st : List (Int × Int)} {fr to_ : Int} {F : Nat → GRw} (h : EnS base E n w0 w vb vf u4 tb e st (sR sb fr to_) F) : w.cell? ⟨sb, 0, none⟩ = some (.int .i64 fr) ∧ w.cell? ⟨sb, 1, none⟩ = some (.int .i64 to_) := by
  have h4 := h.sq.at h.f4
  exact ⟨by rw [h4.cellAt 0 (by show 0 < 1 * 2; decide)]; rfl, by rw [h4.cellAt 1 (by show 1 < 1 * 2; decide)]; rfl⟩
def EnK (base E n : Nat) (w0 : World) (g : List GB) (res : En) (k : Nat) (u4 : Value) (w : World) : Prop := ∃ vb vf tb e st r4 F, EnS base E n w0 w vb vf u4 tb e st r4 F ∧ e.from_.length = e.blocks.length ∧ enRun g k e st = some res
theorem infoStepD : (Try.prog.info? 152).map (fun i => (i.zero, i.size, i.bytes)) = some (some (.agg #[.int .i64 0, .int .i64 0]), 2, 16) := by kernel_rfl
theorem cut_step {gw n c : Nat} (m : Nat) (hm : m ≤ n) (hn : n ≤ c) (hc : 0 < c) (W : World) : (Instr.slice 153 (.slice (some ⟨gw, 0, none⟩) n c) none (some (.int .i64 (m : Int))) none).run Try.prog W = .ok (.slice (some ⟨gw, 0, none⟩) m c) W := by
  rw [run_slice_h W 153 (some ⟨gw, 0, none⟩) n c (by simp [Program.elem, Try.underlying153]) .i64 (m : Int) (by omega) (by omega)]
  have : c ≠ 0 := by omega
  go_simp
theorem EnS.first {base E n tb : Nat} {w0 w w' : World} (hbox : w.heap[E]? = some (.cells #[.slice none 0 0, .slice (some ⟨tb, 0, none⟩) n n, .slice none 0 0] 128 (0, 0))) (hb : base ≤ E) (htb : base ≤ tb) (hne : tb ≠ E) (hrow : IRow w tb (List.replicate n (-1))) (hn : n ≤ 1048576) (hw0 : Below base w0 w)
    (hw' : w' = w.alloc (.cells #[.int .i64 (-1), .int .i64 0] 152)) : ∃ F, EnS base E n w0 w' (.slice none 0 0) (.slice none 0 0) (.slice (some ⟨w.heap.size, 0, none⟩) 1 1) tb ⟨[], List.replicate n (-1), []⟩ [(-1, 0)] noRow F := by
  have hl : (List.replicate n (-1 : Int)).length = n := by simp
  have hs := Sq.start1 (cs := [.slice none 0 0, .slice (some ⟨tb, 0, none⟩) n n, .slice none 0 0]) hbox hb 1 (wholeR tb (List.replicate n (-1))) (by rw [wholeR, hl]; exact hrow.own hl htb hn) (by simp [wholeR, Value.ownBlock]; exact hne)
  have hal : Below w.heap.size w w' := by rw [hw']; exact (Below.refl _ _).alloc (Nat.le_refl _) _
  have hst : w'.ownsRow w.heap.size 152 2 (.slice (some ⟨w.heap.size, 0, none⟩) 1 1) 1 (stkV [(-1, 0)]) := by
    rw [hw']
    exact World.ownsRow_lit w #[.int .i64 (-1), .int .i64 0] 1 (Nat.le_refl _) (by decide) rfl
  have h2 := hs.new 3 (by rw [upG_off _ _ _ _ (by omega)]; rfl) hal (stkR (.slice (some ⟨w.heap.size, 0, none⟩) 1 1) [(-1, 0)]) hst
  exact ⟨_, h2, by rw [upG_off _ _ _ _ (by omega), upG_off _ _ _ _ (by omega)]; rfl, by rw [upG_off _ _ _ _ (by omega), upG_at], by rw [upG_off _ _ _ _ (by omega), upG_off _ _ _ _ (by omega)]; rfl, upG_at _ _ _, by rw [upG_off _ _ _ _ (by omega), upG_off _ _ _ _ (by omega)], hl, by simp, by simp, hw0.trans (hal.mono hs.hb)⟩
theorem enter_res {base E n s : Nat} {w0 w w' : World} {vb vf u4 : Value} {tb : Nat} {e : En} {st : List (Int × Int)} {r4 : GRw} {F : Nat → GRw} (h : EnS base E n w0 w vb vf u4 tb e st r4 F) (hz : w.heap.size ≤ w'.heap.size) (hk : ∀ k, k < w.heap.size → k ≠ s → w'.heap[k]? = w.heap[k]?) (hs : s < base) : GNs w'.heap.size w' vb e.blocks ∧ GNs w'.heap.size w' (.slice (some ⟨tb, 0, none⟩) n n) e.turn ∧ GNs w'.heap.size w' vf e.from_ := by
  have o : ∀ k, (F k).v.ownBlock ≠ some s := fun k e => by have := ((h.sq.fam.own k).lt s e).1; omega
  have o0 := o 0
  have o1 := o 1
  have o2 := o 2
  rw [h.f0] at o0
  rw [h.f1] at o1
  rw [h.f2] at o2
  refine ⟨GNs.of_own (own_far (h.sq.at h.f0) hz hk o0), ?_, GNs.of_own (own_far (h.sq.at h.f2) hz hk o2)⟩
  have := GNs.of_own (own_far (h.sq.at h.f1) hz hk o1)
  have e1 := h.tl
  subst e1
  exact this
end Go.Proofs.Ytglobeajmdieaaa
namespace Go.Proofs.Ytglobeajmdieaaa
set_option linter.unusedVariables false
set_option linter.unusedSimpArgs false
open Go.RowKit Go.Shelf

/-- The rows of a family from number k on: first the row of the rows. -/
def RowsAt (F : Nat → GRw) (k gb m : Nat) (vs : List Value) (ls : List (List Int)) : Prop :=
  vs.length = m ∧ ls.length = m ∧ F k = ⟨42, 1, .slice (some ⟨gb, 0, none⟩) m m, m, vs⟩ ∧ ∀ j v l, vs[j]? = some v → ls[j]? = some l → F (k + 1 + j) = intR v l
theorem RowsAt.off {F : Nat → GRw} {k gb m : Nat} {vs : List Value} {ls : List (List Int)} (h : RowsAt F k gb m vs ls) (i : Nat) (r : GRw) (hi : i < k ∨ k + m < i) : RowsAt (upG F i r) k gb m vs ls := by
  obtain ⟨h1, h2, h3, h4⟩ := h
  refine ⟨h1, h2, by rw [upG_off _ _ _ _ (by omega)]; exact h3, fun j v l hv hl => ?_⟩
  have hj : j < m := by rw [← h1]; exact (List.getElem?_eq_some_iff.1 hv).1
  rw [upG_off _ _ _ _ (by omega)]
  exact h4 j v l hv hl
theorem RowsAt.same {F F' : Nat → GRw} {k gb m : Nat} {vs : List Value} {ls : List (List Int)} (h : RowsAt F k gb m vs ls) (hs : ∀ i, k ≤ i → i ≤ k + m → F' i = F i) : RowsAt F' k gb m vs ls := by
  obtain ⟨h1, h2, h3, h4⟩ := h
  refine ⟨h1, h2, by rw [hs k (Nat.le_refl _) (by omega)]; exact h3, fun j v l hv hl => ?_⟩
  have hj : j < m := by rw [← h1]; exact (List.getElem?_eq_some_iff.1 hv).1
  rw [hs _ (by omega) (by omega)]
  exact h4 j v l hv hl
theorem RowsAt.upd {F : Nat → GRw} {k gb m t : Nat} {vs : List Value} {ls : List (List Int)} (h : RowsAt F k gb m vs ls) (ht : t < m) (u : Value) (l' : List Int) : RowsAt (upG (upG F (k + 1 + t) (intR u l')) k ⟨42, 1, .slice (some ⟨gb, 0, none⟩) m m, m, vs.set t u⟩) k gb m (vs.set t u) (ls.set t l') := by
  obtain ⟨h1, h2, h3, h4⟩ := h
  refine ⟨by simpa using h1, by simpa using h2, upG_at _ _ _, fun j v l hv hl => ?_⟩
  rw [upG_off _ _ _ _ (by omega)]
  by_cases hj : t = j
  · subst hj
    rw [List.getElem?_set_self (by omega)] at hv hl
    injection hv with hv
    injection hl with hl
    rw [upG_at, hv, hl]
  · rw [List.getElem?_set_ne hj] at hv hl
    rw [upG_off _ _ _ _ (by omega)]
    exact h4 j v l hv hl
theorem RowsAt.start {F : Nat → GRw} {k gb m : Nat} (hF : ∀ j, j < m → F (k + 1 + j) = noRow) : RowsAt (upG F k ⟨42, 1, .slice (some ⟨gb, 0, none⟩) m m, m, List.replicate m (.slice none 0 0)⟩) k gb m (List.replicate m (.slice none 0 0)) (List.replicate m []) := by
  refine ⟨by simp, by simp, upG_at _ _ _, fun j v l hv hl => ?_⟩
  have hj : j < m := by have := (List.getElem?_eq_some_iff.1 hv).1; simpa using this
  have e1 := List.eq_of_mem_replicate (List.mem_of_getElem? hv)
  have e2 := List.eq_of_mem_replicate (List.mem_of_getElem? hl)
  subst e1 e2
  rw [upG_off _ _ _ _ (by omega), hF j hj]
  rfl
theorem RowsAt.at {F : Nat → GRw} {k gb m j : Nat} {vs : List Value} {ls : List (List Int)} (h : RowsAt F k gb m vs ls) (hj : j < m) : ∃ v l, vs[j]? = some v ∧ ls[j]? = some l ∧ ls.getD j [] = l ∧ F (k + 1 + j) = intR v l := by
  obtain ⟨h1, h2, h3, h4⟩ := h
  have e1 : vs[j]? = some vs[j] := List.getElem?_eq_getElem (by omega)
  have e2 : ls[j]? = some ls[j] := List.getElem?_eq_getElem (by omega)
  exact ⟨_, _, e1, e2, by simp [List.getD, e2], h4 j _ _ e1 e2⟩
/-- One of the rows, where it lies. -/
theorem RowsAt.cell {T : TypeId} {w : World} {base E : Nat} {F : Nat → GRw} {cs : List Value} {k gb m j : Nat} {vs : List Value} {ls : List (List Int)} {v : Value} (h : RowsAt F k gb m vs ls) (hs : Sq T w base E F cs) (hv : vs[j]? = some v) : w.cell? ⟨gb, j, none⟩ = some v := by
  have hj : j < m := by rw [← h.1]; exact (List.getElem?_eq_some_iff.1 hv).1
  rw [(hs.at h.2.2.1).cellAt j (by show j < m * 1; omega)]
  exact hv
theorem RowsAt.fro {T : TypeId} {w : World} {base E : Nat} {F : Nat → GRw} {cs : List Value} {k gb m : Nat} {vs : List Value} {ls : List (List Int)} (h : RowsAt F k gb m vs ls) (hs : Sq T w base E F cs) (j : Nat) : w.frozen? ⟨gb, j, none⟩ = false := (hs.at h.2.2.1).frozenAt j
/-- One row is longer now (w2): before it is entered in the row of the rows. -/
theorem RowsAt.grown {T : TypeId} {w w2 : World} {base E : Nat} {F : Nat → GRw} {cs : List Value} {k gb m t g c2 : Nat} {vs : List Value} {ls : List (List Int)} {v : Value} {l : List Int} {x : Int} (h : RowsAt F k gb m vs ls) (hs : Sq T w base E F cs) (hv : vs[t]? = some v) (hl : ls[t]? = some l)
    (hg : w.grownBy w2 v.ownBlock) (ho : w2.ownsRow base 3 1 (.slice (some ⟨g, 0, none⟩) (l.length + 1) c2) (l.length + 1) (intsV l ++ [.int .i64 x])) (hat : v.ownBlock = some g ∨ w.heap.size ≤ g) :
    Sq T w2 base E (upG F (k + 1 + t) (intR (.slice (some ⟨g, 0, none⟩) (l.length + 1) c2) (l ++ [x]))) cs ∧ Below base w w2 := by
  have hf := h.2.2.2 t v l hv hl
  have hg0 : w.grownBy w2 (F (k + 1 + t)).v.ownBlock := by rw [hf]; exact hg
  refine ⟨hs.grown _ hg0 _ (by simpa [intR, intsV] using ho) (fun g' e => ?_), hs.b_grown _ hg0⟩
  simp only [intR, Value.ownBlock, Option.some.injEq] at e
  subst e
  rw [hf]
  exact hat
/-- And then entered. -/
theorem RowsAt.enter {T : TypeId} {w : World} {base E : Nat} {F : Nat → GRw} {cs : List Value} {k gb m t : Nat} {vs : List Value} {ls : List (List Int)} {u : Value} {l' : List Int} (h : RowsAt F k gb m vs ls) (ht : t < m) (hs : Sq T w base E (upG F (k + 1 + t) (intR u l')) cs) :
    Sq T (w.setCell ⟨gb, t, none⟩ u) base E (upG (upG F (k + 1 + t) (intR u l')) k ⟨42, 1, .slice (some ⟨gb, 0, none⟩) m m, m, vs.set t u⟩) cs ∧ RowsAt (upG (upG F (k + 1 + t) (intR u l')) k ⟨42, 1, .slice (some ⟨gb, 0, none⟩) m m, m, vs.set t u⟩) k gb m (vs.set t u) (ls.set t l') ∧ Below base w (w.setCell ⟨gb, t, none⟩ u) := by
  have hk : (upG F (k + 1 + t) (intR u l')) k = ⟨42, 1, .slice (some ⟨gb, 0, none⟩) m m, m, vs⟩ := by rw [upG_off _ _ _ _ (by omega)]; exact h.2.2.1
  exact ⟨hs.put hk t u, h.upd ht u l', hs.b_put hk t u⟩

/-- Of each turn the turns that lead to it. -/
def bkIns (turn : List Int) (i : Int) : List Int → List (List Int) → Option (List (List Int))
  | [], ls => some ls
  | x :: xs, ls => (rdI turn x).bind fun t =>
      if 0 ≤ t ∧ t < ls.length ∧ (ls.getD t.toNat []).length < 1048576 then bkIns turn i xs (ls.set t.toNat (ls.getD t.toNat [] ++ [i])) else none
def bkRun (g : List GB) (turn : List Int) : Nat → List Int → List (List Int) → Option (List (List Int))
  | _, [], ls => some ls
  | i, b :: bs, ls => if 0 ≤ b ∧ b < g.length then (bkIns turn (i : Int) (tosG g b.toNat) ls).bind (bkRun g turn (i + 1) bs) else none
end Go.Proofs.Ytglobeajmdieaaa
namespace Go.Proofs.Ytglobeajmdieaaa
set_option linter.unusedVariables false
set_option linter.unusedSimpArgs false
open Go.RowKit Go.Shelf

/-- Only the normal end is asked. -/
def OnlyN (Q : Exit → Act → World → Prop) : Exit → Act → World → Prop := fun e a w => e = .normal ∧ Q .normal a w
theorem onlyN_out {Q : Exit → Act → World → Prop} : ¬ LetsOut (OnlyN Q) := by
  rintro ⟨a, w, h, _⟩
  cases h
theorem round_op {P : Program} {ops : Array Oper} {Q : Exit → Act → World → Prop} {l i : Nat} {K : Act → World → Prop} {a : Act} {w : World} (hnd : ∀ (i : Nat) o, ops[i]? = some o → ∀ c, o.op ≠ .defer c)
    (h : wpOp P ops (OnlyN Q) i K a w) : wpOpIn (Fence.wide.inRound l) 0 P ops Q i K a w := by
  unfold wpOp at h
  unfold wpOpIn
  cases ho : ops[i]? with
  | none => rw [ho] at h; exact h
  | some o =>
    rw [ho] at h
    dsimp only at h ⊢
    split at h
    · next hw =>
      rw [if_pos hw]
      rcases h with h | ⟨_, h⟩
      · refine ⟨fun f _ => trivial, ?_⟩
        rw [Fence.inRound_round, Oper.semAt_some l _ _ (hnd i o ho)]
        unfold Oper.wp at h
        generalize (execOp a.eval o).run P w = r at *
        cases r with
        | ok x w' =>
          cases x <;> simp only [Oper.upon, Oper.uponIn] at h ⊢
          case value v => exact h
          case skip => exact h
          case defer d => exact h
          case enter f args =>
            refine ⟨fun e => by simp [Fence.wide, Fence.inRound] at e, CallsIn.inRound l (callsIn_wide.2 (Calls.mono h fun e w'' he => ?_))⟩
            cases e with
            | returned v => exact he
            | panicked c => exact absurd he.1 (by simp)
            | outgrown => exact absurd he onlyN_out
          case row row args =>
            refine ⟨fun e => by simp [Fence.wide, Fence.inRound] at e, fun c cs _ => ?_⟩
            obtain ⟨v, w'', r, s⟩ := h c cs
            exact ⟨v, w'', r, stepsIn_wide.2 s⟩
        | halt x w' =>
          cases x <;> simp only [Oper.upon, Oper.uponIn] at h ⊢
          case panic v => exact absurd h.1 (by simp)
      · exact absurd h onlyN_out
    · next hw =>
      rw [if_neg hw]
      exact ⟨fun f _ => trivial, h⟩
theorem round_any {P : Program} {ops : Array Oper} {Q : Exit → Act → World → Prop} {l : Nat} {md : Region.Mode} (hnd : ∀ (i : Nat) o, ops[i]? = some o → ∀ c, o.op ≠ .defer c) : ∀ (fuel : Nat) (listed : Array Bool) (a : Act) (w : World),
    wpAny P md ops (OnlyN Q) fuel listed a w → wpAnyIn (Fence.wide.inRound l) 0 P md ops Q fuel listed a w
  | 0, _, _, _, h => ⟨h.1, h.2.2⟩
  | fuel + 1, listed, a, w, h => ⟨fun e => (h.1 e).2, fun i hi => wpOpIn_mono (fun a' w' h' => round_any hnd fuel _ a' w' h') (round_op hnd (h.2 i hi))⟩
theorem round_region {P : Program} {id : Nat} {ops : Array Oper} {Q : Exit → Act → World → Prop} {S : World → Prop} {l : Nat} {a : Act} {w : World} (hm : P.follows .mixedOrders = true) (hnd : ∀ (i : Nat) o, ops[i]? = some o → ∀ c, o.op ≠ .defer c) (hS : S w.drew)
    (h : S w.drew → wpAnyH P .any ops (OnlyN Q) S ops.size (Array.replicate ops.size false) a w.drew) : (Code.region id ops true).wpIn (Fence.wide.inRound l) 0 P Q a w :=
  wpIn_region_any hm (round_any hnd _ _ _ _ (wpAny_of_held _ _ _ _ (h hS)))
end Go.Proofs.Ytglobeajmdieaaa
