/-
  Blocks on all ways: a struct in a block, its rows and others, no two in one block; numbers read and written where they are there.
-/
import Derived.Test.YtglobeajmdieaaaJe21
namespace Go.Proofs.Ytglobeajmdieaaa
set_option linter.unusedVariables false
set_option linter.unusedSimpArgs false
open Go.RowKit Go.Shelf

/-- A struct in the block E, and rows of the call's own, apart from it and from each other. -/
structure Sq (T : TypeId) (w : World) (base E : Nat) (F : Nat → GRw) (cs : List Value) : Prop where
  fam : GFam w base E F
  box : w.heap[E]? = some (.cells cs.toArray T (0, 0))
  bE : base ≤ E
  hb : base ≤ w.heap.size
theorem Sq.keep {T : TypeId} {w w' : World} {base E : Nat} {F : Nat → GRw} {cs : List Value} (h : Sq T w base E F cs) (hb : Below w.heap.size w w') : Sq T w' base E F cs :=
  ⟨h.fam.keep hb, (hb.block E h.fam.el).trans h.box, h.bE, Nat.le_trans h.hb hb.size⟩
theorem Sq.grown {T : TypeId} {w w' : World} {base E : Nat} {F : Nat → GRw} {cs : List Value} (h : Sq T w base E F cs) (k : Nat) (hg : w.grownBy w' (F k).v.ownBlock) (r : GRw) (hown : w'.ownsRow base r.T r.z r.v r.n r.xs)
    (hat : ∀ g, r.v.ownBlock = some g → (F k).v.ownBlock = some g ∨ w.heap.size ≤ g) : Sq T w' base E (upG F k r) cs :=
  ⟨h.fam.grown k hg r hown hat, (hg.block E h.fam.el (fun e => h.fam.av k e.symm)).trans h.box, h.bE, Nat.le_trans h.hb hg.size⟩
theorem Sq.put {T : TypeId} {w : World} {base E : Nat} {F : Nat → GRw} {cs : List Value} (h : Sq T w base E F cs) {k : Nat} {T' : TypeId} {z g n c : Nat} {xs : List Value} (hk : F k = ⟨T', z, .slice (some ⟨g, 0, none⟩) n c, n, xs⟩) (j : Nat) (u : Value) :
    Sq T (w.setCell ⟨g, j, none⟩ u) base E (upG F k ⟨T', z, .slice (some ⟨g, 0, none⟩) n c, n, xs.set j u⟩) cs := by
  obtain ⟨s1, s2⟩ := h.fam.put hk j u
  have hav := h.fam.av k
  rw [hk] at hav
  exact ⟨s1, (s2.block E h.fam.el (fun e => hav e.symm)).trans h.box, h.bE, Nat.le_trans h.hb s2.size⟩
theorem Sq.field {T : TypeId} {w : World} {base E : Nat} {F : Nat → GRw} {cs : List Value} (h : Sq T w base E F cs) (j : Nat) (u : Value) : Sq T (w.setCell ⟨E, j, none⟩ u) base E F (cs.set j u) :=
  ⟨h.fam.bu (GBu.setCell (GBu.refl E w) (.inl rfl) u), by rw [gr_put h.box j]; simp only [List.setIfInBounds_toArray], h.bE, by simpa [World.setCell] using h.hb⟩
theorem Sq.cell {T : TypeId} {w : World} {base E : Nat} {F : Nat → GRw} {cs : List Value} (h : Sq T w base E F cs) (j : Nat) (v : Value) (hj : cs[j]? = some v) : w.cell? ⟨E, j, none⟩ = some v := by
  rw [Lib.cell_of_heap h.box j, List.getElem?_toArray, hj]
theorem Sq.fro {T : TypeId} {w : World} {base E : Nat} {F : Nat → GRw} {cs : List Value} (h : Sq T w base E F cs) (j : Nat) : w.frozen? ⟨E, j, none⟩ = false := Lib.frozen_of_heap h.box j
theorem Sq.at {T : TypeId} {w : World} {base E : Nat} {F : Nat → GRw} {cs : List Value} (h : Sq T w base E F cs) {k : Nat} {r : GRw} (hk : F k = r) : w.ownsRow base r.T r.z r.v r.n r.xs := h.fam.at hk
/-- What one step leaves of what lies below base. -/
theorem Sq.b_grown {T : TypeId} {w w' : World} {base E : Nat} {F : Nat → GRw} {cs : List Value} (h : Sq T w base E F cs) (k : Nat) (hg : w.grownBy w' (F k).v.ownBlock) : Below base w w' :=
  (Below.refl base w).grown hg h.hb (fun g e => ((h.fam.own k).lt g e).1)
theorem Sq.b_field {T : TypeId} {w : World} {base E : Nat} {F : Nat → GRw} {cs : List Value} (h : Sq T w base E F cs) (j : Nat) (u : Value) : Below base w (w.setCell ⟨E, j, none⟩ u) := (Below.refl base w).setCell (p := ⟨E, j, none⟩) h.bE u
theorem Sq.b_put {T : TypeId} {w : World} {base E : Nat} {F : Nat → GRw} {cs : List Value} (h : Sq T w base E F cs) {k : Nat} {T' : TypeId} {z g n c : Nat} {xs : List Value} (hk : F k = ⟨T', z, .slice (some ⟨g, 0, none⟩) n c, n, xs⟩) (j : Nat) (u : Value) : Below base w (w.setCell ⟨g, j, none⟩ u) :=
  (Below.refl base w).setCell (p := ⟨g, j, none⟩) (by have := (h.at hk).lt g rfl; exact this.1) u
def noRow : GRw := ⟨3, 1, .slice none 0 0, 0, []⟩
theorem grown_none {w w' : World} (h : Below w.heap.size w w') : w.grownBy w' none := ⟨h.os, h.tape, h.output, h.size, fun k hk _ => h.block k hk⟩
/-- A row that was nothing is a new one now. -/
theorem Sq.new {T : TypeId} {w w' : World} {base E : Nat} {F : Nat → GRw} {cs : List Value} (h : Sq T w base E F cs) (k : Nat) (hk : (F k).v.ownBlock = none) (hb : Below w.heap.size w w') (r : GRw) (hown : w'.ownsRow w.heap.size r.T r.z r.v r.n r.xs) : Sq T w' base E (upG F k r) cs :=
  h.grown k (by rw [hk]; exact grown_none hb) r (gr_mono hown h.hb) (fun g e => .inr (hown.lt g e).1)
/-- The start: a struct, no rows yet. -/
theorem Sq.start {T : TypeId} {w : World} {base : Nat} {E : Nat} {cs : List Value} (hbox : w.heap[E]? = some (.cells cs.toArray T (0, 0))) (hb : base ≤ E) : Sq T w base E (fun _ => noRow) cs :=
  ⟨⟨gr_in hbox, fun k => by simp [noRow, Value.ownBlock], fun k => World.ownsRow_nil _ _ _ _, fun k l _ => .inl rfl⟩, hbox, hb, by have := gr_in hbox; omega⟩

/-- A row of numbers, and one that is whole. -/
def intR (v : Value) (l : List Int) : GRw := ⟨3, 1, v, l.length, intsV l⟩
def wholeR (b : Nat) (l : List Int) : GRw := ⟨3, 1, .slice (some ⟨b, 0, none⟩) l.length l.length, l.length, intsV l⟩
theorem Sq.whole {T : TypeId} {w : World} {base E : Nat} {F : Nat → GRw} {cs : List Value} (h : Sq T w base E F cs) {k b : Nat} {l : List Int} (hk : F k = wholeR b l) : IRow w b l := own_full (h.at hk)
theorem Sq.set {T : TypeId} {w : World} {base E : Nat} {F : Nat → GRw} {cs : List Value} (h : Sq T w base E F cs) {k b : Nat} {l : List Int} (hk : F k = wholeR b l) (j : Nat) (x : Int) : Sq T (w.setCell ⟨b, j, none⟩ (.int .i64 x)) base E (upG F k (wholeR b (l.set j x))) cs := by
  have := h.put (k := k) hk j (.int .i64 x)
  have e : wholeR b (l.set j x) = ⟨3, 1, .slice (some ⟨b, 0, none⟩) l.length l.length, l.length, (intsV l).set j (.int .i64 x)⟩ := by simp [wholeR, intsV, List.map_set]
  rw [e]
  exact this
theorem Sq.icell {T : TypeId} {w : World} {base E : Nat} {F : Nat → GRw} {cs : List Value} (h : Sq T w base E F cs) {k b c : Nat} {l : List Int} (hk : F k = intR (.slice (some ⟨b, 0, none⟩) l.length c) l) {j : Nat} (hj : j < l.length) : w.cell? ⟨b, j, none⟩ = some (.int .i64 (l.getD j 0)) := by
  rw [(h.at hk).cellAt j (by show j < l.length * 1; omega)]
  simp [intR, intsV, List.getD, hj]

/-- A number of a row, where it is there; a row with another number. -/
def rdI (l : List Int) (i : Int) : Option Int := if 0 ≤ i ∧ i < l.length then some (l.getD i.toNat 0) else none
def wrI (l : List Int) (i v : Int) : Option (List Int) := if 0 ≤ i ∧ i < l.length then some (l.set i.toNat v) else none
theorem rdI_some {l : List Int} {i v : Int} (h : rdI l i = some v) : ∃ k : Nat, i = k ∧ k < l.length ∧ v = l.getD k 0 := by
  unfold rdI at h
  split at h
  · next hc =>
    injection h with h
    exact ⟨i.toNat, by omega, by omega, h.symm⟩
  · cases h
theorem wrI_some {l : List Int} {i v : Int} {r : List Int} (h : wrI l i v = some r) : ∃ k : Nat, i = k ∧ k < l.length ∧ r = l.set k v := by
  unfold wrI at h
  split at h
  · next hc =>
    injection h with h
    exact ⟨i.toNat, by omega, by omega, h.symm⟩
  · cases h
end Go.Proofs.Ytglobeajmdieaaa
