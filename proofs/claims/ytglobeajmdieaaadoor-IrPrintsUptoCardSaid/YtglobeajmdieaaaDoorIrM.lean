/-
  Worlds: what a store, a new block and an append leave as it was.
-/
import Derived.Test.YtglobeajmdieaaaDoorIrA
namespace Go.Proofs.YtglobeajmdieaaaDoor
open Go.RowKit
set_option linter.unusedVariables false
set_option linter.unusedSimpArgs false

theorem heap_in {w : World} {k : Nat} {o : Obj} (h : w.heap[k]? = some o) : k < w.heap.size := by
  rcases Nat.lt_or_ge k w.heap.size with h' | h'
  · exact h'
  · rw [Array.getElem?_eq_none h'] at h; cases h
/-- A store into a cell of a block that is known whole. -/
theorem heap_put {w : World} {b : Nat} {cs : Array Value} {T : TypeId} {fr : Nat × Nat} (hb : w.heap[b]? = some (.cells cs T fr)) (j : Nat) (u : Value) : (w.setCell ⟨b, j, none⟩ u).heap[b]? = some (.cells (cs.setIfInBounds j u) T fr) := by
  simp [World.setCell, Array.getElem?_modify, hb]
/-- All but one block is as it was. -/
structure Bu (g : Nat) (w w' : World) : Prop where
  os : w'.os = w.os
  tape : w'.tape = w.tape
  output : w'.output = w.output
  size : w.heap.size ≤ w'.heap.size
  block : ∀ k, k < w.heap.size → k ≠ g → w'.heap[k]? = w.heap[k]?
theorem Bu.refl (g : Nat) (w : World) : Bu g w w := ⟨rfl, rfl, rfl, Nat.le_refl _, fun _ _ _ => rfl⟩
theorem Bu.trans {g : Nat} {a b c : World} (h : Bu g a b) (k : Bu g b c) : Bu g a c :=
  ⟨k.os.trans h.os, k.tape.trans h.tape, k.output.trans h.output, Nat.le_trans h.size k.size, fun i hi hg => (k.block i (Nat.lt_of_lt_of_le hi h.size) hg).trans (h.block i hi hg)⟩
theorem Bu.of_below {g : Nat} {w w' : World} (h : Below w.heap.size w w') : Bu g w w' := ⟨h.os, h.tape, h.output, h.size, fun k hk _ => h.block k hk⟩
theorem Bu.below {g B : Nat} {a w w' : World} (h : Bu g w w') (ha : Below B a w) (hg : B ≤ g) (hB : B ≤ w.heap.size) : Below B a w' :=
  ha.trans ⟨h.os, h.tape, h.output, h.size, fun k hk => h.block k (Nat.lt_of_lt_of_le hk hB) (by omega)⟩
theorem Bu.below0 {g B : Nat} {w w' : World} (h : Bu g w w') (hg : B ≤ g) (hB : B ≤ w.heap.size) : Below B w w' := h.below (Below.refl _ _) hg hB
theorem Bu.drew {g : Nat} {a w : World} (h : Bu g a w) : Bu g a w.drew := ⟨h.os, h.tape, h.output, h.size, h.block⟩
/-- A store into the block, or into one that was not there. -/
theorem Bu.setCell {g : Nat} {a w : World} (h : Bu g a w) {p : Addr} (hp : p.block = g ∨ a.heap.size ≤ p.block) (u : Value) : Bu g a (w.setCell p u) :=
  ⟨h.os, h.tape, h.output, by simpa [World.setCell] using h.size, fun k hk hg => (Below.heap_setCell _ _ _ _ (by omega)).trans (h.block k hk hg)⟩
theorem Bu.cell {g : Nat} {w w' : World} (h : Bu g w w') {p : Addr} (hp : p.block < w.heap.size) (hg : p.block ≠ g) : w'.cell? p = w.cell? p := World.cell?_of_block (h.block _ hp hg)
theorem own_up {w w' : World} {base : Nat} {T : TypeId} {z n : Nat} {v : Value} {xs : List Value} (h : w.ownsRow base T z v n xs) (hb : Below w.heap.size w w') : w'.ownsRow base T z v n xs :=
  h.kept (row := none) ⟨hb.os, hb.tape, hb.output, hb.size, fun k hk _ => hb.block k hk⟩ (by cases Value.ownBlock _ <;> simp)
theorem set_off {w : World} {b j : Nat} {u : Value} {p : Addr} (h : p.block ≠ b) : (w.setCell ⟨b, j, none⟩ u).cell? p = w.cell? p := World.cell?_setCell_other _ _ _ _ (fun e => h (by rw [← e]))
theorem r_two_al (w : World) (x y : Array Value) (T T' : TypeId) : ∃ W, W = (w.alloc (.cells x T)).alloc (.cells y T') ∧ Below w.heap.size w W ∧ W.heap.size = w.heap.size + 2 ∧ W.heap[w.heap.size]? = some (.cells x T (0, 0)) ∧ W.heap[w.heap.size + 1]? = some (.cells y T' (0, 0)) := by
  obtain ⟨w1, e1, b1, z1, h1⟩ := r_one_al w x T
  obtain ⟨w2, e2, b2, z2, h2⟩ := r_one_al w1 y T'
  rw [z1] at h2
  exact ⟨w2, by rw [e2, e1], b1.trans (b2.mono (by omega)), by omega, (b2.block _ (by omega)).trans h1, h2⟩
theorem r_four_al (w : World) (x0 x1 x2 x3 : Array Value) (T0 T1 T2 T3 : TypeId) : ∃ W, W = (((w.alloc (.cells x0 T0)).alloc (.cells x1 T1)).alloc (.cells x2 T2)).alloc (.cells x3 T3) ∧ Below w.heap.size w W ∧ W.heap.size = w.heap.size + 4 ∧ W.heap[w.heap.size]? = some (.cells x0 T0 (0, 0)) ∧ W.heap[w.heap.size + 1]? = some (.cells x1 T1 (0, 0)) ∧ W.heap[w.heap.size + 2]? = some (.cells x2 T2 (0, 0)) ∧ W.heap[w.heap.size + 3]? = some (.cells x3 T3 (0, 0)) := by
  obtain ⟨w2, e2, b2, z2, h0, h1⟩ := r_two_al w x0 x1 T0 T1
  obtain ⟨w4, e4, b4, z4, h2, h3⟩ := r_two_al w2 x2 x3 T2 T3
  rw [z2] at h2 h3
  exact ⟨w4, by rw [e4, e2], b2.trans (b4.mono (by omega)), by omega, (b4.block _ (by omega)).trans h0, (b4.block _ (by omega)).trans h1, h2, h3⟩
theorem infoInt : (Tryd.prog.info? 3).map (fun i => (i.zero, i.size, i.bytes)) = some (some (.int .i64 0), 1, 8) := by kernel_rfl
end Go.Proofs.YtglobeajmdieaaaDoor
