/-
  graph.Places.
  Worlds: all but one block; rows of a call's own, many at once, each in its own block.
-/
import Derived.Test.YthhjhdmdfneegaaJc8
import Derived.Lib.MinMax
namespace Go.Proofs.Ythhjhdmdfneegaa
set_option linter.unusedVariables false
set_option linter.unusedSimpArgs false
open Go.RowKit

/-- From here on: of each block the last place. -/
def placeP : List Int → Nat → List Int → List Int
  | [], _, acc => acc
  | b :: l, i, acc => placeP l (i + 1) (if 0 ≤ b ∧ b < acc.length then acc.set b.toNat (i : Int) else acc)
def placesP (l : List Int) (n : Nat) : List Int := placeP l 0 (List.replicate n (-1))
theorem placeP_len : ∀ (l : List Int) (i : Nat) (acc : List Int), (placeP l i acc).length = acc.length
  | [], _, _ => rfl
  | b :: l, i, acc => by
    unfold placeP
    rw [placeP_len l]
    split <;> simp
def minusV (n i : Nat) : List Value := List.replicate i (Value.int .i64 (-1)) ++ List.replicate (n - i) (Value.int .i64 0)
theorem minusV_step (n i : Nat) (h : i < n) : (minusV n i).set i (.int .i64 (-1)) = minusV n (i + 1) := by
  unfold minusV
  rw [List.set_append_right _ _ (by simp), List.length_replicate, Nat.sub_self, show n - i = (n - (i + 1)) + 1 by omega, List.replicate_succ, List.set_cons_zero, List.replicate_succ' (n := i), List.append_assoc]
  rfl
theorem minusV_end (n : Nat) : minusV n n = intsV (List.replicate n (-1)) := by simp [minusV, intsV]

end Go.Proofs.Ythhjhdmdfneegaa
namespace Go.Proofs.Ythhjhdmdfneegaa
set_option linter.unusedVariables false
set_option linter.unusedSimpArgs false
open Go.RowKit

/-- All but one block is as it was. -/
structure GBu (g : Nat) (w w' : World) : Prop where
  os : w'.os = w.os
  tape : w'.tape = w.tape
  output : w'.output = w.output
  size : w.heap.size ≤ w'.heap.size
  block : ∀ k, k < w.heap.size → k ≠ g → w'.heap[k]? = w.heap[k]?
theorem GBu.refl (g : Nat) (w : World) : GBu g w w := ⟨rfl, rfl, rfl, Nat.le_refl _, fun _ _ _ => rfl⟩
theorem GBu.trans {g : Nat} {a b c : World} (h : GBu g a b) (k : GBu g b c) : GBu g a c :=
  ⟨k.os.trans h.os, k.tape.trans h.tape, k.output.trans h.output, Nat.le_trans h.size k.size, fun i hi hg => (k.block i (Nat.lt_of_lt_of_le hi h.size) hg).trans (h.block i hi hg)⟩
theorem GBu.of_below {g : Nat} {w w' : World} (h : Below w.heap.size w w') : GBu g w w' := ⟨h.os, h.tape, h.output, h.size, fun k hk _ => h.block k hk⟩
theorem GBu.below {g B : Nat} {a w w' : World} (h : GBu g w w') (ha : Below B a w) (hg : B ≤ g) (hB : B ≤ w.heap.size) : Below B a w' :=
  ha.trans ⟨h.os, h.tape, h.output, h.size, fun k hk => h.block k (Nat.lt_of_lt_of_le hk hB) (by omega)⟩
theorem GBu.below0 {g B : Nat} {w w' : World} (h : GBu g w w') (hg : B ≤ g) (hB : B ≤ w.heap.size) : Below B w w' := h.below (Below.refl _ _) hg hB
theorem GBu.drew {g : Nat} {a w : World} (h : GBu g a w) : GBu g a w.drew := ⟨h.os, h.tape, h.output, h.size, h.block⟩
/-- A store into the block, or into one that was not there. -/
theorem GBu.setCell {g : Nat} {a w : World} (h : GBu g a w) {p : Addr} (hp : p.block = g ∨ a.heap.size ≤ p.block) (u : Value) : GBu g a (w.setCell p u) :=
  ⟨h.os, h.tape, h.output, by simpa [World.setCell] using h.size, fun k hk hg => (Below.heap_setCell _ _ _ _ (by omega)).trans (h.block k hk hg)⟩
theorem GBu.cell {g : Nat} {w w' : World} (h : GBu g w w') {p : Addr} (hp : p.block < w.heap.size) (hg : p.block ≠ g) : w'.cell? p = w.cell? p := World.cell?_of_block (h.block _ hp hg)
/-- A row: of which type, how many cells an element has, where it lies, how many elements, its cells. -/
structure GRw where
  T : TypeId
  z : Nat
  v : Value
  n : Nat
  xs : List Value
/-- Rows by numbers; no two share a block. -/
structure GFam (w : World) (base E : Nat) (F : Nat → GRw) : Prop where
  el : E < w.heap.size
  av : ∀ k, (F k).v.ownBlock ≠ some E
  own : ∀ k, w.ownsRow base (F k).T (F k).z (F k).v (F k).n (F k).xs
  ne : ∀ k l, k ≠ l → (F k).v.ownBlock = none ∨ (F k).v.ownBlock ≠ (F l).v.ownBlock
def upG (F : Nat → GRw) (k : Nat) (r : GRw) : Nat → GRw := fun j => if j = k then r else F j
theorem upG_at (F : Nat → GRw) (k : Nat) (r : GRw) : upG F k r k = r := by simp [upG]
theorem upG_off (F : Nat → GRw) (k j : Nat) (r : GRw) (h : j ≠ k) : upG F k r j = F j := by simp [upG, h]
theorem GFam.keep {w w' : World} {base E : Nat} {F : Nat → GRw} (h : GFam w base E F) (hb : Below w.heap.size w w') : GFam w' base E F :=
  ⟨Nat.lt_of_lt_of_le h.el hb.size, h.av, fun k => gr_up (h.own k) hb, h.ne⟩
theorem GFam.bu {w w' : World} {base E : Nat} {F : Nat → GRw} (h : GFam w base E F) (hb : GBu E w w') : GFam w' base E F :=
  ⟨Nat.lt_of_lt_of_le h.el hb.size, h.av, fun k => (h.own k).kept (row := some E) ⟨hb.os, hb.tape, hb.output, hb.size, fun j hj hne => hb.block j hj (fun e => hne (by rw [e]))⟩ (.inr (h.av k)), h.ne⟩
/-- One row is another one now: in its own block, or in a new one, or nothing. -/
theorem GFam.grown {w w' : World} {base E : Nat} {F : Nat → GRw} (h : GFam w base E F) (k : Nat) (hg : w.grownBy w' (F k).v.ownBlock) (r : GRw) (hown : w'.ownsRow base r.T r.z r.v r.n r.xs)
    (hat : ∀ g, r.v.ownBlock = some g → (F k).v.ownBlock = some g ∨ w.heap.size ≤ g) : GFam w' base E (upG F k r) := by
  refine ⟨Nat.lt_of_lt_of_le h.el hg.size, fun j => ?_, fun j => ?_, fun i j hij => ?_⟩
  · by_cases hj : j = k
    · subst hj
      rw [upG_at]
      intro e
      rcases hat E e with h1 | h1
      · exact h.av j h1
      · have := h.el; omega
    · rw [upG_off _ _ _ _ hj]; exact h.av j
  · by_cases hj : j = k
    · subst hj; rw [upG_at]; exact hown
    · rw [upG_off _ _ _ _ hj]; exact (h.own j).kept hg (h.ne j k hj)
  · by_cases hi : i = k
    · subst hi
      rw [upG_at, upG_off _ _ _ _ (fun e => hij e.symm)]
      cases hr : r.v.ownBlock with
      | none => exact .inl rfl
      | some g =>
        refine .inr (fun e => ?_)
        rcases hat g hr with h1 | h1
        · rcases h.ne i j hij with h2 | h2
          · rw [h1] at h2; cases h2
          · exact h2 (h1.trans e)
        · have := ((h.own j).lt g e.symm).2; omega
    · rw [upG_off _ _ _ _ hi]
      by_cases hj : j = k
      · subst hj
        rw [upG_at]
        cases hf : (F i).v.ownBlock with
        | none => exact .inl rfl
        | some g =>
          refine .inr (fun e => ?_)
          rcases hat g e.symm with h1 | h1
          · rcases h.ne i j hij with h2 | h2
            · rw [hf] at h2; cases h2
            · exact h2 (hf.trans h1.symm)
          · have := ((h.own i).lt g hf).2; omega
      · rw [upG_off _ _ _ _ hj]; exact h.ne i j hij
theorem gr_gbelow {w a w' : World} {row : Option Nat} (hb : Below w.heap.size w a) (hg : a.grownBy w' row) : w.grownBy w' row :=
  ⟨hg.os.trans hb.os, hg.tape.trans hb.tape, hg.output.trans hb.output, Nat.le_trans hb.size hg.size, fun k hk hn => (hg.block k (Nat.lt_of_lt_of_le hk hb.size) hn).trans (hb.block k hk)⟩
/-- A store into a row. -/
theorem GFam.put {w : World} {base E : Nat} {F : Nat → GRw} (h : GFam w base E F) {k : Nat} {T : TypeId} {z g n c : Nat} {xs : List Value} (hk : F k = ⟨T, z, .slice (some ⟨g, 0, none⟩) n c, n, xs⟩) (j : Nat) (u : Value) :
    GFam (w.setCell ⟨g, j, none⟩ u) base E (upG F k ⟨T, z, .slice (some ⟨g, 0, none⟩) n c, n, xs.set j u⟩) ∧ w.grownBy (w.setCell ⟨g, j, none⟩ u) (some g) := by
  have ho : w.ownsRow base T z (.slice (some ⟨g, 0, none⟩) n c) n xs := by have := h.own k; rw [hk] at this; exact this
  obtain ⟨s1, s2⟩ := ho.stored j u
  exact ⟨h.grown k (by rw [hk]; exact s2) _ s1 (fun g' e => .inl (by rw [hk]; exact e)), s2⟩
theorem GFam.at {w : World} {base E : Nat} {F : Nat → GRw} (h : GFam w base E F) {k : Nat} {r : GRw} (hk : F k = r) : w.ownsRow base r.T r.z r.v r.n r.xs := by have := h.own k; rw [hk] at this; exact this
theorem GFam.apart {w : World} {base E : Nat} {F : Nat → GRw} (h : GFam w base E F) {k l : Nat} (hn : k ≠ l) {r s : GRw} (hk : F k = r) (hl : F l = s) {g : Nat} (hg : s.v.ownBlock = some g) : some g ≠ r.v.ownBlock := fun e => by
  rcases h.ne k l hn with h | h
  · rw [hk] at h; rw [h] at e; cases e
  · rw [hk, hl, hg] at h; exact h e.symm
/-- Below base all but one block is as it was. -/
structure GBd (E base : Nat) (w w' : World) : Prop where
  os : w'.os = w.os
  tape : w'.tape = w.tape
  output : w'.output = w.output
  size : w.heap.size ≤ w'.heap.size
  block : ∀ k, k < base → k ≠ E → w'.heap[k]? = w.heap[k]?
theorem GBd.refl (E base : Nat) (w : World) : GBd E base w w := ⟨rfl, rfl, rfl, Nat.le_refl _, fun _ _ _ => rfl⟩
theorem GBd.trans {E base : Nat} {a b c : World} (h : GBd E base a b) (k : GBd E base b c) : GBd E base a c :=
  ⟨k.os.trans h.os, k.tape.trans h.tape, k.output.trans h.output, Nat.le_trans h.size k.size, fun i hi hg => (k.block i hi hg).trans (h.block i hi hg)⟩
theorem GBd.of_below {E base : Nat} {w w' : World} (h : Below w.heap.size w w') (hb : base ≤ w.heap.size) : GBd E base w w' := ⟨h.os, h.tape, h.output, h.size, fun k hk _ => h.block k (by omega)⟩
theorem GBd.of_bu {E base : Nat} {w w' : World} (h : GBu E w w') (hb : base ≤ w.heap.size) : GBd E base w w' := ⟨h.os, h.tape, h.output, h.size, fun k hk hn => h.block k (by omega) hn⟩
theorem GBd.of_grown {E base : Nat} {w w' : World} {row : Option Nat} (h : w.grownBy w' row) (hr : ∀ g, row = some g → base ≤ g) (hb : base ≤ w.heap.size) : GBd E base w w' := ⟨h.os, h.tape, h.output, h.size, fun k hk _ => h.block k (by omega) (fun e => by have := hr k e.symm; omega)⟩
theorem GBd.below {E base B : Nat} {a w w' : World} (h : GBd E base w w') (ha : Below B a w) (hg : B ≤ E) (hB : B ≤ base) : Below B a w' :=
  ha.trans ⟨h.os, h.tape, h.output, h.size, fun k hk => h.block k (by omega) (by omega)⟩
end Go.Proofs.Ythhjhdmdfneegaa
