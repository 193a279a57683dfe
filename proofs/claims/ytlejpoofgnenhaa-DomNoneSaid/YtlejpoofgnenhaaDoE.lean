/-
  Blocks on all ways: rows of rows within a family.
-/
import Derived.Test.YtlejpoofgnenhaaDoC
namespace Go.Proofs.Ytlejpoofgnenhaa
open Go.RowKit Go.Shelf
set_option linter.unusedVariables false
set_option linter.unusedSimpArgs false

/-- The rows of a family from number k on: first the row of the rows. -/
def RowsAt (F : Nat → GRw) (k gb m : Nat) (vs : List Value) (ls : List (List Int)) : Prop :=
  vs.length = m ∧ ls.length = m ∧ F k = ⟨23, 1, .slice (some ⟨gb, 0, none⟩) m m, m, vs⟩ ∧ ∀ j v l, vs[j]? = some v → ls[j]? = some l → F (k + 1 + j) = intR v l
theorem RowsAt.off {F : Nat → GRw} {k gb m : Nat} {vs : List Value} {ls : List (List Int)} (h : RowsAt F k gb m vs ls) (i : Nat) (r : GRw) (hi : i < k ∨ k + m < i) : RowsAt (upG F i r) k gb m vs ls := by
  obtain ⟨h1, h2, h3, h4⟩ := h
  refine ⟨h1, h2, by rw [upG_off _ _ _ _ (by omega)]; exact h3, fun j v l hv hl => ?_⟩
  have hj : j < m := by rw [← h1]; exact (List.getElem?_eq_some_iff.1 hv).1
  rw [upG_off _ _ _ _ (by omega)]
  exact h4 j v l hv hl
theorem RowsAt.same {F F' : Nat → GRw} {k gb m : Nat} {vs : List Value} {ls : List (List Int)} (h : RowsAt F k gb m vs ls) (hs : ∀ i, k ≤ i → i ≤ k + m → F' i = F i) : RowsAt F' k gb m vs ls := by
  obtain ⟨h1, h2, h3, h4⟩ := h
  refine ⟨h1, h2, by rw [hs k (Nat.le_refl _) (by omega)]; exact h3, fun j v l hv hl => ?_⟩
  have hj : j < m := by rw [← h1]; exact (List.getElem?_eq_some_iff.1 hv).1
  rw [hs _ (by omega) (by omega)]
  exact h4 j v l hv hl
theorem RowsAt.upd {F : Nat → GRw} {k gb m t : Nat} {vs : List Value} {ls : List (List Int)} (h : RowsAt F k gb m vs ls) (ht : t < m) (u : Value) (l' : List Int) : RowsAt (upG (upG F (k + 1 + t) (intR u l')) k ⟨23, 1, .slice (some ⟨gb, 0, none⟩) m m, m, vs.set t u⟩) k gb m (vs.set t u) (ls.set t l') := by
  obtain ⟨h1, h2, h3, h4⟩ := h
  refine ⟨by simpa using h1, by simpa using h2, upG_at _ _ _, fun j v l hv hl => ?_⟩
  rw [upG_off _ _ _ _ (by omega)]
  by_cases hj : t = j
  · subst hj
    rw [List.getElem?_set_self (by omega)] at hv hl
    injection hv with hv
    injection hl with hl
    rw [upG_at, hv, hl]
  · rw [List.getElem?_set_ne hj] at hv hl
    rw [upG_off _ _ _ _ (by omega)]
    exact h4 j v l hv hl
theorem RowsAt.start {F : Nat → GRw} {k gb m : Nat} (hF : ∀ j, j < m → F (k + 1 + j) = noRow) : RowsAt (upG F k ⟨23, 1, .slice (some ⟨gb, 0, none⟩) m m, m, List.replicate m (.slice none 0 0)⟩) k gb m (List.replicate m (.slice none 0 0)) (List.replicate m []) := by
  refine ⟨by simp, by simp, upG_at _ _ _, fun j v l hv hl => ?_⟩
  have hj : j < m := by have := (List.getElem?_eq_some_iff.1 hv).1; simpa using this
  have e1 := List.eq_of_mem_replicate (List.mem_of_getElem? hv)
  have e2 := List.eq_of_mem_replicate (List.mem_of_getElem? hl)
  subst e1 e2
  rw [upG_off _ _ _ _ (by omega), hF j hj]
  rfl
theorem RowsAt.at {F : Nat → GRw} {k gb m j : Nat} {vs : List Value} {ls : List (List Int)} (h : RowsAt F k gb m vs ls) (hj : j < m) : ∃ v l, vs[j]? = some v ∧ ls[j]? = some l ∧ ls.getD j [] = l ∧ F (k + 1 + j) = intR v l := by
  obtain ⟨h1, h2, h3, h4⟩ := h
  have e1 : vs[j]? = some vs[j] := List.getElem?_eq_getElem (by omega)
  have e2 : ls[j]? = some ls[j] := List.getElem?_eq_getElem (by omega)
  exact ⟨_, _, e1, e2, by simp [List.getD, e2], h4 j _ _ e1 e2⟩
/-- One of the rows, where it lies. -/
theorem RowsAt.cell {T : TypeId} {w : World} {base E : Nat} {F : Nat → GRw} {cs : List Value} {k gb m j : Nat} {vs : List Value} {ls : List (List Int)} {v : Value} (h : RowsAt F k gb m vs ls) (hs : Sq T w base E F cs) (hv : vs[j]? = some v) : w.cell? ⟨gb, j, none⟩ = some v := by
  have hj : j < m := by rw [← h.1]; exact (List.getElem?_eq_some_iff.1 hv).1
  rw [(hs.at h.2.2.1).cellAt j (by show j < m * 1; omega)]
  exact hv
theorem RowsAt.fro {T : TypeId} {w : World} {base E : Nat} {F : Nat → GRw} {cs : List Value} {k gb m : Nat} {vs : List Value} {ls : List (List Int)} (h : RowsAt F k gb m vs ls) (hs : Sq T w base E F cs) (j : Nat) : w.frozen? ⟨gb, j, none⟩ = false := (hs.at h.2.2.1).frozenAt j
/-- One row is longer now (w2): before it is entered in the row of the rows. -/
theorem RowsAt.grown {T : TypeId} {w w2 : World} {base E : Nat} {F : Nat → GRw} {cs : List Value} {k gb m t g c2 : Nat} {vs : List Value} {ls : List (List Int)} {v : Value} {l : List Int} {x : Int} (h : RowsAt F k gb m vs ls) (hs : Sq T w base E F cs) (hv : vs[t]? = some v) (hl : ls[t]? = some l)
    (hg : w.grownBy w2 v.ownBlock) (ho : w2.ownsRow base 3 1 (.slice (some ⟨g, 0, none⟩) (l.length + 1) c2) (l.length + 1) (intsV l ++ [.int .i64 x])) (hat : v.ownBlock = some g ∨ w.heap.size ≤ g) :
    Sq T w2 base E (upG F (k + 1 + t) (intR (.slice (some ⟨g, 0, none⟩) (l.length + 1) c2) (l ++ [x]))) cs ∧ Below base w w2 := by
  have hf := h.2.2.2 t v l hv hl
  have hg0 : w.grownBy w2 (F (k + 1 + t)).v.ownBlock := by rw [hf]; exact hg
  refine ⟨hs.grown _ hg0 _ (by simpa [intR, intsV] using ho) (fun g' e => ?_), hs.b_grown _ hg0⟩
  simp only [intR, Value.ownBlock, Option.some.injEq] at e
  subst e
  rw [hf]
  exact hat
/-- And then entered. -/
theorem RowsAt.enter {T : TypeId} {w : World} {base E : Nat} {F : Nat → GRw} {cs : List Value} {k gb m t : Nat} {vs : List Value} {ls : List (List Int)} {u : Value} {l' : List Int} (h : RowsAt F k gb m vs ls) (ht : t < m) (hs : Sq T w base E (upG F (k + 1 + t) (intR u l')) cs) :
    Sq T (w.setCell ⟨gb, t, none⟩ u) base E (upG (upG F (k + 1 + t) (intR u l')) k ⟨23, 1, .slice (some ⟨gb, 0, none⟩) m m, m, vs.set t u⟩) cs ∧ RowsAt (upG (upG F (k + 1 + t) (intR u l')) k ⟨23, 1, .slice (some ⟨gb, 0, none⟩) m m, m, vs.set t u⟩) k gb m (vs.set t u) (ls.set t l') ∧ Below base w (w.setCell ⟨gb, t, none⟩ u) := by
  have hk : (upG F (k + 1 + t) (intR u l')) k = ⟨23, 1, .slice (some ⟨gb, 0, none⟩) m m, m, vs⟩ := by rw [upG_off _ _ _ _ (by omega)]; exact h.2.2.1
  exact ⟨hs.put hk t u, h.upd ht u l', hs.b_put hk t u⟩

/-- Of each turn the turns that lead to it. -/
def bkIns (turn : List Int) (i : Int) : List Int → List (List Int) → Option (List (List Int))
  | [], ls => some ls
  | x :: xs, ls => (rdI turn x).bind fun t =>
      if 0 ≤ t ∧ t < ls.length ∧ (ls.getD t.toNat []).length < 1048576 then bkIns turn i xs (ls.set t.toNat (ls.getD t.toNat [] ++ [i])) else none
def bkRun (g : List GB) (turn : List Int) : Nat → List Int → List (List Int) → Option (List (List Int))
  | _, [], ls => some ls
  | i, b :: bs, ls => if 0 ≤ b ∧ b < g.length then (bkIns turn (i : Int) (tosG g b.toNat) ls).bind (bkRun g turn (i + 1) bs) else none
end Go.Proofs.Ytlejpoofgnenhaa
