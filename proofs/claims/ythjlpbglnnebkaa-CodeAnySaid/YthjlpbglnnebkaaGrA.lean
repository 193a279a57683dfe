/-
  Ways through blocks: worlds, rows of numbers, blocks as they lie; whether a function has a block; whether it is whole; whether two rows are the same.
-/
import Derived.Test.YthjlpbglnnebkaaChecked
import Derived.WalkKit
import Derived.Defers
import Derived.Below
import Derived.Lib.Hide
import Derived.Lib.Builder
import Derived.Outline
import Derived.Deep.RegionHeld3
import Derived.Deep.DeepCutAuto
import Derived.Deep.AppendLies
import Derived.OwnWalk
import Derived.BigQuiet
namespace Go.Proofs.Ythjlpbglnnebkaa
open Go.RowKit
set_option linter.unusedVariables false
set_option linter.unusedSimpArgs false

theorem gr_one (w : World) (x : Array Value) (T : TypeId) : ∃ W, W = w.alloc (.cells x T) ∧ Below w.heap.size w W ∧ W.heap.size = w.heap.size + 1 ∧ W.heap[w.heap.size]? = some (.cells x T (0, 0)) :=
  ⟨_, rfl, (Below.refl _ _).alloc (Nat.le_refl _) _, by simp, heap_alloc_new w _⟩
theorem gr_in {w : World} {k : Nat} {o : Obj} (h : w.heap[k]? = some o) : k < w.heap.size := by
  rcases Nat.lt_or_ge k w.heap.size with h' | h'
  · exact h'
  · rw [Array.getElem?_eq_none h'] at h; cases h
theorem gr_put {w : World} {b : Nat} {cs : Array Value} {T : TypeId} {fr : Nat × Nat} (hb : w.heap[b]? = some (.cells cs T fr)) (j : Nat) (u : Value) : (w.setCell ⟨b, j, none⟩ u).heap[b]? = some (.cells (cs.setIfInBounds j u) T fr) := by
  simp [World.setCell, Array.getElem?_modify, hb]
theorem gr_up {w w' : World} {base : Nat} {T : TypeId} {z n : Nat} {v : Value} {xs : List Value} (h : w.ownsRow base T z v n xs) (hb : Below w.heap.size w w') : w'.ownsRow base T z v n xs :=
  h.kept (row := none) ⟨hb.os, hb.tape, hb.output, hb.size, fun k hk _ => hb.block k hk⟩ (by cases Value.ownBlock _ <;> simp)
theorem gr_five {w : World} {b : Nat} {x0 x1 x2 x3 x4 : Value} {T : TypeId} (h : w.heap[b]? = some (.cells #[x0, x1, x2, x3, x4] T (0, 0))) :
    w.cell? ⟨b, 0, none⟩ = some x0 ∧ w.cell? ⟨b, 1, none⟩ = some x1 ∧ w.cell? ⟨b, 2, none⟩ = some x2 ∧ w.cell? ⟨b, 3, none⟩ = some x3 ∧ w.cell? ⟨b, 4, none⟩ = some x4 ∧ ∀ j, w.frozen? ⟨b, j, none⟩ = false :=
  ⟨Lib.cell_of_heap h 0, Lib.cell_of_heap h 1, Lib.cell_of_heap h 2, Lib.cell_of_heap h 3, Lib.cell_of_heap h 4, fun j => Lib.frozen_of_heap h j⟩
/-- The least number of which something holds. -/
theorem least_ex {p : Nat → Prop} (h : ∃ k, p k) : ∃ k, p k ∧ ∀ j, p j → k ≤ j := by
  obtain ⟨k, hk⟩ := h
  induction k using Nat.strongRecOn with
  | ind k ih =>
    by_cases hx : ∃ j, j < k ∧ p j
    · obtain ⟨j, hj, hp⟩ := hx
      exact ih j hj hp
    · exact ⟨k, hk, fun j hj => by
        rcases Nat.lt_or_ge j k with h | h
        · exact absurd ⟨j, h, hj⟩ hx
        · exact h⟩
noncomputable def leastN (p : Nat → Prop) : Nat := by
  classical exact if h : ∃ k, p k then Classical.choose (least_ex h) else 0
theorem leastN_spec {p : Nat → Prop} (h : ∃ k, p k) : p (leastN p) := by
  classical
  unfold leastN
  rw [dif_pos h]
  exact (Classical.choose_spec (least_ex h)).1
theorem leastN_le {p : Nat → Prop} {k : Nat} (h : p k) : leastN p ≤ k := by
  classical
  unfold leastN
  rw [dif_pos ⟨k, h⟩]
  exact (Classical.choose_spec (least_ex ⟨k, h⟩)).2 k h

def InG (x : Int) : Prop := -9223372036854775808 ≤ x ∧ x ≤ 9223372036854775807
/-- Numbers as they lie, below n0. -/
def GNs (n0 : Nat) (w : World) (v : Value) (l : List Int) : Prop := ∃ A c, v = .slice A l.length c ∧ (0 < l.length → ∃ b o, A = some ⟨b, o, none⟩ ∧ b < n0 ∧ ∀ j x, l[j]? = some x → w.cell? ⟨b, o + j, none⟩ = some (.int .i64 x))
theorem GNs.keep {n0 : Nat} {w w' : World} {v : Value} {l : List Int} (h : GNs n0 w v l) (hb : Below n0 w w') : GNs n0 w' v l := by
  obtain ⟨A, c, hv, hr⟩ := h
  refine ⟨A, c, hv, fun hp => ?_⟩
  obtain ⟨b, o, hA, hbn, hc⟩ := hr hp
  exact ⟨b, o, hA, hbn, fun j x hx => (hb.cell (p := ⟨b, o + j, none⟩) hbn).trans (hc j x hx)⟩
theorem GNs.mono {n0 n1 : Nat} {w : World} {v : Value} {l : List Int} (h : GNs n0 w v l) (hn : n0 ≤ n1) : GNs n1 w v l := by
  obtain ⟨A, c, hv, hr⟩ := h
  refine ⟨A, c, hv, fun hp => ?_⟩
  obtain ⟨b, o, hA, hbn, hc⟩ := hr hp
  exact ⟨b, o, hA, by omega, hc⟩
theorem GNs.at {n0 : Nat} {w : World} {A : Option Addr} {m c : Nat} {l : List Int} (h : GNs n0 w (.slice A m c) l) {j : Nat} (hj : j < l.length) :
    ∃ b o, A = some ⟨b, o, none⟩ ∧ b < n0 ∧ w.cell? ⟨b, o + j, none⟩ = some (.int .i64 l[j]) := by
  obtain ⟨A', c', hv, hr⟩ := h
  obtain ⟨b, o, hA, hbn, hc⟩ := hr (by omega)
  injection hv with e1
  subst e1
  exact ⟨b, o, hA, hbn, hc j _ (List.getElem?_eq_getElem hj)⟩
theorem GNs.len {n0 : Nat} {w : World} {A : Option Addr} {m c : Nat} {l : List Int} (h : GNs n0 w (.slice A m c) l) : m = l.length := by
  obtain ⟨A', c', hv, hr⟩ := h
  injection hv
/-- A row of the call's own. -/
def intsV (l : List Int) : List Value := l.map (Value.int .i64)
theorem intsV_len (l : List Int) : (intsV l).length = l.length := by simp [intsV]
theorem GNs.of_own {w : World} {base : Nat} {v : Value} {T : TypeId} {l : List Int} (h : w.ownsRow base T 1 v l.length (intsV l)) : GNs w.heap.size w v l := by
  rcases h.2 with ⟨rfl, h0⟩ | ⟨g, cap, cur, rfl, _, hg, _⟩
  · exact ⟨none, 0, by rw [h0], fun hp => by omega⟩
  · refine ⟨_, cap, rfl, fun _ => ⟨g, 0, rfl, gr_in hg, fun j x hx => ?_⟩⟩
    have hl : j < l.length := (List.getElem?_eq_some_iff.1 hx).1
    have := h.cellAt j (by omega)
    rw [Nat.zero_add, this]
    simp [intsV, hx]

/-- A block of a function: where it is come to from, where it goes. -/
structure GB where
  list : Value
  preds : List Int
  kind : Int
  arg : Int
  to_ : List Int
def GB.ok (d : GB) : Prop := d.preds.length ≤ 1048576 ∧ (∀ x ∈ d.preds, InG x) ∧ d.to_.length ≤ 1048576 ∧ (∀ x ∈ d.to_, InG x)
/-- Blocks as they lie, below n0. -/
def GBs (n0 : Nat) (w : World) (v : Value) (g : List GB) : Prop := ∃ A c, v = .slice A g.length c ∧ g.length ≤ 1048576 ∧ (∀ d ∈ g, d.ok) ∧ (0 < g.length → ∃ b o, A = some ⟨b, o, none⟩ ∧ b < n0 ∧
  ∀ j d, g[j]? = some d → ∃ pv tv, w.cell? ⟨b, o + j * 5, none⟩ = some d.list ∧ w.cell? ⟨b, o + j * 5 + 1, none⟩ = some pv ∧ w.cell? ⟨b, o + j * 5 + 2, none⟩ = some (.int .i64 d.kind) ∧ w.cell? ⟨b, o + j * 5 + 3, none⟩ = some (.int .i64 d.arg) ∧ w.cell? ⟨b, o + j * 5 + 4, none⟩ = some tv ∧ GNs n0 w pv d.preds ∧ GNs n0 w tv d.to_ ∧ ∃ la ln lc, d.list = .slice la ln lc)
theorem GBs.keep {n0 : Nat} {w w' : World} {v : Value} {g : List GB} (h : GBs n0 w v g) (hb : Below n0 w w') : GBs n0 w' v g := by
  obtain ⟨A, c, hv, hl, hok, hr⟩ := h
  refine ⟨A, c, hv, hl, hok, fun hp => ?_⟩
  obtain ⟨b, o, hA, hbn, hc⟩ := hr hp
  refine ⟨b, o, hA, hbn, fun j d hd => ?_⟩
  obtain ⟨pv, tv, h0, h1, h2, h3, h4, h5, h6, h7⟩ := hc j d hd
  have k : ∀ q, w'.cell? ⟨b, q, none⟩ = w.cell? ⟨b, q, none⟩ := fun q => hb.cell (p := ⟨b, q, none⟩) hbn
  exact ⟨pv, tv, (k _).trans h0, (k _).trans h1, (k _).trans h2, (k _).trans h3, (k _).trans h4, h5.keep hb, h6.keep hb, h7⟩
theorem GBs.mono {n0 n1 : Nat} {w : World} {v : Value} {g : List GB} (h : GBs n0 w v g) (hn : n0 ≤ n1) : GBs n1 w v g := by
  obtain ⟨A, c, hv, hl, hok, hr⟩ := h
  refine ⟨A, c, hv, hl, hok, fun hp => ?_⟩
  obtain ⟨b, o, hA, hbn, hc⟩ := hr hp
  refine ⟨b, o, hA, by omega, fun j d hd => ?_⟩
  obtain ⟨pv, tv, h0, h1, h2, h3, h4, h5, h6, h7⟩ := hc j d hd
  exact ⟨pv, tv, h0, h1, h2, h3, h4, h5.mono hn, h6.mono hn, h7⟩
/-- One block, as its cells lie. -/
theorem GBs.at {n0 : Nat} {w : World} {A : Option Addr} {m c : Nat} {g : List GB} (h : GBs n0 w (.slice A m c) g) {j : Nat} (hj : j < g.length) :
    ∃ b o pA pc tA tc lA ln lc, A = some ⟨b, o, none⟩ ∧ b < n0 ∧ w.cell? ⟨b, o + j * 5, none⟩ = some (.slice lA ln lc) ∧ w.cell? ⟨b, o + j * 5 + 1, none⟩ = some (.slice pA g[j].preds.length pc) ∧ w.cell? ⟨b, o + j * 5 + 2, none⟩ = some (.int .i64 g[j].kind) ∧ w.cell? ⟨b, o + j * 5 + 3, none⟩ = some (.int .i64 g[j].arg) ∧ w.cell? ⟨b, o + j * 5 + 4, none⟩ = some (.slice tA g[j].to_.length tc) ∧
      GNs n0 w (.slice pA g[j].preds.length pc) g[j].preds ∧ GNs n0 w (.slice tA g[j].to_.length tc) g[j].to_ ∧ g[j].ok := by
  obtain ⟨A', c', hv, hl, hok, hr⟩ := h
  obtain ⟨b, o, hA, hbn, hc⟩ := hr (by omega)
  injection hv with e1
  subst e1
  obtain ⟨pv, tv, h0, h1, h2, h3, h4, h5, h6, la, ln, lc, h7⟩ := hc j _ (List.getElem?_eq_getElem hj)
  obtain ⟨pA, pc, rfl, _⟩ := id h5
  obtain ⟨tA, tc, rfl, _⟩ := id h6
  rw [h7] at h0
  exact ⟨b, o, pA, pc, tA, tc, la, ln, lc, hA, hbn, h0, h1, h2, h3, h4, h5, h6, hok _ (List.getElem_mem hj)⟩
/-- A function, as it is handed over. -/
def GF (n0 : Nat) (w : World) (f : Value) (g : List GB) : Prop := ∃ s pA pn pc r iA in_ ic bA bn bc, f = .agg #[.string s, .slice pA pn pc, .int .i64 r, .slice iA in_ ic, .slice bA bn bc] ∧ GBs n0 w (.slice bA bn bc) g ∧ bn = g.length

def hasG (n : Nat) (b : Int) : Bool := decide (0 ≤ b ∧ b < n)
def wholeG (g : List GB) : Bool := (g.all fun k => k.to_.all fun t => hasG g.length t) && decide (0 < g.length)

end Go.Proofs.Ythjlpbglnnebkaa
