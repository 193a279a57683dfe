/-
  Ways through blocks: worlds, rows of numbers, blocks as they lie; whether a function has a block; whether it is whole; whether two rows are the same.
  Whether two rows are the same; whether a function can be gone through.
  Ways through blocks over plain data: how blocks are left, by calls within one another and by a row of blocks that were entered; both come to the same.
  How blocks are left: the walk.
  Programs as bytes: numbers, over plain data.
-/
import Derived.Test.YthhjhdmdfneegaaChecked
import Derived.WalkKit
import Derived.Defers
import Derived.Below
import Derived.Lib.Hide
import Derived.Lib.Builder
import Derived.Outline
import Derived.Deep.RegionHeld3
import Derived.Deep.DeepCutAuto
import Derived.Deep.AppendLies
import Derived.OwnWalk
import Derived.BigQuiet
namespace Go.Proofs.Ythhjhdmdfneegaa
set_option linter.unusedVariables false
set_option linter.unusedSimpArgs false
open Go.RowKit

theorem gr_one (w : World) (x : Array Value) (T : TypeId) : ∃ W, W = w.alloc (.cells x T) ∧ Below w.heap.size w W ∧ W.heap.size = w.heap.size + 1 ∧ W.heap[w.heap.size]? = some (.cells x T (0, 0)) :=
  ⟨_, rfl, (Below.refl _ _).alloc (Nat.le_refl _) _, by simp, heap_alloc_new w _⟩
theorem gr_in {w : World} {k : Nat} {o : Obj} (h : w.heap[k]? = some o) : k < w.heap.size := by
  rcases Nat.lt_or_ge k w.heap.size with h' | h'
  · exact h'
  · rw [Array.getElem?_eq_none h'] at h; cases h
theorem gr_put {w : World} {b : Nat} {cs : Array Value} {T : TypeId} {fr : Nat × Nat} (hb : w.heap[b]? = some (.cells cs T fr)) (j : Nat) (u : Value) : (w.setCell ⟨b, j, none⟩ u).heap[b]? = some (.cells (cs.setIfInBounds j u) T fr) := by
  simp [World.setCell, Array.getElem?_modify, hb]
theorem gr_up {w w' : World} {base : Nat} {T : TypeId} {z n : Nat} {v : Value} {xs : List Value} (h : w.ownsRow base T z v n xs) (hb : Below w.heap.size w w') : w'.ownsRow base T z v n xs :=
  h.kept (row := none) ⟨hb.os, hb.tape, hb.output, hb.size, fun k hk _ => hb.block k hk⟩ (by cases Value.ownBlock _ <;> simp)
theorem gr_five {w : World} {b : Nat} {x0 x1 x2 x3 x4 : Value} {T : TypeId} (h : w.heap[b]? = some (.cells #[x0, x1, x2, x3, x4] T (0, 0))) :
    w.cell? ⟨b, 0, none⟩ = some x0 ∧ w.cell? ⟨b, 1, none⟩ = some x1 ∧ w.cell? ⟨b, 2, none⟩ = some x2 ∧ w.cell? ⟨b, 3, none⟩ = some x3 ∧ w.cell? ⟨b, 4, none⟩ = some x4 ∧ ∀ j, w.frozen? ⟨b, j, none⟩ = false :=
  ⟨Lib.cell_of_heap h 0, Lib.cell_of_heap h 1, Lib.cell_of_heap h 2, Lib.cell_of_heap h 3, Lib.cell_of_heap h 4, fun j => Lib.frozen_of_heap h j⟩
/-- The least number of which something holds. -/
theorem least_ex {p : Nat → Prop} (h : ∃ k, p k) : ∃ k, p k ∧ ∀ j, p j → k ≤ j := by
  obtain ⟨k, hk⟩ := h
  induction k using Nat.strongRecOn with
  | ind k ih =>
    by_cases hx : ∃ j, j < k ∧ p j
    · obtain ⟨j, hj, hp⟩ := hx
      exact ih j hj hp
    · exact ⟨k, hk, fun j hj => by
        rcases Nat.lt_or_ge j k with h | h
        · exact absurd ⟨j, h, hj⟩ hx
        · exact h⟩
noncomputable def leastN (p : Nat → Prop) : Nat := by
  classical exact if h : ∃ k, p k then Classical.choose (least_ex h) else 0
theorem leastN_spec {p : Nat → Prop} (h : ∃ k, p k) : p (leastN p) := by
  classical
  unfold leastN
  rw [dif_pos h]
  exact (Classical.choose_spec (least_ex h)).1
theorem leastN_le {p : Nat → Prop} {k : Nat} (h : p k) : leastN p ≤ k := by
  classical
  unfold leastN
  rw [dif_pos ⟨k, h⟩]
  exact (Classical.choose_spec (least_ex ⟨k, h⟩)).2 k h

def InG (x : Int) : Prop := -9223372036854775808 ≤ x ∧ x ≤ 9223372036854775807
/-- Numbers as they lie, below n0. -/
def GNs (n0 : Nat) (w : World) (v : Value) (l : List Int) : Prop := ∃ A c, v = .slice A l.length c ∧ (0 < l.length → ∃ b o, A = some ⟨b, o, none⟩ ∧ b < n0 ∧ ∀ j x, l[j]? = some x → w.cell? ⟨b, o + j, none⟩ = some (.int .i64 x))
theorem GNs.keep {n0 : Nat} {w w' : World} {v : Value} {l : List Int} (h : GNs n0 w v l) (hb : Below n0 w w') : GNs n0 w' v l := by
  obtain ⟨A, c, hv, hr⟩ := h
  refine ⟨A, c, hv, fun hp => ?_⟩
  obtain ⟨b, o, hA, hbn, hc⟩ := hr hp
  exact ⟨b, o, hA, hbn, fun j x hx => (hb.cell (p := ⟨b, o + j, none⟩) hbn).trans (hc j x hx)⟩
theorem GNs.mono {n0 n1 : Nat} {w : World} {v : Value} {l : List Int} (h : GNs n0 w v l) (hn : n0 ≤ n1) : GNs n1 w v l := by
  obtain ⟨A, c, hv, hr⟩ := h
  refine ⟨A, c, hv, fun hp => ?_⟩
  obtain ⟨b, o, hA, hbn, hc⟩ := hr hp
  exact ⟨b, o, hA, by omega, hc⟩
theorem GNs.at {n0 : Nat} {w : World} {A : Option Addr} {m c : Nat} {l : List Int} (h : GNs n0 w (.slice A m c) l) {j : Nat} (hj : j < l.length) :
    ∃ b o, A = some ⟨b, o, none⟩ ∧ b < n0 ∧ w.cell? ⟨b, o + j, none⟩ = some (.int .i64 l[j]) := by
  obtain ⟨A', c', hv, hr⟩ := h
  obtain ⟨b, o, hA, hbn, hc⟩ := hr (by omega)
  injection hv with e1
  subst e1
  exact ⟨b, o, hA, hbn, hc j _ (List.getElem?_eq_getElem hj)⟩
theorem GNs.len {n0 : Nat} {w : World} {A : Option Addr} {m c : Nat} {l : List Int} (h : GNs n0 w (.slice A m c) l) : m = l.length := by
  obtain ⟨A', c', hv, hr⟩ := h
  injection hv
/-- A row of the call's own. -/
def intsV (l : List Int) : List Value := l.map (Value.int .i64)
theorem intsV_len (l : List Int) : (intsV l).length = l.length := by simp [intsV]
theorem GNs.of_own {w : World} {base : Nat} {v : Value} {T : TypeId} {l : List Int} (h : w.ownsRow base T 1 v l.length (intsV l)) : GNs w.heap.size w v l := by
  rcases h.2 with ⟨rfl, h0⟩ | ⟨g, cap, cur, rfl, _, hg, _⟩
  · exact ⟨none, 0, by rw [h0], fun hp => by omega⟩
  · refine ⟨_, cap, rfl, fun _ => ⟨g, 0, rfl, gr_in hg, fun j x hx => ?_⟩⟩
    have hl : j < l.length := (List.getElem?_eq_some_iff.1 hx).1
    have := h.cellAt j (by omega)
    rw [Nat.zero_add, this]
    simp [intsV, hx]

/-- A block of a function: where it is come to from, where it goes. -/
structure GB where
  list : Value
  preds : List Int
  kind : Int
  arg : Int
  to_ : List Int
def GB.ok (d : GB) : Prop := d.preds.length ≤ 1048576 ∧ (∀ x ∈ d.preds, InG x) ∧ d.to_.length ≤ 1048576 ∧ (∀ x ∈ d.to_, InG x)
/-- Blocks as they lie, below n0. -/
def GBs (n0 : Nat) (w : World) (v : Value) (g : List GB) : Prop := ∃ A c, v = .slice A g.length c ∧ g.length ≤ 1048576 ∧ (∀ d ∈ g, d.ok) ∧ (0 < g.length → ∃ b o, A = some ⟨b, o, none⟩ ∧ b < n0 ∧
  ∀ j d, g[j]? = some d → ∃ pv tv, w.cell? ⟨b, o + j * 5, none⟩ = some d.list ∧ w.cell? ⟨b, o + j * 5 + 1, none⟩ = some pv ∧ w.cell? ⟨b, o + j * 5 + 2, none⟩ = some (.int .i64 d.kind) ∧ w.cell? ⟨b, o + j * 5 + 3, none⟩ = some (.int .i64 d.arg) ∧ w.cell? ⟨b, o + j * 5 + 4, none⟩ = some tv ∧ GNs n0 w pv d.preds ∧ GNs n0 w tv d.to_ ∧ ∃ la ln lc, d.list = .slice la ln lc)
theorem GBs.keep {n0 : Nat} {w w' : World} {v : Value} {g : List GB} (h : GBs n0 w v g) (hb : Below n0 w w') : GBs n0 w' v g := by
  obtain ⟨A, c, hv, hl, hok, hr⟩ := h
  refine ⟨A, c, hv, hl, hok, fun hp => ?_⟩
  obtain ⟨b, o, hA, hbn, hc⟩ := hr hp
  refine ⟨b, o, hA, hbn, fun j d hd => ?_⟩
  obtain ⟨pv, tv, h0, h1, h2, h3, h4, h5, h6, h7⟩ := hc j d hd
  have k : ∀ q, w'.cell? ⟨b, q, none⟩ = w.cell? ⟨b, q, none⟩ := fun q => hb.cell (p := ⟨b, q, none⟩) hbn
  exact ⟨pv, tv, (k _).trans h0, (k _).trans h1, (k _).trans h2, (k _).trans h3, (k _).trans h4, h5.keep hb, h6.keep hb, h7⟩
theorem GBs.mono {n0 n1 : Nat} {w : World} {v : Value} {g : List GB} (h : GBs n0 w v g) (hn : n0 ≤ n1) : GBs n1 w v g := by
  obtain ⟨A, c, hv, hl, hok, hr⟩ := h
  refine ⟨A, c, hv, hl, hok, fun hp => ?_⟩
  obtain ⟨b, o, hA, hbn, hc⟩ := hr hp
  refine ⟨b, o, hA, by omega, fun j d hd => ?_⟩
  obtain ⟨pv, tv, h0, h1, h2, h3, h4, h5, h6, h7⟩ := hc j d hd
  exact ⟨pv, tv, h0, h1, h2, h3, h4, h5.mono hn, h6.mono hn, h7⟩
/-- One block, as its cells lie. -/
theorem GBs.at {n0 : Nat} {w : World} {A : Option Addr} {m c : Nat} {g : List GB} (h : GBs n0 w (.slice A m c) g) {j : Nat} (hj : j < g.length) :
    ∃ b o pA pc tA tc lA ln lc, A = some ⟨b, o, none⟩ ∧ b < n0 ∧ w.cell? ⟨b, o + j * 5, none⟩ = some (.slice lA ln lc) ∧ w.cell? ⟨b, o + j * 5 + 1, none⟩ = some (.slice pA g[j].preds.length pc) ∧ w.cell? ⟨b, o + j * 5 + 2, none⟩ = some (.int .i64 g[j].kind) ∧ w.cell? ⟨b, o + j * 5 + 3, none⟩ = some (.int .i64 g[j].arg) ∧ w.cell? ⟨b, o + j * 5 + 4, none⟩ = some (.slice tA g[j].to_.length tc) ∧
      GNs n0 w (.slice pA g[j].preds.length pc) g[j].preds ∧ GNs n0 w (.slice tA g[j].to_.length tc) g[j].to_ ∧ g[j].ok := by
  obtain ⟨A', c', hv, hl, hok, hr⟩ := h
  obtain ⟨b, o, hA, hbn, hc⟩ := hr (by omega)
  injection hv with e1
  subst e1
  obtain ⟨pv, tv, h0, h1, h2, h3, h4, h5, h6, la, ln, lc, h7⟩ := hc j _ (List.getElem?_eq_getElem hj)
  obtain ⟨pA, pc, rfl, _⟩ := id h5
  obtain ⟨tA, tc, rfl, _⟩ := id h6
  rw [h7] at h0
  exact ⟨b, o, pA, pc, tA, tc, la, ln, lc, hA, hbn, h0, h1, h2, h3, h4, h5, h6, hok _ (List.getElem_mem hj)⟩
/-- A function, as it is handed over. -/
def GF (n0 : Nat) (w : World) (f : Value) (g : List GB) : Prop := ∃ s pA pn pc r iA in_ ic bA bn bc, f = .agg #[.string s, .slice pA pn pc, .int .i64 r, .slice iA in_ ic, .slice bA bn bc] ∧ GBs n0 w (.slice bA bn bc) g ∧ bn = g.length

def hasG (n : Nat) (b : Int) : Bool := decide (0 ≤ b ∧ b < n)
def wholeG (g : List GB) : Bool := (g.all fun k => k.to_.all fun t => hasG g.length t) && decide (0 < g.length)

end Go.Proofs.Ythhjhdmdfneegaa
namespace Go.Proofs.Ythhjhdmdfneegaa
set_option linter.unusedVariables false
set_option linter.unusedSimpArgs false
open Go.RowKit

theorem below_dr {B : Nat} {a w : World} (h : Below B a w) (n : Nat) : Below B a (w.drewN n) := ⟨h.os, h.tape, h.output, h.size, h.block⟩
theorem int_ne {x y : Int} (h : (x == y) = false) : x ≠ y := fun e => by rw [e] at h; simp at h

def allTo (g : List GB) (i : Nat) : Prop := ∀ j d, j < i → g[j]? = some d → ∀ t ∈ d.to_, hasG g.length t = true
theorem wholeG_true {g : List GB} (h : allTo g g.length) : wholeG g = decide (0 < g.length) := by
  unfold wholeG
  have : (g.all fun k => k.to_.all fun t => hasG g.length t) = true := by
    rw [List.all_eq_true]
    intro d hd
    rw [List.all_eq_true]
    intro t ht
    obtain ⟨j, hj, rfl⟩ := List.getElem_of_mem hd
    exact h j _ hj (List.getElem?_eq_getElem hj) t ht
  rw [this, Bool.true_and]
theorem wholeG_false {g : List GB} {j : Nat} {d : GB} {t : Int} (hd : g[j]? = some d) (ht : t ∈ d.to_) (h : hasG g.length t = false) : wholeG g = false := by
  unfold wholeG
  have : (g.all fun k => k.to_.all fun t => hasG g.length t) = false := by
    rw [List.all_eq_false]
    refine ⟨d, List.mem_of_getElem? hd, ?_⟩
    intro e
    rw [List.all_eq_true] at e
    have := e t ht
    rw [h] at this
    cases this
  rw [this, Bool.false_and]
theorem wholeG_all {g : List GB} (h : wholeG g = true) : 0 < g.length ∧ ∀ (j : Nat) (d : GB), g[j]? = some d → ∀ t ∈ d.to_, 0 ≤ t ∧ t < g.length := by
  unfold wholeG at h
  rw [Bool.and_eq_true, List.all_eq_true] at h
  refine ⟨of_decide_eq_true h.2, fun j d hd t ht => ?_⟩
  have h1 := h.1 d (List.mem_of_getElem? hd)
  rw [List.all_eq_true] at h1
  exact of_decide_eq_true (h1 t ht)

end Go.Proofs.Ythhjhdmdfneegaa
namespace Go.Proofs.Ythhjhdmdfneegaa
set_option linter.unusedVariables false
set_option linter.unusedSimpArgs false
open Go.RowKit

/-- Where a block goes. -/
def tosG (g : List GB) (b : Nat) : List Int := ((g[b]?).map GB.to_).getD []
def goP (f : Nat → List Bool → List Nat → Option (List Bool × List Nat)) : List Int → List Bool → List Nat → Option (List Bool × List Nat)
  | [], s, o => some (s, o)
  | t :: ts, s, o => if s.getD t.toNat false then goP f ts s o else match f t.toNat s o with
    | none => none
    | some (s', o') => goP f ts s' o'
/-- By calls within one another. -/
def walkP (g : List GB) : Nat → Nat → List Bool → List Nat → Option (List Bool × List Nat)
  | 0, _, _, _ => none
  | k + 1, b, s, o => match goP (walkP g k) (tosG g b) (s.set b true) o with
    | none => none
    | some (s', o') => some (s', o' ++ [b])
/-- By a row of blocks that were entered. -/
def postRun (g : List GB) : Nat → List Bool → List (Nat × Nat) → List Nat → Option (List Nat)
  | _, _, [], o => some o
  | 0, _, _ :: _, _ => none
  | k + 1, s, (b, q) :: st, o => match (tosG g b)[q]? with
    | none => postRun g k s st (o ++ [b])
    | some t => if s.getD t.toNat false then postRun g k s ((b, q + 1) :: st) o else postRun g k (s.set t.toNat true) ((t.toNat, 0) :: (b, q + 1) :: st) o

/-- How many are not entered. -/
def unseen (s : List Bool) : Nat := s.count false
theorem set_getD (s : List Bool) (b : Nat) (hb : b < s.length) : (s.set b true).getD b false = true := by simp [List.getD, hb]
theorem set_getD_ne (s : List Bool) (b c : Nat) (h : b ≠ c) : (s.set b true).getD c false = s.getD c false := by simp [List.getD, List.getElem?_set_ne h]
theorem unseen_set : ∀ (s : List Bool) (b : Nat), b < s.length → s.getD b false = false → unseen (s.set b true) + 1 = unseen s
  | [], b, hb, _ => by simp at hb
  | x :: s, 0, _, h => by
    simp [List.getD] at h
    subst h
    simp [unseen]
  | x :: s, b + 1, hb, h => by
    have := unseen_set s b (by simpa using hb) (by simpa [List.getD] using h)
    cases x <;> simp [unseen] at this ⊢ <;> omega
/-- What was entered stays entered. -/
def Sub (s s' : List Bool) : Prop := s'.length = s.length ∧ unseen s' ≤ unseen s ∧ ∀ c, s.getD c false = true → s'.getD c false = true
theorem Sub.refl (s : List Bool) : Sub s s := ⟨rfl, Nat.le_refl _, fun _ h => h⟩
theorem Sub.trans {a b c : List Bool} (h : Sub a b) (k : Sub b c) : Sub a c := ⟨k.1.trans h.1, Nat.le_trans k.2.1 h.2.1, fun x hx => k.2.2 x (h.2.2 x hx)⟩
theorem Sub.set {s : List Bool} {b : Nat} (hb : b < s.length) (h : s.getD b false = false) : Sub s (s.set b true) :=
  ⟨by simp, by have := unseen_set s b hb h; omega, fun c hc => by
    by_cases e : b = c
    · subst e; rw [h] at hc; cases hc
    · rw [set_getD_ne _ _ _ e]; exact hc⟩
def tosOk (g : List GB) : Prop := ∀ b t, t ∈ tosG g b → 0 ≤ t ∧ t < g.length
theorem tosOk_of {g : List GB} (h : wholeG g = true) : tosOk g := by
  intro b t ht
  unfold tosG at ht
  cases hb : g[b]? with
  | none => rw [hb] at ht; simp at ht
  | some d => rw [hb] at ht; exact (wholeG_all h).2 b d hb t (by simpa using ht)

theorem goP_total (g : List GB) (f : Nat → List Bool → List Nat → Option (List Bool × List Nat)) (n k : Nat) (hf : ∀ b s o, s.length = n → unseen s ≤ k → b < n → s.getD b false = false → ∃ s' o', f b s o = some (s', o') ∧ Sub s s') :
    ∀ (ts : List Int) (s : List Bool) (o : List Nat), s.length = n → unseen s ≤ k → (∀ t ∈ ts, 0 ≤ t ∧ t < n) → ∃ s' o', goP f ts s o = some (s', o') ∧ Sub s s'
  | [], s, o, _, _, _ => ⟨s, o, rfl, Sub.refl s⟩
  | t :: ts, s, o, hs, hu, ht => by
    unfold goP
    have h0 := ht t (by simp)
    cases hq : s.getD t.toNat false with
    | true => rw [if_pos rfl]; exact goP_total g f n k hf ts s o hs hu (fun x hx => ht x (List.mem_cons_of_mem _ hx))
    | false =>
      rw [if_neg (by simp)]
      obtain ⟨s', o', h1, h2⟩ := hf t.toNat s o hs hu (by omega) hq
      rw [h1]
      obtain ⟨s2, o2, h3, h4⟩ := goP_total g f n k hf ts s' o' (h2.1.trans hs) (Nat.le_trans h2.2.1 hu) (fun x hx => ht x (List.mem_cons_of_mem _ hx))
      exact ⟨s2, o2, h3, h2.trans h4⟩
theorem walkP_total (g : List GB) (hg : tosOk g) : ∀ (k b : Nat) (s : List Bool) (o : List Nat), s.length = g.length → unseen s ≤ k → b < g.length → s.getD b false = false → ∃ s' o', walkP g k b s o = some (s', o') ∧ Sub s s' ∧ s'.getD b false = true
  | 0, b, s, o, hs, hu, hb, hq => by
    have := unseen_set s b (by omega) hq
    omega
  | k + 1, b, s, o, hs, hu, hb, hq => by
    have h1 := unseen_set s b (by omega) hq
    have h2 := Sub.set (by omega : b < s.length) hq
    obtain ⟨s', o', h3, h4⟩ := goP_total g (walkP g k) g.length k (fun b s o hs hu hb hq => by
      obtain ⟨s', o', h1, h2, _⟩ := walkP_total g hg k b s o hs hu hb hq
      exact ⟨s', o', h1, h2⟩) (tosG g b) (s.set b true) o (by simpa using hs) (by omega) (fun t ht => hg b t ht)
    unfold walkP
    rw [h3]
    exact ⟨s', o' ++ [b], rfl, h2.trans h4, h4.2.2 b (set_getD s b (by omega))⟩

theorem goP_post (g : List GB) (k : Nat) (hf : ∀ b s o s' o', walkP g k b s o = some (s', o') → ∀ st, ∃ j, ∀ m, postRun g (j + m) (s.set b true) ((b, 0) :: st) o = postRun g m s' st o') (b : Nat) :
    ∀ (ts : List Int) (q : Nat) (s : List Bool) (o : List Nat) (s' : List Bool) (o' : List Nat), (tosG g b).drop q = ts → goP (walkP g k) ts s o = some (s', o') → ∀ st, ∃ j, ∀ m, postRun g (j + m) s ((b, q) :: st) o = postRun g m s' ((b, (tosG g b).length) :: st) o'
  | [], q, s, o, s', o', hq, h, st => by
    simp [goP] at h
    obtain ⟨rfl, rfl⟩ := h
    have hl : (tosG g b).length ≤ q := List.drop_eq_nil_iff.1 hq
    refine ⟨0, fun m => ?_⟩
    rw [Nat.zero_add]
    cases m with
    | zero => simp [postRun]
    | succ m => simp [postRun, List.getElem?_eq_none hl]
  | t :: ts, q, s, o, s', o', hq, h, st => by
    have hlt : q < (tosG g b).length := by
      rcases Nat.lt_or_ge q (tosG g b).length with h | h
      · exact h
      · rw [List.drop_eq_nil_iff.2 h] at hq; cases hq
    have hd := List.drop_eq_getElem_cons hlt
    rw [hq] at hd
    injection hd with h1 h2
    have hget : (tosG g b)[q]? = some t := by rw [h1]; exact List.getElem?_eq_getElem hlt
    unfold goP at h
    cases hs : s.getD t.toNat false with
    | true =>
      rw [hs, if_pos rfl] at h
      obtain ⟨j, hj⟩ := goP_post g k hf b ts (q + 1) s o s' o' h2.symm h st
      refine ⟨j + 1, fun m => ?_⟩
      rw [show j + 1 + m = (j + m) + 1 by omega, ← hj m, postRun, hget]
      simp only [hs]
      rfl
    | false =>
      rw [hs, if_neg (by simp)] at h
      cases hw : walkP g k t.toNat s o with
      | none => rw [hw] at h; cases h
      | some r =>
        obtain ⟨s1, o1⟩ := r
        rw [hw] at h
        obtain ⟨j1, hj1⟩ := hf t.toNat s o s1 o1 hw ((b, q + 1) :: st)
        obtain ⟨j, hj⟩ := goP_post g k hf b ts (q + 1) s1 o1 s' o' h2.symm h st
        refine ⟨j1 + j + 1, fun m => ?_⟩
        rw [show j1 + j + 1 + m = (j1 + (j + m)) + 1 by omega, ← hj m, ← hj1 (j + m), postRun, hget]
        simp only [hs]
        rfl
theorem walkP_post (g : List GB) : ∀ (k b : Nat) (s : List Bool) (o : List Nat) (s' : List Bool) (o' : List Nat), walkP g k b s o = some (s', o') → ∀ st, ∃ j, ∀ m, postRun g (j + m) (s.set b true) ((b, 0) :: st) o = postRun g m s' st o'
  | 0, b, s, o, s', o', h, st => by simp [walkP] at h
  | k + 1, b, s, o, s', o', h, st => by
    unfold walkP at h
    cases hg : goP (walkP g k) (tosG g b) (s.set b true) o with
    | none => rw [hg] at h; cases h
    | some r =>
      obtain ⟨s1, o1⟩ := r
      rw [hg] at h
      simp only [Option.some.injEq, Prod.mk.injEq] at h
      obtain ⟨rfl, rfl⟩ := h
      obtain ⟨j, hj⟩ := goP_post g k (walkP_post g k) b (tosG g b) 0 (s.set b true) o s1 o1 (by simp) hg st
      refine ⟨j + 1, fun m => ?_⟩
      rw [show j + 1 + m = j + (1 + m) by omega, hj (1 + m), show 1 + m = m + 1 by omega, postRun, List.getElem?_eq_none (Nat.le_refl _)]

/-- The blocks as they are left. -/
def postP (g : List GB) : List Nat := if wholeG g then (match walkP g g.length 0 (List.replicate g.length false) [] with | some (_, o) => o | none => []) else []
theorem postP_run {g : List GB} (h : wholeG g = true) : ∃ s', walkP g g.length 0 (List.replicate g.length false) [] = some (s', postP g) ∧ ∃ j, postRun g j ((List.replicate g.length false).set 0 true) [(0, 0)] [] = some (postP g) := by
  obtain ⟨hp, _⟩ := wholeG_all h
  obtain ⟨s', o', h1, h2, h3⟩ := walkP_total g (tosOk_of h) g.length 0 (List.replicate g.length false) [] (by simp) (by simp [unseen]) hp (by simp [List.getD, hp])
  have hpost : postP g = o' := by unfold postP; rw [h, h1]; simp
  rw [hpost]
  refine ⟨s', h1, ?_⟩
  obtain ⟨j, hj⟩ := walkP_post g _ _ _ _ _ _ h1 []
  exact ⟨j + 0, by rw [hj 0]; rfl⟩
end Go.Proofs.Ythhjhdmdfneegaa
namespace Go.Proofs.Ythhjhdmdfneegaa
set_option linter.unusedVariables false
set_option linter.unusedSimpArgs false
open Go.RowKit

theorem gr_apart {w : World} {b1 b2 : Nat} {T1 T2 : TypeId} {z1 z2 n1 n2 : Nat} {v1 v2 : Value} {xs ys : List Value} (h : w.ownsRow b1 T1 z1 v1 n1 xs) (k : w.ownsRow b2 T2 z2 v2 n2 ys) (hne : T1 ≠ T2) : v1.ownBlock = none ∨ v1.ownBlock ≠ v2.ownBlock := by
  rcases h.2 with ⟨rfl, _⟩ | ⟨g, cap, cur, rfl, _, hg, _⟩
  · exact .inl rfl
  · refine .inr (fun e => ?_)
    rcases k.2 with ⟨rfl, _⟩ | ⟨g', cap', cur', rfl, _, hg', _⟩
    · simp [Value.ownBlock] at e
    · simp [Value.ownBlock] at e
      subst e
      rw [hg] at hg'
      simp at hg'
      exact hne hg'.2
theorem gr_slice {w : World} {base : Nat} {T : TypeId} {z : Nat} {v : Value} {n : Nat} {xs : List Value} (h : w.ownsRow base T z v n xs) : ∃ A c, v = .slice A n c := by
  rcases h.2 with ⟨rfl, h0⟩ | ⟨g, cap, cur, hv, _⟩
  · subst h0; exact ⟨none, 0, rfl⟩
  · exact ⟨_, _, hv⟩
theorem gr_some {w : World} {base : Nat} {T : TypeId} {z : Nat} {A : Option Addr} {m c n : Nat} {xs : List Value} (h : w.ownsRow base T z (.slice A m c) n xs) (hn : 0 < n) : ∃ g, A = some ⟨g, 0, none⟩ ∧ m = n ∧ base ≤ g ∧ g < w.heap.size := by
  obtain ⟨g, cap, hv, hb, hl⟩ := h.form hn
  injection hv with e1 e2 e3
  exact ⟨g, e1, e2, hb, hl⟩
/-- The row without what stands last. -/
theorem gr_cut {w : World} {base : Nat} {T : TypeId} {z g n c : Nat} {xs : List Value} (h : w.ownsRow base T z (.slice (some ⟨g, 0, none⟩) n c) n xs) (m : Nat) (hm : m ≤ n) : w.ownsRow base T z (.slice (some ⟨g, 0, none⟩) m c) m (xs.take (m * z)) := by
  rcases h.2 with ⟨h', _⟩ | ⟨g', cap, cur, h', hb, hg, hnc, hcm, hcs, ht⟩
  · simp at h'
  · simp only [Value.slice.injEq, Option.some.injEq, Addr.mk.injEq, and_true, true_and] at h'
    obtain ⟨rfl, rfl⟩ := h'
    have hle : m * z ≤ n * z := Nat.mul_le_mul_right z hm
    refine ⟨by rw [List.length_take, h.1]; omega, .inr ⟨g, c, cur, rfl, hb, hg, by omega, hcm, hcs, ?_⟩⟩
    rw [← ht, List.take_take, Nat.min_eq_left hle]
theorem gr_mono {w : World} {base base' : Nat} {T : TypeId} {z n : Nat} {v : Value} {xs : List Value} (h : w.ownsRow base T z v n xs) (hb : base' ≤ base) : w.ownsRow base' T z v n xs := by
  refine ⟨h.1, ?_⟩
  rcases h.2 with h1 | ⟨g, cap, cur, hv, hg, rest⟩
  · exact .inl h1
  · exact .inr ⟨g, cap, cur, hv, by omega, rest⟩
theorem infoIntG : (Try.prog.info? 3).map (fun i => (i.zero, i.size, i.bytes)) = some (some (.int .i64 0), 1, 8) := by kernel_rfl
theorem infoBoolG : (Try.prog.info? 4).map (fun i => (i.zero, i.size, i.bytes)) = some (some (.bool false), 1, 1) := by kernel_rfl
def natsV (l : List Nat) : List Value := l.map fun (b : Nat) => Value.int .i64 (b : Int)
def boolsV (l : List Bool) : List Value := l.map Value.bool
def wayV : List (Nat × Nat) → List Value
  | [] => []
  | p :: l => wayV l ++ [.int .i64 (p.1 : Int), .int .i64 (p.2 : Int)]
theorem wayV_len : ∀ l : List (Nat × Nat), (wayV l).length = l.length * 2
  | [] => rfl
  | p :: l => by simp [wayV, wayV_len l]; omega
theorem boolsV_set (l : List Bool) (b : Nat) (x : Bool) : (boolsV l).set b (.bool x) = boolsV (l.set b x) := by simp [boolsV, List.map_set]
theorem boolsV_at (l : List Bool) (b : Nat) (h : b < l.length) : (boolsV l)[b]? = some (.bool (l.getD b false)) := by simp [boolsV, List.getD, h]
theorem madeBool (n : Nat) : (madeCells #[Value.bool false] n).toList = boolsV (List.replicate n false) := by
  rw [toList_madeCells_one]
  simp [boolsV]
theorem madeInt (n : Nat) : (madeCells #[Value.int .i64 0] n).toList = List.replicate n (Value.int .i64 0) := by
  rw [toList_madeCells_one]
end Go.Proofs.Ythhjhdmdfneegaa
namespace Go.Proofs.Ythhjhdmdfneegaa
set_option linter.unusedVariables false
set_option linter.unusedSimpArgs false
open Go.RowKit

/-- A number's bytes, of at most so many more. -/
def cdF : Nat → Nat → List UInt8
  | 0, n => [UInt8.ofNat n]
  | k + 1, n => if n < 128 then [UInt8.ofNat n] else UInt8.ofNat (128 + n % 128) :: cdF k (n / 128)
def cdN (n : Nat) : List UInt8 := cdF 9 n
/-- A number that bytes begin with, from its i-th byte on, and what is behind. -/
def cdRd : Nat → Nat → List UInt8 → Option (Nat × List UInt8)
  | 0, _, _ => none
  | _ + 1, _, [] => none
  | k + 1, i, c :: r =>
    if k = 0 ∧ 1 < c.toNat then none
    else if c.toNat < 128 then (if c.toNat = 0 ∧ 0 < i then none else some (c.toNat, r))
    else (cdRd k (i + 1) r).map fun p => (c.toNat % 128 + 128 * p.1, p.2)
theorem cdF_read : ∀ (k n i : Nat) (r : List UInt8), n < 128 ^ (k + 1) → (k + i = 9 → n < 128 ^ k * 2) → k + i = 9 → (0 < i → 0 < n) → cdRd (k + 1) i (cdF k n ++ r) = some (n, r)
  | 0, n, i, r, h, h2, hi, hp => by
    have hn : n < 2 := by have := h2 hi; simpa using this
    have e : (UInt8.ofNat n).toNat = n := by simp [UInt8.toNat_ofNat']; omega
    simp only [cdF, List.cons_append, List.nil_append, cdRd, e]
    rw [if_neg (by omega), if_pos (by omega), if_neg (by omega)]
  | k + 1, n, i, r, h, h2, hi, hp => by
    unfold cdF
    by_cases hn : n < 128
    · have e : (UInt8.ofNat n).toNat = n := by simp [UInt8.toNat_ofNat']; omega
      rw [if_pos hn]
      simp only [List.cons_append, List.nil_append, cdRd, e]
      rw [if_neg (by omega), if_pos (by omega), if_neg (by omega)]
    · have e : (UInt8.ofNat (128 + n % 128)).toNat = 128 + n % 128 := by simp [UInt8.toNat_ofNat']; omega
      rw [if_neg hn]
      have h3 : n < 128 ^ (k + 1) * 2 := h2 hi
      have h4 : n / 128 < 128 ^ k * 2 := by
        rw [Nat.pow_succ] at h3
        exact Nat.div_lt_of_lt_mul (by rw [Nat.mul_comm 128, Nat.mul_right_comm]; exact h3)
      have ih := cdF_read k (n / 128) (i + 1) r (by rw [Nat.pow_succ]; omega) (fun _ => h4) (by omega) (fun _ => by omega)
      simp only [List.cons_append, cdRd, e]
      rw [if_neg (by omega), if_neg (by omega), ih]
      simp only [Option.map_some, Option.some.injEq, Prod.mk.injEq, and_true]
      omega
/-- A number's bytes are read again. -/
theorem cdN_read (n : Nat) (r : List UInt8) (h : n < 18446744073709551616) : cdRd 10 0 (cdN n ++ r) = some (n, r) :=
  cdF_read 9 n 0 r (by simp; omega) (fun _ => by simp; omega) rfl (by omega)
/-- What is read has just these bytes. -/
theorem read_cdF : ∀ (k i n : Nat) (l r : List UInt8), k + i = 9 → cdRd (k + 1) i l = some (n, r) → l = cdF k n ++ r ∧ (0 < i → 0 < n) ∧ n < 128 ^ k * 2
  | _, _, _, [], _, _, h => by simp [cdRd] at h
  | 0, i, n, c :: l, r, hi, h => by
    unfold cdRd at h
    split at h
    · cases h
    · next h1 =>
      split at h
      · split at h
        · cases h
        · next h2 h3 =>
          injection h with h
          injection h with h4 h5
          subst h4 h5
          have h1' : ¬ 1 < c.toNat := fun h => h1 ⟨rfl, h⟩
          refine ⟨?_, fun _ => by omega, by simp; omega⟩
          simp [cdF]
      · simp [cdRd] at h
  | k + 1, i, n, c :: l, r, hi, h => by
    unfold cdRd at h
    split at h
    · cases h
    · next h1 =>
      split at h
      · split at h
        · cases h
        · next h2 h3 =>
          injection h with h
          injection h with h4 h5
          subst h4 h5
          have hp : 0 < 128 ^ k := Nat.pow_pos (by decide)
          refine ⟨?_, fun _ => by omega, by rw [Nat.pow_succ]; omega⟩
          simp [cdF, h2]
      · next h2 =>
        rw [Option.map_eq_some_iff] at h
        obtain ⟨⟨m, r'⟩, h3, h4⟩ := h
        injection h4 with h4 h5
        dsimp only at h4 h5
        subst h5
        obtain ⟨e1, e2, e3⟩ := read_cdF k (i + 1) m l r' (by omega) h3
        have hm := e2 (by omega)
        have hc : c.toNat < 256 := c.toNat_lt
        have e4 : n % 128 = c.toNat % 128 := by omega
        have e5 : n / 128 = m := by omega
        refine ⟨?_, fun _ => by omega, by rw [Nat.pow_succ]; omega⟩
        unfold cdF
        rw [if_neg (by omega), e4, e5, List.cons_append, ← e1]
        congr 1
        apply UInt8.toNat_inj.1
        simp [UInt8.toNat_ofNat']
        omega
theorem read_cdN {l r : List UInt8} {n : Nat} (h : cdRd 10 0 l = some (n, r)) : l = cdN n ++ r ∧ n < 18446744073709551616 := by
  obtain ⟨h1, -, h3⟩ := read_cdF 9 0 n l r rfl h
  exact ⟨h1, by simpa using h3⟩
/-- Bytes as they lie. -/
def bcV (l : List UInt8) : List Value := l.map fun b => .int .u8 (b.toNat : Int)
theorem bcV_snoc (l : List UInt8) (b : UInt8) : bcV (l ++ [b]) = bcV l ++ [.int .u8 (b.toNat : Int)] := by simp [bcV]
theorem bcV_len (l : List UInt8) : (bcV l).length = l.length := by simp [bcV]
/-- All but blocks of some types is as it was. -/
structure Kq (base : Nat) (ts : List TypeId) (w w' : World) : Prop where
  b : Below base w w'
  k : ∀ (r : Nat) (cs : Array Value) (T : TypeId) (fr : Nat × Nat), w.heap[r]? = some (.cells cs T fr) → T ∉ ts → w'.heap[r]? = some (.cells cs T fr)
abbrev Kb (base : Nat) (w w' : World) : Prop := Kq base [5] w w'
abbrev Kw (base : Nat) (w w' : World) : Prop := Kq base [5, 58] w w'
theorem Kq.refl (base : Nat) (ts : List TypeId) (w : World) : Kq base ts w w := ⟨Below.refl _ _, fun _ _ _ _ h _ => h⟩
theorem Kq.trans {base : Nat} {ts : List TypeId} {a b c : World} (h : Kq base ts a b) (k : Kq base ts b c) : Kq base ts a c := ⟨h.b.trans k.b, fun r cs T fr h1 h2 => k.k r cs T fr (h.k r cs T fr h1 h2) h2⟩
theorem Kq.of_below {base : Nat} {ts : List TypeId} {w w' : World} (h : Below w.heap.size w w') (hb : base ≤ w.heap.size) : Kq base ts w w' := ⟨h.mono hb, fun r cs T fr h1 _ => (h.block r (gr_in h1)).trans h1⟩
theorem Kb.w {base : Nat} {w w' : World} (h : Kb base w w') : Kw base w w' := ⟨h.b, fun r cs T fr h1 h2 => h.k r cs T fr h1 (fun h3 => h2 (by simp at h3; simp [h3]))⟩
theorem Kq.of_grown {base n : Nat} {w w' : World} {v : Value} {xs : List Value} (ho : w.ownsRow base 5 1 v n xs) (hb : base ≤ w.heap.size) (hg : w.grownBy w' v.ownBlock) : Kb base w w' :=
  ⟨(Below.refl base w).grown hg hb (fun g e => (ho.lt g e).1), fun r cs T fr h1 h2 => (hg.block r (gr_in h1) (fun e => by
    rcases ho.2 with ⟨rfl, -⟩ | ⟨g, cap, cur, rfl, -, hh, -⟩
    · cases e
    · have e' : r = g := by simpa [Value.ownBlock] using e
      subst e'
      rw [hh] at h1
      injection h1 with h1
      injection h1 with _ h1 _
      exact h2 (by rw [← h1]; simp))).trans h1⟩
theorem Kq.set {base E j : Nat} {w : World} {cs : Array Value} {fr : Nat × Nat} (hE : w.heap[E]? = some (.cells cs 58 fr)) (hb : base ≤ E) (u : Value) : Kw base w (w.setCell ⟨E, j, none⟩ u) :=
  ⟨(Below.refl base w).setCell (p := ⟨E, j, none⟩) hb u, fun r cs' T fr' h1 h3 => (Below.heap_setCell w ⟨E, j, none⟩ u r (fun e => by
    have e' : r = E := e
    subst e'
    rw [hE] at h1
    injection h1 with h1
    injection h1 with _ h1 _
    exact h3 (by rw [← h1]; simp))).trans h1⟩
end Go.Proofs.Ythhjhdmdfneegaa
