/-
  Programs that may be: asks, goes.
  Programs that may be: shaped.
  Programs that may be: functions as they lie; declared, begins.
  Programs as they are written down: rows of instructions, blocks, functions, each row in a block.
-/
import Derived.Test.YthhjhdmdfneegaaJc3
namespace Go.Proofs.Ythhjhdmdfneegaa
set_option linter.unusedVariables false
set_option linter.unusedSimpArgs false
open Go.RowKit

attribute [local go_sem] Oper.semAt_some

def asksP (r kind arg : Int) (ni : Nat) : Bool := if hasArgP r kind then decide (0 ≤ arg) && decide (arg < ni) else arg == -1
def manyS (kind : Int) : Option Int := if kind = 1 then some 1 else if kind = 2 then some 2 else if kind = 3 then some 0 else none
def inB (bn : Nat) (t : Int) : Bool := decide (1 ≤ t) && decide (t < bn)
def goesP (bn : Nat) (kind : Int) (to_ : List Int) : Bool := match manyS kind with
  | none => false
  | some m => if (to_.length : Int) = m then (if m = 2 ∧ to_.getD 0 0 = to_.getD 1 0 then false else to_.all (inB bn)) else false
end Go.Proofs.Ythhjhdmdfneegaa
namespace Go.Proofs.Ythhjhdmdfneegaa
set_option linter.unusedVariables false
set_option linter.unusedSimpArgs false
open Go.RowKit

def okTerm (bn : Nat) (r : Int) (ni : Nat) (d : SB) : Bool := goesP bn d.kind d.to_ && asksP r d.kind d.arg ni
def shapedP (r : Int) (ni : Nat) (bl : List SB) : Bool := bl.all (okTerm bl.length r ni) && decide (0 < bl.length)
end Go.Proofs.Ythhjhdmdfneegaa
namespace Go.Proofs.Ythhjhdmdfneegaa
set_option linter.unusedVariables false
set_option linter.unusedSimpArgs false
open Go.RowKit

/-- Functions as they lie, below n0. -/
def SFs (n0 : Nat) (w : World) (v : Value) (l : List SF) : Prop := ∃ A c, v = .slice A l.length c ∧ (0 < l.length → ∃ b o, A = some ⟨b, o, none⟩ ∧ b < n0 ∧
  ∀ j d, l[j]? = some d → ∃ s pv iv bv, w.cell? ⟨b, o + j * 5, none⟩ = some (.string s) ∧ w.cell? ⟨b, o + j * 5 + 1, none⟩ = some pv ∧ w.cell? ⟨b, o + j * 5 + 2, none⟩ = some (.int .i64 d.ret) ∧ w.cell? ⟨b, o + j * 5 + 3, none⟩ = some iv ∧ w.cell? ⟨b, o + j * 5 + 4, none⟩ = some bv ∧ GNs n0 w pv d.params ∧ SIs n0 w iv d.ins ∧ SBs n0 w bv d.blocks)
theorem SFs.keep {n0 : Nat} {w w' : World} {v : Value} {l : List SF} (h : SFs n0 w v l) (hb : Below n0 w w') : SFs n0 w' v l := by
  obtain ⟨A, c, hv, hr⟩ := h
  refine ⟨A, c, hv, fun hp => ?_⟩
  obtain ⟨b, o, hA, hbn, hc⟩ := hr hp
  refine ⟨b, o, hA, hbn, fun j d hd => ?_⟩
  obtain ⟨s, pv, iv, bv, h0, h1, h2, h3, h4, h5, h6, h7⟩ := hc j d hd
  have k : ∀ q, w'.cell? ⟨b, q, none⟩ = w.cell? ⟨b, q, none⟩ := fun q => hb.cell (p := ⟨b, q, none⟩) hbn
  exact ⟨s, pv, iv, bv, (k _).trans h0, (k _).trans h1, (k _).trans h2, (k _).trans h3, (k _).trans h4, h5.keep hb, h6.keep hb, h7.keep hb⟩
theorem SFs.at {n0 : Nat} {w : World} {A : Option Addr} {m c : Nat} {l : List SF} (h : SFs n0 w (.slice A m c) l) {j : Nat} (hj : j < l.length) :
    ∃ b o s pA pc iA ic bA bc, A = some ⟨b, o, none⟩ ∧ b < n0 ∧ w.cell? ⟨b, o + j * 5, none⟩ = some (.string s) ∧ w.cell? ⟨b, o + j * 5 + 1, none⟩ = some (.slice pA l[j].params.length pc) ∧ w.cell? ⟨b, o + j * 5 + 2, none⟩ = some (.int .i64 l[j].ret) ∧ w.cell? ⟨b, o + j * 5 + 3, none⟩ = some (.slice iA l[j].ins.length ic) ∧ w.cell? ⟨b, o + j * 5 + 4, none⟩ = some (.slice bA l[j].blocks.length bc) ∧
      GNs n0 w (.slice pA l[j].params.length pc) l[j].params ∧ SIs n0 w (.slice iA l[j].ins.length ic) l[j].ins ∧ SBs n0 w (.slice bA l[j].blocks.length bc) l[j].blocks := by
  obtain ⟨A', c', hv, hr⟩ := h
  obtain ⟨b, o, hA, hbn, hc⟩ := hr (by omega)
  injection hv with e1
  subst e1
  obtain ⟨s, pv, iv, bv, h0, h1, h2, h3, h4, h5, h6, h7⟩ := hc j _ (List.getElem?_eq_getElem hj)
  obtain ⟨pA, pc, rfl, _⟩ := id h5
  obtain ⟨iA, ic, rfl, _⟩ := id h6
  obtain ⟨bA, bc, rfl, _⟩ := id h7
  exact ⟨b, o, s, pA, pc, iA, ic, bA, bc, hA, hbn, h0, h1, h2, h3, h4, h5, h6, h7⟩
def okParam (t : Int) : Bool := isTypeP t && (t != 0)
def declaredP (params : List Int) (ret : Int) : Bool := decide (params.length ≤ 16) && isTypeP ret && params.all okParam
end Go.Proofs.Ythhjhdmdfneegaa
namespace Go.Proofs.Ythhjhdmdfneegaa
set_option linter.unusedVariables false
set_option linter.unusedSimpArgs false
open Go.RowKit

/-- Blocks laid down one by one. -/
def allocs (w : World) : List Obj → World
  | [] => w
  | o :: os => allocs (w.alloc o) os
theorem allocs_size (os : List Obj) : ∀ w : World, (allocs w os).heap.size = w.heap.size + os.length := by
  induction os with
  | nil => intro w; rfl
  | cons o os ih => intro w; unfold allocs; rw [ih]; simp; omega
theorem allocs_below (os : List Obj) : ∀ (B : Nat) (w : World), B ≤ w.heap.size → Below B w (allocs w os) := by
  induction os with
  | nil => intro B w _; exact Below.refl _ _
  | cons o os ih =>
    intro B w h
    unfold allocs
    exact ((Below.refl B w).alloc h o).trans (ih B (w.alloc o) (by simp; omega))
theorem allocs_at (os : List Obj) : ∀ (w : World) (k : Nat) (x : Array Value) (T : TypeId), os[k]? = some (.cells x T) → (allocs w os).heap[w.heap.size + k]? = some (.cells x T (0, 0)) := by
  induction os with
  | nil => intro w k x T h; cases h
  | cons o os ih =>
    intro w k x T h
    unfold allocs
    cases k with
    | zero =>
      injection h with h
      subst h
      have hb := allocs_below os (w.alloc (.cells x T)).heap.size (w.alloc (.cells x T)) (Nat.le_refl _)
      exact (hb.block w.heap.size (by simp)).trans (heap_alloc_new w _)
    | succ k =>
      have := ih (w.alloc o) k x T h
      rw [show (w.alloc o).heap.size + k = w.heap.size + (k + 1) by simp; omega] at this
      exact this

theorem GNs.of {W : World} {b n0 : Nat} {T : TypeId} (l : List Int) (h : W.heap[b]? = some (.cells (intsV l).toArray T (0, 0))) (hb : b < n0) : GNs n0 W (.slice (some ⟨b, 0, none⟩) l.length l.length) l := by
  refine ⟨_, _, rfl, fun _ => ⟨b, 0, rfl, hb, fun j x hx => ?_⟩⟩
  rw [Nat.zero_add, Lib.cell_of_heap h j]
  simp [intsV, hx]
theorem GNs.nil (n0 : Nat) (W : World) : GNs n0 W (.slice none 0 0) [] := ⟨none, 0, rfl, fun h => by simp at h⟩

def insRow : List (SIn × Value) → List Value
  | [] => []
  | (d, av) :: r => .int .i64 d.op :: .int .i64 d.ty :: av :: .int .i64 d.n :: .int .i64 d.to_ :: insRow r
def insHas (n0 : Nat) (W : World) : List (SIn × Value) → Prop
  | [] => True
  | (d, av) :: r => GNs n0 W av d.args ∧ insHas n0 W r
theorem insRow_at : ∀ (l : List (SIn × Value)) (j : Nat) (d : SIn) (av : Value), l[j]? = some (d, av) →
    (insRow l)[j * 5]? = some (.int .i64 d.op) ∧ (insRow l)[j * 5 + 1]? = some (.int .i64 d.ty) ∧ (insRow l)[j * 5 + 2]? = some av ∧ (insRow l)[j * 5 + 3]? = some (.int .i64 d.n) ∧ (insRow l)[j * 5 + 4]? = some (.int .i64 d.to_)
  | [], j, d, av, h => by cases h
  | (d', av') :: r, 0, d, av, h => by
    injection h with h
    injection h with h1 h2
    subst h1; subst h2
    exact ⟨rfl, rfl, rfl, rfl, rfl⟩
  | p :: r, j + 1, d, av, h => by
    have := insRow_at r j d av h
    obtain ⟨d', av'⟩ := p
    rw [show (j + 1) * 5 = j * 5 + 5 by omega]
    exact this
theorem insHas_at {n0 : Nat} {W : World} : ∀ {l : List (SIn × Value)}, insHas n0 W l → ∀ {j : Nat} {d : SIn} {av : Value}, l[j]? = some (d, av) → GNs n0 W av d.args
  | [], _, j, d, av, h => by cases h
  | p :: r, hg, 0, d, av, h => by injection h with h; subst h; exact hg.1
  | p :: r, hg, j + 1, d, av, h => insHas_at (l := r) (by obtain ⟨d', av'⟩ := p; exact hg.2) h
theorem SIs.of {W : World} {b n0 : Nat} {T : TypeId} (l : List (SIn × Value)) (h : W.heap[b]? = some (.cells (insRow l).toArray T (0, 0))) (hb : b < n0) (hg : insHas n0 W l) : SIs n0 W (.slice (some ⟨b, 0, none⟩) l.length l.length) (l.map Prod.fst) := by
  refine ⟨some ⟨b, 0, none⟩, l.length, by rw [List.length_map], fun _ => ⟨b, 0, rfl, hb, fun j d hd => ?_⟩⟩
  rw [List.getElem?_map] at hd
  cases hl : l[j]? with
  | none => rw [hl] at hd; cases hd
  | some p =>
    obtain ⟨d', av⟩ := p
    rw [hl] at hd
    injection hd with hd
    subst hd
    obtain ⟨h0, h1, h2, h3, h4⟩ := insRow_at l j d' av hl
    have c : ∀ q, W.cell? ⟨b, 0 + q, none⟩ = (insRow l)[q]? := fun q => by rw [Nat.zero_add, Lib.cell_of_heap h q, List.getElem?_toArray]
    refine ⟨av, ?_, ?_, ?_, ?_, ?_, insHas_at hg hl⟩
    · rw [c, h0]
    · rw [show 0 + j * 5 + 1 = 0 + (j * 5 + 1) by omega, c, h1]
    · rw [show 0 + j * 5 + 2 = 0 + (j * 5 + 2) by omega, c, h2]
    · rw [show 0 + j * 5 + 3 = 0 + (j * 5 + 3) by omega, c, h3]
    · rw [show 0 + j * 5 + 4 = 0 + (j * 5 + 4) by omega, c, h4]

structure BV where
  l : Value
  p : Value
  t : Value
def blkRow : List (SB × BV) → List Value
  | [] => []
  | (d, v) :: r => v.l :: v.p :: .int .i64 d.kind :: .int .i64 d.arg :: v.t :: blkRow r
def blkHas (n0 : Nat) (W : World) : List (SB × BV) → Prop
  | [] => True
  | (d, v) :: r => (GNs n0 W v.l d.list ∧ GNs n0 W v.p d.preds ∧ GNs n0 W v.t d.to_) ∧ blkHas n0 W r
theorem blkRow_at : ∀ (l : List (SB × BV)) (j : Nat) (d : SB) (v : BV), l[j]? = some (d, v) →
    (blkRow l)[j * 5]? = some v.l ∧ (blkRow l)[j * 5 + 1]? = some v.p ∧ (blkRow l)[j * 5 + 2]? = some (.int .i64 d.kind) ∧ (blkRow l)[j * 5 + 3]? = some (.int .i64 d.arg) ∧ (blkRow l)[j * 5 + 4]? = some v.t
  | [], j, d, v, h => by cases h
  | (d', v') :: r, 0, d, v, h => by
    injection h with h
    injection h with h1 h2
    subst h1; subst h2
    exact ⟨rfl, rfl, rfl, rfl, rfl⟩
  | p :: r, j + 1, d, v, h => by
    have := blkRow_at r j d v h
    obtain ⟨d', v'⟩ := p
    rw [show (j + 1) * 5 = j * 5 + 5 by omega]
    exact this
theorem blkHas_at {n0 : Nat} {W : World} : ∀ {l : List (SB × BV)}, blkHas n0 W l → ∀ {j : Nat} {d : SB} {v : BV}, l[j]? = some (d, v) → GNs n0 W v.l d.list ∧ GNs n0 W v.p d.preds ∧ GNs n0 W v.t d.to_
  | [], _, j, d, av, h => by cases h
  | p :: r, hg, 0, d, v, h => by injection h with h; subst h; exact hg.1
  | p :: r, hg, j + 1, d, v, h => blkHas_at (l := r) (by obtain ⟨d', v'⟩ := p; exact hg.2) h
theorem SBs.of {W : World} {b n0 : Nat} {T : TypeId} (l : List (SB × BV)) (h : W.heap[b]? = some (.cells (blkRow l).toArray T (0, 0))) (hb : b < n0) (hg : blkHas n0 W l) : SBs n0 W (.slice (some ⟨b, 0, none⟩) l.length l.length) (l.map Prod.fst) := by
  refine ⟨some ⟨b, 0, none⟩, l.length, by rw [List.length_map], fun _ => ⟨b, 0, rfl, hb, fun j d hd => ?_⟩⟩
  rw [List.getElem?_map] at hd
  cases hl : l[j]? with
  | none => rw [hl] at hd; cases hd
  | some p =>
    obtain ⟨d', v⟩ := p
    rw [hl] at hd
    injection hd with hd
    subst hd
    obtain ⟨h0, h1, h2, h3, h4⟩ := blkRow_at l j d' v hl
    obtain ⟨g0, g1, g2⟩ := blkHas_at hg hl
    have c : ∀ q, W.cell? ⟨b, 0 + q, none⟩ = (blkRow l)[q]? := fun q => by rw [Nat.zero_add, Lib.cell_of_heap h q, List.getElem?_toArray]
    refine ⟨v.l, v.p, v.t, ?_, ?_, ?_, ?_, ?_, g0, g1, g2⟩
    · rw [c, h0]
    · rw [show 0 + j * 5 + 1 = 0 + (j * 5 + 1) by omega, c, h1]
    · rw [show 0 + j * 5 + 2 = 0 + (j * 5 + 2) by omega, c, h2]
    · rw [show 0 + j * 5 + 3 = 0 + (j * 5 + 3) by omega, c, h3]
    · rw [show 0 + j * 5 + 4 = 0 + (j * 5 + 4) by omega, c, h4]
theorem SBs.take {n0 : Nat} {w : World} {A : Option Addr} {n c : Nat} {l : List SB} (k : Nat) (h : SBs n0 w (.slice A n c) l) (hk : k ≤ l.length) : SBs n0 w (.slice A k c) (l.take k) := by
  obtain ⟨A', c', hv, hr⟩ := h
  injection hv with e1 e2 e3
  subst e1; subst e3
  refine ⟨_, _, by rw [List.length_take, Nat.min_eq_left hk], fun hp => ?_⟩
  rw [List.length_take, Nat.min_eq_left hk] at hp
  obtain ⟨b, o, hA, hbn, hc⟩ := hr (by omega)
  refine ⟨b, o, hA, hbn, fun j d hd => hc j d ?_⟩
  rw [List.getElem?_take] at hd
  split at hd
  · exact hd
  · cases hd

structure FV where
  s : ByteArray
  p : Value
  i : Value
  b : Value
def funRow : List (SF × FV) → List Value
  | [] => []
  | (d, v) :: r => .string v.s :: v.p :: .int .i64 d.ret :: v.i :: v.b :: funRow r
def funHas (n0 : Nat) (W : World) : List (SF × FV) → Prop
  | [] => True
  | (d, v) :: r => (GNs n0 W v.p d.params ∧ SIs n0 W v.i d.ins ∧ SBs n0 W v.b d.blocks) ∧ funHas n0 W r
theorem funRow_at : ∀ (l : List (SF × FV)) (j : Nat) (d : SF) (v : FV), l[j]? = some (d, v) →
    (funRow l)[j * 5]? = some (.string v.s) ∧ (funRow l)[j * 5 + 1]? = some v.p ∧ (funRow l)[j * 5 + 2]? = some (.int .i64 d.ret) ∧ (funRow l)[j * 5 + 3]? = some v.i ∧ (funRow l)[j * 5 + 4]? = some v.b
  | [], j, d, v, h => by cases h
  | (d', v') :: r, 0, d, v, h => by
    injection h with h
    injection h with h1 h2
    subst h1; subst h2
    exact ⟨rfl, rfl, rfl, rfl, rfl⟩
  | p :: r, j + 1, d, v, h => by
    have := funRow_at r j d v h
    obtain ⟨d', v'⟩ := p
    rw [show (j + 1) * 5 = j * 5 + 5 by omega]
    exact this
theorem funHas_at {n0 : Nat} {W : World} : ∀ {l : List (SF × FV)}, funHas n0 W l → ∀ {j : Nat} {d : SF} {v : FV}, l[j]? = some (d, v) → GNs n0 W v.p d.params ∧ SIs n0 W v.i d.ins ∧ SBs n0 W v.b d.blocks
  | [], _, j, d, av, h => by cases h
  | p :: r, hg, 0, d, v, h => by injection h with h; subst h; exact hg.1
  | p :: r, hg, j + 1, d, v, h => funHas_at (l := r) (by obtain ⟨d', v'⟩ := p; exact hg.2) h
theorem funHas_keep {n0 : Nat} {W W' : World} (hb : Below n0 W W') : ∀ {l : List (SF × FV)}, funHas n0 W l → funHas n0 W' l
  | [], _ => trivial
  | p :: r, h => by
    obtain ⟨d, v⟩ := p
    exact ⟨⟨h.1.1.keep hb, h.1.2.1.keep hb, h.1.2.2.keep hb⟩, funHas_keep hb h.2⟩
theorem SFs.of {W : World} {b n0 n1 : Nat} {T : TypeId} (l : List (SF × FV)) (h : W.heap[b]? = some (.cells (funRow l).toArray T (0, 0))) (hb : b < n1) (hn : n0 ≤ n1) (hg : funHas n0 W l) : SFs n1 W (.slice (some ⟨b, 0, none⟩) l.length l.length) (l.map Prod.fst) := by
  refine ⟨some ⟨b, 0, none⟩, l.length, by rw [List.length_map], fun _ => ⟨b, 0, rfl, hb, fun j d hd => ?_⟩⟩
  rw [List.getElem?_map] at hd
  cases hl : l[j]? with
  | none => rw [hl] at hd; cases hd
  | some p =>
    obtain ⟨d', v⟩ := p
    rw [hl] at hd
    injection hd with hd
    subst hd
    obtain ⟨h0, h1, h2, h3, h4⟩ := funRow_at l j d' v hl
    obtain ⟨g0, g1, g2⟩ := funHas_at hg hl
    have c : ∀ q, W.cell? ⟨b, 0 + q, none⟩ = (funRow l)[q]? := fun q => by rw [Nat.zero_add, Lib.cell_of_heap h q, List.getElem?_toArray]
    refine ⟨v.s, v.p, v.i, v.b, ?_, ?_, ?_, ?_, ?_, g0.mono hn, g1.mono hn, g2.mono hn⟩
    · rw [c, h0]
    · rw [show 0 + j * 5 + 1 = 0 + (j * 5 + 1) by omega, c, h1]
    · rw [show 0 + j * 5 + 2 = 0 + (j * 5 + 2) by omega, c, h2]
    · rw [show 0 + j * 5 + 3 = 0 + (j * 5 + 3) by omega, c, h3]
    · rw [show 0 + j * 5 + 4 = 0 + (j * 5 + 4) by omega, c, h4]
end Go.Proofs.Ythhjhdmdfneegaa
