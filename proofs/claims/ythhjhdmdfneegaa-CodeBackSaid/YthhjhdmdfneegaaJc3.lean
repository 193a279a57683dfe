/-
  Programs that may be: instructions, blocks, functions as they lie; has, isType, hasArg, asks.
-/
import Derived.Test.YthhjhdmdfneegaaJc1
import Derived.BigQuiet
import Derived.Deep.DeepCutAuto
import Derived.Deep.CutBlock
namespace Go.Proofs.Ythhjhdmdfneegaa
set_option linter.unusedVariables false
set_option linter.unusedSimpArgs false
open Go.RowKit

/-- An instruction, a block, over plain data. -/
structure SIn where
  op : Int
  ty : Int
  args : List Int
  n : Int
  to_ : Int
structure SB where
  list : List Int
  preds : List Int
  kind : Int
  arg : Int
  to_ : List Int
structure SF where
  params : List Int
  ret : Int
  ins : List SIn
  blocks : List SB
/-- Instructions as they lie, below n0. -/
def SIs (n0 : Nat) (w : World) (v : Value) (l : List SIn) : Prop := ∃ A c, v = .slice A l.length c ∧ (0 < l.length → ∃ b o, A = some ⟨b, o, none⟩ ∧ b < n0 ∧
  ∀ j d, l[j]? = some d → ∃ av, w.cell? ⟨b, o + j * 5, none⟩ = some (.int .i64 d.op) ∧ w.cell? ⟨b, o + j * 5 + 1, none⟩ = some (.int .i64 d.ty) ∧ w.cell? ⟨b, o + j * 5 + 2, none⟩ = some av ∧ w.cell? ⟨b, o + j * 5 + 3, none⟩ = some (.int .i64 d.n) ∧ w.cell? ⟨b, o + j * 5 + 4, none⟩ = some (.int .i64 d.to_) ∧ GNs n0 w av d.args)
theorem SIs.keep {n0 : Nat} {w w' : World} {v : Value} {l : List SIn} (h : SIs n0 w v l) (hb : Below n0 w w') : SIs n0 w' v l := by
  obtain ⟨A, c, hv, hr⟩ := h
  refine ⟨A, c, hv, fun hp => ?_⟩
  obtain ⟨b, o, hA, hbn, hc⟩ := hr hp
  refine ⟨b, o, hA, hbn, fun j d hd => ?_⟩
  obtain ⟨av, h0, h1, h2, h3, h4, h5⟩ := hc j d hd
  have k : ∀ q, w'.cell? ⟨b, q, none⟩ = w.cell? ⟨b, q, none⟩ := fun q => hb.cell (p := ⟨b, q, none⟩) hbn
  exact ⟨av, (k _).trans h0, (k _).trans h1, (k _).trans h2, (k _).trans h3, (k _).trans h4, h5.keep hb⟩
theorem SIs.mono {n0 n1 : Nat} {w : World} {v : Value} {l : List SIn} (h : SIs n0 w v l) (hn : n0 ≤ n1) : SIs n1 w v l := by
  obtain ⟨A, c, hv, hr⟩ := h
  refine ⟨A, c, hv, fun hp => ?_⟩
  obtain ⟨b, o, hA, hbn, hc⟩ := hr hp
  refine ⟨b, o, hA, by omega, fun j d hd => ?_⟩
  obtain ⟨av, h0, h1, h2, h3, h4, h5⟩ := hc j d hd
  exact ⟨av, h0, h1, h2, h3, h4, h5.mono hn⟩
theorem SIs.at {n0 : Nat} {w : World} {A : Option Addr} {m c : Nat} {l : List SIn} (h : SIs n0 w (.slice A m c) l) {j : Nat} (hj : j < l.length) :
    ∃ b o aA ac, A = some ⟨b, o, none⟩ ∧ b < n0 ∧ w.cell? ⟨b, o + j * 5, none⟩ = some (.int .i64 l[j].op) ∧ w.cell? ⟨b, o + j * 5 + 1, none⟩ = some (.int .i64 l[j].ty) ∧ w.cell? ⟨b, o + j * 5 + 2, none⟩ = some (.slice aA l[j].args.length ac) ∧ w.cell? ⟨b, o + j * 5 + 3, none⟩ = some (.int .i64 l[j].n) ∧ w.cell? ⟨b, o + j * 5 + 4, none⟩ = some (.int .i64 l[j].to_) ∧ GNs n0 w (.slice aA l[j].args.length ac) l[j].args := by
  obtain ⟨A', c', hv, hr⟩ := h
  obtain ⟨b, o, hA, hbn, hc⟩ := hr (by omega)
  injection hv with e1
  subst e1
  obtain ⟨av, h0, h1, h2, h3, h4, h5⟩ := hc j _ (List.getElem?_eq_getElem hj)
  obtain ⟨aA, ac, rfl, _⟩ := id h5
  exact ⟨b, o, aA, ac, hA, hbn, h0, h1, h2, h3, h4, h5⟩
/-- Blocks with their lists, as they lie. -/
def SBs (n0 : Nat) (w : World) (v : Value) (l : List SB) : Prop := ∃ A c, v = .slice A l.length c ∧ (0 < l.length → ∃ b o, A = some ⟨b, o, none⟩ ∧ b < n0 ∧
  ∀ j d, l[j]? = some d → ∃ lv pv tv, w.cell? ⟨b, o + j * 5, none⟩ = some lv ∧ w.cell? ⟨b, o + j * 5 + 1, none⟩ = some pv ∧ w.cell? ⟨b, o + j * 5 + 2, none⟩ = some (.int .i64 d.kind) ∧ w.cell? ⟨b, o + j * 5 + 3, none⟩ = some (.int .i64 d.arg) ∧ w.cell? ⟨b, o + j * 5 + 4, none⟩ = some tv ∧ GNs n0 w lv d.list ∧ GNs n0 w pv d.preds ∧ GNs n0 w tv d.to_)
theorem SBs.keep {n0 : Nat} {w w' : World} {v : Value} {l : List SB} (h : SBs n0 w v l) (hb : Below n0 w w') : SBs n0 w' v l := by
  obtain ⟨A, c, hv, hr⟩ := h
  refine ⟨A, c, hv, fun hp => ?_⟩
  obtain ⟨b, o, hA, hbn, hc⟩ := hr hp
  refine ⟨b, o, hA, hbn, fun j d hd => ?_⟩
  obtain ⟨lv, pv, tv, h0, h1, h2, h3, h4, h5, h6, h7⟩ := hc j d hd
  have k : ∀ q, w'.cell? ⟨b, q, none⟩ = w.cell? ⟨b, q, none⟩ := fun q => hb.cell (p := ⟨b, q, none⟩) hbn
  exact ⟨lv, pv, tv, (k _).trans h0, (k _).trans h1, (k _).trans h2, (k _).trans h3, (k _).trans h4, h5.keep hb, h6.keep hb, h7.keep hb⟩
theorem SBs.mono {n0 n1 : Nat} {w : World} {v : Value} {l : List SB} (h : SBs n0 w v l) (hn : n0 ≤ n1) : SBs n1 w v l := by
  obtain ⟨A, c, hv, hr⟩ := h
  refine ⟨A, c, hv, fun hp => ?_⟩
  obtain ⟨b, o, hA, hbn, hc⟩ := hr hp
  refine ⟨b, o, hA, by omega, fun j d hd => ?_⟩
  obtain ⟨lv, pv, tv, h0, h1, h2, h3, h4, h5, h6, h7⟩ := hc j d hd
  exact ⟨lv, pv, tv, h0, h1, h2, h3, h4, h5.mono hn, h6.mono hn, h7.mono hn⟩
theorem SBs.at {n0 : Nat} {w : World} {A : Option Addr} {m c : Nat} {l : List SB} (h : SBs n0 w (.slice A m c) l) {j : Nat} (hj : j < l.length) :
    ∃ b o lA lc pA pc tA tc, A = some ⟨b, o, none⟩ ∧ b < n0 ∧ w.cell? ⟨b, o + j * 5, none⟩ = some (.slice lA l[j].list.length lc) ∧ w.cell? ⟨b, o + j * 5 + 1, none⟩ = some (.slice pA l[j].preds.length pc) ∧ w.cell? ⟨b, o + j * 5 + 2, none⟩ = some (.int .i64 l[j].kind) ∧ w.cell? ⟨b, o + j * 5 + 3, none⟩ = some (.int .i64 l[j].arg) ∧ w.cell? ⟨b, o + j * 5 + 4, none⟩ = some (.slice tA l[j].to_.length tc) ∧
      GNs n0 w (.slice lA l[j].list.length lc) l[j].list ∧ GNs n0 w (.slice pA l[j].preds.length pc) l[j].preds ∧ GNs n0 w (.slice tA l[j].to_.length tc) l[j].to_ := by
  obtain ⟨A', c', hv, hr⟩ := h
  obtain ⟨b, o, hA, hbn, hc⟩ := hr (by omega)
  injection hv with e1
  subst e1
  obtain ⟨lv, pv, tv, h0, h1, h2, h3, h4, h5, h6, h7⟩ := hc j _ (List.getElem?_eq_getElem hj)
  obtain ⟨lA, lc, rfl, _⟩ := id h5
  obtain ⟨pA, pc, rfl, _⟩ := id h6
  obtain ⟨tA, tc, rfl, _⟩ := id h7
  exact ⟨b, o, lA, lc, pA, pc, tA, tc, hA, hbn, h0, h1, h2, h3, h4, h5, h6, h7⟩
def isTypeP (t : Int) : Bool := decide (0 ≤ t ∧ t ≤ 4)
def hasArgP (r kind : Int) : Bool := (kind == 2) || ((kind == 3) && (r != 0))
end Go.Proofs.Ythhjhdmdfneegaa
