/-
  Programs that may be: functions as they lie; declared, begins.
-/
import Derived.Test.YthjlpbglnnebkaaSoC
namespace Go.Proofs.Ythjlpbglnnebkaa
open Go.RowKit
set_option linter.unusedVariables false
set_option linter.unusedSimpArgs false

/-- Functions as they lie, below n0. -/
def SFs (n0 : Nat) (w : World) (v : Value) (l : List SF) : Prop := ∃ A c, v = .slice A l.length c ∧ (0 < l.length → ∃ b o, A = some ⟨b, o, none⟩ ∧ b < n0 ∧
  ∀ j d, l[j]? = some d → ∃ s pv iv bv, w.cell? ⟨b, o + j * 5, none⟩ = some (.string s) ∧ w.cell? ⟨b, o + j * 5 + 1, none⟩ = some pv ∧ w.cell? ⟨b, o + j * 5 + 2, none⟩ = some (.int .i64 d.ret) ∧ w.cell? ⟨b, o + j * 5 + 3, none⟩ = some iv ∧ w.cell? ⟨b, o + j * 5 + 4, none⟩ = some bv ∧ GNs n0 w pv d.params ∧ SIs n0 w iv d.ins ∧ SBs n0 w bv d.blocks)
theorem SFs.keep {n0 : Nat} {w w' : World} {v : Value} {l : List SF} (h : SFs n0 w v l) (hb : Below n0 w w') : SFs n0 w' v l := by
  obtain ⟨A, c, hv, hr⟩ := h
  refine ⟨A, c, hv, fun hp => ?_⟩
  obtain ⟨b, o, hA, hbn, hc⟩ := hr hp
  refine ⟨b, o, hA, hbn, fun j d hd => ?_⟩
  obtain ⟨s, pv, iv, bv, h0, h1, h2, h3, h4, h5, h6, h7⟩ := hc j d hd
  have k : ∀ q, w'.cell? ⟨b, q, none⟩ = w.cell? ⟨b, q, none⟩ := fun q => hb.cell (p := ⟨b, q, none⟩) hbn
  exact ⟨s, pv, iv, bv, (k _).trans h0, (k _).trans h1, (k _).trans h2, (k _).trans h3, (k _).trans h4, h5.keep hb, h6.keep hb, h7.keep hb⟩
theorem SFs.at {n0 : Nat} {w : World} {A : Option Addr} {m c : Nat} {l : List SF} (h : SFs n0 w (.slice A m c) l) {j : Nat} (hj : j < l.length) :
    ∃ b o s pA pc iA ic bA bc, A = some ⟨b, o, none⟩ ∧ b < n0 ∧ w.cell? ⟨b, o + j * 5, none⟩ = some (.string s) ∧ w.cell? ⟨b, o + j * 5 + 1, none⟩ = some (.slice pA l[j].params.length pc) ∧ w.cell? ⟨b, o + j * 5 + 2, none⟩ = some (.int .i64 l[j].ret) ∧ w.cell? ⟨b, o + j * 5 + 3, none⟩ = some (.slice iA l[j].ins.length ic) ∧ w.cell? ⟨b, o + j * 5 + 4, none⟩ = some (.slice bA l[j].blocks.length bc) ∧
      GNs n0 w (.slice pA l[j].params.length pc) l[j].params ∧ SIs n0 w (.slice iA l[j].ins.length ic) l[j].ins ∧ SBs n0 w (.slice bA l[j].blocks.length bc) l[j].blocks := by
  obtain ⟨A', c', hv, hr⟩ := h
  obtain ⟨b, o, hA, hbn, hc⟩ := hr (by omega)
  injection hv with e1
  subst e1
  obtain ⟨s, pv, iv, bv, h0, h1, h2, h3, h4, h5, h6, h7⟩ := hc j _ (List.getElem?_eq_getElem hj)
  obtain ⟨pA, pc, rfl, _⟩ := id h5
  obtain ⟨iA, ic, rfl, _⟩ := id h6
  obtain ⟨bA, bc, rfl, _⟩ := id h7
  exact ⟨b, o, s, pA, pc, iA, ic, bA, bc, hA, hbn, h0, h1, h2, h3, h4, h5, h6, h7⟩
def okParam (t : Int) : Bool := isTypeP t && (t != 0)
def declaredP (params : List Int) (ret : Int) : Bool := decide (params.length ≤ 16) && isTypeP ret && params.all okParam
end Go.Proofs.Ythjlpbglnnebkaa
