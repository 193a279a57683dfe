/-
  Two programs of the law's making: their arguments and functions are the same.
-/
import Derived.Test.YtpnpjlggikdinaaTrS6
import Derived.Test.YtpnpjlggikdinaaTrT3
namespace Go.Proofs.Ytpnpjlggikdinaa
open Go.RowKit

theorem paCells_at : ∀ (ps : List Pa) (i : Nat) (q : Pa), ps[i]? = some q → (paCells ps)[i * 2]? = some (.string q.name) ∧ (paCells ps)[i * 2 + 1]? = some (.int .i64 q.type)
  | [], i, q, h => by simp at h
  | a :: r, 0, q, h => by
    simp at h
    subst h
    exact ⟨rfl, rfl⟩
  | a :: r, i + 1, q, h => by
    have := paCells_at r i q (by simpa using h)
    have e : paCells (a :: r) = .string a.name :: .int .i64 a.type :: paCells r := rfl
    rw [e, show (i + 1) * 2 = i * 2 + 1 + 1 by omega, show i * 2 + 1 + 1 + 1 = i * 2 + 1 + 1 + 1 from rfl]
    exact ⟨this.1, this.2⟩
theorem paCells_len (ps : List Pa) : (paCells ps).length = ps.length * 2 := by
  induction ps with
  | nil => rfl
  | cons a r ih =>
    have e : paCells (a :: r) = .string a.name :: .int .i64 a.type :: paCells r := rfl
    rw [e]
    simp only [List.length_cons, ih]
    omega
theorem pa_row {w : World} {base : Nat} {A : Option Addr} {c : Nat} {ps : List Pa} (h : w.ownsRow base 35 2 (.slice A ps.length c) ps.length (paCells ps)) {i : Nat} {q : Pa} (hq : ps[i]? = some q) :
    ∃ g, A = some ⟨g, 0, none⟩ ∧ g < w.heap.size ∧ w.cell? ⟨g, 0 + i * 2, none⟩ = some (.string q.name) ∧ w.cell? ⟨g, 0 + i * 2 + 1, none⟩ = some (.int .i64 q.type) := by
  have hi : i < ps.length := (List.getElem?_eq_some_iff.mp hq).1
  obtain ⟨g, cap, hv, hb, hl⟩ := h.form (by omega)
  injection hv with h1 h2 h3
  subst h1
  have hx := paCells_at ps i q hq
  have hlen := paCells_len ps
  refine ⟨g, rfl, hl, ?_, ?_⟩
  · rw [Nat.zero_add, ← hx.1]
    exact h.cellAt (i * 2) (by omega)
  · rw [Nat.zero_add, ← hx.2]
    exact h.cellAt (i * 2 + 1) (by omega)
theorem paramsSay {w : World} {base base' : Nat} {A A' : Option Addr} {c c' : Nat} {ps : List Pa} (hmax : ps.length ≤ 9223372036854775807) (h : w.ownsRow base 35 2 (.slice A ps.length c) ps.length (paCells ps)) (h' : w.ownsRow base' 35 2 (.slice A' ps.length c') ps.length (paCells ps)) :
    ParamsSay w A A' ps.length c ps.length c' true := by
  intro w2 hb
  refine listAll_Param w.heap.size A A' ps.length c c' hmax w2 hb.size (fun i hi => ?_)
  obtain ⟨g, hA, hg, x0, x1⟩ := pa_row h (List.getElem?_eq_getElem hi)
  obtain ⟨g', hA', hg', y0, y1⟩ := pa_row h' (List.getElem?_eq_getElem hi)
  refine ⟨g, 0, g', 0, ps[i].name, ps[i].type, ps[i].name, ps[i].type, hA, hA', hg, hg', ⟨(hb.cell hg).trans x0, (hb.cell hg).trans x1⟩, ⟨(hb.cell hg').trans y0, (hb.cell hg').trans y1⟩, fun w3 _ _ => ?_⟩
  exact sameParam_eq _ _ w3
/-- The arguments are fewer, or more. -/
theorem paramsNe {w : World} {A A' : Option Addr} {n m c c' : Nat} (h : n ≠ m) : ParamsSay w A A' n c m c' false := fun w2 _ => (listLen_Param A A' n m c c' h w2).mono fun e w' ⟨he, hw⟩ => ⟨he, by rw [← hw]; exact Below.refl _ _⟩
theorem stmtsNe {w : World} {A A' : Option Addr} {n m c c' : Nat} (h : n ≠ m) : StmtsSay w A A' n c m c' false := fun w2 _ => (listLen_Stmt A A' n m c c' h w2).mono fun e w' ⟨he, hw⟩ => ⟨he, by rw [← hw]; exact Below.refl _ _⟩
theorem kidsNe {w : World} {A A' : Option Addr} {n m c c' : Nat} (h : n ≠ m) : KidsSay w A A' n c m c' false := fun w2 _ => (listLen_Expr A A' n m c c' h w2).mono fun e w' ⟨he, hw⟩ => ⟨he, by rw [← hw]; exact Below.refl _ _⟩
theorem stmtsSay_eq {w : World} {S S' : Nat → Prop} (hS : ∀ b, S b → b < w.heap.size) (hS' : ∀ b, S' b → b < w.heap.size) {A A' : Option Addr} {c c' : Nat} {l : List St} (hmax : l.length ≤ 9223372036854775807) (hf : ∀ e ∈ l, FineS e) (h : RdSs w S A 0 l) (h' : RdSs w S' A' 0 l) : StmtsSay w A A' l.length c l.length c' true := fun w2 hb =>
  fineSs_eq hmax hf w.heap.size A A' c c' w2 hb.size (RdSs.keep (fun p hp => hb.cell hp) _ _ _ (RdSs.more hS _ _ _ h)) (RdSs.keep (fun p hp => hb.cell hp) _ _ _ (RdSs.more hS' _ _ _ h'))
theorem paramsNil {w : World} : ParamsSay w none none 0 0 0 0 true := fun w2 hb => listAll_Param w.heap.size none none 0 0 0 (by omega) w2 hb.size (fun i hi => absurd hi (by omega))
theorem stmtsNil {w : World} : StmtsSay w none none 0 0 0 0 true := fun w2 hb => listAll_Stmt w.heap.size none none 0 0 0 (by omega) w2 hb.size (fun i hi => absurd hi (by omega))
end Go.Proofs.Ytpnpjlggikdinaa
