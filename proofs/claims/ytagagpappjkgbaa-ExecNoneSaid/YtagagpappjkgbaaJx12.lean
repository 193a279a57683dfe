/-
  The runner's places: one is set; what stood there is kept for an outer call.
-/
import Derived.Test.YtagagpappjkgbaaJx10
import Derived.Test.YtagagpappjkgbaaJx11
import Derived.Lib.QuietBelow
import Derived.BigQuiet
namespace Go.Proofs.Ytagagpappjkgbaa
set_option linter.unusedVariables false
set_option linter.unusedSimpArgs false
open Go.RowKit Go.Shelf Go.Sort

theorem ex_call {P : Program} {f : FuncId} {args : Array Value} {v : Value} (W : World) (h : ∀ A, Below W.heap.size W A → Calls P f args A fun e w' => e = .returned v ∧ Below A.heap.size A w') :
    ∀ p : Regrown, Calls P f args (grow (redrawn W p.d) p.os) fun e w' => e = .returned v ∧ ∃ q : Regrown, w' = grow (redrawn W q.d) q.os := fun p => Calls.regrown_of (h _ (below_regrown W p.d p.os))
theorem pl_set3 (tb : Nat → Nat) (p : XPl) : ∀ (l : List XPl) (k : Nat), k < l.length →
    (((l.flatMap (pCell tb)).set (k * 3) (.int .i64 p.v.n)).set (k * 3 + 1) (.pointer (p.v.of_.map fun t => ⟨tb t, 0, none⟩))).set (k * 3 + 2) (.int .i64 p.deep) = (l.set k p).flatMap (pCell tb)
  | [], k, h => by cases h
  | b :: l, 0, h => rfl
  | b :: l, k + 1, h => by
    have := pl_set3 tb p l k (by simpa using h)
    rw [show (k + 1) * 3 = k * 3 + 3 by omega, List.set_cons_succ, List.flatMap_cons, List.flatMap_cons, ← this]
    rfl
section
variable {n0 base E : Nat} {fs : List SF} {cm : List (List (Int × Int))} {r : XR} {M : XM} {F : Nat → GRw} {w : World}
theorem XOk.place_set (h : XOk n0 base E fs cm r M F w) {i k : Nat} {ps : List XPl} (hp : r.places[i]? = some ps) (hk : k < ps.length) (p : XPl) :
    (∃ F', XOk n0 base E fs cm { r with places := r.places.set i (ps.set k p) } M F' (((w.setCell ⟨M.pb i, k * 3, none⟩ (.int .i64 p.v.n)).setCell ⟨M.pb i, k * 3 + 1, none⟩ (.pointer (p.v.of_.map fun t => ⟨M.tb t, 0, none⟩))).setCell ⟨M.pb i, k * 3 + 2, none⟩ (.int .i64 p.deep))) ∧
      Below base w (((w.setCell ⟨M.pb i, k * 3, none⟩ (.int .i64 p.v.n)).setCell ⟨M.pb i, k * 3 + 1, none⟩ (.pointer (p.v.of_.map fun t => ⟨M.tb t, 0, none⟩))).setCell ⟨M.pb i, k * 3 + 2, none⟩ (.int .i64 p.deep)) := by
  have hF := h.fp i ps hp
  have s1 := h.sq.put hF (k * 3) (.int .i64 p.v.n)
  have b1 := h.sq.b_put hF (k * 3) (.int .i64 p.v.n)
  have s2 := s1.put (k := 7 + 4 * i) (upG_at _ _ _) (k * 3 + 1) (.pointer (p.v.of_.map fun t => ⟨M.tb t, 0, none⟩))
  have b2 := s1.b_put (k := 7 + 4 * i) (upG_at _ _ _) (k * 3 + 1) (.pointer (p.v.of_.map fun t => ⟨M.tb t, 0, none⟩))
  have s3 := s2.put (k := 7 + 4 * i) (upG_at _ _ _) (k * 3 + 2) (.int .i64 p.deep)
  have b3 := s2.b_put (k := 7 + 4 * i) (upG_at _ _ _) (k * 3 + 2) (.int .i64 p.deep)
  rw [pl_set3 M.tb p ps k hk] at s3
  have hb := (b1.trans b2).trans b3
  have hn : Below n0 w _ := hb.mono h.n0b
  have hi : i < r.places.length := (List.getElem?_eq_some_iff.mp hp).1
  refine ⟨⟨_, ⟨s3, fun l hl => ?_, h.ol, ?_, fun i' L hL => ?_, fun i' ps' hps => ?_, fun t T hT => ?_, fun t ht => ?_, h.lv, h.lb, ?_, h.cn, fun i' f ps' hf hps => ?_, h.lc, fun i f v hf hv => ⟨(h.sr i f v hf hv).1.keep hn, (h.sr i f v hf hv).2.1.keep hn, (h.sr i f v hf hv).2.2⟩, h.ls, h.inn.keep hn, h.ic, h.n0b, h.lf⟩⟩, hb⟩
  · rw [upG_off _ _ _ _ (by omega), upG_off _ _ _ _ (by omega), upG_off _ _ _ _ (by omega)]
    have e : rowX { r with places := r.places.set i (ps.set k p) } M l = rowX r M l := by rcases l with _ | _ | _ | _ | l <;> rfl
    rw [e]; exact h.fr l hl
  · rw [upG_off _ _ _ _ (by omega), upG_off _ _ _ _ (by omega), upG_off _ _ _ _ (by omega)]; exact h.f5
  · rw [upG_off _ _ _ _ (by omega), upG_off _ _ _ _ (by omega), upG_off _ _ _ _ (by omega)]; exact h.fc i' L hL
  · by_cases e : i' = i
    · subst e
      have : ps' = ps.set k p := by
        have h2 : (r.places.set i' (ps.set k p))[i']? = some ps' := hps
        rw [List.getElem?_set_self hi] at h2
        injection h2 with h2
        exact h2.symm
      rw [upG_at, this]
      unfold plaR
      rw [List.length_set]
    · rw [upG_off _ _ _ _ (by omega), upG_off _ _ _ _ (by omega), upG_off _ _ _ _ (by omega)]
      have h2 : (r.places.set i (ps.set k p))[i']? = some ps' := hps
      rw [List.getElem?_set_ne (fun h => e h.symm)] at h2
      exact h.fp i' ps' h2
  · rw [upG_off _ _ _ _ (by omega), upG_off _ _ _ _ (by omega), upG_off _ _ _ _ (by omega), upG_off _ _ _ _ (by omega), upG_off _ _ _ _ (by omega), upG_off _ _ _ _ (by omega)]; exact h.ft t T hT
  · rw [upG_off _ _ _ _ (by omega), upG_off _ _ _ _ (by omega), upG_off _ _ _ _ (by omega), upG_off _ _ _ _ (by omega), upG_off _ _ _ _ (by omega), upG_off _ _ _ _ (by omega)]; exact h.fn t ht
  · show (r.places.set i (ps.set k p)).length = fs.length
    rw [List.length_set]; exact h.pn
  · have h2 : (r.places.set i (ps.set k p))[i']? = some ps' := hps
    by_cases e : i' = i
    · subst e
      rw [List.getElem?_set_self hi] at h2
      injection h2 with h2
      rw [← h2, List.length_set]
      exact h.lp i' f ps hf hp
    · rw [List.getElem?_set_ne (fun h => e h.symm)] at h2
      exact h.lp i' f ps' hf h2
end
end Go.Proofs.Ytagagpappjkgbaa
