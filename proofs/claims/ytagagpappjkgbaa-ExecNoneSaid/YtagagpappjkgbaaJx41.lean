/-
  Blocks on all ways: the search over plain data; how it lies with what waits.
-/
import Derived.Test.YtagagpappjkgbaaJx40
namespace Go.Proofs.Ytagagpappjkgbaa
set_option linter.unusedVariables false
set_option linter.unusedSimpArgs false
open Go.RowKit Go.Shelf

structure Sr where
  up : List Int
  early : List Int
  above : List Int
  best : List Int
  wait : List (List Int)
def frRun (k b : Nat) : List Int → Sr → Option Sr
  | [], s => some s
  | f :: fs, s => (leastP s.early s.above s.best k f).bind fun r => (rdI s.early r.2.2).bind fun ev => (rdI s.early b).bind fun eb =>
      frRun k b fs { s with above := r.1, best := r.2.1, early := s.early.set b (min eb ev) }
def wtRun (k p : Nat) : List Int → Sr → Option Sr
  | [], s => some s
  | x :: xs, s => (rdI s.up x).bind fun _ => (leastP s.early s.above s.best k x).bind fun r => (rdI s.early r.2.2).bind fun ev =>
      wtRun k p xs { s with above := r.1, best := r.2.1, up := if ev < p then (s.up.set x.toNat p).set x.toNat r.2.2 else s.up.set x.toNat p }
/-- It waits. -/
def waitS (b e p : Nat) (s : Sr) : Sr := { s with wait := s.wait.set e (s.wait.getD e [] ++ [(b : Int)]), above := s.above.set b p }
def clearS (p : Nat) (s : Sr) : Sr := { s with wait := s.wait.set p [] }
def stRun (k : Nat) (from_ : List Int) (back : List (List Int)) (b : Nat) (s : Sr) : Option Sr :=
  (frRun k b (back.getD b []) s).bind fun s1 => (rdI s1.early b).bind fun eb => (rdI from_ b).bind fun p =>
    if 0 ≤ eb ∧ eb < s1.wait.length ∧ (s1.wait.getD eb.toNat []).length < 1048576 ∧ 0 ≤ p ∧ p < s1.wait.length then
      (wtRun k p.toNat ((waitS b eb.toNat p.toNat s1).wait.getD p.toNat []) (waitS b eb.toNat p.toNat s1)).map (clearS p.toNat)
    else none
def rnRun (k : Nat) (from_ : List Int) (back : List (List Int)) : Nat → Sr → Option Sr
  | 0, s => some s
  | i + 1, s => (stRun k from_ back (i + 1) s).bind (rnRun k from_ back i)
def finP (early : List Int) : Nat → Nat → List Int → Option (List Int)
  | 0, _, up => some up
  | c + 1, i, up => (rdI up i).bind fun u => if u = -1 then finP early c (i + 1) up else (rdI early i).bind fun e => if u = e then finP early c (i + 1) up else (rdI up u).bind fun uu => finP early c (i + 1) (up.set i uu)

/-- A row that is read alone. -/
def RoRow (w : World) (sp : Nat) (F : Nat → GRw) (v : Value) (l : List Int) : Prop := ∃ A c, v = .slice A l.length c ∧ ∀ j x, l[j]? = some x → ∃ g o, A = some ⟨g, 0, none⟩ ∧ Fx w sp F g o ∧ w.cell? ⟨g, j, none⟩ = some (.int .i64 x)
def RoRows (w : World) (sp : Nat) (F : Nat → GRw) (gk m : Nat) (ls : List (List Int)) : Prop := ∃ vs : List Value, ∃ o, vs.length = m ∧ ls.length = m ∧ Fx w sp F gk o ∧ (∀ j v, vs[j]? = some v → w.cell? ⟨gk, j, none⟩ = some v) ∧ ∀ (j : Nat) (v : Value) (l : List Int), vs[j]? = some v → ls[j]? = some l → RoRow w sp F v l
def FxK (w : World) (sp : Nat) (F : Nat → GRw) (w' : World) (F' : Nat → GRw) : Prop := ∀ b o, Fx w sp F b o → Fx w' sp F' b o
theorem FxK.trans {w w1 w2 : World} {sp : Nat} {F F1 F2 : Nat → GRw} (h : FxK w sp F w1 F1) (k : FxK w1 sp F1 w2 F2) : FxK w sp F w2 F2 := fun b o hx => k b o (h b o hx)
theorem Fx.cell_same {w w' : World} {sp b j : Nat} {F F' : Nat → GRw} {o : Obj} (h : Fx w sp F b o) (h' : Fx w' sp F' b o) : w'.cell? ⟨b, j, none⟩ = w.cell? ⟨b, j, none⟩ := by
  unfold World.cell?
  rw [h.at_, h'.at_]
theorem RoRow.keep {w w' : World} {sp : Nat} {F F' : Nat → GRw} {v : Value} {l : List Int} (h : RoRow w sp F v l) (hk : FxK w sp F w' F') : RoRow w' sp F' v l := by
  obtain ⟨A, c, hv, hr⟩ := h
  refine ⟨A, c, hv, fun j x hx => ?_⟩
  obtain ⟨g, o, hA, hf, hc⟩ := hr j x hx
  exact ⟨g, o, hA, hk _ _ hf, (hf.cell_same (hk _ _ hf)).trans hc⟩
theorem RoRows.keep {w w' : World} {sp gk m : Nat} {F F' : Nat → GRw} {ls : List (List Int)} (h : RoRows w sp F gk m ls) (hk : FxK w sp F w' F') : RoRows w' sp F' gk m ls := by
  obtain ⟨vs, o, h1, h2, h3, h4, h5⟩ := h
  exact ⟨vs, o, h1, h2, hk _ _ h3, fun j v hv => (h3.cell_same (hk _ _ h3)).trans (h4 j v hv), fun j v l hv hl => (h5 j v l hv hl).keep hk⟩
theorem RoRows.at {w : World} {sp gk m j : Nat} {F : Nat → GRw} {ls : List (List Int)} (h : RoRows w sp F gk m ls) (hj : j < m) : ∃ A c, w.cell? ⟨gk, j, none⟩ = some (.slice A (ls.getD j []).length c) ∧ RoRow w sp F (.slice A (ls.getD j []).length c) (ls.getD j []) := by
  obtain ⟨vs, o, h1, h2, h3, h4, h5⟩ := h
  have e1 : vs[j]? = some vs[j] := List.getElem?_eq_getElem (by omega)
  have e2 : ls[j]? = some ls[j] := List.getElem?_eq_getElem (by omega)
  have e3 : ls.getD j [] = ls[j] := by simp [List.getD, e2]
  have hr := h5 j _ _ e1 e2
  obtain ⟨A, c, hv, hx⟩ := id hr
  rw [e3]
  exact ⟨A, c, by rw [← hv]; exact h4 j _ e1, by rw [← hv]; exact hr⟩

/-- The search and what waits, as they lie. -/
structure RnS (base sp m : Nat) (w0 : World) (F0 : Nat → GRw) (w : World) (bu be ba bb gb : Nat) (vs : List Value) (PV : Value) (path : List Int) (s : Sr) (F : Nat → GRw) : Prop where
  ls : LsS base sp m w bu be ba bb PV path s.up s.early s.above s.best F
  wt : RowsAt F 5 gb m vs s.wait
  bw : Below base w0 w
  fx : FxK w0 sp F0 w F
section
variable {base sp m : Nat} {w0 w w' : World} {F0 F F' : Nat → GRw} {bu be ba bb gb : Nat} {vs : List Value} {PV PV' : Value} {path path' : List Int} {s : Sr}
theorem RnS.keep (h : RnS base sp m w0 F0 w bu be ba bb gb vs PV path s F) (hb : Below w.heap.size w w') : RnS base sp m w0 F0 w' bu be ba bb gb vs PV path s F :=
  ⟨h.ls.keep hb, h.wt, h.bw.trans (hb.mono h.ls.sq.hb), fun b o hx => (h.fx b o hx).keep hb⟩
theorem RnS.least {ab' be' : List Int} (h : RnS base sp m w0 F0 w bu be ba bb gb vs PV path s F) (h1 : LsS base sp m w' bu be ba bb PV' path' s.up s.early ab' be' F') (h2 : ∀ i, 4 < i → F' i = F i) (h3 : Below base w w') (h4 : ∀ b o, Fx w sp F b o → Fx w' sp F' b o) : RnS base sp m w0 F0 w' bu be ba bb gb vs PV' path' { s with above := ab', best := be' } F' :=
  ⟨h1, h.wt.same (fun i hi _ => h2 i (by omega)), h.bw.trans h3, h.fx.trans h4⟩
theorem RnS.set0 (h : RnS base sp m w0 F0 w bu be ba bb gb vs PV path s F) (j : Nat) (x : Int) : RnS base sp m w0 F0 (w.setCell ⟨bu, j, none⟩ (.int .i64 x)) bu be ba bb gb vs PV path { s with up := s.up.set j x } (upG F 0 (wholeR bu (s.up.set j x))) :=
  ⟨(h.ls.set0 j x).1, h.wt.off _ _ (by omega), h.bw.trans (h.ls.set0 j x).2, fun b o hx => (h.fx b o hx).put (by rw [h.ls.f0]; rfl) j _ _ rfl⟩
theorem RnS.set1 (h : RnS base sp m w0 F0 w bu be ba bb gb vs PV path s F) (j : Nat) (x : Int) : RnS base sp m w0 F0 (w.setCell ⟨be, j, none⟩ (.int .i64 x)) bu be ba bb gb vs PV path { s with early := s.early.set j x } (upG F 1 (wholeR be (s.early.set j x))) :=
  ⟨(h.ls.set1 j x).1, h.wt.off _ _ (by omega), h.bw.trans (h.ls.set1 j x).2, fun b o hx => (h.fx b o hx).put (by rw [h.ls.f1]; rfl) j _ _ rfl⟩
theorem RnS.set2 (h : RnS base sp m w0 F0 w bu be ba bb gb vs PV path s F) (j : Nat) (x : Int) : RnS base sp m w0 F0 (w.setCell ⟨ba, j, none⟩ (.int .i64 x)) bu be ba bb gb vs PV path { s with above := s.above.set j x } (upG F 2 (wholeR ba (s.above.set j x))) :=
  ⟨(h.ls.set2 j x).1, h.wt.off _ _ (by omega), h.bw.trans (h.ls.set2 j x).2, fun b o hx => (h.fx b o hx).put (by rw [h.ls.f2]; rfl) j _ _ rfl⟩
theorem LsS.other (h : LsS base sp m w bu be ba bb PV path s.up s.early s.above s.best F) {cs : List Value} (hs : Sq 225 w' base sp F' [sl bu m, sl be m, sl ba m, sl bb m, PV]) (hF : ∀ i, i < 5 → F' i = F i) : LsS base sp m w' bu be ba bb PV path s.up s.early s.above s.best F' :=
  ⟨hs, (hF 0 (by omega)).trans h.f0, (hF 1 (by omega)).trans h.f1, (hF 2 (by omega)).trans h.f2, (hF 3 (by omega)).trans h.f3, (hF 4 (by omega)).trans h.f4, h.l0, h.l1, h.l2, h.l3, h.mb⟩
/-- One more waits: the row is longer. -/
theorem RnS.wait1 {t g c2 : Nat} {v : Value} {l : List Int} {x : Int} (h : RnS base sp m w0 F0 w bu be ba bb gb vs PV path s F) (ht : t < m) (hv : vs[t]? = some v) (hl : s.wait[t]? = some l)
    (hg : w.grownBy w' v.ownBlock) (ho : w'.ownsRow base 3 1 (.slice (some ⟨g, 0, none⟩) (l.length + 1) c2) (l.length + 1) (intsV l ++ [.int .i64 x])) (hat : v.ownBlock = some g ∨ w.heap.size ≤ g) :
    ∃ F', Sq 225 w' base sp F' [sl bu m, sl be m, sl ba m, sl bb m, PV] ∧ F' 5 = ⟨64, 1, .slice (some ⟨gb, 0, none⟩) m m, m, vs⟩ ∧ F' 1 = F 1 ∧ ∃ F2, RnS base sp m w0 F0 (w'.setCell ⟨gb, t, none⟩ (.slice (some ⟨g, 0, none⟩) (l.length + 1) c2)) bu be ba bb gb (vs.set t (.slice (some ⟨g, 0, none⟩) (l.length + 1) c2)) PV path { s with wait := s.wait.set t (l ++ [x]) } F2 := by
  obtain ⟨hs1, hb1⟩ := h.wt.grown h.ls.sq hv hl hg ho hat
  have e5 : (upG F (5 + 1 + t) (intR (.slice (some ⟨g, 0, none⟩) (l.length + 1) c2) (l ++ [x]))) 5 = ⟨64, 1, .slice (some ⟨gb, 0, none⟩) m m, m, vs⟩ := by rw [upG_off _ _ _ _ (by omega)]; exact h.wt.2.2.1
  obtain ⟨hs2, hr2, hb2⟩ := h.wt.enter (u := .slice (some ⟨g, 0, none⟩) (l.length + 1) c2) (l' := l ++ [x]) ht hs1
  have hf : F (5 + 1 + t) = intR v l := h.wt.2.2.2 t v l hv hl
  refine ⟨_, hs1, e5, upG_off _ _ _ _ (by omega), _, h.ls.other (cs := []) hs2 (fun i hi => by rw [upG_off _ _ _ _ (by omega), upG_off _ _ _ _ (by omega)]), hr2, h.bw.trans (hb1.trans hb2), fun b o hx => ?_⟩
  have h1 := (h.fx b o hx).grown (5 + 1 + t) (by rw [hf]; exact hg) (intR (.slice (some ⟨g, 0, none⟩) (l.length + 1) c2) (l ++ [x])) (fun g' e => by
    simp only [intR, Value.ownBlock, Option.some.injEq] at e
    subst e
    rw [hf]
    exact hat)
  exact h1.put (by rw [e5]; rfl) t _ _ rfl
/-- Nobody waits here any more. -/
theorem RnS.clear {t : Nat} (h : RnS base sp m w0 F0 w bu be ba bb gb vs PV path s F) (ht : t < m) : ∃ F2, RnS base sp m w0 F0 (w.setCell ⟨gb, t, none⟩ (.slice none 0 0)) bu be ba bb gb (vs.set t (.slice none 0 0)) PV path (clearS t s) F2 := by
  have hs1 := h.ls.sq.grown (5 + 1 + t) (World.grownBy.refl _ _) (intR (.slice none 0 0) []) (World.ownsRow_nil _ _ _ _) (fun g e => by simp [intR, Value.ownBlock] at e)
  have e5 : (upG F (5 + 1 + t) (intR (.slice none 0 0) [])) 5 = ⟨64, 1, .slice (some ⟨gb, 0, none⟩) m m, m, vs⟩ := by rw [upG_off _ _ _ _ (by omega)]; exact h.wt.2.2.1
  obtain ⟨hs2, hr2, hb2⟩ := h.wt.enter (u := .slice none 0 0) (l' := []) ht hs1
  refine ⟨_, h.ls.other (cs := []) hs2 (fun i hi => by rw [upG_off _ _ _ _ (by omega), upG_off _ _ _ _ (by omega)]), hr2, h.bw.trans hb2, fun b o hx => ?_⟩
  have h1 := (h.fx b o hx).grown (5 + 1 + t) (World.grownBy.refl _ _) (intR (.slice none 0 0) []) (fun g' e => by simp [intR, Value.ownBlock] at e)
  exact h1.put (by rw [e5]; rfl) t _ _ rfl
end
end Go.Proofs.Ytagagpappjkgbaa
