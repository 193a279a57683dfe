/-
  Programs that may be: instructions, blocks, functions as they lie; has, isType, hasArg, asks.
  Programs that may be: asks, goes.
-/
import Derived.Test.YtglobeajmdieaaaJe1
import Derived.BigQuiet
import Derived.Deep.DeepCutAuto
import Derived.Deep.CutBlock
namespace Go.Proofs.Ytglobeajmdieaaa
set_option linter.unusedVariables false
set_option linter.unusedSimpArgs false
open Go.RowKit

/-- An instruction, a block, over plain data. -/
structure SIn where
  op : Int
  ty : Int
  args : List Int
  n : Int
  to_ : Int
structure SB where
  list : List Int
  preds : List Int
  kind : Int
  arg : Int
  to_ : List Int
structure SF where
  params : List Int
  ret : Int
  ins : List SIn
  blocks : List SB
/-- Instructions as they lie, below n0. -/
def SIs (n0 : Nat) (w : World) (v : Value) (l : List SIn) : Prop := ∃ A c, v = .slice A l.length c ∧ (0 < l.length → ∃ b o, A = some ⟨b, o, none⟩ ∧ b < n0 ∧
  ∀ j d, l[j]? = some d → ∃ av, w.cell? ⟨b, o + j * 5, none⟩ = some (.int .i64 d.op) ∧ w.cell? ⟨b, o + j * 5 + 1, none⟩ = some (.int .i64 d.ty) ∧ w.cell? ⟨b, o + j * 5 + 2, none⟩ = some av ∧ w.cell? ⟨b, o + j * 5 + 3, none⟩ = some (.int .i64 d.n) ∧ w.cell? ⟨b, o + j * 5 + 4, none⟩ = some (.int .i64 d.to_) ∧ GNs n0 w av d.args)
theorem SIs.keep {n0 : Nat} {w w' : World} {v : Value} {l : List SIn} (h : SIs n0 w v l) (hb : Below n0 w w') : SIs n0 w' v l := by
  obtain ⟨A, c, hv, hr⟩ := h
  refine ⟨A, c, hv, fun hp => ?_⟩
  obtain ⟨b, o, hA, hbn, hc⟩ := hr hp
  refine ⟨b, o, hA, hbn, fun j d hd => ?_⟩
  obtain ⟨av, h0, h1, h2, h3, h4, h5⟩ := hc j d hd
  have k : ∀ q, w'.cell? ⟨b, q, none⟩ = w.cell? ⟨b, q, none⟩ := fun q => hb.cell (p := ⟨b, q, none⟩) hbn
  exact ⟨av, (k _).trans h0, (k _).trans h1, (k _).trans h2, (k _).trans h3, (k _).trans h4, h5.keep hb⟩
theorem SIs.mono {n0 n1 : Nat} {w : World} {v : Value} {l : List SIn} (h : SIs n0 w v l) (hn : n0 ≤ n1) : SIs n1 w v l := by
  obtain ⟨A, c, hv, hr⟩ := h
  refine ⟨A, c, hv, fun hp => ?_⟩
  obtain ⟨b, o, hA, hbn, hc⟩ := hr hp
  refine ⟨b, o, hA, by omega, fun j d hd => ?_⟩
  obtain ⟨av, h0, h1, h2, h3, h4, h5⟩ := hc j d hd
  exact ⟨av, h0, h1, h2, h3, h4, h5.mono hn⟩
theorem SIs.at {n0 : Nat} {w : World} {A : Option Addr} {m c : Nat} {l : List SIn} (h : SIs n0 w (.slice A m c) l) {j : Nat} (hj : j < l.length) :
    ∃ b o aA ac, A = some ⟨b, o, none⟩ ∧ b < n0 ∧ w.cell? ⟨b, o + j * 5, none⟩ = some (.int .i64 l[j].op) ∧ w.cell? ⟨b, o + j * 5 + 1, none⟩ = some (.int .i64 l[j].ty) ∧ w.cell? ⟨b, o + j * 5 + 2, none⟩ = some (.slice aA l[j].args.length ac) ∧ w.cell? ⟨b, o + j * 5 + 3, none⟩ = some (.int .i64 l[j].n) ∧ w.cell? ⟨b, o + j * 5 + 4, none⟩ = some (.int .i64 l[j].to_) ∧ GNs n0 w (.slice aA l[j].args.length ac) l[j].args := by
  obtain ⟨A', c', hv, hr⟩ := h
  obtain ⟨b, o, hA, hbn, hc⟩ := hr (by omega)
  injection hv with e1
  subst e1
  obtain ⟨av, h0, h1, h2, h3, h4, h5⟩ := hc j _ (List.getElem?_eq_getElem hj)
  obtain ⟨aA, ac, rfl, _⟩ := id h5
  exact ⟨b, o, aA, ac, hA, hbn, h0, h1, h2, h3, h4, h5⟩
/-- Blocks with their lists, as they lie. -/
def SBs (n0 : Nat) (w : World) (v : Value) (l : List SB) : Prop := ∃ A c, v = .slice A l.length c ∧ (0 < l.length → ∃ b o, A = some ⟨b, o, none⟩ ∧ b < n0 ∧
  ∀ j d, l[j]? = some d → ∃ lv pv tv, w.cell? ⟨b, o + j * 5, none⟩ = some lv ∧ w.cell? ⟨b, o + j * 5 + 1, none⟩ = some pv ∧ w.cell? ⟨b, o + j * 5 + 2, none⟩ = some (.int .i64 d.kind) ∧ w.cell? ⟨b, o + j * 5 + 3, none⟩ = some (.int .i64 d.arg) ∧ w.cell? ⟨b, o + j * 5 + 4, none⟩ = some tv ∧ GNs n0 w lv d.list ∧ GNs n0 w pv d.preds ∧ GNs n0 w tv d.to_)
theorem SBs.keep {n0 : Nat} {w w' : World} {v : Value} {l : List SB} (h : SBs n0 w v l) (hb : Below n0 w w') : SBs n0 w' v l := by
  obtain ⟨A, c, hv, hr⟩ := h
  refine ⟨A, c, hv, fun hp => ?_⟩
  obtain ⟨b, o, hA, hbn, hc⟩ := hr hp
  refine ⟨b, o, hA, hbn, fun j d hd => ?_⟩
  obtain ⟨lv, pv, tv, h0, h1, h2, h3, h4, h5, h6, h7⟩ := hc j d hd
  have k : ∀ q, w'.cell? ⟨b, q, none⟩ = w.cell? ⟨b, q, none⟩ := fun q => hb.cell (p := ⟨b, q, none⟩) hbn
  exact ⟨lv, pv, tv, (k _).trans h0, (k _).trans h1, (k _).trans h2, (k _).trans h3, (k _).trans h4, h5.keep hb, h6.keep hb, h7.keep hb⟩
theorem SBs.mono {n0 n1 : Nat} {w : World} {v : Value} {l : List SB} (h : SBs n0 w v l) (hn : n0 ≤ n1) : SBs n1 w v l := by
  obtain ⟨A, c, hv, hr⟩ := h
  refine ⟨A, c, hv, fun hp => ?_⟩
  obtain ⟨b, o, hA, hbn, hc⟩ := hr hp
  refine ⟨b, o, hA, by omega, fun j d hd => ?_⟩
  obtain ⟨lv, pv, tv, h0, h1, h2, h3, h4, h5, h6, h7⟩ := hc j d hd
  exact ⟨lv, pv, tv, h0, h1, h2, h3, h4, h5.mono hn, h6.mono hn, h7.mono hn⟩
theorem SBs.at {n0 : Nat} {w : World} {A : Option Addr} {m c : Nat} {l : List SB} (h : SBs n0 w (.slice A m c) l) {j : Nat} (hj : j < l.length) :
    ∃ b o lA lc pA pc tA tc, A = some ⟨b, o, none⟩ ∧ b < n0 ∧ w.cell? ⟨b, o + j * 5, none⟩ = some (.slice lA l[j].list.length lc) ∧ w.cell? ⟨b, o + j * 5 + 1, none⟩ = some (.slice pA l[j].preds.length pc) ∧ w.cell? ⟨b, o + j * 5 + 2, none⟩ = some (.int .i64 l[j].kind) ∧ w.cell? ⟨b, o + j * 5 + 3, none⟩ = some (.int .i64 l[j].arg) ∧ w.cell? ⟨b, o + j * 5 + 4, none⟩ = some (.slice tA l[j].to_.length tc) ∧
      GNs n0 w (.slice lA l[j].list.length lc) l[j].list ∧ GNs n0 w (.slice pA l[j].preds.length pc) l[j].preds ∧ GNs n0 w (.slice tA l[j].to_.length tc) l[j].to_ := by
  obtain ⟨A', c', hv, hr⟩ := h
  obtain ⟨b, o, hA, hbn, hc⟩ := hr (by omega)
  injection hv with e1
  subst e1
  obtain ⟨lv, pv, tv, h0, h1, h2, h3, h4, h5, h6, h7⟩ := hc j _ (List.getElem?_eq_getElem hj)
  obtain ⟨lA, lc, rfl, _⟩ := id h5
  obtain ⟨pA, pc, rfl, _⟩ := id h6
  obtain ⟨tA, tc, rfl, _⟩ := id h7
  exact ⟨b, o, lA, lc, pA, pc, tA, tc, hA, hbn, h0, h1, h2, h3, h4, h5, h6, h7⟩
/-- The subject: its program's functions and Main, its function, its two rows. -/
def SubC (w : World) (sb : Nat) (fA : Option Addr) (fn fc : Nat) (mn : Int) (s : ByteArray) (pA : Option Addr) (pn pc : Nat) (r : Int) (iA : Option Addr) (in_ ic : Nat) (bA : Option Addr) (bn bc : Nat) (vi va : Value) : Prop :=
  w.heap[sb]? = some (.cells #[.slice fA fn fc, .int .i64 mn, .string s, .slice pA pn pc, .int .i64 r, .slice iA in_ ic, .slice bA bn bc, vi, va] 51 (0, 0))

def isTypeP (t : Int) : Bool := decide (0 ≤ t ∧ t ≤ 4)
theorem isType_g (t : Int) (w : World) : Calls Try.prog 30 #[.int .i64 t] w fun e w' => e = .returned (.bool (isTypeP t)) ∧ w' = w := by
  by_cases h0 : 0 ≤ t
  · by_cases h1 : t ≤ 4
    · have e : isTypeP t = true := decide_eq_true ⟨h0, h1⟩
      rw [e]
      go_enter Try.func30, Try.ntmps30
      go_wp2
      go_ret
      exact ⟨rfl, rfl⟩
    · have e : isTypeP t = false := decide_eq_false (fun h => h1 h.2)
      rw [e]
      go_enter Try.func30, Try.ntmps30
      go_wp2
      go_ret
      exact ⟨rfl, rfl⟩
  · have e : isTypeP t = false := decide_eq_false (fun h => h0 h.1)
    rw [e]
    go_enter Try.func30, Try.ntmps30
    go_wp2
    go_ret
    exact ⟨rfl, rfl⟩
theorem sound_has_g (fA : Option Addr) (fn fc : Nat) (mn n : Int) (w : World) : Calls Try.prog 17 #[.agg #[.slice fA fn fc, .int .i64 mn], .int .i64 n] w fun e w' => e = .returned (.bool (hasG fn n)) ∧ Below w.heap.size w w' := by
  obtain ⟨W, hW, hbW, hzW, h0W⟩ := gr_one w #[.slice fA fn fc, .int .i64 mn] 26
  have x0 := Lib.cell_of_heap h0W 0
  have x1 := Lib.cell_of_heap h0W 1
  have HbW := Lib.hid hbW
  have HW := Lib.hid hW
  clear hbW hW h0W hzW
  go_enter Try.func17, Try.ntmps17
  by_cases hp : 0 ≤ n
  · by_cases hq : n < fn
    · go_upto_region 1 with fail
      rw [← HW.out]
      go_wp2
      go_ret
      exact ⟨by simp [hasG, hp, hq], HbW.out⟩
    · go_upto_region 1 with fail
      rw [← HW.out]
      go_wp2
      go_ret
      exact ⟨by simp [hasG, hp, hq], HbW.out⟩
  · go_upto_region 1 with fail
    rw [← HW.out]
    go_wp2
    go_ret
    exact ⟨by simp [hasG]; omega, HbW.out⟩

def hasArgP (r kind : Int) : Bool := (kind == 2) || ((kind == 3) && (r != 0))
set_option maxRecDepth 100000 in
theorem hasArg_g (sb : Nat) (fA : Option Addr) (fn fc : Nat) (mn : Int) (s : ByteArray) (pA : Option Addr) (pn pc : Nat) (r : Int) (iA : Option Addr) (in_ ic : Nat) (bA : Option Addr) (bn bc : Nat) (vi va : Value) (kind arg : Int) (tA : Option Addr) (tn tc : Nat) (w : World) (h : SubC w sb fA fn fc mn s pA pn pc r iA in_ ic bA bn bc vi va) :
    Calls Try.prog 39 #[.pointer (some ⟨sb, 0, none⟩), .agg #[.int .i64 kind, .int .i64 arg, .slice tA tn tc]] w fun e w' => e = .returned (.bool (hasArgP r kind)) ∧ Below w.heap.size w w' := by
  obtain ⟨W, hW, hbW, hzW, h0W⟩ := gr_one w #[.int .i64 kind, .int .i64 arg, .slice tA tn tc] 60
  have x0 := Lib.cell_of_heap h0W 0
  have x1 := Lib.cell_of_heap h0W 1
  have x2 := Lib.cell_of_heap h0W 2
  have y4 := Lib.cell_of_heap ((hbW.block sb (gr_in h)).trans h) 4
  have HbW := Lib.hid hbW
  have HW := Lib.hid hW
  clear hbW h0W hzW h
  rw [hW] at x0 x1 x2 y4
  clear hW
  by_cases h2 : kind = 2
  · have d2 : (kind == 2) = true := by simpa using h2
    have e : hasArgP r kind = true := by unfold hasArgP; rw [d2]; rfl
    rw [e]
    clear e h2
    go_enter Try.func39, Try.ntmps39
    go_wp2
    rw [← HW.out]
    go_ret
    exact ⟨rfl, HbW.out⟩
  · have d2 : (kind == 2) = false := by simpa using h2
    by_cases h3 : kind = 3
    · have d3 : (kind == 3) = true := by simpa using h3
      have e : hasArgP r kind = (r != 0) := by unfold hasArgP; rw [d2, d3]; simp
      rw [e]
      clear e h2 h3
      go_enter Try.func39, Try.ntmps39
      go_wp2
      rw [← HW.out]
      go_ret
      exact ⟨rfl, HbW.out⟩
    · have d3 : (kind == 3) = false := by simpa using h3
      have e : hasArgP r kind = false := by unfold hasArgP; rw [d2, d3]; rfl
      rw [e]
      clear e h2 h3
      go_enter Try.func39, Try.ntmps39
      go_wp2
      rw [← HW.out]
      go_ret
      exact ⟨rfl, HbW.out⟩
end Go.Proofs.Ytglobeajmdieaaa
namespace Go.Proofs.Ytglobeajmdieaaa
set_option linter.unusedVariables false
set_option linter.unusedSimpArgs false
open Go.RowKit

attribute [local go_sem] Oper.semAt_some

def asksP (r kind arg : Int) (ni : Nat) : Bool := if hasArgP r kind then decide (0 ≤ arg) && decide (arg < ni) else arg == -1
set_option maxRecDepth 100000 in
theorem asks_g (sb : Nat) (fA : Option Addr) (fn fc : Nat) (mn : Int) (s : ByteArray) (pA : Option Addr) (pn pc : Nat) (r : Int) (iA : Option Addr) (in_ ic : Nat) (bA : Option Addr) (bn bc : Nat) (vi va : Value) (kind arg : Int) (tA : Option Addr) (tn tc : Nat) (w : World) (h : SubC w sb fA fn fc mn s pA pn pc r iA in_ ic bA bn bc vi va) :
    Calls Try.prog 32 #[.pointer (some ⟨sb, 0, none⟩), .agg #[.int .i64 kind, .int .i64 arg, .slice tA tn tc]] w fun e w' => e = .returned (.bool (asksP r kind arg in_)) ∧ Below w.heap.size w w' := by
  obtain ⟨W, hW, hbW, hzW, h0W⟩ := gr_one w #[.int .i64 kind, .int .i64 arg, .slice tA tn tc] 60
  have hsb := gr_in h
  have hs2 : SubC W sb fA fn fc mn s pA pn pc r iA in_ ic bA bn bc vi va := (hbW.block sb hsb).trans h
  have hH := hasArg_g sb fA fn fc mn s pA pn pc r iA in_ ic bA bn bc vi va kind arg tA tn tc W hs2
  have HK : Hid (∀ A, Below W.heap.size W A → A.cell? ⟨w.heap.size, 0, none⟩ = some (.int .i64 kind) ∧ A.cell? ⟨w.heap.size, 1, none⟩ = some (.int .i64 arg) ∧ A.cell? ⟨w.heap.size, 2, none⟩ = some (.slice tA tn tc) ∧ A.cell? ⟨sb, 5, none⟩ = some (.slice iA in_ ic)) := Lib.hid fun A hA => by
    have e1 := (hA.block w.heap.size (by omega)).trans h0W
    have e2 := (hA.block sb (gr_in hs2)).trans hs2
    exact ⟨Lib.cell_of_heap e1 0, Lib.cell_of_heap e1 1, Lib.cell_of_heap e1 2, Lib.cell_of_heap e2 5⟩
  obtain ⟨x0, x1, x2, -⟩ := HK.out W (Below.refl _ _)
  have HbW := Lib.hid hbW
  have HW := Lib.hid hW
  have hd : ∀ (V : World) (q : Nat), Below W.heap.size W V → Below w.heap.size w (V.drewN q) := fun V q hV => hbW.trans ((below_dr hV q).mono (by omega))
  have Hd := Lib.hid hd
  clear hbW hW h0W hzW h hs2 hsb hd
  cases hq : hasArgP r kind with
  | true =>
    rw [hq] at hH
    by_cases h0 : 0 ≤ arg
    · have d0 : decide (arg ≥ 0) = true := decide_eq_true h0
      have e : asksP r kind arg in_ = decide (arg < (in_ : Int)) := by unfold asksP; rw [if_pos hq, decide_eq_true h0]; rfl
      rw [e]
      clear e hq h0
      go_enter Try.func32, Try.ntmps32
      go_upto_region 1 with fail
      rw [← HW.out]
      go_upto_region 2 with (go_at_call 39; refine hH.mono ?_; rintro e w2 ⟨rfl, hb2⟩; obtain ⟨y0, y1, y2, y3⟩ := HK.out w2 hb2; have Hb2 := Lib.hid hb2; clear hb2 hH)
      go_quiet (fail)
      go_wp2
      go_ret
      exact ⟨rfl, Hd.out w2 _ Hb2.out⟩
    · have d0 : decide (arg ≥ 0) = false := decide_eq_false h0
      have e : asksP r kind arg in_ = false := by unfold asksP; rw [if_pos hq, decide_eq_false h0]; rfl
      rw [e]
      clear e hq h0
      go_enter Try.func32, Try.ntmps32
      go_upto_region 1 with fail
      rw [← HW.out]
      go_upto_region 2 with (go_at_call 39; refine hH.mono ?_; rintro e w2 ⟨rfl, hb2⟩; obtain ⟨y0, y1, y2, y3⟩ := HK.out w2 hb2; have Hb2 := Lib.hid hb2; clear hb2 hH)
      go_quiet (fail)
      go_wp2
      go_ret
      exact ⟨rfl, Hd.out w2 _ Hb2.out⟩
  | false =>
    rw [hq] at hH
    have e : asksP r kind arg in_ = (arg == -1) := by unfold asksP; rw [hq]; rfl
    rw [e]
    clear e hq
    go_enter Try.func32, Try.ntmps32
    go_upto_region 1 with fail
    rw [← HW.out]
    go_wp2_with (go_at_call 39; refine hH.mono ?_; rintro e w2 ⟨rfl, hb2⟩; obtain ⟨y0, y1, y2, y3⟩ := HK.out w2 hb2; have Hb2 := Lib.hid hb2; clear hb2 hH)
    go_ret
    exact ⟨rfl, Hd.out w2 0 Hb2.out⟩

def manyS (kind : Int) : Option Int := if kind = 1 then some 1 else if kind = 2 then some 2 else if kind = 3 then some 0 else none
def inB (bn : Nat) (t : Int) : Bool := decide (1 ≤ t) && decide (t < bn)
def goesP (bn : Nat) (kind : Int) (to_ : List Int) : Bool := match manyS kind with
  | none => false
  | some m => if (to_.length : Int) = m then (if m = 2 ∧ to_.getD 0 0 = to_.getD 1 0 then false else to_.all (inB bn)) else false
set_option maxRecDepth 100000 in
set_option maxHeartbeats 4000000 in
theorem goes_g (sb : Nat) (fA : Option Addr) (fn fc : Nat) (mn : Int) (s : ByteArray) (pA : Option Addr) (pn pc : Nat) (r : Int) (iA : Option Addr) (in_ ic : Nat) (bA : Option Addr) (bn bc : Nat) (vi va : Value) (kind arg : Int) (tA : Option Addr) (tn tc : Nat) (to_ : List Int) (w : World) (h : SubC w sb fA fn fc mn s pA pn pc r iA in_ ic bA bn bc vi va) (ht : GNs w.heap.size w (.slice tA tn tc) to_) (htb : tn ≤ 1048576) :
    Calls Try.prog 31 #[.pointer (some ⟨sb, 0, none⟩), .agg #[.int .i64 kind, .int .i64 arg, .slice tA tn tc]] w fun e w' => e = .returned (.bool (goesP bn kind to_)) ∧ Below w.heap.size w w' := by
  obtain ⟨W, hW, hbW, hzW, h0W⟩ := gr_one w #[.int .i64 kind, .int .i64 arg, .slice tA tn tc] 60
  have htl := ht.len
  have hc : ∀ (V : World), Below W.heap.size W V → V.cell? ⟨w.heap.size, 0, none⟩ = some (.int .i64 kind) ∧ V.cell? ⟨w.heap.size, 2, none⟩ = some (.slice tA tn tc) ∧ V.cell? ⟨sb, 6, none⟩ = some (.slice bA bn bc) ∧ ∀ j, j < tn → ∃ g o, tA = some ⟨g, o, none⟩ ∧ V.cell? ⟨g, o + j, none⟩ = some (.int .i64 (to_.getD j 0)) := fun V hV => by
    have e1 := (hV.block w.heap.size (by omega)).trans h0W
    have e2 := (hV.block sb (by have := gr_in h; omega)).trans ((hbW.block sb (gr_in h)).trans h)
    refine ⟨Lib.cell_of_heap e1 0, Lib.cell_of_heap e1 2, Lib.cell_of_heap e2 6, fun j hj => ?_⟩
    have hg := (ht.keep hbW).keep (hV.mono (by omega))
    obtain ⟨g, o, hA, _, hcj⟩ := hg.at (j := j) (by omega)
    exact ⟨g, o, hA, by rw [hcj]; simp [List.getD, (by omega : j < to_.length)]⟩
  have Hc := Lib.hid hc
  have HbW := Lib.hid hbW
  have HW := Lib.hid hW
  have Htl := Lib.hid htl
  obtain ⟨res, hres⟩ : ∃ res, res = goesP bn kind to_ := ⟨_, rfl⟩
  rw [← hres]
  unfold goesP at hres
  have Hd : Hid (∀ q, Below w.heap.size w (W.drewN q)) := Lib.hid fun q => below_dr hbW q
  clear hbW hW h0W hzW h hc ht htl
  obtain ⟨x0, x2, x6, -⟩ := Hc.out W (Below.refl _ _)
  go_enter Try.func31, Try.ntmps31
  go_upto_region 2 with fail
  rw [← HW.out]
  go_upto_block 0 with fail
  go_cut [5] (fun u5 wx => ∃ m : Int, u5 = .int .i64 m ∧ 0 ≤ m ∧ m ≤ 2 ∧ manyS kind = some m ∧ wx = W)
  case first =>
    by_cases h1 : kind = 1
    · have d1 : (kind == 1) = true := by simpa using h1
      have hm : manyS kind = some 1 := by unfold manyS; rw [if_pos h1]
      clear h1 hres
      go_wp2_with fail
      go_meet
      exact ⟨1, rfl, by omega, by omega, hm, rfl⟩
    · have d1 : (kind == 1) = false := by simpa using h1
      by_cases h2 : kind = 2
      · have d2 : (kind == 2) = true := by simpa using h2
        have hm : manyS kind = some 2 := by unfold manyS; rw [if_neg h1, if_pos h2]
        clear h1 h2 hres
        go_wp2_with fail
        go_meet
        exact ⟨2, rfl, by omega, by omega, hm, rfl⟩
      · have d2 : (kind == 2) = false := by simpa using h2
        by_cases h3 : kind = 3
        · have d3 : (kind == 3) = true := by simpa using h3
          have hm : manyS kind = some 0 := by unfold manyS; rw [if_neg h1, if_neg h2, if_pos h3]
          clear h1 h2 h3 hres
          go_wp2_with fail
          go_meet
          exact ⟨0, rfl, by omega, by omega, hm, rfl⟩
        · have d3 : (kind == 3) = false := by simpa using h3
          have hm : manyS kind = none := by unfold manyS; rw [if_neg h1, if_neg h2, if_neg h3]
          rw [hm] at hres
          dsimp only at hres
          subst hres
          clear h1 h2 h3 hm
          go_wp2_with fail
          go_ret
          exact ⟨rfl, HbW.out⟩
  case rest =>
  obtain ⟨m, rfl, hm0, hm2, hmk, hwx⟩ := hcut
  subst hwx
  rw [hmk] at hres
  dsimp only at hres
  clear hmk
  by_cases hlm : (tn : Int) = m
  · have d1 : ((tn : Int) != m) = false := by simp; omega
    rw [if_pos (by rw [← Htl.out]; exact hlm)] at hres
    have key : ∀ V : World, V = wc.drewN V.drawn → True := fun _ _ => trivial
    by_cases hm22 : m = 2
    · subst hm22
      obtain ⟨-, -, -, hrd⟩ := Hc.out wc (Below.refl _ _)
      obtain ⟨g, o, rfl, k0⟩ := hrd 0 (by omega)
      obtain ⟨g', o', hgo, k1⟩ := hrd 1 (by omega)
      obtain ⟨rfl, rfl⟩ : g = g' ∧ o = o' := by simpa using hgo
      rw [Nat.add_zero] at k0
      obtain ⟨t0, ht0⟩ : ∃ t, t = to_.getD 0 0 := ⟨_, rfl⟩
      obtain ⟨t1, ht1⟩ : ∃ t, t = to_.getD 1 0 := ⟨_, rfl⟩
      rw [← ht0] at k0 hres
      rw [← ht1] at k1 hres
      have hb0 : (0 : Int) < (tn : Int) := by omega
      have hb1 : (1 : Int) < (tn : Int) := by omega
      by_cases h01 : t0 = t1
      · have d2 : (t0 == t1) = true := by simpa using h01
        rw [if_pos ⟨rfl, h01⟩] at hres
        subst hres
        clear h01 ht0 ht1 hrd hgo key
        go_upto_region 9 with fail
        go_quiet (fail)
        go_wp2
        go_ret
        exact ⟨rfl, Hd.out _⟩
      · have d2 : (t0 == t1) = false := by simpa using h01
        rw [if_neg (fun h => h01 h.2)] at hres
        have Hres := Lib.hid hres
        clear h01 ht0 ht1 hrd hgo key hres
        go_upto_region 9 with fail
        go_quiet (fail)
        have HB : Hid (Below wc.heap.size wc (wc.drewN nq)) := Lib.hid (below_dr (Below.refl _ _) nq)
        obtain ⟨y0, y2, y6, -⟩ := Hc.out _ HB.out
        clear x0 x2 x6
        obtain ⟨V, hV⟩ : ∃ V, V = wc.drewN nq := ⟨_, rfl⟩
        have HV := Lib.hid hV
        rw [← hV] at y0 y2 y6 HB ⊢
        clear hV
        go_upto_block 1 with fail
        go_wp2_with fail
        go_loopw [39] (fun u39 wr => ∃ i : Nat, i ≤ tn ∧ u39 = .int .i64 i ∧ Hid ((to_.take i).all (inB bn) = true) ∧ wr = V) (fun u39 _ => tn - (intOf u39).toNat)
        case atStart => exact ⟨0, Nat.zero_le _, rfl, Lib.hid (by simp), by trivial⟩
        case round =>
          obtain ⟨i, hi, rfl, HA, rfl⟩ := hrel
          by_cases hli : i < tn
          · obtain ⟨-, -, -, hrd⟩ := Hc.out wr HB.out
            obtain ⟨gg, oo, hAe, k7⟩ := hrd i hli
            obtain ⟨t, ht⟩ : ∃ t, t = to_.getD i 0 := ⟨_, rfl⟩
            rw [← ht] at k7
            have hil : i < to_.length := by rw [← Htl.out]; exact hli
            have htk : (to_.take (i + 1)).all (inB bn) = inB bn t := by
              rw [← List.take_append_getElem hil, List.all_append, HA.out, ht]
              simp [List.getD, hil]
            have Htk := Lib.hid htk
            have hmem : Hid (inB bn t = false → to_.all (inB bn) = false) := Lib.hid fun hf => by
              cases hq : to_.all (inB bn) with
              | false => rfl
              | true =>
                have := List.all_eq_true.1 hq to_[i] (List.getElem_mem hil)
                rw [ht] at hf
                simp [List.getD, hil] at hf
                rw [hf] at this; cases this
            first
              | (subst hAe; have tok : True := trivial)
              | (obtain ⟨rfl, rfl⟩ : g = gg ∧ o = oo := by simpa using hAe)
            clear htk hil hrd ht HA
            by_cases h1 : t < 1
            · have e1 : decide (t < 1) = true := decide_eq_true h1
              have hf : res = false := by rw [Hres.out]; exact hmem.out (by unfold inB; rw [decide_eq_false (by omega)]; rfl)
              subst hf
              go_wp2_with fail
              go_ret
              exact ⟨rfl, by rw [HV.out]; exact Hd.out _⟩
            · have e1 : decide (t < 1) = false := decide_eq_false h1
              by_cases h2 : t ≥ (bn : Int)
              · have e2 : decide (t ≥ (bn : Int)) = true := decide_eq_true h2
                have hf : res = false := by rw [Hres.out]; exact hmem.out (by unfold inB; rw [decide_eq_false (by omega : ¬ t < (bn : Int))]; simp)
                subst hf
                go_wp2_with fail
                go_ret
                exact ⟨rfl, by rw [HV.out]; exact Hd.out _⟩
              · have e2 : decide (t ≥ (bn : Int)) = false := decide_eq_false h2
                have HA2 : Hid ((to_.take (i + 1)).all (inB bn) = true) := Lib.hid (by rw [Htk.out]; unfold inB; rw [decide_eq_true (by omega : 1 ≤ t), decide_eq_true (by omega : t < (bn : Int))]; rfl)
                clear h1 h2
                go_wp2_with fail
                go_roundw
                case rel => exact ⟨i + 1, by omega, by go_num, HA2, by trivial⟩
                case measure => simp [intOf]; omega
          · obtain rfl : tn = i := by omega
            have hf : res = true := by rw [Hres.out]; have := HA.out; rw [Htl.out, List.take_length] at this; exact this
            subst hf
            go_wp2_with fail
            go_ret
            exact ⟨rfl, by rw [HV.out]; exact Hd.out _⟩
    · rw [if_neg (fun h => hm22 h.1)] at hres
      have d2 : (m == 2) = false := by simpa using hm22
      have Hres := Lib.hid hres
      clear key hres hm22
      go_upto_region 9 with fail
      go_quiet (fail)
      have HB : Hid (Below wc.heap.size wc (wc.drewN nq)) := Lib.hid (below_dr (Below.refl _ _) nq)
      obtain ⟨y0, y2, y6, -⟩ := Hc.out _ HB.out
      clear x0 x2 x6
      obtain ⟨V, hV⟩ : ∃ V, V = wc.drewN nq := ⟨_, rfl⟩
      have HV := Lib.hid hV
      rw [← hV] at y0 y2 y6 HB ⊢
      clear hV
      go_upto_block 1 with fail
      go_wp2_with fail
      go_loopw [39] (fun u39 wr => ∃ i : Nat, i ≤ tn ∧ u39 = .int .i64 i ∧ Hid ((to_.take i).all (inB bn) = true) ∧ wr = V) (fun u39 _ => tn - (intOf u39).toNat)
      case atStart => exact ⟨0, Nat.zero_le _, rfl, Lib.hid (by simp), by trivial⟩
      case round =>
        obtain ⟨i, hi, rfl, HA, rfl⟩ := hrel
        by_cases hli : i < tn
        · obtain ⟨-, -, -, hrd⟩ := Hc.out wr HB.out
          obtain ⟨gg, oo, hAe, k7⟩ := hrd i hli
          obtain ⟨t, ht⟩ : ∃ t, t = to_.getD i 0 := ⟨_, rfl⟩
          rw [← ht] at k7
          have hil : i < to_.length := by rw [← Htl.out]; exact hli
          have htk : (to_.take (i + 1)).all (inB bn) = inB bn t := by
            rw [← List.take_append_getElem hil, List.all_append, HA.out, ht]
            simp [List.getD, hil]
          have Htk := Lib.hid htk
          have hmem : Hid (inB bn t = false → to_.all (inB bn) = false) := Lib.hid fun hf => by
            cases hq : to_.all (inB bn) with
            | false => rfl
            | true =>
              have := List.all_eq_true.1 hq to_[i] (List.getElem_mem hil)
              rw [ht] at hf
              simp [List.getD, hil] at hf
              rw [hf] at this; cases this
          first
            | (subst hAe; have tok : True := trivial)
            | (obtain ⟨rfl, rfl⟩ : g = gg ∧ o = oo := by simpa using hAe)
          clear htk hil hrd ht HA
          by_cases h1 : t < 1
          · have e1 : decide (t < 1) = true := decide_eq_true h1
            have hf : res = false := by rw [Hres.out]; exact hmem.out (by unfold inB; rw [decide_eq_false (by omega)]; rfl)
            subst hf
            go_wp2_with fail
            go_ret
            exact ⟨rfl, by rw [HV.out]; exact Hd.out _⟩
          · have e1 : decide (t < 1) = false := decide_eq_false h1
            by_cases h2 : t ≥ (bn : Int)
            · have e2 : decide (t ≥ (bn : Int)) = true := decide_eq_true h2
              have hf : res = false := by rw [Hres.out]; exact hmem.out (by unfold inB; rw [decide_eq_false (by omega : ¬ t < (bn : Int))]; simp)
              subst hf
              go_wp2_with fail
              go_ret
              exact ⟨rfl, by rw [HV.out]; exact Hd.out _⟩
            · have e2 : decide (t ≥ (bn : Int)) = false := decide_eq_false h2
              have HA2 : Hid ((to_.take (i + 1)).all (inB bn) = true) := Lib.hid (by rw [Htk.out]; unfold inB; rw [decide_eq_true (by omega : 1 ≤ t), decide_eq_true (by omega : t < (bn : Int))]; rfl)
              clear h1 h2
              go_wp2_with fail
              go_roundw
              case rel => exact ⟨i + 1, by omega, by go_num, HA2, by trivial⟩
              case measure => simp [intOf]; omega
        · obtain rfl : tn = i := by omega
          have hf : res = true := by rw [Hres.out]; have := HA.out; rw [Htl.out, List.take_length] at this; exact this
          subst hf
          go_wp2_with fail
          go_ret
          exact ⟨rfl, by rw [HV.out]; exact Hd.out _⟩
  · have d1 : ((tn : Int) != m) = true := by simp; omega
    rw [if_neg (by rw [← Htl.out]; exact hlm)] at hres
    subst hres
    clear hlm
    go_upto_region 9 with fail
    go_quiet (fail)
    go_wp2
    go_ret
    exact ⟨rfl, Hd.out _⟩
end Go.Proofs.Ytglobeajmdieaaa
