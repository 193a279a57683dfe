/-
  Ways through blocks: worlds, rows of numbers, blocks as they lie; whether a function has a block; whether it is whole; whether two rows are the same.
  Whether two rows are the same; whether a function can be gone through.
-/
import Derived.Test.YtglobeajmdieaaaChecked
import Derived.WalkKit
import Derived.Defers
import Derived.Below
import Derived.Lib.Hide
import Derived.Lib.Builder
import Derived.Outline
import Derived.Deep.RegionHeld3
import Derived.Deep.DeepCutAuto
import Derived.Deep.AppendLies
import Derived.OwnWalk
import Derived.BigQuiet
namespace Go.Proofs.Ytglobeajmdieaaa
set_option linter.unusedVariables false
set_option linter.unusedSimpArgs false
open Go.RowKit

theorem gr_one (w : World) (x : Array Value) (T : TypeId) : ∃ W, W = w.alloc (.cells x T) ∧ Below w.heap.size w W ∧ W.heap.size = w.heap.size + 1 ∧ W.heap[w.heap.size]? = some (.cells x T (0, 0)) :=
  ⟨_, rfl, (Below.refl _ _).alloc (Nat.le_refl _) _, by simp, heap_alloc_new w _⟩
theorem gr_in {w : World} {k : Nat} {o : Obj} (h : w.heap[k]? = some o) : k < w.heap.size := by
  rcases Nat.lt_or_ge k w.heap.size with h' | h'
  · exact h'
  · rw [Array.getElem?_eq_none h'] at h; cases h
theorem gr_put {w : World} {b : Nat} {cs : Array Value} {T : TypeId} {fr : Nat × Nat} (hb : w.heap[b]? = some (.cells cs T fr)) (j : Nat) (u : Value) : (w.setCell ⟨b, j, none⟩ u).heap[b]? = some (.cells (cs.setIfInBounds j u) T fr) := by
  simp [World.setCell, Array.getElem?_modify, hb]
theorem gr_up {w w' : World} {base : Nat} {T : TypeId} {z n : Nat} {v : Value} {xs : List Value} (h : w.ownsRow base T z v n xs) (hb : Below w.heap.size w w') : w'.ownsRow base T z v n xs :=
  h.kept (row := none) ⟨hb.os, hb.tape, hb.output, hb.size, fun k hk _ => hb.block k hk⟩ (by cases Value.ownBlock _ <;> simp)
theorem gr_five {w : World} {b : Nat} {x0 x1 x2 x3 x4 : Value} {T : TypeId} (h : w.heap[b]? = some (.cells #[x0, x1, x2, x3, x4] T (0, 0))) :
    w.cell? ⟨b, 0, none⟩ = some x0 ∧ w.cell? ⟨b, 1, none⟩ = some x1 ∧ w.cell? ⟨b, 2, none⟩ = some x2 ∧ w.cell? ⟨b, 3, none⟩ = some x3 ∧ w.cell? ⟨b, 4, none⟩ = some x4 ∧ ∀ j, w.frozen? ⟨b, j, none⟩ = false :=
  ⟨Lib.cell_of_heap h 0, Lib.cell_of_heap h 1, Lib.cell_of_heap h 2, Lib.cell_of_heap h 3, Lib.cell_of_heap h 4, fun j => Lib.frozen_of_heap h j⟩
/-- The least number of which something holds. -/
theorem least_ex {p : Nat → Prop} (h : ∃ k, p k) : ∃ k, p k ∧ ∀ j, p j → k ≤ j := by
  obtain ⟨k, hk⟩ := h
  induction k using Nat.strongRecOn with
  | ind k ih =>
    by_cases hx : ∃ j, j < k ∧ p j
    · obtain ⟨j, hj, hp⟩ := hx
      exact ih j hj hp
    · exact ⟨k, hk, fun j hj => by
        rcases Nat.lt_or_ge j k with h | h
        · exact absurd ⟨j, h, hj⟩ hx
        · exact h⟩
noncomputable def leastN (p : Nat → Prop) : Nat := by
  classical exact if h : ∃ k, p k then Classical.choose (least_ex h) else 0
theorem leastN_spec {p : Nat → Prop} (h : ∃ k, p k) : p (leastN p) := by
  classical
  unfold leastN
  rw [dif_pos h]
  exact (Classical.choose_spec (least_ex h)).1
theorem leastN_le {p : Nat → Prop} {k : Nat} (h : p k) : leastN p ≤ k := by
  classical
  unfold leastN
  rw [dif_pos ⟨k, h⟩]
  exact (Classical.choose_spec (least_ex ⟨k, h⟩)).2 k h

def InG (x : Int) : Prop := -9223372036854775808 ≤ x ∧ x ≤ 9223372036854775807
/-- Numbers as they lie, below n0. -/
def GNs (n0 : Nat) (w : World) (v : Value) (l : List Int) : Prop := ∃ A c, v = .slice A l.length c ∧ (0 < l.length → ∃ b o, A = some ⟨b, o, none⟩ ∧ b < n0 ∧ ∀ j x, l[j]? = some x → w.cell? ⟨b, o + j, none⟩ = some (.int .i64 x))
theorem GNs.keep {n0 : Nat} {w w' : World} {v : Value} {l : List Int} (h : GNs n0 w v l) (hb : Below n0 w w') : GNs n0 w' v l := by
  obtain ⟨A, c, hv, hr⟩ := h
  refine ⟨A, c, hv, fun hp => ?_⟩
  obtain ⟨b, o, hA, hbn, hc⟩ := hr hp
  exact ⟨b, o, hA, hbn, fun j x hx => (hb.cell (p := ⟨b, o + j, none⟩) hbn).trans (hc j x hx)⟩
theorem GNs.mono {n0 n1 : Nat} {w : World} {v : Value} {l : List Int} (h : GNs n0 w v l) (hn : n0 ≤ n1) : GNs n1 w v l := by
  obtain ⟨A, c, hv, hr⟩ := h
  refine ⟨A, c, hv, fun hp => ?_⟩
  obtain ⟨b, o, hA, hbn, hc⟩ := hr hp
  exact ⟨b, o, hA, by omega, hc⟩
theorem GNs.at {n0 : Nat} {w : World} {A : Option Addr} {m c : Nat} {l : List Int} (h : GNs n0 w (.slice A m c) l) {j : Nat} (hj : j < l.length) :
    ∃ b o, A = some ⟨b, o, none⟩ ∧ b < n0 ∧ w.cell? ⟨b, o + j, none⟩ = some (.int .i64 l[j]) := by
  obtain ⟨A', c', hv, hr⟩ := h
  obtain ⟨b, o, hA, hbn, hc⟩ := hr (by omega)
  injection hv with e1
  subst e1
  exact ⟨b, o, hA, hbn, hc j _ (List.getElem?_eq_getElem hj)⟩
theorem GNs.len {n0 : Nat} {w : World} {A : Option Addr} {m c : Nat} {l : List Int} (h : GNs n0 w (.slice A m c) l) : m = l.length := by
  obtain ⟨A', c', hv, hr⟩ := h
  injection hv
/-- A row of the call's own. -/
def intsV (l : List Int) : List Value := l.map (Value.int .i64)
theorem intsV_len (l : List Int) : (intsV l).length = l.length := by simp [intsV]
theorem GNs.of_own {w : World} {base : Nat} {v : Value} {T : TypeId} {l : List Int} (h : w.ownsRow base T 1 v l.length (intsV l)) : GNs w.heap.size w v l := by
  rcases h.2 with ⟨rfl, h0⟩ | ⟨g, cap, cur, rfl, _, hg, _⟩
  · exact ⟨none, 0, by rw [h0], fun hp => by omega⟩
  · refine ⟨_, cap, rfl, fun _ => ⟨g, 0, rfl, gr_in hg, fun j x hx => ?_⟩⟩
    have hl : j < l.length := (List.getElem?_eq_some_iff.1 hx).1
    have := h.cellAt j (by omega)
    rw [Nat.zero_add, this]
    simp [intsV, hx]

/-- A block of a function: where it is come to from, where it goes. -/
structure GB where
  list : Value
  preds : List Int
  kind : Int
  arg : Int
  to_ : List Int
def GB.ok (d : GB) : Prop := d.preds.length ≤ 1048576 ∧ (∀ x ∈ d.preds, InG x) ∧ d.to_.length ≤ 1048576 ∧ (∀ x ∈ d.to_, InG x)
/-- Blocks as they lie, below n0. -/
def GBs (n0 : Nat) (w : World) (v : Value) (g : List GB) : Prop := ∃ A c, v = .slice A g.length c ∧ g.length ≤ 1048576 ∧ (∀ d ∈ g, d.ok) ∧ (0 < g.length → ∃ b o, A = some ⟨b, o, none⟩ ∧ b < n0 ∧
  ∀ j d, g[j]? = some d → ∃ pv tv, w.cell? ⟨b, o + j * 5, none⟩ = some d.list ∧ w.cell? ⟨b, o + j * 5 + 1, none⟩ = some pv ∧ w.cell? ⟨b, o + j * 5 + 2, none⟩ = some (.int .i64 d.kind) ∧ w.cell? ⟨b, o + j * 5 + 3, none⟩ = some (.int .i64 d.arg) ∧ w.cell? ⟨b, o + j * 5 + 4, none⟩ = some tv ∧ GNs n0 w pv d.preds ∧ GNs n0 w tv d.to_ ∧ ∃ la ln lc, d.list = .slice la ln lc)
theorem GBs.keep {n0 : Nat} {w w' : World} {v : Value} {g : List GB} (h : GBs n0 w v g) (hb : Below n0 w w') : GBs n0 w' v g := by
  obtain ⟨A, c, hv, hl, hok, hr⟩ := h
  refine ⟨A, c, hv, hl, hok, fun hp => ?_⟩
  obtain ⟨b, o, hA, hbn, hc⟩ := hr hp
  refine ⟨b, o, hA, hbn, fun j d hd => ?_⟩
  obtain ⟨pv, tv, h0, h1, h2, h3, h4, h5, h6, h7⟩ := hc j d hd
  have k : ∀ q, w'.cell? ⟨b, q, none⟩ = w.cell? ⟨b, q, none⟩ := fun q => hb.cell (p := ⟨b, q, none⟩) hbn
  exact ⟨pv, tv, (k _).trans h0, (k _).trans h1, (k _).trans h2, (k _).trans h3, (k _).trans h4, h5.keep hb, h6.keep hb, h7⟩
theorem GBs.mono {n0 n1 : Nat} {w : World} {v : Value} {g : List GB} (h : GBs n0 w v g) (hn : n0 ≤ n1) : GBs n1 w v g := by
  obtain ⟨A, c, hv, hl, hok, hr⟩ := h
  refine ⟨A, c, hv, hl, hok, fun hp => ?_⟩
  obtain ⟨b, o, hA, hbn, hc⟩ := hr hp
  refine ⟨b, o, hA, by omega, fun j d hd => ?_⟩
  obtain ⟨pv, tv, h0, h1, h2, h3, h4, h5, h6, h7⟩ := hc j d hd
  exact ⟨pv, tv, h0, h1, h2, h3, h4, h5.mono hn, h6.mono hn, h7⟩
/-- One block, as its cells lie. -/
theorem GBs.at {n0 : Nat} {w : World} {A : Option Addr} {m c : Nat} {g : List GB} (h : GBs n0 w (.slice A m c) g) {j : Nat} (hj : j < g.length) :
    ∃ b o pA pc tA tc lA ln lc, A = some ⟨b, o, none⟩ ∧ b < n0 ∧ w.cell? ⟨b, o + j * 5, none⟩ = some (.slice lA ln lc) ∧ w.cell? ⟨b, o + j * 5 + 1, none⟩ = some (.slice pA g[j].preds.length pc) ∧ w.cell? ⟨b, o + j * 5 + 2, none⟩ = some (.int .i64 g[j].kind) ∧ w.cell? ⟨b, o + j * 5 + 3, none⟩ = some (.int .i64 g[j].arg) ∧ w.cell? ⟨b, o + j * 5 + 4, none⟩ = some (.slice tA g[j].to_.length tc) ∧
      GNs n0 w (.slice pA g[j].preds.length pc) g[j].preds ∧ GNs n0 w (.slice tA g[j].to_.length tc) g[j].to_ ∧ g[j].ok := by
  obtain ⟨A', c', hv, hl, hok, hr⟩ := h
  obtain ⟨b, o, hA, hbn, hc⟩ := hr (by omega)
  injection hv with e1
  subst e1
  obtain ⟨pv, tv, h0, h1, h2, h3, h4, h5, h6, la, ln, lc, h7⟩ := hc j _ (List.getElem?_eq_getElem hj)
  obtain ⟨pA, pc, rfl, _⟩ := id h5
  obtain ⟨tA, tc, rfl, _⟩ := id h6
  rw [h7] at h0
  exact ⟨b, o, pA, pc, tA, tc, la, ln, lc, hA, hbn, h0, h1, h2, h3, h4, h5, h6, hok _ (List.getElem_mem hj)⟩
/-- A function, as it is handed over. -/
def GF (n0 : Nat) (w : World) (f : Value) (g : List GB) : Prop := ∃ s pA pn pc r iA in_ ic bA bn bc, f = .agg #[.string s, .slice pA pn pc, .int .i64 r, .slice iA in_ ic, .slice bA bn bc] ∧ GBs n0 w (.slice bA bn bc) g ∧ bn = g.length

def hasG (n : Nat) (b : Int) : Bool := decide (0 ≤ b ∧ b < n)
def wholeG (g : List GB) : Bool := (g.all fun k => k.to_.all fun t => hasG g.length t) && decide (0 < g.length)

set_option maxHeartbeats 2000000 in
set_option maxRecDepth 100000 in
theorem has_g (s : ByteArray) (pA iA bA : Option Addr) (pn pc in_ ic bn bc : Nat) (r b : Int) (w : World) (hn : bn ≤ 1048576) (hb : InG b) :
    Calls Try.prog 89 #[.agg #[.string s, .slice pA pn pc, .int .i64 r, .slice iA in_ ic, .slice bA bn bc], .int .i64 b] w fun e w' => e = .returned (.bool (hasG bn b)) ∧ Below w.heap.size w w' := by
  obtain ⟨h1, h2⟩ := hb
  obtain ⟨W, hW, hbW, hzW, h0W⟩ := gr_one w #[.string s, .slice pA pn pc, .int .i64 r, .slice iA in_ ic, .slice bA bn bc] 46
  obtain ⟨x0, x1, x2, x3, x4, -⟩ := gr_five h0W
  have HbW := Lib.hid hbW
  have HW := Lib.hid hW
  clear hbW hW
  go_enter Try.func89, Try.ntmps89
  by_cases hp : 0 ≤ b
  · by_cases hq : b < bn
    · go_upto_region 1 with fail
      rw [← HW.out]
      go_wp2
      go_ret
      exact ⟨by simp [hasG, hp, hq], HbW.out⟩
    · go_upto_region 1 with fail
      rw [← HW.out]
      go_wp2
      go_ret
      exact ⟨by simp [hasG, hp, hq], HbW.out⟩
  · go_upto_region 1 with fail
    rw [← HW.out]
    go_wp2
    go_ret
    exact ⟨by simp [hasG]; omega, HbW.out⟩
end Go.Proofs.Ytglobeajmdieaaa
namespace Go.Proofs.Ytglobeajmdieaaa
set_option linter.unusedVariables false
set_option linter.unusedSimpArgs false
open Go.RowKit

theorem below_dr {B : Nat} {a w : World} (h : Below B a w) (n : Nat) : Below B a (w.drewN n) := ⟨h.os, h.tape, h.output, h.size, h.block⟩
theorem int_ne {x y : Int} (h : (x == y) = false) : x ≠ y := fun e => by rw [e] at h; simp at h

def allTo (g : List GB) (i : Nat) : Prop := ∀ j d, j < i → g[j]? = some d → ∀ t ∈ d.to_, hasG g.length t = true
theorem wholeG_true {g : List GB} (h : allTo g g.length) : wholeG g = decide (0 < g.length) := by
  unfold wholeG
  have : (g.all fun k => k.to_.all fun t => hasG g.length t) = true := by
    rw [List.all_eq_true]
    intro d hd
    rw [List.all_eq_true]
    intro t ht
    obtain ⟨j, hj, rfl⟩ := List.getElem_of_mem hd
    exact h j _ hj (List.getElem?_eq_getElem hj) t ht
  rw [this, Bool.true_and]
theorem wholeG_false {g : List GB} {j : Nat} {d : GB} {t : Int} (hd : g[j]? = some d) (ht : t ∈ d.to_) (h : hasG g.length t = false) : wholeG g = false := by
  unfold wholeG
  have : (g.all fun k => k.to_.all fun t => hasG g.length t) = false := by
    rw [List.all_eq_false]
    refine ⟨d, List.mem_of_getElem? hd, ?_⟩
    intro e
    rw [List.all_eq_true] at e
    have := e t ht
    rw [h] at this
    cases this
  rw [this, Bool.false_and]
theorem wholeG_all {g : List GB} (h : wholeG g = true) : 0 < g.length ∧ ∀ (j : Nat) (d : GB), g[j]? = some d → ∀ t ∈ d.to_, 0 ≤ t ∧ t < g.length := by
  unfold wholeG at h
  rw [Bool.and_eq_true, List.all_eq_true] at h
  refine ⟨of_decide_eq_true h.2, fun j d hd t ht => ?_⟩
  have h1 := h.1 d (List.mem_of_getElem? hd)
  rw [List.all_eq_true] at h1
  exact of_decide_eq_true (h1 t ht)

set_option maxRecDepth 100000 in
set_option maxHeartbeats 8000000 in
theorem whole_g (n0 : Nat) (f : Value) (g : List GB) (w : World) (hf : GF n0 w f g) (hn : n0 ≤ w.heap.size) :
    Calls Try.prog 75 #[f] w fun e w' => e = .returned (.bool (wholeG g)) ∧ Below w.heap.size w w' := by
  obtain ⟨s, pA, pn, pc, r, iA, in_, ic, bA, bn, bc, rfl, hG, hbn⟩ := hf
  obtain ⟨W, hW, hbW, hzW, h0W⟩ := gr_one w #[.string s, .slice pA pn pc, .int .i64 r, .slice iA in_ ic, .slice bA bn bc] 46
  obtain ⟨x0, x1, x2, x3, x4, -⟩ := gr_five h0W
  have hlen : bn ≤ 1048576 := by rw [hbn]; obtain ⟨_, _, _, h, _⟩ := hG; exact h
  have HG := Lib.hid hG
  have Hbn := Lib.hid hbn
  have HbW := Lib.hid hbW
  have HW := Lib.hid hW
  have HzW := Lib.hid hzW
  have H0W := Lib.hid h0W
  clear hbW hW hG hbn hzW h0W
  go_enter Try.func75, Try.ntmps75
  go_upto_region 1 with fail
  rw [← HW.out]
  go_upto_region 2 with fail
  clear x0 x1 x2 x3 x4
  go_loopw [10] (fun u10 wr => ∃ (i : Nat), i ≤ bn ∧ u10 = .int .i64 i ∧ Hid (Below W.heap.size W wr) ∧ Hid (allTo g i)) (fun u10 _ => bn - (intOf u10).toNat)
  case atStart => exact ⟨0, Nat.zero_le _, rfl, Lib.hid (Below.refl _ _), Lib.hid (fun j d hj => by omega)⟩
  case round =>
    obtain ⟨i, hi, rfl, HB, HT⟩ := hrel
    have hBw : Below w.heap.size w wr := HbW.out.trans (HB.out.mono (by rw [HzW.out]; omega))
    have HBw := Lib.hid hBw
    have h0r := (HB.out.block _ (by rw [HzW.out]; omega)).trans H0W.out
    obtain ⟨x0, x1, x2, x3, x4, -⟩ := gr_five h0r
    by_cases hlt : i < bn
    · have hil : i < g.length := by rw [← Hbn.out]; exact hlt
      obtain ⟨b, o, qA, qc, tA, tc, lA, ln, lc, rfl, hb0, c0, c1, c2, c3, c4, rp, rt, hok⟩ := (HG.out.keep (hBw.mono hn)).at hil
      obtain ⟨m, hm⟩ : ∃ m, m = g[i].to_.length := ⟨_, rfl⟩
      have hml : m ≤ 1048576 := by rw [hm]; exact hok.2.2.1
      obtain ⟨d, hd⟩ : ∃ d, d = g[i] := ⟨_, rfl⟩
      have hgd : g[i]? = some d := by rw [hd]; exact List.getElem?_eq_getElem hil
      rw [← hm] at c4 rt
      rw [← hd] at c1 c2 c3 rt hok hm
      obtain ⟨Y, hY, hbY, hzY, h0Y⟩ := gr_one wr #[.slice lA ln lc, .slice qA d.preds.length qc, .int .i64 d.kind, .int .i64 d.arg, .slice tA m tc] 62
      have Hgd := Lib.hid hgd
      have Hrt := Lib.hid (rt.keep (hbY.mono (Nat.le_trans hn hBw.size)))
      have Hok := Lib.hid hok
      have Hm := Lib.hid hm
      have HY := Lib.hid hY
      have h0rY := (hbY.block _ (gr_in h0r)).trans h0r
      have HBY := Lib.hid (HB.out.trans (hbY.mono (HB.out.size)))
      clear rp hd hgd rt hok hm hY hBw
      obtain ⟨y0, y1, y2, y3, y4, -⟩ := gr_five h0Y
      go_upto_region 3 with fail
      go_upto_region 4 with fail
      rw [← HY.out]
      clear c0 c1 c2 c3 c4 x0 x1 x2 x3 x4 y0 y1 y2 y3
      go_upto_region 5 with fail
      clear y4
      go_loopw [18] (fun u18 wr2 => ∃ (j : Nat), j ≤ m ∧ u18 = .int .i64 j ∧ Hid (Below Y.heap.size Y wr2) ∧ Hid (∀ k t, k < j → d.to_[k]? = some t → hasG g.length t = true)) (fun u18 _ => m - (intOf u18).toNat)
      case atStart => exact ⟨0, Nat.zero_le _, rfl, Lib.hid (Below.refl _ _), Lib.hid (fun k t hk => by omega)⟩
      case round =>
        obtain ⟨j, hj, rfl, HB2, HT2⟩ := hrel
        have h0q := (HB2.out.block _ (gr_in h0rY)).trans h0rY
        obtain ⟨x0, x1, x2, x3, x4, -⟩ := gr_five h0q
        by_cases hlt2 : j < m
        · have hjl : j < d.to_.length := by rw [← Hm.out]; exact hlt2
          have hbig : n0 ≤ Y.heap.size := by have := HBw.out.size; omega
          obtain ⟨b2, o2, rfl, hb2, hc⟩ := (Hrt.out.keep (HB2.out.mono hbig)).at hjl
          have ht : d.to_[j]? = some d.to_[j] := List.getElem?_eq_getElem hjl
          have htm := List.getElem_mem hjl
          have hti := Hok.out.2.2.2 _ htm
          obtain ⟨t, htt⟩ : ∃ t, t = d.to_[j] := ⟨_, rfl⟩
          rw [← htt] at hc ht htm hti
          have Ht := Lib.hid ht
          have Htm := Lib.hid htm
          have hH := has_g s pA iA (some ⟨b, o, none⟩) pn pc in_ ic bn bc r t wr hlen hti
          clear htt ht htm hti hb2
          rw [Hbn.out] at hH
          cases hq : hasG g.length t with
          | true =>
            rw [hq] at hH
            rw [← Hbn.out] at hH
            go_wp2_with (go_at_call 89; refine hH.mono ?_; rintro e w3 ⟨rfl, h3⟩; have H3 := Lib.hid h3; clear h3 hH)
            go_roundw
            case rel => exact ⟨j + 1, by omega, by go_num, Lib.hid (HB2.out.trans (H3.out.mono HB2.out.size)), Lib.hid (fun k t' hk hk' => by
              by_cases hkj : k = j
              · subst hkj
                rw [Ht.out] at hk'
                injection hk' with hk'
                rw [← hk']
                exact hq
              · exact HT2.out k t' (by omega) hk')⟩
            case measure => simp [intOf]; omega
          | false =>
            rw [hq] at hH
            rw [← Hbn.out] at hH
            go_wp2_with (go_at_call 89; refine hH.mono ?_; rintro e w3 ⟨rfl, h3⟩; have H3 := Lib.hid h3; clear h3 hH)
            go_ret
            exact ⟨by rw [wholeG_false Hgd.out Htm.out hq]; rfl, HbW.out.trans ((HBY.out.trans ((HB2.out.trans (H3.out.mono HB2.out.size)).mono HBY.out.size)).mono (by rw [HzW.out]; omega))⟩
        · obtain rfl : j = m := by omega
          go_wp2
          go_roundw
          case rel => exact ⟨i + 1, by omega, by go_num, Lib.hid (HBY.out.trans (HB2.out.mono HBY.out.size)), Lib.hid (fun k d' hk hk' => by
            by_cases hki : k = i
            · subst hki
              rw [Hgd.out] at hk'
              injection hk' with hk'
              subst hk'
              intro t ht
              obtain ⟨q, hq, rfl⟩ := List.getElem_of_mem ht
              exact HT2.out q _ (by rw [Hm.out]; exact hq) (List.getElem?_eq_getElem hq)
            · exact HT.out k d' (by omega) hk')⟩
          case measure => simp [intOf]; omega
    · obtain rfl : i = bn := by omega
      go_wp2
      go_ret
      refine ⟨?_, HBw.out⟩
      rw [wholeG_true (by rw [← Hbn.out]; exact HT.out), ← Hbn.out]
      by_cases h0 : 0 < i
      · simp [h0]
      · simp [h0]
end Go.Proofs.Ytglobeajmdieaaa
