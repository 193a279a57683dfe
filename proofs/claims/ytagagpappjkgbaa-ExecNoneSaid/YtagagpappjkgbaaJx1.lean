/-
  Ways through blocks: worlds, rows of numbers, blocks as they lie; whether a function has a block; whether it is whole; whether two rows are the same.
  Whether two rows are the same; whether a function can be gone through.
  Programs that may be: instructions, blocks, functions as they lie; has, isType, hasArg, asks.
  Programs that may be: asks, goes.
  Programs that may be: shaped.
  Programs that may be: functions as they lie; declared, begins.
  Programs as they are written down: rows of instructions, blocks, functions, each row in a block.
-/
import Derived.Test.YtagagpappjkgbaaChecked
import Derived.WalkKit
import Derived.Defers
import Derived.Below
import Derived.Lib.Hide
import Derived.Lib.Builder
import Derived.Outline
import Derived.Deep.RegionHeld3
import Derived.Deep.DeepCutAuto
import Derived.Deep.AppendLies
import Derived.OwnWalk
import Derived.BigQuiet
import Derived.Deep.CutBlock
namespace Go.Proofs.Ytagagpappjkgbaa
set_option linter.unusedVariables false
set_option linter.unusedSimpArgs false
open Go.RowKit

theorem gr_one (w : World) (x : Array Value) (T : TypeId) : ∃ W, W = w.alloc (.cells x T) ∧ Below w.heap.size w W ∧ W.heap.size = w.heap.size + 1 ∧ W.heap[w.heap.size]? = some (.cells x T (0, 0)) :=
  ⟨_, rfl, (Below.refl _ _).alloc (Nat.le_refl _) _, by simp, heap_alloc_new w _⟩
theorem gr_in {w : World} {k : Nat} {o : Obj} (h : w.heap[k]? = some o) : k < w.heap.size := by
  rcases Nat.lt_or_ge k w.heap.size with h' | h'
  · exact h'
  · rw [Array.getElem?_eq_none h'] at h; cases h
theorem gr_put {w : World} {b : Nat} {cs : Array Value} {T : TypeId} {fr : Nat × Nat} (hb : w.heap[b]? = some (.cells cs T fr)) (j : Nat) (u : Value) : (w.setCell ⟨b, j, none⟩ u).heap[b]? = some (.cells (cs.setIfInBounds j u) T fr) := by
  simp [World.setCell, Array.getElem?_modify, hb]
theorem gr_up {w w' : World} {base : Nat} {T : TypeId} {z n : Nat} {v : Value} {xs : List Value} (h : w.ownsRow base T z v n xs) (hb : Below w.heap.size w w') : w'.ownsRow base T z v n xs :=
  h.kept (row := none) ⟨hb.os, hb.tape, hb.output, hb.size, fun k hk _ => hb.block k hk⟩ (by cases Value.ownBlock _ <;> simp)
theorem gr_five {w : World} {b : Nat} {x0 x1 x2 x3 x4 : Value} {T : TypeId} (h : w.heap[b]? = some (.cells #[x0, x1, x2, x3, x4] T (0, 0))) :
    w.cell? ⟨b, 0, none⟩ = some x0 ∧ w.cell? ⟨b, 1, none⟩ = some x1 ∧ w.cell? ⟨b, 2, none⟩ = some x2 ∧ w.cell? ⟨b, 3, none⟩ = some x3 ∧ w.cell? ⟨b, 4, none⟩ = some x4 ∧ ∀ j, w.frozen? ⟨b, j, none⟩ = false :=
  ⟨Lib.cell_of_heap h 0, Lib.cell_of_heap h 1, Lib.cell_of_heap h 2, Lib.cell_of_heap h 3, Lib.cell_of_heap h 4, fun j => Lib.frozen_of_heap h j⟩
/-- The least number of which something holds. -/
theorem least_ex {p : Nat → Prop} (h : ∃ k, p k) : ∃ k, p k ∧ ∀ j, p j → k ≤ j := by
  obtain ⟨k, hk⟩ := h
  induction k using Nat.strongRecOn with
  | ind k ih =>
    by_cases hx : ∃ j, j < k ∧ p j
    · obtain ⟨j, hj, hp⟩ := hx
      exact ih j hj hp
    · exact ⟨k, hk, fun j hj => by
        rcases Nat.lt_or_ge j k with h | h
        · exact absurd ⟨j, h, hj⟩ hx
        · exact h⟩
noncomputable def leastN (p : Nat → Prop) : Nat := by
  classical exact if h : ∃ k, p k then Classical.choose (least_ex h) else 0
theorem leastN_spec {p : Nat → Prop} (h : ∃ k, p k) : p (leastN p) := by
  classical
  unfold leastN
  rw [dif_pos h]
  exact (Classical.choose_spec (least_ex h)).1
theorem leastN_le {p : Nat → Prop} {k : Nat} (h : p k) : leastN p ≤ k := by
  classical
  unfold leastN
  rw [dif_pos ⟨k, h⟩]
  exact (Classical.choose_spec (least_ex ⟨k, h⟩)).2 k h

def InG (x : Int) : Prop := -9223372036854775808 ≤ x ∧ x ≤ 9223372036854775807
/-- Numbers as they lie, below n0. -/
def GNs (n0 : Nat) (w : World) (v : Value) (l : List Int) : Prop := ∃ A c, v = .slice A l.length c ∧ (0 < l.length → ∃ b o, A = some ⟨b, o, none⟩ ∧ b < n0 ∧ ∀ j x, l[j]? = some x → w.cell? ⟨b, o + j, none⟩ = some (.int .i64 x))
theorem GNs.keep {n0 : Nat} {w w' : World} {v : Value} {l : List Int} (h : GNs n0 w v l) (hb : Below n0 w w') : GNs n0 w' v l := by
  obtain ⟨A, c, hv, hr⟩ := h
  refine ⟨A, c, hv, fun hp => ?_⟩
  obtain ⟨b, o, hA, hbn, hc⟩ := hr hp
  exact ⟨b, o, hA, hbn, fun j x hx => (hb.cell (p := ⟨b, o + j, none⟩) hbn).trans (hc j x hx)⟩
theorem GNs.mono {n0 n1 : Nat} {w : World} {v : Value} {l : List Int} (h : GNs n0 w v l) (hn : n0 ≤ n1) : GNs n1 w v l := by
  obtain ⟨A, c, hv, hr⟩ := h
  refine ⟨A, c, hv, fun hp => ?_⟩
  obtain ⟨b, o, hA, hbn, hc⟩ := hr hp
  exact ⟨b, o, hA, by omega, hc⟩
theorem GNs.at {n0 : Nat} {w : World} {A : Option Addr} {m c : Nat} {l : List Int} (h : GNs n0 w (.slice A m c) l) {j : Nat} (hj : j < l.length) :
    ∃ b o, A = some ⟨b, o, none⟩ ∧ b < n0 ∧ w.cell? ⟨b, o + j, none⟩ = some (.int .i64 l[j]) := by
  obtain ⟨A', c', hv, hr⟩ := h
  obtain ⟨b, o, hA, hbn, hc⟩ := hr (by omega)
  injection hv with e1
  subst e1
  exact ⟨b, o, hA, hbn, hc j _ (List.getElem?_eq_getElem hj)⟩
theorem GNs.len {n0 : Nat} {w : World} {A : Option Addr} {m c : Nat} {l : List Int} (h : GNs n0 w (.slice A m c) l) : m = l.length := by
  obtain ⟨A', c', hv, hr⟩ := h
  injection hv
/-- A row of the call's own. -/
def intsV (l : List Int) : List Value := l.map (Value.int .i64)
theorem GNs.of_own {w : World} {base : Nat} {v : Value} {T : TypeId} {l : List Int} (h : w.ownsRow base T 1 v l.length (intsV l)) : GNs w.heap.size w v l := by
  rcases h.2 with ⟨rfl, h0⟩ | ⟨g, cap, cur, rfl, _, hg, _⟩
  · exact ⟨none, 0, by rw [h0], fun hp => by omega⟩
  · refine ⟨_, cap, rfl, fun _ => ⟨g, 0, rfl, gr_in hg, fun j x hx => ?_⟩⟩
    have hl : j < l.length := (List.getElem?_eq_some_iff.1 hx).1
    have := h.cellAt j (by omega)
    rw [Nat.zero_add, this]
    simp [intsV, hx]

/-- A block of a function: where it is come to from, where it goes. -/
structure GB where
  list : Value
  preds : List Int
  kind : Int
  arg : Int
  to_ : List Int
def GB.ok (d : GB) : Prop := d.preds.length ≤ 1048576 ∧ (∀ x ∈ d.preds, InG x) ∧ d.to_.length ≤ 1048576 ∧ (∀ x ∈ d.to_, InG x)
/-- Blocks as they lie, below n0. -/
def GBs (n0 : Nat) (w : World) (v : Value) (g : List GB) : Prop := ∃ A c, v = .slice A g.length c ∧ g.length ≤ 1048576 ∧ (∀ d ∈ g, d.ok) ∧ (0 < g.length → ∃ b o, A = some ⟨b, o, none⟩ ∧ b < n0 ∧
  ∀ j d, g[j]? = some d → ∃ pv tv, w.cell? ⟨b, o + j * 5, none⟩ = some d.list ∧ w.cell? ⟨b, o + j * 5 + 1, none⟩ = some pv ∧ w.cell? ⟨b, o + j * 5 + 2, none⟩ = some (.int .i64 d.kind) ∧ w.cell? ⟨b, o + j * 5 + 3, none⟩ = some (.int .i64 d.arg) ∧ w.cell? ⟨b, o + j * 5 + 4, none⟩ = some tv ∧ GNs n0 w pv d.preds ∧ GNs n0 w tv d.to_ ∧ ∃ la ln lc, d.list = .slice la ln lc)
theorem GBs.keep {n0 : Nat} {w w' : World} {v : Value} {g : List GB} (h : GBs n0 w v g) (hb : Below n0 w w') : GBs n0 w' v g := by
  obtain ⟨A, c, hv, hl, hok, hr⟩ := h
  refine ⟨A, c, hv, hl, hok, fun hp => ?_⟩
  obtain ⟨b, o, hA, hbn, hc⟩ := hr hp
  refine ⟨b, o, hA, hbn, fun j d hd => ?_⟩
  obtain ⟨pv, tv, h0, h1, h2, h3, h4, h5, h6, h7⟩ := hc j d hd
  have k : ∀ q, w'.cell? ⟨b, q, none⟩ = w.cell? ⟨b, q, none⟩ := fun q => hb.cell (p := ⟨b, q, none⟩) hbn
  exact ⟨pv, tv, (k _).trans h0, (k _).trans h1, (k _).trans h2, (k _).trans h3, (k _).trans h4, h5.keep hb, h6.keep hb, h7⟩
theorem GBs.mono {n0 n1 : Nat} {w : World} {v : Value} {g : List GB} (h : GBs n0 w v g) (hn : n0 ≤ n1) : GBs n1 w v g := by
  obtain ⟨A, c, hv, hl, hok, hr⟩ := h
  refine ⟨A, c, hv, hl, hok, fun hp => ?_⟩
  obtain ⟨b, o, hA, hbn, hc⟩ := hr hp
  refine ⟨b, o, hA, by omega, fun j d hd => ?_⟩
  obtain ⟨pv, tv, h0, h1, h2, h3, h4, h5, h6, h7⟩ := hc j d hd
  exact ⟨pv, tv, h0, h1, h2, h3, h4, h5.mono hn, h6.mono hn, h7⟩
/-- One block, as its cells lie. -/
theorem GBs.at {n0 : Nat} {w : World} {A : Option Addr} {m c : Nat} {g : List GB} (h : GBs n0 w (.slice A m c) g) {j : Nat} (hj : j < g.length) :
    ∃ b o pA pc tA tc lA ln lc, A = some ⟨b, o, none⟩ ∧ b < n0 ∧ w.cell? ⟨b, o + j * 5, none⟩ = some (.slice lA ln lc) ∧ w.cell? ⟨b, o + j * 5 + 1, none⟩ = some (.slice pA g[j].preds.length pc) ∧ w.cell? ⟨b, o + j * 5 + 2, none⟩ = some (.int .i64 g[j].kind) ∧ w.cell? ⟨b, o + j * 5 + 3, none⟩ = some (.int .i64 g[j].arg) ∧ w.cell? ⟨b, o + j * 5 + 4, none⟩ = some (.slice tA g[j].to_.length tc) ∧
      GNs n0 w (.slice pA g[j].preds.length pc) g[j].preds ∧ GNs n0 w (.slice tA g[j].to_.length tc) g[j].to_ ∧ g[j].ok := by
  obtain ⟨A', c', hv, hl, hok, hr⟩ := h
  obtain ⟨b, o, hA, hbn, hc⟩ := hr (by omega)
  injection hv with e1
  subst e1
  obtain ⟨pv, tv, h0, h1, h2, h3, h4, h5, h6, la, ln, lc, h7⟩ := hc j _ (List.getElem?_eq_getElem hj)
  obtain ⟨pA, pc, rfl, _⟩ := id h5
  obtain ⟨tA, tc, rfl, _⟩ := id h6
  rw [h7] at h0
  exact ⟨b, o, pA, pc, tA, tc, la, ln, lc, hA, hbn, h0, h1, h2, h3, h4, h5, h6, hok _ (List.getElem_mem hj)⟩
/-- A function, as it is handed over. -/
def GF (n0 : Nat) (w : World) (f : Value) (g : List GB) : Prop := ∃ s pA pn pc r iA in_ ic bA bn bc, f = .agg #[.string s, .slice pA pn pc, .int .i64 r, .slice iA in_ ic, .slice bA bn bc] ∧ GBs n0 w (.slice bA bn bc) g ∧ bn = g.length

def hasG (n : Nat) (b : Int) : Bool := decide (0 ≤ b ∧ b < n)
def wholeG (g : List GB) : Bool := (g.all fun k => k.to_.all fun t => hasG g.length t) && decide (0 < g.length)

set_option maxHeartbeats 2000000 in
set_option maxRecDepth 100000 in
theorem has_g (s : ByteArray) (pA iA bA : Option Addr) (pn pc in_ ic bn bc : Nat) (r b : Int) (w : World) (hn : bn ≤ 1048576) (hb : InG b) :
    Calls Try.prog 163 #[.agg #[.string s, .slice pA pn pc, .int .i64 r, .slice iA in_ ic, .slice bA bn bc], .int .i64 b] w fun e w' => e = .returned (.bool (hasG bn b)) ∧ Below w.heap.size w w' := by
  obtain ⟨h1, h2⟩ := hb
  obtain ⟨W, hW, hbW, hzW, h0W⟩ := gr_one w #[.string s, .slice pA pn pc, .int .i64 r, .slice iA in_ ic, .slice bA bn bc] 68
  obtain ⟨x0, x1, x2, x3, x4, -⟩ := gr_five h0W
  have HbW := Lib.hid hbW
  have HW := Lib.hid hW
  clear hbW hW
  go_enter Try.func163, Try.ntmps163
  by_cases hp : 0 ≤ b
  · by_cases hq : b < bn
    · go_upto_region 1 with fail
      rw [← HW.out]
      go_wp2
      go_ret
      exact ⟨by simp [hasG, hp, hq], HbW.out⟩
    · go_upto_region 1 with fail
      rw [← HW.out]
      go_wp2
      go_ret
      exact ⟨by simp [hasG, hp, hq], HbW.out⟩
  · go_upto_region 1 with fail
    rw [← HW.out]
    go_wp2
    go_ret
    exact ⟨by simp [hasG]; omega, HbW.out⟩
end Go.Proofs.Ytagagpappjkgbaa
namespace Go.Proofs.Ytagagpappjkgbaa
set_option linter.unusedVariables false
set_option linter.unusedSimpArgs false
open Go.RowKit

theorem below_dr {B : Nat} {a w : World} (h : Below B a w) (n : Nat) : Below B a (w.drewN n) := ⟨h.os, h.tape, h.output, h.size, h.block⟩
def allTo (g : List GB) (i : Nat) : Prop := ∀ j d, j < i → g[j]? = some d → ∀ t ∈ d.to_, hasG g.length t = true
theorem wholeG_true {g : List GB} (h : allTo g g.length) : wholeG g = decide (0 < g.length) := by
  unfold wholeG
  have : (g.all fun k => k.to_.all fun t => hasG g.length t) = true := by
    rw [List.all_eq_true]
    intro d hd
    rw [List.all_eq_true]
    intro t ht
    obtain ⟨j, hj, rfl⟩ := List.getElem_of_mem hd
    exact h j _ hj (List.getElem?_eq_getElem hj) t ht
  rw [this, Bool.true_and]
theorem wholeG_false {g : List GB} {j : Nat} {d : GB} {t : Int} (hd : g[j]? = some d) (ht : t ∈ d.to_) (h : hasG g.length t = false) : wholeG g = false := by
  unfold wholeG
  have : (g.all fun k => k.to_.all fun t => hasG g.length t) = false := by
    rw [List.all_eq_false]
    refine ⟨d, List.mem_of_getElem? hd, ?_⟩
    intro e
    rw [List.all_eq_true] at e
    have := e t ht
    rw [h] at this
    cases this
  rw [this, Bool.false_and]
theorem wholeG_all {g : List GB} (h : wholeG g = true) : 0 < g.length ∧ ∀ (j : Nat) (d : GB), g[j]? = some d → ∀ t ∈ d.to_, 0 ≤ t ∧ t < g.length := by
  unfold wholeG at h
  rw [Bool.and_eq_true, List.all_eq_true] at h
  refine ⟨of_decide_eq_true h.2, fun j d hd t ht => ?_⟩
  have h1 := h.1 d (List.mem_of_getElem? hd)
  rw [List.all_eq_true] at h1
  exact of_decide_eq_true (h1 t ht)

set_option maxRecDepth 100000 in
set_option maxHeartbeats 8000000 in
theorem whole_g (n0 : Nat) (f : Value) (g : List GB) (w : World) (hf : GF n0 w f g) (hn : n0 ≤ w.heap.size) :
    Calls Try.prog 156 #[f] w fun e w' => e = .returned (.bool (wholeG g)) ∧ Below w.heap.size w w' := by
  obtain ⟨s, pA, pn, pc, r, iA, in_, ic, bA, bn, bc, rfl, hG, hbn⟩ := hf
  obtain ⟨W, hW, hbW, hzW, h0W⟩ := gr_one w #[.string s, .slice pA pn pc, .int .i64 r, .slice iA in_ ic, .slice bA bn bc] 68
  obtain ⟨x0, x1, x2, x3, x4, -⟩ := gr_five h0W
  have hlen : bn ≤ 1048576 := by rw [hbn]; obtain ⟨_, _, _, h, _⟩ := hG; exact h
  have HG := Lib.hid hG
  have Hbn := Lib.hid hbn
  have HbW := Lib.hid hbW
  have HW := Lib.hid hW
  have HzW := Lib.hid hzW
  have H0W := Lib.hid h0W
  clear hbW hW hG hbn hzW h0W
  go_enter Try.func156, Try.ntmps156
  go_upto_region 1 with fail
  rw [← HW.out]
  go_upto_region 2 with fail
  clear x0 x1 x2 x3 x4
  go_loopw [10] (fun u10 wr => ∃ (i : Nat), i ≤ bn ∧ u10 = .int .i64 i ∧ Hid (Below W.heap.size W wr) ∧ Hid (allTo g i)) (fun u10 _ => bn - (intOf u10).toNat)
  case atStart => exact ⟨0, Nat.zero_le _, rfl, Lib.hid (Below.refl _ _), Lib.hid (fun j d hj => by omega)⟩
  case round =>
    obtain ⟨i, hi, rfl, HB, HT⟩ := hrel
    have hBw : Below w.heap.size w wr := HbW.out.trans (HB.out.mono (by rw [HzW.out]; omega))
    have HBw := Lib.hid hBw
    have h0r := (HB.out.block _ (by rw [HzW.out]; omega)).trans H0W.out
    obtain ⟨x0, x1, x2, x3, x4, -⟩ := gr_five h0r
    by_cases hlt : i < bn
    · have hil : i < g.length := by rw [← Hbn.out]; exact hlt
      obtain ⟨b, o, qA, qc, tA, tc, lA, ln, lc, rfl, hb0, c0, c1, c2, c3, c4, rp, rt, hok⟩ := (HG.out.keep (hBw.mono hn)).at hil
      obtain ⟨m, hm⟩ : ∃ m, m = g[i].to_.length := ⟨_, rfl⟩
      have hml : m ≤ 1048576 := by rw [hm]; exact hok.2.2.1
      obtain ⟨d, hd⟩ : ∃ d, d = g[i] := ⟨_, rfl⟩
      have hgd : g[i]? = some d := by rw [hd]; exact List.getElem?_eq_getElem hil
      rw [← hm] at c4 rt
      rw [← hd] at c1 c2 c3 rt hok hm
      obtain ⟨Y, hY, hbY, hzY, h0Y⟩ := gr_one wr #[.slice lA ln lc, .slice qA d.preds.length qc, .int .i64 d.kind, .int .i64 d.arg, .slice tA m tc] 76
      have Hgd := Lib.hid hgd
      have Hrt := Lib.hid (rt.keep (hbY.mono (Nat.le_trans hn hBw.size)))
      have Hok := Lib.hid hok
      have Hm := Lib.hid hm
      have HY := Lib.hid hY
      have h0rY := (hbY.block _ (gr_in h0r)).trans h0r
      have HBY := Lib.hid (HB.out.trans (hbY.mono (HB.out.size)))
      clear rp hd hgd rt hok hm hY hBw
      obtain ⟨y0, y1, y2, y3, y4, -⟩ := gr_five h0Y
      go_upto_region 3 with fail
      go_upto_region 4 with fail
      rw [← HY.out]
      clear c0 c1 c2 c3 c4 x0 x1 x2 x3 x4 y0 y1 y2 y3
      go_upto_region 5 with fail
      clear y4
      go_loopw [18] (fun u18 wr2 => ∃ (j : Nat), j ≤ m ∧ u18 = .int .i64 j ∧ Hid (Below Y.heap.size Y wr2) ∧ Hid (∀ k t, k < j → d.to_[k]? = some t → hasG g.length t = true)) (fun u18 _ => m - (intOf u18).toNat)
      case atStart => exact ⟨0, Nat.zero_le _, rfl, Lib.hid (Below.refl _ _), Lib.hid (fun k t hk => by omega)⟩
      case round =>
        obtain ⟨j, hj, rfl, HB2, HT2⟩ := hrel
        have h0q := (HB2.out.block _ (gr_in h0rY)).trans h0rY
        obtain ⟨x0, x1, x2, x3, x4, -⟩ := gr_five h0q
        by_cases hlt2 : j < m
        · have hjl : j < d.to_.length := by rw [← Hm.out]; exact hlt2
          have hbig : n0 ≤ Y.heap.size := by have := HBw.out.size; omega
          obtain ⟨b2, o2, rfl, hb2, hc⟩ := (Hrt.out.keep (HB2.out.mono hbig)).at hjl
          have ht : d.to_[j]? = some d.to_[j] := List.getElem?_eq_getElem hjl
          have htm := List.getElem_mem hjl
          have hti := Hok.out.2.2.2 _ htm
          obtain ⟨t, htt⟩ : ∃ t, t = d.to_[j] := ⟨_, rfl⟩
          rw [← htt] at hc ht htm hti
          have Ht := Lib.hid ht
          have Htm := Lib.hid htm
          have hH := has_g s pA iA (some ⟨b, o, none⟩) pn pc in_ ic bn bc r t wr hlen hti
          clear htt ht htm hti hb2
          rw [Hbn.out] at hH
          cases hq : hasG g.length t with
          | true =>
            rw [hq] at hH
            rw [← Hbn.out] at hH
            go_wp2_with (go_at_call 163; refine hH.mono ?_; rintro e w3 ⟨rfl, h3⟩; have H3 := Lib.hid h3; clear h3 hH)
            go_roundw
            case rel => exact ⟨j + 1, by omega, by go_num, Lib.hid (HB2.out.trans (H3.out.mono HB2.out.size)), Lib.hid (fun k t' hk hk' => by
              by_cases hkj : k = j
              · subst hkj
                rw [Ht.out] at hk'
                injection hk' with hk'
                rw [← hk']
                exact hq
              · exact HT2.out k t' (by omega) hk')⟩
            case measure => simp [intOf]; omega
          | false =>
            rw [hq] at hH
            rw [← Hbn.out] at hH
            go_wp2_with (go_at_call 163; refine hH.mono ?_; rintro e w3 ⟨rfl, h3⟩; have H3 := Lib.hid h3; clear h3 hH)
            go_ret
            exact ⟨by rw [wholeG_false Hgd.out Htm.out hq]; rfl, HbW.out.trans ((HBY.out.trans ((HB2.out.trans (H3.out.mono HB2.out.size)).mono HBY.out.size)).mono (by rw [HzW.out]; omega))⟩
        · obtain rfl : j = m := by omega
          go_wp2
          go_roundw
          case rel => exact ⟨i + 1, by omega, by go_num, Lib.hid (HBY.out.trans (HB2.out.mono HBY.out.size)), Lib.hid (fun k d' hk hk' => by
            by_cases hki : k = i
            · subst hki
              rw [Hgd.out] at hk'
              injection hk' with hk'
              subst hk'
              intro t ht
              obtain ⟨q, hq, rfl⟩ := List.getElem_of_mem ht
              exact HT2.out q _ (by rw [Hm.out]; exact hq) (List.getElem?_eq_getElem hq)
            · exact HT.out k d' (by omega) hk')⟩
          case measure => simp [intOf]; omega
    · obtain rfl : i = bn := by omega
      go_wp2
      go_ret
      refine ⟨?_, HBw.out⟩
      rw [wholeG_true (by rw [← Hbn.out]; exact HT.out), ← Hbn.out]
      by_cases h0 : 0 < i
      · simp [h0]
      · simp [h0]
end Go.Proofs.Ytagagpappjkgbaa
namespace Go.Proofs.Ytagagpappjkgbaa
set_option linter.unusedVariables false
set_option linter.unusedSimpArgs false
open Go.RowKit

/-- An instruction, a block, over plain data. -/
structure SIn where
  op : Int
  ty : Int
  args : List Int
  n : Int
  to_ : Int
structure SB where
  list : List Int
  preds : List Int
  kind : Int
  arg : Int
  to_ : List Int
structure SF where
  params : List Int
  ret : Int
  ins : List SIn
  blocks : List SB
/-- Instructions as they lie, below n0. -/
def SIs (n0 : Nat) (w : World) (v : Value) (l : List SIn) : Prop := ∃ A c, v = .slice A l.length c ∧ (0 < l.length → ∃ b o, A = some ⟨b, o, none⟩ ∧ b < n0 ∧
  ∀ j d, l[j]? = some d → ∃ av, w.cell? ⟨b, o + j * 5, none⟩ = some (.int .i64 d.op) ∧ w.cell? ⟨b, o + j * 5 + 1, none⟩ = some (.int .i64 d.ty) ∧ w.cell? ⟨b, o + j * 5 + 2, none⟩ = some av ∧ w.cell? ⟨b, o + j * 5 + 3, none⟩ = some (.int .i64 d.n) ∧ w.cell? ⟨b, o + j * 5 + 4, none⟩ = some (.int .i64 d.to_) ∧ GNs n0 w av d.args)
theorem SIs.keep {n0 : Nat} {w w' : World} {v : Value} {l : List SIn} (h : SIs n0 w v l) (hb : Below n0 w w') : SIs n0 w' v l := by
  obtain ⟨A, c, hv, hr⟩ := h
  refine ⟨A, c, hv, fun hp => ?_⟩
  obtain ⟨b, o, hA, hbn, hc⟩ := hr hp
  refine ⟨b, o, hA, hbn, fun j d hd => ?_⟩
  obtain ⟨av, h0, h1, h2, h3, h4, h5⟩ := hc j d hd
  have k : ∀ q, w'.cell? ⟨b, q, none⟩ = w.cell? ⟨b, q, none⟩ := fun q => hb.cell (p := ⟨b, q, none⟩) hbn
  exact ⟨av, (k _).trans h0, (k _).trans h1, (k _).trans h2, (k _).trans h3, (k _).trans h4, h5.keep hb⟩
theorem SIs.mono {n0 n1 : Nat} {w : World} {v : Value} {l : List SIn} (h : SIs n0 w v l) (hn : n0 ≤ n1) : SIs n1 w v l := by
  obtain ⟨A, c, hv, hr⟩ := h
  refine ⟨A, c, hv, fun hp => ?_⟩
  obtain ⟨b, o, hA, hbn, hc⟩ := hr hp
  refine ⟨b, o, hA, by omega, fun j d hd => ?_⟩
  obtain ⟨av, h0, h1, h2, h3, h4, h5⟩ := hc j d hd
  exact ⟨av, h0, h1, h2, h3, h4, h5.mono hn⟩
theorem SIs.at {n0 : Nat} {w : World} {A : Option Addr} {m c : Nat} {l : List SIn} (h : SIs n0 w (.slice A m c) l) {j : Nat} (hj : j < l.length) :
    ∃ b o aA ac, A = some ⟨b, o, none⟩ ∧ b < n0 ∧ w.cell? ⟨b, o + j * 5, none⟩ = some (.int .i64 l[j].op) ∧ w.cell? ⟨b, o + j * 5 + 1, none⟩ = some (.int .i64 l[j].ty) ∧ w.cell? ⟨b, o + j * 5 + 2, none⟩ = some (.slice aA l[j].args.length ac) ∧ w.cell? ⟨b, o + j * 5 + 3, none⟩ = some (.int .i64 l[j].n) ∧ w.cell? ⟨b, o + j * 5 + 4, none⟩ = some (.int .i64 l[j].to_) ∧ GNs n0 w (.slice aA l[j].args.length ac) l[j].args := by
  obtain ⟨A', c', hv, hr⟩ := h
  obtain ⟨b, o, hA, hbn, hc⟩ := hr (by omega)
  injection hv with e1
  subst e1
  obtain ⟨av, h0, h1, h2, h3, h4, h5⟩ := hc j _ (List.getElem?_eq_getElem hj)
  obtain ⟨aA, ac, rfl, _⟩ := id h5
  exact ⟨b, o, aA, ac, hA, hbn, h0, h1, h2, h3, h4, h5⟩
/-- Blocks with their lists, as they lie. -/
def SBs (n0 : Nat) (w : World) (v : Value) (l : List SB) : Prop := ∃ A c, v = .slice A l.length c ∧ (0 < l.length → ∃ b o, A = some ⟨b, o, none⟩ ∧ b < n0 ∧
  ∀ j d, l[j]? = some d → ∃ lv pv tv, w.cell? ⟨b, o + j * 5, none⟩ = some lv ∧ w.cell? ⟨b, o + j * 5 + 1, none⟩ = some pv ∧ w.cell? ⟨b, o + j * 5 + 2, none⟩ = some (.int .i64 d.kind) ∧ w.cell? ⟨b, o + j * 5 + 3, none⟩ = some (.int .i64 d.arg) ∧ w.cell? ⟨b, o + j * 5 + 4, none⟩ = some tv ∧ GNs n0 w lv d.list ∧ GNs n0 w pv d.preds ∧ GNs n0 w tv d.to_)
theorem SBs.keep {n0 : Nat} {w w' : World} {v : Value} {l : List SB} (h : SBs n0 w v l) (hb : Below n0 w w') : SBs n0 w' v l := by
  obtain ⟨A, c, hv, hr⟩ := h
  refine ⟨A, c, hv, fun hp => ?_⟩
  obtain ⟨b, o, hA, hbn, hc⟩ := hr hp
  refine ⟨b, o, hA, hbn, fun j d hd => ?_⟩
  obtain ⟨lv, pv, tv, h0, h1, h2, h3, h4, h5, h6, h7⟩ := hc j d hd
  have k : ∀ q, w'.cell? ⟨b, q, none⟩ = w.cell? ⟨b, q, none⟩ := fun q => hb.cell (p := ⟨b, q, none⟩) hbn
  exact ⟨lv, pv, tv, (k _).trans h0, (k _).trans h1, (k _).trans h2, (k _).trans h3, (k _).trans h4, h5.keep hb, h6.keep hb, h7.keep hb⟩
theorem SBs.mono {n0 n1 : Nat} {w : World} {v : Value} {l : List SB} (h : SBs n0 w v l) (hn : n0 ≤ n1) : SBs n1 w v l := by
  obtain ⟨A, c, hv, hr⟩ := h
  refine ⟨A, c, hv, fun hp => ?_⟩
  obtain ⟨b, o, hA, hbn, hc⟩ := hr hp
  refine ⟨b, o, hA, by omega, fun j d hd => ?_⟩
  obtain ⟨lv, pv, tv, h0, h1, h2, h3, h4, h5, h6, h7⟩ := hc j d hd
  exact ⟨lv, pv, tv, h0, h1, h2, h3, h4, h5.mono hn, h6.mono hn, h7.mono hn⟩
theorem SBs.at {n0 : Nat} {w : World} {A : Option Addr} {m c : Nat} {l : List SB} (h : SBs n0 w (.slice A m c) l) {j : Nat} (hj : j < l.length) :
    ∃ b o lA lc pA pc tA tc, A = some ⟨b, o, none⟩ ∧ b < n0 ∧ w.cell? ⟨b, o + j * 5, none⟩ = some (.slice lA l[j].list.length lc) ∧ w.cell? ⟨b, o + j * 5 + 1, none⟩ = some (.slice pA l[j].preds.length pc) ∧ w.cell? ⟨b, o + j * 5 + 2, none⟩ = some (.int .i64 l[j].kind) ∧ w.cell? ⟨b, o + j * 5 + 3, none⟩ = some (.int .i64 l[j].arg) ∧ w.cell? ⟨b, o + j * 5 + 4, none⟩ = some (.slice tA l[j].to_.length tc) ∧
      GNs n0 w (.slice lA l[j].list.length lc) l[j].list ∧ GNs n0 w (.slice pA l[j].preds.length pc) l[j].preds ∧ GNs n0 w (.slice tA l[j].to_.length tc) l[j].to_ := by
  obtain ⟨A', c', hv, hr⟩ := h
  obtain ⟨b, o, hA, hbn, hc⟩ := hr (by omega)
  injection hv with e1
  subst e1
  obtain ⟨lv, pv, tv, h0, h1, h2, h3, h4, h5, h6, h7⟩ := hc j _ (List.getElem?_eq_getElem hj)
  obtain ⟨lA, lc, rfl, _⟩ := id h5
  obtain ⟨pA, pc, rfl, _⟩ := id h6
  obtain ⟨tA, tc, rfl, _⟩ := id h7
  exact ⟨b, o, lA, lc, pA, pc, tA, tc, hA, hbn, h0, h1, h2, h3, h4, h5, h6, h7⟩
/-- The subject: its program's functions and Main, its function, its two rows. -/
def SubC (w : World) (sb : Nat) (fA : Option Addr) (fn fc : Nat) (mn : Int) (s : ByteArray) (pA : Option Addr) (pn pc : Nat) (r : Int) (iA : Option Addr) (in_ ic : Nat) (bA : Option Addr) (bn bc : Nat) (vi va : Value) : Prop :=
  w.heap[sb]? = some (.cells #[.slice fA fn fc, .int .i64 mn, .string s, .slice pA pn pc, .int .i64 r, .slice iA in_ ic, .slice bA bn bc, vi, va] 150 (0, 0))

def isTypeP (t : Int) : Bool := decide (0 ≤ t ∧ t ≤ 4)
theorem isType_g (t : Int) (w : World) : Calls Try.prog 93 #[.int .i64 t] w fun e w' => e = .returned (.bool (isTypeP t)) ∧ w' = w := by
  by_cases h0 : 0 ≤ t
  · by_cases h1 : t ≤ 4
    · have e : isTypeP t = true := decide_eq_true ⟨h0, h1⟩
      rw [e]
      go_enter Try.func93, Try.ntmps93
      go_wp2
      go_ret
      exact ⟨rfl, rfl⟩
    · have e : isTypeP t = false := decide_eq_false (fun h => h1 h.2)
      rw [e]
      go_enter Try.func93, Try.ntmps93
      go_wp2
      go_ret
      exact ⟨rfl, rfl⟩
  · have e : isTypeP t = false := decide_eq_false (fun h => h0 h.1)
    rw [e]
    go_enter Try.func93, Try.ntmps93
    go_wp2
    go_ret
    exact ⟨rfl, rfl⟩
theorem sound_has_g (fA : Option Addr) (fn fc : Nat) (mn n : Int) (w : World) : Calls Try.prog 92 #[.agg #[.slice fA fn fc, .int .i64 mn], .int .i64 n] w fun e w' => e = .returned (.bool (hasG fn n)) ∧ Below w.heap.size w w' := by
  obtain ⟨W, hW, hbW, hzW, h0W⟩ := gr_one w #[.slice fA fn fc, .int .i64 mn] 36
  have x0 := Lib.cell_of_heap h0W 0
  have x1 := Lib.cell_of_heap h0W 1
  have HbW := Lib.hid hbW
  have HW := Lib.hid hW
  clear hbW hW h0W hzW
  go_enter Try.func92, Try.ntmps92
  by_cases hp : 0 ≤ n
  · by_cases hq : n < fn
    · go_upto_region 1 with fail
      rw [← HW.out]
      go_wp2
      go_ret
      exact ⟨by simp [hasG, hp, hq], HbW.out⟩
    · go_upto_region 1 with fail
      rw [← HW.out]
      go_wp2
      go_ret
      exact ⟨by simp [hasG, hp, hq], HbW.out⟩
  · go_upto_region 1 with fail
    rw [← HW.out]
    go_wp2
    go_ret
    exact ⟨by simp [hasG]; omega, HbW.out⟩

def hasArgP (r kind : Int) : Bool := (kind == 2) || ((kind == 3) && (r != 0))
set_option maxRecDepth 100000 in
theorem hasArg_g (sb : Nat) (fA : Option Addr) (fn fc : Nat) (mn : Int) (s : ByteArray) (pA : Option Addr) (pn pc : Nat) (r : Int) (iA : Option Addr) (in_ ic : Nat) (bA : Option Addr) (bn bc : Nat) (vi va : Value) (kind arg : Int) (tA : Option Addr) (tn tc : Nat) (w : World) (h : SubC w sb fA fn fc mn s pA pn pc r iA in_ ic bA bn bc vi va) :
    Calls Try.prog 121 #[.pointer (some ⟨sb, 0, none⟩), .agg #[.int .i64 kind, .int .i64 arg, .slice tA tn tc]] w fun e w' => e = .returned (.bool (hasArgP r kind)) ∧ Below w.heap.size w w' := by
  obtain ⟨W, hW, hbW, hzW, h0W⟩ := gr_one w #[.int .i64 kind, .int .i64 arg, .slice tA tn tc] 74
  have x0 := Lib.cell_of_heap h0W 0
  have x1 := Lib.cell_of_heap h0W 1
  have x2 := Lib.cell_of_heap h0W 2
  have y4 := Lib.cell_of_heap ((hbW.block sb (gr_in h)).trans h) 4
  have HbW := Lib.hid hbW
  have HW := Lib.hid hW
  clear hbW h0W hzW h
  rw [hW] at x0 x1 x2 y4
  clear hW
  by_cases h2 : kind = 2
  · have d2 : (kind == 2) = true := by simpa using h2
    have e : hasArgP r kind = true := by unfold hasArgP; rw [d2]; rfl
    rw [e]
    clear e h2
    go_enter Try.func121, Try.ntmps121
    go_wp2
    rw [← HW.out]
    go_ret
    exact ⟨rfl, HbW.out⟩
  · have d2 : (kind == 2) = false := by simpa using h2
    by_cases h3 : kind = 3
    · have d3 : (kind == 3) = true := by simpa using h3
      have e : hasArgP r kind = (r != 0) := by unfold hasArgP; rw [d2, d3]; simp
      rw [e]
      clear e h2 h3
      go_enter Try.func121, Try.ntmps121
      go_wp2
      rw [← HW.out]
      go_ret
      exact ⟨rfl, HbW.out⟩
    · have d3 : (kind == 3) = false := by simpa using h3
      have e : hasArgP r kind = false := by unfold hasArgP; rw [d2, d3]; rfl
      rw [e]
      clear e h2 h3
      go_enter Try.func121, Try.ntmps121
      go_wp2
      rw [← HW.out]
      go_ret
      exact ⟨rfl, HbW.out⟩
end Go.Proofs.Ytagagpappjkgbaa
namespace Go.Proofs.Ytagagpappjkgbaa
set_option linter.unusedVariables false
set_option linter.unusedSimpArgs false
open Go.RowKit

attribute [local go_sem] Oper.semAt_some

def asksP (r kind arg : Int) (ni : Nat) : Bool := if hasArgP r kind then decide (0 ≤ arg) && decide (arg < ni) else arg == -1
set_option maxRecDepth 100000 in
theorem asks_g (sb : Nat) (fA : Option Addr) (fn fc : Nat) (mn : Int) (s : ByteArray) (pA : Option Addr) (pn pc : Nat) (r : Int) (iA : Option Addr) (in_ ic : Nat) (bA : Option Addr) (bn bc : Nat) (vi va : Value) (kind arg : Int) (tA : Option Addr) (tn tc : Nat) (w : World) (h : SubC w sb fA fn fc mn s pA pn pc r iA in_ ic bA bn bc vi va) :
    Calls Try.prog 114 #[.pointer (some ⟨sb, 0, none⟩), .agg #[.int .i64 kind, .int .i64 arg, .slice tA tn tc]] w fun e w' => e = .returned (.bool (asksP r kind arg in_)) ∧ Below w.heap.size w w' := by
  obtain ⟨W, hW, hbW, hzW, h0W⟩ := gr_one w #[.int .i64 kind, .int .i64 arg, .slice tA tn tc] 74
  have hsb := gr_in h
  have hs2 : SubC W sb fA fn fc mn s pA pn pc r iA in_ ic bA bn bc vi va := (hbW.block sb hsb).trans h
  have hH := hasArg_g sb fA fn fc mn s pA pn pc r iA in_ ic bA bn bc vi va kind arg tA tn tc W hs2
  have HK : Hid (∀ A, Below W.heap.size W A → A.cell? ⟨w.heap.size, 0, none⟩ = some (.int .i64 kind) ∧ A.cell? ⟨w.heap.size, 1, none⟩ = some (.int .i64 arg) ∧ A.cell? ⟨w.heap.size, 2, none⟩ = some (.slice tA tn tc) ∧ A.cell? ⟨sb, 5, none⟩ = some (.slice iA in_ ic)) := Lib.hid fun A hA => by
    have e1 := (hA.block w.heap.size (by omega)).trans h0W
    have e2 := (hA.block sb (gr_in hs2)).trans hs2
    exact ⟨Lib.cell_of_heap e1 0, Lib.cell_of_heap e1 1, Lib.cell_of_heap e1 2, Lib.cell_of_heap e2 5⟩
  obtain ⟨x0, x1, x2, -⟩ := HK.out W (Below.refl _ _)
  have HbW := Lib.hid hbW
  have HW := Lib.hid hW
  have hd : ∀ (V : World) (q : Nat), Below W.heap.size W V → Below w.heap.size w (V.drewN q) := fun V q hV => hbW.trans ((below_dr hV q).mono (by omega))
  have Hd := Lib.hid hd
  clear hbW hW h0W hzW h hs2 hsb hd
  cases hq : hasArgP r kind with
  | true =>
    rw [hq] at hH
    by_cases h0 : 0 ≤ arg
    · have d0 : decide (arg ≥ 0) = true := decide_eq_true h0
      have e : asksP r kind arg in_ = decide (arg < (in_ : Int)) := by unfold asksP; rw [if_pos hq, decide_eq_true h0]; rfl
      rw [e]
      clear e hq h0
      go_enter Try.func114, Try.ntmps114
      go_upto_region 1 with fail
      rw [← HW.out]
      go_upto_region 2 with (go_at_call 121; refine hH.mono ?_; rintro e w2 ⟨rfl, hb2⟩; obtain ⟨y0, y1, y2, y3⟩ := HK.out w2 hb2; have Hb2 := Lib.hid hb2; clear hb2 hH)
      go_quiet (fail)
      go_wp2
      go_ret
      exact ⟨rfl, Hd.out w2 _ Hb2.out⟩
    · have d0 : decide (arg ≥ 0) = false := decide_eq_false h0
      have e : asksP r kind arg in_ = false := by unfold asksP; rw [if_pos hq, decide_eq_false h0]; rfl
      rw [e]
      clear e hq h0
      go_enter Try.func114, Try.ntmps114
      go_upto_region 1 with fail
      rw [← HW.out]
      go_upto_region 2 with (go_at_call 121; refine hH.mono ?_; rintro e w2 ⟨rfl, hb2⟩; obtain ⟨y0, y1, y2, y3⟩ := HK.out w2 hb2; have Hb2 := Lib.hid hb2; clear hb2 hH)
      go_quiet (fail)
      go_wp2
      go_ret
      exact ⟨rfl, Hd.out w2 _ Hb2.out⟩
  | false =>
    rw [hq] at hH
    have e : asksP r kind arg in_ = (arg == -1) := by unfold asksP; rw [hq]; rfl
    rw [e]
    clear e hq
    go_enter Try.func114, Try.ntmps114
    go_upto_region 1 with fail
    rw [← HW.out]
    go_wp2_with (go_at_call 121; refine hH.mono ?_; rintro e w2 ⟨rfl, hb2⟩; obtain ⟨y0, y1, y2, y3⟩ := HK.out w2 hb2; have Hb2 := Lib.hid hb2; clear hb2 hH)
    go_ret
    exact ⟨rfl, Hd.out w2 0 Hb2.out⟩

def manyS (kind : Int) : Option Int := if kind = 1 then some 1 else if kind = 2 then some 2 else if kind = 3 then some 0 else none
def inB (bn : Nat) (t : Int) : Bool := decide (1 ≤ t) && decide (t < bn)
def goesP (bn : Nat) (kind : Int) (to_ : List Int) : Bool := match manyS kind with
  | none => false
  | some m => if (to_.length : Int) = m then (if m = 2 ∧ to_.getD 0 0 = to_.getD 1 0 then false else to_.all (inB bn)) else false
set_option maxRecDepth 100000 in
set_option maxHeartbeats 4000000 in
theorem goes_g (sb : Nat) (fA : Option Addr) (fn fc : Nat) (mn : Int) (s : ByteArray) (pA : Option Addr) (pn pc : Nat) (r : Int) (iA : Option Addr) (in_ ic : Nat) (bA : Option Addr) (bn bc : Nat) (vi va : Value) (kind arg : Int) (tA : Option Addr) (tn tc : Nat) (to_ : List Int) (w : World) (h : SubC w sb fA fn fc mn s pA pn pc r iA in_ ic bA bn bc vi va) (ht : GNs w.heap.size w (.slice tA tn tc) to_) (htb : tn ≤ 1048576) :
    Calls Try.prog 113 #[.pointer (some ⟨sb, 0, none⟩), .agg #[.int .i64 kind, .int .i64 arg, .slice tA tn tc]] w fun e w' => e = .returned (.bool (goesP bn kind to_)) ∧ Below w.heap.size w w' := by
  obtain ⟨W, hW, hbW, hzW, h0W⟩ := gr_one w #[.int .i64 kind, .int .i64 arg, .slice tA tn tc] 74
  have htl := ht.len
  have hc : ∀ (V : World), Below W.heap.size W V → V.cell? ⟨w.heap.size, 0, none⟩ = some (.int .i64 kind) ∧ V.cell? ⟨w.heap.size, 2, none⟩ = some (.slice tA tn tc) ∧ V.cell? ⟨sb, 6, none⟩ = some (.slice bA bn bc) ∧ ∀ j, j < tn → ∃ g o, tA = some ⟨g, o, none⟩ ∧ V.cell? ⟨g, o + j, none⟩ = some (.int .i64 (to_.getD j 0)) := fun V hV => by
    have e1 := (hV.block w.heap.size (by omega)).trans h0W
    have e2 := (hV.block sb (by have := gr_in h; omega)).trans ((hbW.block sb (gr_in h)).trans h)
    refine ⟨Lib.cell_of_heap e1 0, Lib.cell_of_heap e1 2, Lib.cell_of_heap e2 6, fun j hj => ?_⟩
    have hg := (ht.keep hbW).keep (hV.mono (by omega))
    obtain ⟨g, o, hA, _, hcj⟩ := hg.at (j := j) (by omega)
    exact ⟨g, o, hA, by rw [hcj]; simp [List.getD, (by omega : j < to_.length)]⟩
  have Hc := Lib.hid hc
  have HbW := Lib.hid hbW
  have HW := Lib.hid hW
  have Htl := Lib.hid htl
  obtain ⟨res, hres⟩ : ∃ res, res = goesP bn kind to_ := ⟨_, rfl⟩
  rw [← hres]
  unfold goesP at hres
  have Hd : Hid (∀ q, Below w.heap.size w (W.drewN q)) := Lib.hid fun q => below_dr hbW q
  clear hbW hW h0W hzW h hc ht htl
  obtain ⟨x0, x2, x6, -⟩ := Hc.out W (Below.refl _ _)
  go_enter Try.func113, Try.ntmps113
  go_upto_region 2 with fail
  rw [← HW.out]
  go_upto_block 0 with fail
  go_cut [5] (fun u5 wx => ∃ m : Int, u5 = .int .i64 m ∧ 0 ≤ m ∧ m ≤ 2 ∧ manyS kind = some m ∧ wx = W)
  case first =>
    by_cases h1 : kind = 1
    · have d1 : (kind == 1) = true := by simpa using h1
      have hm : manyS kind = some 1 := by unfold manyS; rw [if_pos h1]
      clear h1 hres
      go_wp2_with fail
      go_meet
      exact ⟨1, rfl, by omega, by omega, hm, rfl⟩
    · have d1 : (kind == 1) = false := by simpa using h1
      by_cases h2 : kind = 2
      · have d2 : (kind == 2) = true := by simpa using h2
        have hm : manyS kind = some 2 := by unfold manyS; rw [if_neg h1, if_pos h2]
        clear h1 h2 hres
        go_wp2_with fail
        go_meet
        exact ⟨2, rfl, by omega, by omega, hm, rfl⟩
      · have d2 : (kind == 2) = false := by simpa using h2
        by_cases h3 : kind = 3
        · have d3 : (kind == 3) = true := by simpa using h3
          have hm : manyS kind = some 0 := by unfold manyS; rw [if_neg h1, if_neg h2, if_pos h3]
          clear h1 h2 h3 hres
          go_wp2_with fail
          go_meet
          exact ⟨0, rfl, by omega, by omega, hm, rfl⟩
        · have d3 : (kind == 3) = false := by simpa using h3
          have hm : manyS kind = none := by unfold manyS; rw [if_neg h1, if_neg h2, if_neg h3]
          rw [hm] at hres
          dsimp only at hres
          subst hres
          clear h1 h2 h3 hm
          go_wp2_with fail
          go_ret
          exact ⟨rfl, HbW.out⟩
  case rest =>
  obtain ⟨m, rfl, hm0, hm2, hmk, hwx⟩ := hcut
  subst hwx
  rw [hmk] at hres
  dsimp only at hres
  clear hmk
  by_cases hlm : (tn : Int) = m
  · have d1 : ((tn : Int) != m) = false := by simp; omega
    rw [if_pos (by rw [← Htl.out]; exact hlm)] at hres
    have key : ∀ V : World, V = wc.drewN V.drawn → True := fun _ _ => trivial
    by_cases hm22 : m = 2
    · subst hm22
      obtain ⟨-, -, -, hrd⟩ := Hc.out wc (Below.refl _ _)
      obtain ⟨g, o, rfl, k0⟩ := hrd 0 (by omega)
      obtain ⟨g', o', hgo, k1⟩ := hrd 1 (by omega)
      obtain ⟨rfl, rfl⟩ : g = g' ∧ o = o' := by simpa using hgo
      rw [Nat.add_zero] at k0
      obtain ⟨t0, ht0⟩ : ∃ t, t = to_.getD 0 0 := ⟨_, rfl⟩
      obtain ⟨t1, ht1⟩ : ∃ t, t = to_.getD 1 0 := ⟨_, rfl⟩
      rw [← ht0] at k0 hres
      rw [← ht1] at k1 hres
      have hb0 : (0 : Int) < (tn : Int) := by omega
      have hb1 : (1 : Int) < (tn : Int) := by omega
      by_cases h01 : t0 = t1
      · have d2 : (t0 == t1) = true := by simpa using h01
        rw [if_pos ⟨rfl, h01⟩] at hres
        subst hres
        clear h01 ht0 ht1 hrd hgo key
        go_upto_region 9 with fail
        go_quiet (fail)
        go_wp2
        go_ret
        exact ⟨rfl, Hd.out _⟩
      · have d2 : (t0 == t1) = false := by simpa using h01
        rw [if_neg (fun h => h01 h.2)] at hres
        have Hres := Lib.hid hres
        clear h01 ht0 ht1 hrd hgo key hres
        go_upto_region 9 with fail
        go_quiet (fail)
        have HB : Hid (Below wc.heap.size wc (wc.drewN nq)) := Lib.hid (below_dr (Below.refl _ _) nq)
        obtain ⟨y0, y2, y6, -⟩ := Hc.out _ HB.out
        clear x0 x2 x6
        obtain ⟨V, hV⟩ : ∃ V, V = wc.drewN nq := ⟨_, rfl⟩
        have HV := Lib.hid hV
        rw [← hV] at y0 y2 y6 HB ⊢
        clear hV
        go_upto_block 1 with fail
        go_wp2_with fail
        go_loopw [39] (fun u39 wr => ∃ i : Nat, i ≤ tn ∧ u39 = .int .i64 i ∧ Hid ((to_.take i).all (inB bn) = true) ∧ wr = V) (fun u39 _ => tn - (intOf u39).toNat)
        case atStart => exact ⟨0, Nat.zero_le _, rfl, Lib.hid (by simp), by trivial⟩
        case round =>
          obtain ⟨i, hi, rfl, HA, rfl⟩ := hrel
          by_cases hli : i < tn
          · obtain ⟨-, -, -, hrd⟩ := Hc.out wr HB.out
            obtain ⟨gg, oo, hAe, k7⟩ := hrd i hli
            obtain ⟨t, ht⟩ : ∃ t, t = to_.getD i 0 := ⟨_, rfl⟩
            rw [← ht] at k7
            have hil : i < to_.length := by rw [← Htl.out]; exact hli
            have htk : (to_.take (i + 1)).all (inB bn) = inB bn t := by
              rw [← List.take_append_getElem hil, List.all_append, HA.out, ht]
              simp [List.getD, hil]
            have Htk := Lib.hid htk
            have hmem : Hid (inB bn t = false → to_.all (inB bn) = false) := Lib.hid fun hf => by
              cases hq : to_.all (inB bn) with
              | false => rfl
              | true =>
                have := List.all_eq_true.1 hq to_[i] (List.getElem_mem hil)
                rw [ht] at hf
                simp [List.getD, hil] at hf
                rw [hf] at this; cases this
            first
              | (subst hAe; have tok : True := trivial)
              | (obtain ⟨rfl, rfl⟩ : g = gg ∧ o = oo := by simpa using hAe)
            clear htk hil hrd ht HA
            by_cases h1 : t < 1
            · have e1 : decide (t < 1) = true := decide_eq_true h1
              have hf : res = false := by rw [Hres.out]; exact hmem.out (by unfold inB; rw [decide_eq_false (by omega)]; rfl)
              subst hf
              go_wp2_with fail
              go_ret
              exact ⟨rfl, by rw [HV.out]; exact Hd.out _⟩
            · have e1 : decide (t < 1) = false := decide_eq_false h1
              by_cases h2 : t ≥ (bn : Int)
              · have e2 : decide (t ≥ (bn : Int)) = true := decide_eq_true h2
                have hf : res = false := by rw [Hres.out]; exact hmem.out (by unfold inB; rw [decide_eq_false (by omega : ¬ t < (bn : Int))]; simp)
                subst hf
                go_wp2_with fail
                go_ret
                exact ⟨rfl, by rw [HV.out]; exact Hd.out _⟩
              · have e2 : decide (t ≥ (bn : Int)) = false := decide_eq_false h2
                have HA2 : Hid ((to_.take (i + 1)).all (inB bn) = true) := Lib.hid (by rw [Htk.out]; unfold inB; rw [decide_eq_true (by omega : 1 ≤ t), decide_eq_true (by omega : t < (bn : Int))]; rfl)
                clear h1 h2
                go_wp2_with fail
                go_roundw
                case rel => exact ⟨i + 1, by omega, by go_num, HA2, by trivial⟩
                case measure => simp [intOf]; omega
          · obtain rfl : tn = i := by omega
            have hf : res = true := by rw [Hres.out]; have := HA.out; rw [Htl.out, List.take_length] at this; exact this
            subst hf
            go_wp2_with fail
            go_ret
            exact ⟨rfl, by rw [HV.out]; exact Hd.out _⟩
    · rw [if_neg (fun h => hm22 h.1)] at hres
      have d2 : (m == 2) = false := by simpa using hm22
      have Hres := Lib.hid hres
      clear key hres hm22
      go_upto_region 9 with fail
      go_quiet (fail)
      have HB : Hid (Below wc.heap.size wc (wc.drewN nq)) := Lib.hid (below_dr (Below.refl _ _) nq)
      obtain ⟨y0, y2, y6, -⟩ := Hc.out _ HB.out
      clear x0 x2 x6
      obtain ⟨V, hV⟩ : ∃ V, V = wc.drewN nq := ⟨_, rfl⟩
      have HV := Lib.hid hV
      rw [← hV] at y0 y2 y6 HB ⊢
      clear hV
      go_upto_block 1 with fail
      go_wp2_with fail
      go_loopw [39] (fun u39 wr => ∃ i : Nat, i ≤ tn ∧ u39 = .int .i64 i ∧ Hid ((to_.take i).all (inB bn) = true) ∧ wr = V) (fun u39 _ => tn - (intOf u39).toNat)
      case atStart => exact ⟨0, Nat.zero_le _, rfl, Lib.hid (by simp), by trivial⟩
      case round =>
        obtain ⟨i, hi, rfl, HA, rfl⟩ := hrel
        by_cases hli : i < tn
        · obtain ⟨-, -, -, hrd⟩ := Hc.out wr HB.out
          obtain ⟨gg, oo, hAe, k7⟩ := hrd i hli
          obtain ⟨t, ht⟩ : ∃ t, t = to_.getD i 0 := ⟨_, rfl⟩
          rw [← ht] at k7
          have hil : i < to_.length := by rw [← Htl.out]; exact hli
          have htk : (to_.take (i + 1)).all (inB bn) = inB bn t := by
            rw [← List.take_append_getElem hil, List.all_append, HA.out, ht]
            simp [List.getD, hil]
          have Htk := Lib.hid htk
          have hmem : Hid (inB bn t = false → to_.all (inB bn) = false) := Lib.hid fun hf => by
            cases hq : to_.all (inB bn) with
            | false => rfl
            | true =>
              have := List.all_eq_true.1 hq to_[i] (List.getElem_mem hil)
              rw [ht] at hf
              simp [List.getD, hil] at hf
              rw [hf] at this; cases this
          first
            | (subst hAe; have tok : True := trivial)
            | (obtain ⟨rfl, rfl⟩ : g = gg ∧ o = oo := by simpa using hAe)
          clear htk hil hrd ht HA
          by_cases h1 : t < 1
          · have e1 : decide (t < 1) = true := decide_eq_true h1
            have hf : res = false := by rw [Hres.out]; exact hmem.out (by unfold inB; rw [decide_eq_false (by omega)]; rfl)
            subst hf
            go_wp2_with fail
            go_ret
            exact ⟨rfl, by rw [HV.out]; exact Hd.out _⟩
          · have e1 : decide (t < 1) = false := decide_eq_false h1
            by_cases h2 : t ≥ (bn : Int)
            · have e2 : decide (t ≥ (bn : Int)) = true := decide_eq_true h2
              have hf : res = false := by rw [Hres.out]; exact hmem.out (by unfold inB; rw [decide_eq_false (by omega : ¬ t < (bn : Int))]; simp)
              subst hf
              go_wp2_with fail
              go_ret
              exact ⟨rfl, by rw [HV.out]; exact Hd.out _⟩
            · have e2 : decide (t ≥ (bn : Int)) = false := decide_eq_false h2
              have HA2 : Hid ((to_.take (i + 1)).all (inB bn) = true) := Lib.hid (by rw [Htk.out]; unfold inB; rw [decide_eq_true (by omega : 1 ≤ t), decide_eq_true (by omega : t < (bn : Int))]; rfl)
              clear h1 h2
              go_wp2_with fail
              go_roundw
              case rel => exact ⟨i + 1, by omega, by go_num, HA2, by trivial⟩
              case measure => simp [intOf]; omega
        · obtain rfl : tn = i := by omega
          have hf : res = true := by rw [Hres.out]; have := HA.out; rw [Htl.out, List.take_length] at this; exact this
          subst hf
          go_wp2_with fail
          go_ret
          exact ⟨rfl, by rw [HV.out]; exact Hd.out _⟩
  · have d1 : ((tn : Int) != m) = true := by simp; omega
    rw [if_neg (by rw [← Htl.out]; exact hlm)] at hres
    subst hres
    clear hlm
    go_upto_region 9 with fail
    go_quiet (fail)
    go_wp2
    go_ret
    exact ⟨rfl, Hd.out _⟩
end Go.Proofs.Ytagagpappjkgbaa
namespace Go.Proofs.Ytagagpappjkgbaa
set_option linter.unusedVariables false
set_option linter.unusedSimpArgs false
open Go.RowKit

def okTerm (bn : Nat) (r : Int) (ni : Nat) (d : SB) : Bool := goesP bn d.kind d.to_ && asksP r d.kind d.arg ni
def shapedP (r : Int) (ni : Nat) (bl : List SB) : Bool := bl.all (okTerm bl.length r ni) && decide (0 < bl.length)
theorem SubC.keep {w w' : World} {sb : Nat} {fA : Option Addr} {fn fc : Nat} {mn : Int} {s : ByteArray} {pA : Option Addr} {pn pc : Nat} {r : Int} {iA : Option Addr} {in_ ic : Nat} {bA : Option Addr} {bn bc : Nat} {vi va : Value} (h : SubC w sb fA fn fc mn s pA pn pc r iA in_ ic bA bn bc vi va) (hb : Below w.heap.size w w') : SubC w' sb fA fn fc mn s pA pn pc r iA in_ ic bA bn bc vi va := (hb.block sb (gr_in h)).trans h
set_option maxRecDepth 100000 in
set_option maxHeartbeats 4000000 in
theorem shaped_g (n0 sb : Nat) (fA : Option Addr) (fn fc : Nat) (mn : Int) (s : ByteArray) (pA : Option Addr) (pn pc : Nat) (r : Int) (iA : Option Addr) (in_ ic : Nat) (bA : Option Addr) (bn bc : Nat) (vi va : Value) (bl : List SB) (w : World) (h : SubC w sb fA fn fc mn s pA pn pc r iA in_ ic bA bn bc vi va) (hn : n0 ≤ w.heap.size) (hbl : SBs n0 w (.slice bA bn bc) bl) (hbn : bn = bl.length) (hbb : bn ≤ 1048576) (htb : ∀ d ∈ bl, d.to_.length ≤ 1048576) :
    Calls Try.prog 94 #[.pointer (some ⟨sb, 0, none⟩)] w fun e w' => e = .returned (.bool (shapedP r in_ bl)) ∧ Below w.heap.size w w' := by
  have HS : Hid (∀ V, Below w.heap.size w V → SubC V sb fA fn fc mn s pA pn pc r iA in_ ic bA bn bc vi va ∧ SBs n0 V (.slice bA bn bc) bl ∧ V.cell? ⟨sb, 6, none⟩ = some (.slice bA bn bc)) := Lib.hid fun V hV => ⟨h.keep hV, hbl.keep (hV.mono hn), Lib.cell_of_heap (h.keep hV) 6⟩
  obtain ⟨res, hres⟩ : ∃ res, res = shapedP r in_ bl := ⟨_, rfl⟩
  rw [← hres]
  unfold shapedP at hres
  rw [← hbn] at hres
  have Hres := Lib.hid hres
  have Hbn := Lib.hid hbn
  have Htb := Lib.hid htb
  have HN0 : Hid ((bl.take 0).all (okTerm bn r in_) = true ∧ Below w.heap.size w w) := Lib.hid ⟨by simp, Below.refl _ _⟩
  have x6 := (HS.out w (Below.refl _ _)).2.2
  clear h hbl hres hbn htb
  go_enter Try.func94, Try.ntmps94
  go_upto_block 0 with fail
  clear x6
  go_wp2_with fail
  go_loopw [11] (fun u11 wr => ∃ i : Nat, i ≤ bn ∧ u11 = .int .i64 i ∧ Hid ((bl.take i).all (okTerm bn r in_) = true ∧ Below w.heap.size w wr)) (fun u11 _ => bn - (intOf u11).toNat)
  case atStart => exact ⟨0, Nat.zero_le _, rfl, HN0⟩
  case round =>
    clear HN0
    obtain ⟨i, hi, rfl, HN⟩ := hrel
    obtain ⟨C, hC⟩ : ∃ C, C = wr := ⟨_, rfl⟩
    rw [← hC] at HN ⊢
    clear hC
    by_cases hli : i < bn
    · have hil : i < bl.length := by rw [← Hbn.out]; exact hli
      obtain ⟨gb, o, lA, lc, pA', pc', tA, tc, rfl, hgb, k0, k1, k2, k3, k4, -, -, ht⟩ := (HS.out C HN.out.2).2.1.at hil
      obtain ⟨d, hd⟩ : ∃ d, d = bl[i] := ⟨_, rfl⟩
      rw [← hd] at k0 k1 k2 k3 k4 ht
      obtain ⟨Z, hZ, hbZ, hzZ, h0Z⟩ := gr_one C #[.slice lA d.list.length lc, .slice pA' d.preds.length pc', .int .i64 d.kind, .int .i64 d.arg, .slice tA d.to_.length tc] 76
      have hZw : Below w.heap.size w Z := HN.out.2.trans (hbZ.mono HN.out.2.size)
      have hsZ := (HS.out Z hZw).1
      have htZ : GNs Z.heap.size Z (.slice tA d.to_.length tc) d.to_ := (ht.keep (hbZ.mono (by have := HN.out.2.size; omega))).mono (by have := hZw.size; omega)
      have hG := goes_g sb fA fn fc mn s pA pn pc r iA in_ ic _ bn bc vi va d.kind d.arg tA d.to_.length tc d.to_ Z hsZ htZ (Htb.out d (by rw [hd]; exact List.getElem_mem hil))
      have hA : ∀ V, Below Z.heap.size Z V → Calls Try.prog 114 #[.pointer (some ⟨sb, 0, none⟩), .agg #[.int .i64 d.kind, .int .i64 d.arg, .slice tA d.to_.length tc]] V fun e w' => e = .returned (.bool (asksP r d.kind d.arg in_)) ∧ Below V.heap.size V w' := fun V hV => asks_g sb fA fn fc mn s pA pn pc r iA in_ ic _ bn bc vi va d.kind d.arg tA d.to_.length tc V (hsZ.keep hV)
      have HA := Lib.hid hA
      have HX : Hid (∀ V, Below Z.heap.size Z V → V.cell? ⟨C.heap.size, 2, none⟩ = some (.int .i64 d.kind) ∧ V.cell? ⟨C.heap.size, 3, none⟩ = some (.int .i64 d.arg) ∧ V.cell? ⟨C.heap.size, 4, none⟩ = some (.slice tA d.to_.length tc)) := Lib.hid fun V hV => by
        have e1 := (hV.block C.heap.size (by omega)).trans h0Z
        exact ⟨Lib.cell_of_heap e1 2, Lib.cell_of_heap e1 3, Lib.cell_of_heap e1 4⟩
      have htk : (bl.take (i + 1)).all (okTerm bn r in_) = (goesP bn d.kind d.to_ && asksP r d.kind d.arg in_) := by
        rw [← List.take_append_getElem hil, List.all_append, HN.out.1, ← hd]
        simp [okTerm]
      have hfl : (goesP bn d.kind d.to_ && asksP r d.kind d.arg in_) = false → res = false := fun hf => by
        rw [Hres.out]
        cases hq : bl.all (okTerm bn r in_) with
        | false => rfl
        | true =>
          have := List.all_eq_true.1 hq bl[i] (List.getElem_mem hil)
          rw [← hd] at this
          unfold okTerm at this
          rw [hf] at this; cases this
      have Htk := Lib.hid htk
      have Hfl := Lib.hid hfl
      have HZ := Lib.hid hZ
      have HZw := Lib.hid hZw
      have hzc : C.heap.size < Z.heap.size := by omega
      obtain ⟨y2, y3, y4⟩ := HX.out Z (Below.refl _ _)
      clear hA htk hfl hZ hbZ hzZ h0Z hZw hsZ htZ ht hd hil HN hgb
      go_upto_region 4 with fail
      rw [← HZ.out]
      clear k0 k1 k2 k3 k4
      obtain ⟨q1, hq1⟩ : ∃ q, q = goesP bn d.kind d.to_ := ⟨_, rfl⟩
      obtain ⟨q2, hq2⟩ : ∃ q, q = asksP r d.kind d.arg in_ := ⟨_, rfl⟩
      rw [← hq1] at hG Htk Hfl
      rw [← hq2] at HA Htk Hfl
      clear hq1 hq2
      cases q1 with
      | false =>
        have hf := Hfl.out rfl
        subst hf
        go_wp2_with (go_at_call 113; refine hG.mono ?_; rintro e w5 ⟨rfl, hb5⟩; have Hb5 := Lib.hid (HZw.out.trans (hb5.mono HZw.out.size)); clear hb5 hG)
        go_ret
        exact ⟨rfl, Hb5.out⟩
      | true =>
        cases q2 with
        | false =>
          have hf := Hfl.out rfl
          subst hf
          go_wp2_with (first
            | (go_at_call 113; refine hG.mono ?_; rintro e w5 ⟨rfl, hb5⟩; have hA5 := HA.out w5 hb5; obtain ⟨z2, z3, z4⟩ := HX.out w5 hb5; have Hb5 := Lib.hid (HZw.out.trans (hb5.mono HZw.out.size)); clear hb5 hG)
            | (go_at_call 114; refine hA5.mono ?_; rintro e w6 ⟨rfl, hb6⟩; have Hb6 := Lib.hid (Hb5.out.trans (hb6.mono Hb5.out.size)); clear hb6 hA5))
          go_ret
          exact ⟨rfl, Hb6.out⟩
        | true =>
          go_wp2_with (first
            | (go_at_call 113; refine hG.mono ?_; rintro e w5 ⟨rfl, hb5⟩; have hA5 := HA.out w5 hb5; obtain ⟨z2, z3, z4⟩ := HX.out w5 hb5; have Hb5 := Lib.hid (HZw.out.trans (hb5.mono HZw.out.size)); clear hb5 hG)
            | (go_at_call 114; refine hA5.mono ?_; rintro e w6 ⟨rfl, hb6⟩; have HN6 : Hid ((bl.take (i + 1)).all (okTerm bn r in_) = true ∧ Below w.heap.size w w6) := Lib.hid ⟨by rw [Htk.out]; rfl, Hb5.out.trans (hb6.mono Hb5.out.size)⟩; clear hb6 hA5))
          go_roundw
          case rel => exact ⟨i + 1, by omega, by go_num, HN6⟩
          case measure => simp [intOf]; omega
    · obtain rfl : bn = i := by omega
      have x6 := (HS.out C HN.out.2).2.2
      have hf : res = decide (0 < bn) := by
        rw [Hres.out]
        have := HN.out.1
        rw [Hbn.out, List.take_length, ← Hbn.out] at this
        rw [this]
        simp
      subst hf
      go_wp2_with fail
      go_ret
      exact ⟨rfl, HN.out.2⟩
end Go.Proofs.Ytagagpappjkgbaa
namespace Go.Proofs.Ytagagpappjkgbaa
set_option linter.unusedVariables false
set_option linter.unusedSimpArgs false
open Go.RowKit

/-- Functions as they lie, below n0. -/
def SFs (n0 : Nat) (w : World) (v : Value) (l : List SF) : Prop := ∃ A c, v = .slice A l.length c ∧ (0 < l.length → ∃ b o, A = some ⟨b, o, none⟩ ∧ b < n0 ∧
  ∀ j d, l[j]? = some d → ∃ s pv iv bv, w.cell? ⟨b, o + j * 5, none⟩ = some (.string s) ∧ w.cell? ⟨b, o + j * 5 + 1, none⟩ = some pv ∧ w.cell? ⟨b, o + j * 5 + 2, none⟩ = some (.int .i64 d.ret) ∧ w.cell? ⟨b, o + j * 5 + 3, none⟩ = some iv ∧ w.cell? ⟨b, o + j * 5 + 4, none⟩ = some bv ∧ GNs n0 w pv d.params ∧ SIs n0 w iv d.ins ∧ SBs n0 w bv d.blocks)
theorem SFs.keep {n0 : Nat} {w w' : World} {v : Value} {l : List SF} (h : SFs n0 w v l) (hb : Below n0 w w') : SFs n0 w' v l := by
  obtain ⟨A, c, hv, hr⟩ := h
  refine ⟨A, c, hv, fun hp => ?_⟩
  obtain ⟨b, o, hA, hbn, hc⟩ := hr hp
  refine ⟨b, o, hA, hbn, fun j d hd => ?_⟩
  obtain ⟨s, pv, iv, bv, h0, h1, h2, h3, h4, h5, h6, h7⟩ := hc j d hd
  have k : ∀ q, w'.cell? ⟨b, q, none⟩ = w.cell? ⟨b, q, none⟩ := fun q => hb.cell (p := ⟨b, q, none⟩) hbn
  exact ⟨s, pv, iv, bv, (k _).trans h0, (k _).trans h1, (k _).trans h2, (k _).trans h3, (k _).trans h4, h5.keep hb, h6.keep hb, h7.keep hb⟩
theorem SFs.at {n0 : Nat} {w : World} {A : Option Addr} {m c : Nat} {l : List SF} (h : SFs n0 w (.slice A m c) l) {j : Nat} (hj : j < l.length) :
    ∃ b o s pA pc iA ic bA bc, A = some ⟨b, o, none⟩ ∧ b < n0 ∧ w.cell? ⟨b, o + j * 5, none⟩ = some (.string s) ∧ w.cell? ⟨b, o + j * 5 + 1, none⟩ = some (.slice pA l[j].params.length pc) ∧ w.cell? ⟨b, o + j * 5 + 2, none⟩ = some (.int .i64 l[j].ret) ∧ w.cell? ⟨b, o + j * 5 + 3, none⟩ = some (.slice iA l[j].ins.length ic) ∧ w.cell? ⟨b, o + j * 5 + 4, none⟩ = some (.slice bA l[j].blocks.length bc) ∧
      GNs n0 w (.slice pA l[j].params.length pc) l[j].params ∧ SIs n0 w (.slice iA l[j].ins.length ic) l[j].ins ∧ SBs n0 w (.slice bA l[j].blocks.length bc) l[j].blocks := by
  obtain ⟨A', c', hv, hr⟩ := h
  obtain ⟨b, o, hA, hbn, hc⟩ := hr (by omega)
  injection hv with e1
  subst e1
  obtain ⟨s, pv, iv, bv, h0, h1, h2, h3, h4, h5, h6, h7⟩ := hc j _ (List.getElem?_eq_getElem hj)
  obtain ⟨pA, pc, rfl, _⟩ := id h5
  obtain ⟨iA, ic, rfl, _⟩ := id h6
  obtain ⟨bA, bc, rfl, _⟩ := id h7
  exact ⟨b, o, s, pA, pc, iA, ic, bA, bc, hA, hbn, h0, h1, h2, h3, h4, h5, h6, h7⟩
def okParam (t : Int) : Bool := isTypeP t && (t != 0)
def declaredP (params : List Int) (ret : Int) : Bool := decide (params.length ≤ 16) && isTypeP ret && params.all okParam
set_option maxRecDepth 100000 in
set_option maxHeartbeats 4000000 in
theorem declared_g (s : ByteArray) (pA : Option Addr) (pn pc : Nat) (r : Int) (iA : Option Addr) (in_ ic : Nat) (bA : Option Addr) (bn bc : Nat) (params : List Int) (w : World) (hp : GNs w.heap.size w (.slice pA pn pc) params) (hpb : pn ≤ 1048576) :
    Calls Try.prog 75 #[.agg #[.string s, .slice pA pn pc, .int .i64 r, .slice iA in_ ic, .slice bA bn bc]] w fun e w' => e = .returned (.bool (declaredP params r)) ∧ Below w.heap.size w w' := by
  obtain ⟨W, hW, hbW, hzW, h0W⟩ := gr_one w #[.string s, .slice pA pn pc, .int .i64 r, .slice iA in_ ic, .slice bA bn bc] 68
  obtain ⟨x0, x1, x2, x3, x4, -⟩ := gr_five h0W
  have hpl := hp.len
  have hrd : ∀ j, j < pn → ∃ g o, pA = some ⟨g, o, none⟩ ∧ W.cell? ⟨g, o + j, none⟩ = some (.int .i64 (params.getD j 0)) := fun j hj => by
    obtain ⟨g, o, hA, _, hcj⟩ := (hp.keep hbW).at (j := j) (by omega)
    exact ⟨g, o, hA, by rw [hcj]; simp [List.getD, (by omega : j < params.length)]⟩
  obtain ⟨res, hres⟩ : ∃ res, res = declaredP params r := ⟨_, rfl⟩
  rw [← hres]
  unfold declaredP at hres
  rw [← hpl] at hres
  have Hpl := Lib.hid hpl
  have Hrd := Lib.hid hrd
  have HbW := Lib.hid hbW
  have HW := Lib.hid hW
  have hT := isType_g r W
  clear hbW hW hzW h0W hp hpl hrd
  by_cases h16 : pn ≤ 16
  · have d1 : decide ((pn : Int) > 16) = false := decide_eq_false (by omega)
    rw [decide_eq_true h16, Bool.true_and] at hres
    cases hq : isTypeP r with
    | false =>
      rw [hq] at hres hT
      have hf : res = false := by rw [hres]; rfl
      subst hf
      clear hres hq h16
      go_enter Try.func75, Try.ntmps75
      go_upto_region 1 with fail
      rw [← HW.out]
      go_wp2_with (go_at_call 93; refine hT.mono ?_; rintro e w1 ⟨rfl, hw1⟩; rw [hw1]; clear hw1 w1 hT)
      go_ret
      exact ⟨rfl, HbW.out⟩
    | true =>
      rw [hq, Bool.true_and] at hres
      rw [hq] at hT
      have Hres := Lib.hid hres
      clear hres hq h16
      go_enter Try.func75, Try.ntmps75
      go_upto_region 1 with fail
      rw [← HW.out]
      go_upto_block 0 with (go_at_call 93; refine hT.mono ?_; rintro e w1 ⟨rfl, hw1⟩; rw [hw1]; clear hw1 w1 hT)
      go_wp2_with fail
      go_loopw [18] (fun u18 wr => ∃ i : Nat, i ≤ pn ∧ u18 = .int .i64 i ∧ Hid ((params.take i).all okParam = true) ∧ wr = W) (fun u18 _ => pn - (intOf u18).toNat)
      case atStart => exact ⟨0, Nat.zero_le _, rfl, Lib.hid (by simp), by trivial⟩
      case round =>
        obtain ⟨i, hi, rfl, HA, rfl⟩ := hrel
        by_cases hli : i < pn
        · obtain ⟨g, o, rfl, k1⟩ := Hrd.out i hli
          obtain ⟨t, ht⟩ : ∃ t, t = params.getD i 0 := ⟨_, rfl⟩
          rw [← ht] at k1
          have hil : i < params.length := by rw [← Hpl.out]; exact hli
          have hte : params[i] = t := by rw [ht]; simp [List.getD, hil]
          have htk : (params.take (i + 1)).all okParam = okParam t := by
            rw [← List.take_append_getElem hil, List.all_append, HA.out, hte]
            simp
          have hmem : okParam t = false → res = false := fun hf => by
            rw [Hres.out]
            cases hq : params.all okParam with
            | false => rfl
            | true =>
              have := List.all_eq_true.1 hq params[i] (List.getElem_mem hil)
              rw [hte, hf] at this; cases this
          have Htk := Lib.hid htk
          have Hmem := Lib.hid hmem
          have hTt := isType_g t wr
          clear htk hmem hte hil ht HA
          cases hq : isTypeP t with
          | false =>
            rw [hq] at hTt
            have hf := Hmem.out (by unfold okParam; rw [hq]; rfl)
            subst hf
            clear hq
            go_wp2_with (go_at_call 93; refine hTt.mono ?_; rintro e w1 ⟨rfl, hw1⟩; rw [hw1]; clear hw1 w1 hTt)
            go_ret
            exact ⟨rfl, HbW.out⟩
          | true =>
            rw [hq] at hTt
            by_cases ht0 : t = 0
            · have d2 : (t == 0) = true := by simpa using ht0
              have hf := Hmem.out (by unfold okParam; rw [ht0]; simp)
              subst hf
              clear hq ht0
              go_wp2_with (go_at_call 93; refine hTt.mono ?_; rintro e w1 ⟨rfl, hw1⟩; rw [hw1]; clear hw1 w1 hTt)
              go_ret
              exact ⟨rfl, HbW.out⟩
            · have d2 : (t == 0) = false := by simpa using ht0
              have HA2 : Hid ((params.take (i + 1)).all okParam = true) := Lib.hid (by rw [Htk.out]; unfold okParam; rw [hq]; simpa using ht0)
              clear hq ht0
              go_wp2_with (go_at_call 93; refine hTt.mono ?_; rintro e w1 ⟨rfl, hw1⟩; rw [hw1]; clear hw1 w1 hTt)
              go_roundw
              case rel => exact ⟨i + 1, by omega, by go_num, HA2, by trivial⟩
              case measure => simp [intOf]; omega
        · obtain rfl : pn = i := by omega
          have hf : res = true := by rw [Hres.out]; have := HA.out; rw [Hpl.out, List.take_length] at this; exact this
          subst hf
          go_wp2_with fail
          go_ret
          exact ⟨rfl, HbW.out⟩
  · have d1 : decide ((pn : Int) > 16) = true := decide_eq_true (by omega)
    have hf : res = false := by rw [hres, decide_eq_false h16]; rfl
    subst hf
    clear hres h16 hT
    go_enter Try.func75, Try.ntmps75
    go_upto_region 1 with fail
    rw [← HW.out]
    go_wp2
    go_ret
    exact ⟨rfl, HbW.out⟩
end Go.Proofs.Ytagagpappjkgbaa
namespace Go.Proofs.Ytagagpappjkgbaa
set_option linter.unusedVariables false
set_option linter.unusedSimpArgs false
open Go.RowKit

/-- Blocks laid down one by one. -/
def allocs (w : World) : List Obj → World
  | [] => w
  | o :: os => allocs (w.alloc o) os
theorem allocs_size (os : List Obj) : ∀ w : World, (allocs w os).heap.size = w.heap.size + os.length := by
  induction os with
  | nil => intro w; rfl
  | cons o os ih => intro w; unfold allocs; rw [ih]; simp; omega
theorem allocs_below (os : List Obj) : ∀ (B : Nat) (w : World), B ≤ w.heap.size → Below B w (allocs w os) := by
  induction os with
  | nil => intro B w _; exact Below.refl _ _
  | cons o os ih =>
    intro B w h
    unfold allocs
    exact ((Below.refl B w).alloc h o).trans (ih B (w.alloc o) (by simp; omega))
theorem allocs_at (os : List Obj) : ∀ (w : World) (k : Nat) (x : Array Value) (T : TypeId), os[k]? = some (.cells x T) → (allocs w os).heap[w.heap.size + k]? = some (.cells x T (0, 0)) := by
  induction os with
  | nil => intro w k x T h; cases h
  | cons o os ih =>
    intro w k x T h
    unfold allocs
    cases k with
    | zero =>
      injection h with h
      subst h
      have hb := allocs_below os (w.alloc (.cells x T)).heap.size (w.alloc (.cells x T)) (Nat.le_refl _)
      exact (hb.block w.heap.size (by simp)).trans (heap_alloc_new w _)
    | succ k =>
      have := ih (w.alloc o) k x T h
      rw [show (w.alloc o).heap.size + k = w.heap.size + (k + 1) by simp; omega] at this
      exact this

theorem GNs.of {W : World} {b n0 : Nat} {T : TypeId} (l : List Int) (h : W.heap[b]? = some (.cells (intsV l).toArray T (0, 0))) (hb : b < n0) : GNs n0 W (.slice (some ⟨b, 0, none⟩) l.length l.length) l := by
  refine ⟨_, _, rfl, fun _ => ⟨b, 0, rfl, hb, fun j x hx => ?_⟩⟩
  rw [Nat.zero_add, Lib.cell_of_heap h j]
  simp [intsV, hx]
theorem GNs.nil (n0 : Nat) (W : World) : GNs n0 W (.slice none 0 0) [] := ⟨none, 0, rfl, fun h => by simp at h⟩

def insRow : List (SIn × Value) → List Value
  | [] => []
  | (d, av) :: r => .int .i64 d.op :: .int .i64 d.ty :: av :: .int .i64 d.n :: .int .i64 d.to_ :: insRow r
def insHas (n0 : Nat) (W : World) : List (SIn × Value) → Prop
  | [] => True
  | (d, av) :: r => GNs n0 W av d.args ∧ insHas n0 W r
theorem insRow_at : ∀ (l : List (SIn × Value)) (j : Nat) (d : SIn) (av : Value), l[j]? = some (d, av) →
    (insRow l)[j * 5]? = some (.int .i64 d.op) ∧ (insRow l)[j * 5 + 1]? = some (.int .i64 d.ty) ∧ (insRow l)[j * 5 + 2]? = some av ∧ (insRow l)[j * 5 + 3]? = some (.int .i64 d.n) ∧ (insRow l)[j * 5 + 4]? = some (.int .i64 d.to_)
  | [], j, d, av, h => by cases h
  | (d', av') :: r, 0, d, av, h => by
    injection h with h
    injection h with h1 h2
    subst h1; subst h2
    exact ⟨rfl, rfl, rfl, rfl, rfl⟩
  | p :: r, j + 1, d, av, h => by
    have := insRow_at r j d av h
    obtain ⟨d', av'⟩ := p
    rw [show (j + 1) * 5 = j * 5 + 5 by omega]
    exact this
theorem insHas_at {n0 : Nat} {W : World} : ∀ {l : List (SIn × Value)}, insHas n0 W l → ∀ {j : Nat} {d : SIn} {av : Value}, l[j]? = some (d, av) → GNs n0 W av d.args
  | [], _, j, d, av, h => by cases h
  | p :: r, hg, 0, d, av, h => by injection h with h; subst h; exact hg.1
  | p :: r, hg, j + 1, d, av, h => insHas_at (l := r) (by obtain ⟨d', av'⟩ := p; exact hg.2) h
theorem SIs.of {W : World} {b n0 : Nat} {T : TypeId} (l : List (SIn × Value)) (h : W.heap[b]? = some (.cells (insRow l).toArray T (0, 0))) (hb : b < n0) (hg : insHas n0 W l) : SIs n0 W (.slice (some ⟨b, 0, none⟩) l.length l.length) (l.map Prod.fst) := by
  refine ⟨some ⟨b, 0, none⟩, l.length, by rw [List.length_map], fun _ => ⟨b, 0, rfl, hb, fun j d hd => ?_⟩⟩
  rw [List.getElem?_map] at hd
  cases hl : l[j]? with
  | none => rw [hl] at hd; cases hd
  | some p =>
    obtain ⟨d', av⟩ := p
    rw [hl] at hd
    injection hd with hd
    subst hd
    obtain ⟨h0, h1, h2, h3, h4⟩ := insRow_at l j d' av hl
    have c : ∀ q, W.cell? ⟨b, 0 + q, none⟩ = (insRow l)[q]? := fun q => by rw [Nat.zero_add, Lib.cell_of_heap h q, List.getElem?_toArray]
    refine ⟨av, ?_, ?_, ?_, ?_, ?_, insHas_at hg hl⟩
    · rw [c, h0]
    · rw [show 0 + j * 5 + 1 = 0 + (j * 5 + 1) by omega, c, h1]
    · rw [show 0 + j * 5 + 2 = 0 + (j * 5 + 2) by omega, c, h2]
    · rw [show 0 + j * 5 + 3 = 0 + (j * 5 + 3) by omega, c, h3]
    · rw [show 0 + j * 5 + 4 = 0 + (j * 5 + 4) by omega, c, h4]

structure BV where
  l : Value
  p : Value
  t : Value
def blkRow : List (SB × BV) → List Value
  | [] => []
  | (d, v) :: r => v.l :: v.p :: .int .i64 d.kind :: .int .i64 d.arg :: v.t :: blkRow r
def blkHas (n0 : Nat) (W : World) : List (SB × BV) → Prop
  | [] => True
  | (d, v) :: r => (GNs n0 W v.l d.list ∧ GNs n0 W v.p d.preds ∧ GNs n0 W v.t d.to_) ∧ blkHas n0 W r
theorem blkRow_at : ∀ (l : List (SB × BV)) (j : Nat) (d : SB) (v : BV), l[j]? = some (d, v) →
    (blkRow l)[j * 5]? = some v.l ∧ (blkRow l)[j * 5 + 1]? = some v.p ∧ (blkRow l)[j * 5 + 2]? = some (.int .i64 d.kind) ∧ (blkRow l)[j * 5 + 3]? = some (.int .i64 d.arg) ∧ (blkRow l)[j * 5 + 4]? = some v.t
  | [], j, d, v, h => by cases h
  | (d', v') :: r, 0, d, v, h => by
    injection h with h
    injection h with h1 h2
    subst h1; subst h2
    exact ⟨rfl, rfl, rfl, rfl, rfl⟩
  | p :: r, j + 1, d, v, h => by
    have := blkRow_at r j d v h
    obtain ⟨d', v'⟩ := p
    rw [show (j + 1) * 5 = j * 5 + 5 by omega]
    exact this
theorem blkHas_at {n0 : Nat} {W : World} : ∀ {l : List (SB × BV)}, blkHas n0 W l → ∀ {j : Nat} {d : SB} {v : BV}, l[j]? = some (d, v) → GNs n0 W v.l d.list ∧ GNs n0 W v.p d.preds ∧ GNs n0 W v.t d.to_
  | [], _, j, d, av, h => by cases h
  | p :: r, hg, 0, d, v, h => by injection h with h; subst h; exact hg.1
  | p :: r, hg, j + 1, d, v, h => blkHas_at (l := r) (by obtain ⟨d', v'⟩ := p; exact hg.2) h
theorem SBs.of {W : World} {b n0 : Nat} {T : TypeId} (l : List (SB × BV)) (h : W.heap[b]? = some (.cells (blkRow l).toArray T (0, 0))) (hb : b < n0) (hg : blkHas n0 W l) : SBs n0 W (.slice (some ⟨b, 0, none⟩) l.length l.length) (l.map Prod.fst) := by
  refine ⟨some ⟨b, 0, none⟩, l.length, by rw [List.length_map], fun _ => ⟨b, 0, rfl, hb, fun j d hd => ?_⟩⟩
  rw [List.getElem?_map] at hd
  cases hl : l[j]? with
  | none => rw [hl] at hd; cases hd
  | some p =>
    obtain ⟨d', v⟩ := p
    rw [hl] at hd
    injection hd with hd
    subst hd
    obtain ⟨h0, h1, h2, h3, h4⟩ := blkRow_at l j d' v hl
    obtain ⟨g0, g1, g2⟩ := blkHas_at hg hl
    have c : ∀ q, W.cell? ⟨b, 0 + q, none⟩ = (blkRow l)[q]? := fun q => by rw [Nat.zero_add, Lib.cell_of_heap h q, List.getElem?_toArray]
    refine ⟨v.l, v.p, v.t, ?_, ?_, ?_, ?_, ?_, g0, g1, g2⟩
    · rw [c, h0]
    · rw [show 0 + j * 5 + 1 = 0 + (j * 5 + 1) by omega, c, h1]
    · rw [show 0 + j * 5 + 2 = 0 + (j * 5 + 2) by omega, c, h2]
    · rw [show 0 + j * 5 + 3 = 0 + (j * 5 + 3) by omega, c, h3]
    · rw [show 0 + j * 5 + 4 = 0 + (j * 5 + 4) by omega, c, h4]
theorem SBs.take {n0 : Nat} {w : World} {A : Option Addr} {n c : Nat} {l : List SB} (k : Nat) (h : SBs n0 w (.slice A n c) l) (hk : k ≤ l.length) : SBs n0 w (.slice A k c) (l.take k) := by
  obtain ⟨A', c', hv, hr⟩ := h
  injection hv with e1 e2 e3
  subst e1; subst e3
  refine ⟨_, _, by rw [List.length_take, Nat.min_eq_left hk], fun hp => ?_⟩
  rw [List.length_take, Nat.min_eq_left hk] at hp
  obtain ⟨b, o, hA, hbn, hc⟩ := hr (by omega)
  refine ⟨b, o, hA, hbn, fun j d hd => hc j d ?_⟩
  rw [List.getElem?_take] at hd
  split at hd
  · exact hd
  · cases hd

structure FV where
  s : ByteArray
  p : Value
  i : Value
  b : Value
def funRow : List (SF × FV) → List Value
  | [] => []
  | (d, v) :: r => .string v.s :: v.p :: .int .i64 d.ret :: v.i :: v.b :: funRow r
def funHas (n0 : Nat) (W : World) : List (SF × FV) → Prop
  | [] => True
  | (d, v) :: r => (GNs n0 W v.p d.params ∧ SIs n0 W v.i d.ins ∧ SBs n0 W v.b d.blocks) ∧ funHas n0 W r
theorem funRow_at : ∀ (l : List (SF × FV)) (j : Nat) (d : SF) (v : FV), l[j]? = some (d, v) →
    (funRow l)[j * 5]? = some (.string v.s) ∧ (funRow l)[j * 5 + 1]? = some v.p ∧ (funRow l)[j * 5 + 2]? = some (.int .i64 d.ret) ∧ (funRow l)[j * 5 + 3]? = some v.i ∧ (funRow l)[j * 5 + 4]? = some v.b
  | [], j, d, v, h => by cases h
  | (d', v') :: r, 0, d, v, h => by
    injection h with h
    injection h with h1 h2
    subst h1; subst h2
    exact ⟨rfl, rfl, rfl, rfl, rfl⟩
  | p :: r, j + 1, d, v, h => by
    have := funRow_at r j d v h
    obtain ⟨d', v'⟩ := p
    rw [show (j + 1) * 5 = j * 5 + 5 by omega]
    exact this
theorem funHas_at {n0 : Nat} {W : World} : ∀ {l : List (SF × FV)}, funHas n0 W l → ∀ {j : Nat} {d : SF} {v : FV}, l[j]? = some (d, v) → GNs n0 W v.p d.params ∧ SIs n0 W v.i d.ins ∧ SBs n0 W v.b d.blocks
  | [], _, j, d, av, h => by cases h
  | p :: r, hg, 0, d, v, h => by injection h with h; subst h; exact hg.1
  | p :: r, hg, j + 1, d, v, h => funHas_at (l := r) (by obtain ⟨d', v'⟩ := p; exact hg.2) h
theorem funHas_keep {n0 : Nat} {W W' : World} (hb : Below n0 W W') : ∀ {l : List (SF × FV)}, funHas n0 W l → funHas n0 W' l
  | [], _ => trivial
  | p :: r, h => by
    obtain ⟨d, v⟩ := p
    exact ⟨⟨h.1.1.keep hb, h.1.2.1.keep hb, h.1.2.2.keep hb⟩, funHas_keep hb h.2⟩
theorem SFs.of {W : World} {b n0 n1 : Nat} {T : TypeId} (l : List (SF × FV)) (h : W.heap[b]? = some (.cells (funRow l).toArray T (0, 0))) (hb : b < n1) (hn : n0 ≤ n1) (hg : funHas n0 W l) : SFs n1 W (.slice (some ⟨b, 0, none⟩) l.length l.length) (l.map Prod.fst) := by
  refine ⟨some ⟨b, 0, none⟩, l.length, by rw [List.length_map], fun _ => ⟨b, 0, rfl, hb, fun j d hd => ?_⟩⟩
  rw [List.getElem?_map] at hd
  cases hl : l[j]? with
  | none => rw [hl] at hd; cases hd
  | some p =>
    obtain ⟨d', v⟩ := p
    rw [hl] at hd
    injection hd with hd
    subst hd
    obtain ⟨h0, h1, h2, h3, h4⟩ := funRow_at l j d' v hl
    obtain ⟨g0, g1, g2⟩ := funHas_at hg hl
    have c : ∀ q, W.cell? ⟨b, 0 + q, none⟩ = (funRow l)[q]? := fun q => by rw [Nat.zero_add, Lib.cell_of_heap h q, List.getElem?_toArray]
    refine ⟨v.s, v.p, v.i, v.b, ?_, ?_, ?_, ?_, ?_, g0.mono hn, g1.mono hn, g2.mono hn⟩
    · rw [c, h0]
    · rw [show 0 + j * 5 + 1 = 0 + (j * 5 + 1) by omega, c, h1]
    · rw [show 0 + j * 5 + 2 = 0 + (j * 5 + 2) by omega, c, h2]
    · rw [show 0 + j * 5 + 3 = 0 + (j * 5 + 3) by omega, c, h3]
    · rw [show 0 + j * 5 + 4 = 0 + (j * 5 + 4) by omega, c, h4]
end Go.Proofs.Ytagagpappjkgbaa
