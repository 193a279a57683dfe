/-
  Ways through blocks: worlds, rows of numbers, blocks as they lie; whether a function has a block; whether it is whole; whether two rows are the same.
  Whether two rows are the same; whether a function can be gone through.
  Ways through blocks over plain data: how blocks are left, by calls within one another and by a row of blocks that were entered; both come to the same.
-/
import Derived.Test.YtoplllebaagnnaaChecked
import Derived.WalkKit
import Derived.Defers
import Derived.Below
import Derived.Lib.Hide
import Derived.Lib.Builder
import Derived.Outline
import Derived.Deep.RegionHeld3
import Derived.Deep.DeepCutAuto
import Derived.Deep.AppendLies
import Derived.OwnWalk
import Derived.BigQuiet
namespace Go.Proofs.Ytoplllebaagnnaa
set_option linter.unusedVariables false
set_option linter.unusedSimpArgs false
open Go.RowKit

theorem gr_one (w : World) (x : Array Value) (T : TypeId) : ∃ W, W = w.alloc (.cells x T) ∧ Below w.heap.size w W ∧ W.heap.size = w.heap.size + 1 ∧ W.heap[w.heap.size]? = some (.cells x T (0, 0)) :=
  ⟨_, rfl, (Below.refl _ _).alloc (Nat.le_refl _) _, by simp, heap_alloc_new w _⟩
theorem gr_in {w : World} {k : Nat} {o : Obj} (h : w.heap[k]? = some o) : k < w.heap.size := by
  rcases Nat.lt_or_ge k w.heap.size with h' | h'
  · exact h'
  · rw [Array.getElem?_eq_none h'] at h; cases h
theorem gr_put {w : World} {b : Nat} {cs : Array Value} {T : TypeId} {fr : Nat × Nat} (hb : w.heap[b]? = some (.cells cs T fr)) (j : Nat) (u : Value) : (w.setCell ⟨b, j, none⟩ u).heap[b]? = some (.cells (cs.setIfInBounds j u) T fr) := by
  simp [World.setCell, Array.getElem?_modify, hb]
theorem gr_up {w w' : World} {base : Nat} {T : TypeId} {z n : Nat} {v : Value} {xs : List Value} (h : w.ownsRow base T z v n xs) (hb : Below w.heap.size w w') : w'.ownsRow base T z v n xs :=
  h.kept (row := none) ⟨hb.os, hb.tape, hb.output, hb.size, fun k hk _ => hb.block k hk⟩ (by cases Value.ownBlock _ <;> simp)
theorem gr_five {w : World} {b : Nat} {x0 x1 x2 x3 x4 : Value} {T : TypeId} (h : w.heap[b]? = some (.cells #[x0, x1, x2, x3, x4] T (0, 0))) :
    w.cell? ⟨b, 0, none⟩ = some x0 ∧ w.cell? ⟨b, 1, none⟩ = some x1 ∧ w.cell? ⟨b, 2, none⟩ = some x2 ∧ w.cell? ⟨b, 3, none⟩ = some x3 ∧ w.cell? ⟨b, 4, none⟩ = some x4 ∧ ∀ j, w.frozen? ⟨b, j, none⟩ = false :=
  ⟨Lib.cell_of_heap h 0, Lib.cell_of_heap h 1, Lib.cell_of_heap h 2, Lib.cell_of_heap h 3, Lib.cell_of_heap h 4, fun j => Lib.frozen_of_heap h j⟩
/-- The least number of which something holds. -/
theorem least_ex {p : Nat → Prop} (h : ∃ k, p k) : ∃ k, p k ∧ ∀ j, p j → k ≤ j := by
  obtain ⟨k, hk⟩ := h
  induction k using Nat.strongRecOn with
  | ind k ih =>
    by_cases hx : ∃ j, j < k ∧ p j
    · obtain ⟨j, hj, hp⟩ := hx
      exact ih j hj hp
    · exact ⟨k, hk, fun j hj => by
        rcases Nat.lt_or_ge j k with h | h
        · exact absurd ⟨j, h, hj⟩ hx
        · exact h⟩
noncomputable def leastN (p : Nat → Prop) : Nat := by
  classical exact if h : ∃ k, p k then Classical.choose (least_ex h) else 0
theorem leastN_spec {p : Nat → Prop} (h : ∃ k, p k) : p (leastN p) := by
  classical
  unfold leastN
  rw [dif_pos h]
  exact (Classical.choose_spec (least_ex h)).1
theorem leastN_le {p : Nat → Prop} {k : Nat} (h : p k) : leastN p ≤ k := by
  classical
  unfold leastN
  rw [dif_pos ⟨k, h⟩]
  exact (Classical.choose_spec (least_ex ⟨k, h⟩)).2 k h

def InG (x : Int) : Prop := -9223372036854775808 ≤ x ∧ x ≤ 9223372036854775807
/-- Numbers as they lie, below n0. -/
def GNs (n0 : Nat) (w : World) (v : Value) (l : List Int) : Prop := ∃ A c, v = .slice A l.length c ∧ (0 < l.length → ∃ b o, A = some ⟨b, o, none⟩ ∧ b < n0 ∧ ∀ j x, l[j]? = some x → w.cell? ⟨b, o + j, none⟩ = some (.int .i64 x))
theorem GNs.keep {n0 : Nat} {w w' : World} {v : Value} {l : List Int} (h : GNs n0 w v l) (hb : Below n0 w w') : GNs n0 w' v l := by
  obtain ⟨A, c, hv, hr⟩ := h
  refine ⟨A, c, hv, fun hp => ?_⟩
  obtain ⟨b, o, hA, hbn, hc⟩ := hr hp
  exact ⟨b, o, hA, hbn, fun j x hx => (hb.cell (p := ⟨b, o + j, none⟩) hbn).trans (hc j x hx)⟩
theorem GNs.mono {n0 n1 : Nat} {w : World} {v : Value} {l : List Int} (h : GNs n0 w v l) (hn : n0 ≤ n1) : GNs n1 w v l := by
  obtain ⟨A, c, hv, hr⟩ := h
  refine ⟨A, c, hv, fun hp => ?_⟩
  obtain ⟨b, o, hA, hbn, hc⟩ := hr hp
  exact ⟨b, o, hA, by omega, hc⟩
theorem GNs.at {n0 : Nat} {w : World} {A : Option Addr} {m c : Nat} {l : List Int} (h : GNs n0 w (.slice A m c) l) {j : Nat} (hj : j < l.length) :
    ∃ b o, A = some ⟨b, o, none⟩ ∧ b < n0 ∧ w.cell? ⟨b, o + j, none⟩ = some (.int .i64 l[j]) := by
  obtain ⟨A', c', hv, hr⟩ := h
  obtain ⟨b, o, hA, hbn, hc⟩ := hr (by omega)
  injection hv with e1
  subst e1
  exact ⟨b, o, hA, hbn, hc j _ (List.getElem?_eq_getElem hj)⟩
theorem GNs.len {n0 : Nat} {w : World} {A : Option Addr} {m c : Nat} {l : List Int} (h : GNs n0 w (.slice A m c) l) : m = l.length := by
  obtain ⟨A', c', hv, hr⟩ := h
  injection hv
/-- A row of the call's own. -/
def intsV (l : List Int) : List Value := l.map (Value.int .i64)
theorem intsV_len (l : List Int) : (intsV l).length = l.length := by simp [intsV]
theorem GNs.of_own {w : World} {base : Nat} {v : Value} {T : TypeId} {l : List Int} (h : w.ownsRow base T 1 v l.length (intsV l)) : GNs w.heap.size w v l := by
  rcases h.2 with ⟨rfl, h0⟩ | ⟨g, cap, cur, rfl, _, hg, _⟩
  · exact ⟨none, 0, by rw [h0], fun hp => by omega⟩
  · refine ⟨_, cap, rfl, fun _ => ⟨g, 0, rfl, gr_in hg, fun j x hx => ?_⟩⟩
    have hl : j < l.length := (List.getElem?_eq_some_iff.1 hx).1
    have := h.cellAt j (by omega)
    rw [Nat.zero_add, this]
    simp [intsV, hx]

/-- A block of a function: where it is come to from, where it goes. -/
structure GB where
  list : Value
  preds : List Int
  kind : Int
  arg : Int
  to_ : List Int
def GB.ok (d : GB) : Prop := d.preds.length ≤ 1048576 ∧ (∀ x ∈ d.preds, InG x) ∧ d.to_.length ≤ 1048576 ∧ (∀ x ∈ d.to_, InG x)
/-- Blocks as they lie, below n0. -/
def GBs (n0 : Nat) (w : World) (v : Value) (g : List GB) : Prop := ∃ A c, v = .slice A g.length c ∧ g.length ≤ 1048576 ∧ (∀ d ∈ g, d.ok) ∧ (0 < g.length → ∃ b o, A = some ⟨b, o, none⟩ ∧ b < n0 ∧
  ∀ j d, g[j]? = some d → ∃ pv tv, w.cell? ⟨b, o + j * 5, none⟩ = some d.list ∧ w.cell? ⟨b, o + j * 5 + 1, none⟩ = some pv ∧ w.cell? ⟨b, o + j * 5 + 2, none⟩ = some (.int .i64 d.kind) ∧ w.cell? ⟨b, o + j * 5 + 3, none⟩ = some (.int .i64 d.arg) ∧ w.cell? ⟨b, o + j * 5 + 4, none⟩ = some tv ∧ GNs n0 w pv d.preds ∧ GNs n0 w tv d.to_ ∧ ∃ la ln lc, d.list = .slice la ln lc)
theorem GBs.keep {n0 : Nat} {w w' : World} {v : Value} {g : List GB} (h : GBs n0 w v g) (hb : Below n0 w w') : GBs n0 w' v g := by
  obtain ⟨A, c, hv, hl, hok, hr⟩ := h
  refine ⟨A, c, hv, hl, hok, fun hp => ?_⟩
  obtain ⟨b, o, hA, hbn, hc⟩ := hr hp
  refine ⟨b, o, hA, hbn, fun j d hd => ?_⟩
  obtain ⟨pv, tv, h0, h1, h2, h3, h4, h5, h6, h7⟩ := hc j d hd
  have k : ∀ q, w'.cell? ⟨b, q, none⟩ = w.cell? ⟨b, q, none⟩ := fun q => hb.cell (p := ⟨b, q, none⟩) hbn
  exact ⟨pv, tv, (k _).trans h0, (k _).trans h1, (k _).trans h2, (k _).trans h3, (k _).trans h4, h5.keep hb, h6.keep hb, h7⟩
theorem GBs.mono {n0 n1 : Nat} {w : World} {v : Value} {g : List GB} (h : GBs n0 w v g) (hn : n0 ≤ n1) : GBs n1 w v g := by
  obtain ⟨A, c, hv, hl, hok, hr⟩ := h
  refine ⟨A, c, hv, hl, hok, fun hp => ?_⟩
  obtain ⟨b, o, hA, hbn, hc⟩ := hr hp
  refine ⟨b, o, hA, by omega, fun j d hd => ?_⟩
  obtain ⟨pv, tv, h0, h1, h2, h3, h4, h5, h6, h7⟩ := hc j d hd
  exact ⟨pv, tv, h0, h1, h2, h3, h4, h5.mono hn, h6.mono hn, h7⟩
/-- One block, as its cells lie. -/
theorem GBs.at {n0 : Nat} {w : World} {A : Option Addr} {m c : Nat} {g : List GB} (h : GBs n0 w (.slice A m c) g) {j : Nat} (hj : j < g.length) :
    ∃ b o pA pc tA tc lA ln lc, A = some ⟨b, o, none⟩ ∧ b < n0 ∧ w.cell? ⟨b, o + j * 5, none⟩ = some (.slice lA ln lc) ∧ w.cell? ⟨b, o + j * 5 + 1, none⟩ = some (.slice pA g[j].preds.length pc) ∧ w.cell? ⟨b, o + j * 5 + 2, none⟩ = some (.int .i64 g[j].kind) ∧ w.cell? ⟨b, o + j * 5 + 3, none⟩ = some (.int .i64 g[j].arg) ∧ w.cell? ⟨b, o + j * 5 + 4, none⟩ = some (.slice tA g[j].to_.length tc) ∧
      GNs n0 w (.slice pA g[j].preds.length pc) g[j].preds ∧ GNs n0 w (.slice tA g[j].to_.length tc) g[j].to_ ∧ g[j].ok := by
  obtain ⟨A', c', hv, hl, hok, hr⟩ := h
  obtain ⟨b, o, hA, hbn, hc⟩ := hr (by omega)
  injection hv with e1
  subst e1
  obtain ⟨pv, tv, h0, h1, h2, h3, h4, h5, h6, la, ln, lc, h7⟩ := hc j _ (List.getElem?_eq_getElem hj)
  obtain ⟨pA, pc, rfl, _⟩ := id h5
  obtain ⟨tA, tc, rfl, _⟩ := id h6
  rw [h7] at h0
  exact ⟨b, o, pA, pc, tA, tc, la, ln, lc, hA, hbn, h0, h1, h2, h3, h4, h5, h6, hok _ (List.getElem_mem hj)⟩
/-- A function, as it is handed over. -/
def GF (n0 : Nat) (w : World) (f : Value) (g : List GB) : Prop := ∃ s pA pn pc r iA in_ ic bA bn bc, f = .agg #[.string s, .slice pA pn pc, .int .i64 r, .slice iA in_ ic, .slice bA bn bc] ∧ GBs n0 w (.slice bA bn bc) g ∧ bn = g.length

def hasG (n : Nat) (b : Int) : Bool := decide (0 ≤ b ∧ b < n)
def wholeG (g : List GB) : Bool := (g.all fun k => k.to_.all fun t => hasG g.length t) && decide (0 < g.length)

set_option maxHeartbeats 2000000 in
set_option maxRecDepth 100000 in
theorem has_g (s : ByteArray) (pA iA bA : Option Addr) (pn pc in_ ic bn bc : Nat) (r b : Int) (w : World) (hn : bn ≤ 1048576) (hb : InG b) :
    Calls Try.prog 89 #[.agg #[.string s, .slice pA pn pc, .int .i64 r, .slice iA in_ ic, .slice bA bn bc], .int .i64 b] w fun e w' => e = .returned (.bool (hasG bn b)) ∧ Below w.heap.size w w' := by
  obtain ⟨h1, h2⟩ := hb
  obtain ⟨W, hW, hbW, hzW, h0W⟩ := gr_one w #[.string s, .slice pA pn pc, .int .i64 r, .slice iA in_ ic, .slice bA bn bc] 27
  obtain ⟨x0, x1, x2, x3, x4, -⟩ := gr_five h0W
  have HbW := Lib.hid hbW
  have HW := Lib.hid hW
  clear hbW hW
  go_enter Try.func89, Try.ntmps89
  by_cases hp : 0 ≤ b
  · by_cases hq : b < bn
    · go_upto_region 1 with fail
      rw [← HW.out]
      go_wp2
      go_ret
      exact ⟨by simp [hasG, hp, hq], HbW.out⟩
    · go_upto_region 1 with fail
      rw [← HW.out]
      go_wp2
      go_ret
      exact ⟨by simp [hasG, hp, hq], HbW.out⟩
  · go_upto_region 1 with fail
    rw [← HW.out]
    go_wp2
    go_ret
    exact ⟨by simp [hasG]; omega, HbW.out⟩
end Go.Proofs.Ytoplllebaagnnaa
namespace Go.Proofs.Ytoplllebaagnnaa
set_option linter.unusedVariables false
set_option linter.unusedSimpArgs false
open Go.RowKit

theorem below_dr {B : Nat} {a w : World} (h : Below B a w) (n : Nat) : Below B a (w.drewN n) := ⟨h.os, h.tape, h.output, h.size, h.block⟩
theorem int_ne {x y : Int} (h : (x == y) = false) : x ≠ y := fun e => by rw [e] at h; simp at h

set_option maxRecDepth 100000 in
set_option maxHeartbeats 4000000 in
theorem ints_g (n0 : Nat) (v u : Value) (k l : List Int) (w : World) (hv : GNs n0 w v k) (hu : GNs n0 w u l) (hk : k.length ≤ 1048576) (hl : l.length ≤ 1048576) (hn : n0 ≤ w.heap.size) :
    Calls Try.prog 17 #[v, u] w fun e w' => e = .returned (.bool (decide (k = l))) ∧ Below w.heap.size w w' := by
  have hv' := hv
  have hu' := hu
  obtain ⟨KA, kc, rfl, -⟩ := hv'
  obtain ⟨LA, lc, rfl, -⟩ := hu'
  have Hv := Lib.hid hv
  have Hu := Lib.hid hu
  clear hv hu
  by_cases hlen : k.length = l.length
  · obtain ⟨m, hm⟩ : ∃ m, m = l.length := ⟨_, rfl⟩
    rw [hlen] at Hv hk ⊢
    rw [← hm] at hl hk Hv Hu ⊢
    have Hm := Lib.hid hm
    have Hlen := Lib.hid hlen
    clear hm hlen
    go_enter Try.func17, Try.ntmps17
    go_upto_region 4 with fail
    go_loopw [5] (fun u5 wr => ∃ (i : Nat), i ≤ m ∧ u5 = .int .i64 i ∧ Hid (Below w.heap.size w wr) ∧ Hid (k.take i = l.take i)) (fun u5 _ => m - (intOf u5).toNat)
    case atStart => exact ⟨0, Nat.zero_le _, rfl, Lib.hid (Below.refl _ _), Lib.hid (by simp)⟩
    case round =>
      obtain ⟨i, hi, rfl, HB, HT⟩ := hrel
      by_cases hlt : i < m
      · have hil : i < l.length := by rw [← Hm.out]; exact hlt
        have hik : i < k.length := by rw [Hlen.out]; exact hil
        obtain ⟨b1, o1, rfl, hb1, hc1⟩ := (Hv.out.keep (HB.out.mono hn)).at hik
        obtain ⟨b2, o2, rfl, hb2, hc2⟩ := (Hu.out.keep (HB.out.mono hn)).at hil
        have hs1 : k.take (i + 1) = k.take i ++ [k[i]] := List.take_succ_eq_append_getElem hik
        have hs2 : l.take (i + 1) = l.take i ++ [l[i]] := List.take_succ_eq_append_getElem hil
        have hne : k[i] ≠ l[i] → k ≠ l := fun h e => h (by simp [e])
        obtain ⟨x, hx⟩ : ∃ x, x = k[i] := ⟨_, rfl⟩
        obtain ⟨y, hy⟩ : ∃ y, y = l[i] := ⟨_, rfl⟩
        rw [← hx] at hc1 hs1 hne
        rw [← hy] at hc2 hs2 hne
        have Hs1 := Lib.hid hs1
        have Hs2 := Lib.hid hs2
        have Hne := Lib.hid hne
        clear hx hy hs1 hs2 hne hb1 hb2
        cases hq : (x == y) with
        | false =>
          go_upto_region 6 with fail
          go_quiet (fail)
          go_wp2
          go_ret
          exact ⟨by rw [decide_eq_false (Hne.out (int_ne hq))]; rfl, below_dr HB.out _⟩
        | true =>
          obtain rfl : x = y := by simpa using hq
          go_upto_region 6 with fail
          go_quiet (fail)
          go_wp2
          go_roundw
          case rel => exact ⟨i + 1, by omega, by go_num, Lib.hid (below_dr HB.out _), Lib.hid (by rw [Hs1.out, Hs2.out, HT.out])⟩
          case measure => simp [intOf]; omega
      · obtain rfl : i = m := by omega
        go_wp2
        go_ret
        refine ⟨?_, HB.out⟩
        have := HT.out
        rw [List.take_of_length_le (by rw [Hlen.out, ← Hm.out]; exact Nat.le_refl _), List.take_of_length_le (by rw [← Hm.out]; exact Nat.le_refl _)] at this
        rw [decide_eq_true this]; rfl
  · have hne : k ≠ l := fun e => hlen (by rw [e])
    go_enter Try.func17, Try.ntmps17
    go_wp2
    go_ret
    exact ⟨by rw [decide_eq_false hne]; rfl, Below.refl _ _⟩

def allTo (g : List GB) (i : Nat) : Prop := ∀ j d, j < i → g[j]? = some d → ∀ t ∈ d.to_, hasG g.length t = true
theorem wholeG_true {g : List GB} (h : allTo g g.length) : wholeG g = decide (0 < g.length) := by
  unfold wholeG
  have : (g.all fun k => k.to_.all fun t => hasG g.length t) = true := by
    rw [List.all_eq_true]
    intro d hd
    rw [List.all_eq_true]
    intro t ht
    obtain ⟨j, hj, rfl⟩ := List.getElem_of_mem hd
    exact h j _ hj (List.getElem?_eq_getElem hj) t ht
  rw [this, Bool.true_and]
theorem wholeG_false {g : List GB} {j : Nat} {d : GB} {t : Int} (hd : g[j]? = some d) (ht : t ∈ d.to_) (h : hasG g.length t = false) : wholeG g = false := by
  unfold wholeG
  have : (g.all fun k => k.to_.all fun t => hasG g.length t) = false := by
    rw [List.all_eq_false]
    refine ⟨d, List.mem_of_getElem? hd, ?_⟩
    intro e
    rw [List.all_eq_true] at e
    have := e t ht
    rw [h] at this
    cases this
  rw [this, Bool.false_and]
theorem wholeG_all {g : List GB} (h : wholeG g = true) : 0 < g.length ∧ ∀ (j : Nat) (d : GB), g[j]? = some d → ∀ t ∈ d.to_, 0 ≤ t ∧ t < g.length := by
  unfold wholeG at h
  rw [Bool.and_eq_true, List.all_eq_true] at h
  refine ⟨of_decide_eq_true h.2, fun j d hd t ht => ?_⟩
  have h1 := h.1 d (List.mem_of_getElem? hd)
  rw [List.all_eq_true] at h1
  exact of_decide_eq_true (h1 t ht)

set_option maxRecDepth 100000 in
set_option maxHeartbeats 8000000 in
theorem whole_g (n0 : Nat) (f : Value) (g : List GB) (w : World) (hf : GF n0 w f g) (hn : n0 ≤ w.heap.size) :
    Calls Try.prog 68 #[f] w fun e w' => e = .returned (.bool (wholeG g)) ∧ Below w.heap.size w w' := by
  obtain ⟨s, pA, pn, pc, r, iA, in_, ic, bA, bn, bc, rfl, hG, hbn⟩ := hf
  obtain ⟨W, hW, hbW, hzW, h0W⟩ := gr_one w #[.string s, .slice pA pn pc, .int .i64 r, .slice iA in_ ic, .slice bA bn bc] 27
  obtain ⟨x0, x1, x2, x3, x4, -⟩ := gr_five h0W
  have hlen : bn ≤ 1048576 := by rw [hbn]; obtain ⟨_, _, _, h, _⟩ := hG; exact h
  have HG := Lib.hid hG
  have Hbn := Lib.hid hbn
  have HbW := Lib.hid hbW
  have HW := Lib.hid hW
  have HzW := Lib.hid hzW
  have H0W := Lib.hid h0W
  clear hbW hW hG hbn hzW h0W
  go_enter Try.func68, Try.ntmps68
  go_upto_region 1 with fail
  rw [← HW.out]
  go_upto_region 2 with fail
  clear x0 x1 x2 x3 x4
  go_loopw [10] (fun u10 wr => ∃ (i : Nat), i ≤ bn ∧ u10 = .int .i64 i ∧ Hid (Below W.heap.size W wr) ∧ Hid (allTo g i)) (fun u10 _ => bn - (intOf u10).toNat)
  case atStart => exact ⟨0, Nat.zero_le _, rfl, Lib.hid (Below.refl _ _), Lib.hid (fun j d hj => by omega)⟩
  case round =>
    obtain ⟨i, hi, rfl, HB, HT⟩ := hrel
    have hBw : Below w.heap.size w wr := HbW.out.trans (HB.out.mono (by rw [HzW.out]; omega))
    have HBw := Lib.hid hBw
    have h0r := (HB.out.block _ (by rw [HzW.out]; omega)).trans H0W.out
    obtain ⟨x0, x1, x2, x3, x4, -⟩ := gr_five h0r
    by_cases hlt : i < bn
    · have hil : i < g.length := by rw [← Hbn.out]; exact hlt
      obtain ⟨b, o, qA, qc, tA, tc, lA, ln, lc, rfl, hb0, c0, c1, c2, c3, c4, rp, rt, hok⟩ := (HG.out.keep (hBw.mono hn)).at hil
      obtain ⟨m, hm⟩ : ∃ m, m = g[i].to_.length := ⟨_, rfl⟩
      have hml : m ≤ 1048576 := by rw [hm]; exact hok.2.2.1
      obtain ⟨d, hd⟩ : ∃ d, d = g[i] := ⟨_, rfl⟩
      have hgd : g[i]? = some d := by rw [hd]; exact List.getElem?_eq_getElem hil
      rw [← hm] at c4 rt
      rw [← hd] at c1 c2 c3 rt hok hm
      obtain ⟨Y, hY, hbY, hzY, h0Y⟩ := gr_one wr #[.slice lA ln lc, .slice qA d.preds.length qc, .int .i64 d.kind, .int .i64 d.arg, .slice tA m tc] 47
      have Hgd := Lib.hid hgd
      have Hrt := Lib.hid (rt.keep (hbY.mono (Nat.le_trans hn hBw.size)))
      have Hok := Lib.hid hok
      have Hm := Lib.hid hm
      have HY := Lib.hid hY
      have h0rY := (hbY.block _ (gr_in h0r)).trans h0r
      have HBY := Lib.hid (HB.out.trans (hbY.mono (HB.out.size)))
      clear rp hd hgd rt hok hm hY hBw
      obtain ⟨y0, y1, y2, y3, y4, -⟩ := gr_five h0Y
      go_upto_region 3 with fail
      go_upto_region 4 with fail
      rw [← HY.out]
      clear c0 c1 c2 c3 c4 x0 x1 x2 x3 x4 y0 y1 y2 y3
      go_upto_region 5 with fail
      clear y4
      go_loopw [18] (fun u18 wr2 => ∃ (j : Nat), j ≤ m ∧ u18 = .int .i64 j ∧ Hid (Below Y.heap.size Y wr2) ∧ Hid (∀ k t, k < j → d.to_[k]? = some t → hasG g.length t = true)) (fun u18 _ => m - (intOf u18).toNat)
      case atStart => exact ⟨0, Nat.zero_le _, rfl, Lib.hid (Below.refl _ _), Lib.hid (fun k t hk => by omega)⟩
      case round =>
        obtain ⟨j, hj, rfl, HB2, HT2⟩ := hrel
        have h0q := (HB2.out.block _ (gr_in h0rY)).trans h0rY
        obtain ⟨x0, x1, x2, x3, x4, -⟩ := gr_five h0q
        by_cases hlt2 : j < m
        · have hjl : j < d.to_.length := by rw [← Hm.out]; exact hlt2
          have hbig : n0 ≤ Y.heap.size := by have := HBw.out.size; omega
          obtain ⟨b2, o2, rfl, hb2, hc⟩ := (Hrt.out.keep (HB2.out.mono hbig)).at hjl
          have ht : d.to_[j]? = some d.to_[j] := List.getElem?_eq_getElem hjl
          have htm := List.getElem_mem hjl
          have hti := Hok.out.2.2.2 _ htm
          obtain ⟨t, htt⟩ : ∃ t, t = d.to_[j] := ⟨_, rfl⟩
          rw [← htt] at hc ht htm hti
          have Ht := Lib.hid ht
          have Htm := Lib.hid htm
          have hH := has_g s pA iA (some ⟨b, o, none⟩) pn pc in_ ic bn bc r t wr hlen hti
          clear htt ht htm hti hb2
          rw [Hbn.out] at hH
          cases hq : hasG g.length t with
          | true =>
            rw [hq] at hH
            rw [← Hbn.out] at hH
            go_wp2_with (go_at_call 89; refine hH.mono ?_; rintro e w3 ⟨rfl, h3⟩; have H3 := Lib.hid h3; clear h3 hH)
            go_roundw
            case rel => exact ⟨j + 1, by omega, by go_num, Lib.hid (HB2.out.trans (H3.out.mono HB2.out.size)), Lib.hid (fun k t' hk hk' => by
              by_cases hkj : k = j
              · subst hkj
                rw [Ht.out] at hk'
                injection hk' with hk'
                rw [← hk']
                exact hq
              · exact HT2.out k t' (by omega) hk')⟩
            case measure => simp [intOf]; omega
          | false =>
            rw [hq] at hH
            rw [← Hbn.out] at hH
            go_wp2_with (go_at_call 89; refine hH.mono ?_; rintro e w3 ⟨rfl, h3⟩; have H3 := Lib.hid h3; clear h3 hH)
            go_ret
            exact ⟨by rw [wholeG_false Hgd.out Htm.out hq]; rfl, HbW.out.trans ((HBY.out.trans ((HB2.out.trans (H3.out.mono HB2.out.size)).mono HBY.out.size)).mono (by rw [HzW.out]; omega))⟩
        · obtain rfl : j = m := by omega
          go_wp2
          go_roundw
          case rel => exact ⟨i + 1, by omega, by go_num, Lib.hid (HBY.out.trans (HB2.out.mono HBY.out.size)), Lib.hid (fun k d' hk hk' => by
            by_cases hki : k = i
            · subst hki
              rw [Hgd.out] at hk'
              injection hk' with hk'
              subst hk'
              intro t ht
              obtain ⟨q, hq, rfl⟩ := List.getElem_of_mem ht
              exact HT2.out q _ (by rw [Hm.out]; exact hq) (List.getElem?_eq_getElem hq)
            · exact HT.out k d' (by omega) hk')⟩
          case measure => simp [intOf]; omega
    · obtain rfl : i = bn := by omega
      go_wp2
      go_ret
      refine ⟨?_, HBw.out⟩
      rw [wholeG_true (by rw [← Hbn.out]; exact HT.out), ← Hbn.out]
      by_cases h0 : 0 < i
      · simp [h0]
      · simp [h0]
end Go.Proofs.Ytoplllebaagnnaa
namespace Go.Proofs.Ytoplllebaagnnaa
set_option linter.unusedVariables false
set_option linter.unusedSimpArgs false
open Go.RowKit

/-- Where a block goes. -/
def tosG (g : List GB) (b : Nat) : List Int := ((g[b]?).map GB.to_).getD []
def goP (f : Nat → List Bool → List Nat → Option (List Bool × List Nat)) : List Int → List Bool → List Nat → Option (List Bool × List Nat)
  | [], s, o => some (s, o)
  | t :: ts, s, o => if s.getD t.toNat false then goP f ts s o else match f t.toNat s o with
    | none => none
    | some (s', o') => goP f ts s' o'
/-- By calls within one another. -/
def walkP (g : List GB) : Nat → Nat → List Bool → List Nat → Option (List Bool × List Nat)
  | 0, _, _, _ => none
  | k + 1, b, s, o => match goP (walkP g k) (tosG g b) (s.set b true) o with
    | none => none
    | some (s', o') => some (s', o' ++ [b])
/-- By a row of blocks that were entered. -/
def postRun (g : List GB) : Nat → List Bool → List (Nat × Nat) → List Nat → Option (List Nat)
  | _, _, [], o => some o
  | 0, _, _ :: _, _ => none
  | k + 1, s, (b, q) :: st, o => match (tosG g b)[q]? with
    | none => postRun g k s st (o ++ [b])
    | some t => if s.getD t.toNat false then postRun g k s ((b, q + 1) :: st) o else postRun g k (s.set t.toNat true) ((t.toNat, 0) :: (b, q + 1) :: st) o

/-- How many are not entered. -/
def unseen (s : List Bool) : Nat := s.count false
theorem set_getD (s : List Bool) (b : Nat) (hb : b < s.length) : (s.set b true).getD b false = true := by simp [List.getD, hb]
theorem set_getD_ne (s : List Bool) (b c : Nat) (h : b ≠ c) : (s.set b true).getD c false = s.getD c false := by simp [List.getD, List.getElem?_set_ne h]
theorem unseen_set : ∀ (s : List Bool) (b : Nat), b < s.length → s.getD b false = false → unseen (s.set b true) + 1 = unseen s
  | [], b, hb, _ => by simp at hb
  | x :: s, 0, _, h => by
    simp [List.getD] at h
    subst h
    simp [unseen]
  | x :: s, b + 1, hb, h => by
    have := unseen_set s b (by simpa using hb) (by simpa [List.getD] using h)
    cases x <;> simp [unseen] at this ⊢ <;> omega
/-- What was entered stays entered. -/
def Sub (s s' : List Bool) : Prop := s'.length = s.length ∧ unseen s' ≤ unseen s ∧ ∀ c, s.getD c false = true → s'.getD c false = true
theorem Sub.refl (s : List Bool) : Sub s s := ⟨rfl, Nat.le_refl _, fun _ h => h⟩
theorem Sub.trans {a b c : List Bool} (h : Sub a b) (k : Sub b c) : Sub a c := ⟨k.1.trans h.1, Nat.le_trans k.2.1 h.2.1, fun x hx => k.2.2 x (h.2.2 x hx)⟩
theorem Sub.set {s : List Bool} {b : Nat} (hb : b < s.length) (h : s.getD b false = false) : Sub s (s.set b true) :=
  ⟨by simp, by have := unseen_set s b hb h; omega, fun c hc => by
    by_cases e : b = c
    · subst e; rw [h] at hc; cases hc
    · rw [set_getD_ne _ _ _ e]; exact hc⟩
def tosOk (g : List GB) : Prop := ∀ b t, t ∈ tosG g b → 0 ≤ t ∧ t < g.length
theorem tosOk_of {g : List GB} (h : wholeG g = true) : tosOk g := by
  intro b t ht
  unfold tosG at ht
  cases hb : g[b]? with
  | none => rw [hb] at ht; simp at ht
  | some d => rw [hb] at ht; exact (wholeG_all h).2 b d hb t (by simpa using ht)

theorem goP_total (g : List GB) (f : Nat → List Bool → List Nat → Option (List Bool × List Nat)) (n k : Nat) (hf : ∀ b s o, s.length = n → unseen s ≤ k → b < n → s.getD b false = false → ∃ s' o', f b s o = some (s', o') ∧ Sub s s') :
    ∀ (ts : List Int) (s : List Bool) (o : List Nat), s.length = n → unseen s ≤ k → (∀ t ∈ ts, 0 ≤ t ∧ t < n) → ∃ s' o', goP f ts s o = some (s', o') ∧ Sub s s'
  | [], s, o, _, _, _ => ⟨s, o, rfl, Sub.refl s⟩
  | t :: ts, s, o, hs, hu, ht => by
    unfold goP
    have h0 := ht t (by simp)
    cases hq : s.getD t.toNat false with
    | true => rw [if_pos rfl]; exact goP_total g f n k hf ts s o hs hu (fun x hx => ht x (List.mem_cons_of_mem _ hx))
    | false =>
      rw [if_neg (by simp)]
      obtain ⟨s', o', h1, h2⟩ := hf t.toNat s o hs hu (by omega) hq
      rw [h1]
      obtain ⟨s2, o2, h3, h4⟩ := goP_total g f n k hf ts s' o' (h2.1.trans hs) (Nat.le_trans h2.2.1 hu) (fun x hx => ht x (List.mem_cons_of_mem _ hx))
      exact ⟨s2, o2, h3, h2.trans h4⟩
theorem walkP_total (g : List GB) (hg : tosOk g) : ∀ (k b : Nat) (s : List Bool) (o : List Nat), s.length = g.length → unseen s ≤ k → b < g.length → s.getD b false = false → ∃ s' o', walkP g k b s o = some (s', o') ∧ Sub s s' ∧ s'.getD b false = true
  | 0, b, s, o, hs, hu, hb, hq => by
    have := unseen_set s b (by omega) hq
    omega
  | k + 1, b, s, o, hs, hu, hb, hq => by
    have h1 := unseen_set s b (by omega) hq
    have h2 := Sub.set (by omega : b < s.length) hq
    obtain ⟨s', o', h3, h4⟩ := goP_total g (walkP g k) g.length k (fun b s o hs hu hb hq => by
      obtain ⟨s', o', h1, h2, _⟩ := walkP_total g hg k b s o hs hu hb hq
      exact ⟨s', o', h1, h2⟩) (tosG g b) (s.set b true) o (by simpa using hs) (by omega) (fun t ht => hg b t ht)
    unfold walkP
    rw [h3]
    exact ⟨s', o' ++ [b], rfl, h2.trans h4, h4.2.2 b (set_getD s b (by omega))⟩

theorem goP_post (g : List GB) (k : Nat) (hf : ∀ b s o s' o', walkP g k b s o = some (s', o') → ∀ st, ∃ j, ∀ m, postRun g (j + m) (s.set b true) ((b, 0) :: st) o = postRun g m s' st o') (b : Nat) :
    ∀ (ts : List Int) (q : Nat) (s : List Bool) (o : List Nat) (s' : List Bool) (o' : List Nat), (tosG g b).drop q = ts → goP (walkP g k) ts s o = some (s', o') → ∀ st, ∃ j, ∀ m, postRun g (j + m) s ((b, q) :: st) o = postRun g m s' ((b, (tosG g b).length) :: st) o'
  | [], q, s, o, s', o', hq, h, st => by
    simp [goP] at h
    obtain ⟨rfl, rfl⟩ := h
    have hl : (tosG g b).length ≤ q := List.drop_eq_nil_iff.1 hq
    refine ⟨0, fun m => ?_⟩
    rw [Nat.zero_add]
    cases m with
    | zero => simp [postRun]
    | succ m => simp [postRun, List.getElem?_eq_none hl]
  | t :: ts, q, s, o, s', o', hq, h, st => by
    have hlt : q < (tosG g b).length := by
      rcases Nat.lt_or_ge q (tosG g b).length with h | h
      · exact h
      · rw [List.drop_eq_nil_iff.2 h] at hq; cases hq
    have hd := List.drop_eq_getElem_cons hlt
    rw [hq] at hd
    injection hd with h1 h2
    have hget : (tosG g b)[q]? = some t := by rw [h1]; exact List.getElem?_eq_getElem hlt
    unfold goP at h
    cases hs : s.getD t.toNat false with
    | true =>
      rw [hs, if_pos rfl] at h
      obtain ⟨j, hj⟩ := goP_post g k hf b ts (q + 1) s o s' o' h2.symm h st
      refine ⟨j + 1, fun m => ?_⟩
      rw [show j + 1 + m = (j + m) + 1 by omega, ← hj m, postRun, hget]
      simp only [hs]
      rfl
    | false =>
      rw [hs, if_neg (by simp)] at h
      cases hw : walkP g k t.toNat s o with
      | none => rw [hw] at h; cases h
      | some r =>
        obtain ⟨s1, o1⟩ := r
        rw [hw] at h
        obtain ⟨j1, hj1⟩ := hf t.toNat s o s1 o1 hw ((b, q + 1) :: st)
        obtain ⟨j, hj⟩ := goP_post g k hf b ts (q + 1) s1 o1 s' o' h2.symm h st
        refine ⟨j1 + j + 1, fun m => ?_⟩
        rw [show j1 + j + 1 + m = (j1 + (j + m)) + 1 by omega, ← hj m, ← hj1 (j + m), postRun, hget]
        simp only [hs]
        rfl
theorem walkP_post (g : List GB) : ∀ (k b : Nat) (s : List Bool) (o : List Nat) (s' : List Bool) (o' : List Nat), walkP g k b s o = some (s', o') → ∀ st, ∃ j, ∀ m, postRun g (j + m) (s.set b true) ((b, 0) :: st) o = postRun g m s' st o'
  | 0, b, s, o, s', o', h, st => by simp [walkP] at h
  | k + 1, b, s, o, s', o', h, st => by
    unfold walkP at h
    cases hg : goP (walkP g k) (tosG g b) (s.set b true) o with
    | none => rw [hg] at h; cases h
    | some r =>
      obtain ⟨s1, o1⟩ := r
      rw [hg] at h
      simp only [Option.some.injEq, Prod.mk.injEq] at h
      obtain ⟨rfl, rfl⟩ := h
      obtain ⟨j, hj⟩ := goP_post g k (walkP_post g k) b (tosG g b) 0 (s.set b true) o s1 o1 (by simp) hg st
      refine ⟨j + 1, fun m => ?_⟩
      rw [show j + 1 + m = j + (1 + m) by omega, hj (1 + m), show 1 + m = m + 1 by omega, postRun, List.getElem?_eq_none (Nat.le_refl _)]

/-- The blocks as they are left. -/
def postP (g : List GB) : List Nat := if wholeG g then (match walkP g g.length 0 (List.replicate g.length false) [] with | some (_, o) => o | none => []) else []
theorem postP_run {g : List GB} (h : wholeG g = true) : ∃ s', walkP g g.length 0 (List.replicate g.length false) [] = some (s', postP g) ∧ ∃ j, postRun g j ((List.replicate g.length false).set 0 true) [(0, 0)] [] = some (postP g) := by
  obtain ⟨hp, _⟩ := wholeG_all h
  obtain ⟨s', o', h1, h2, h3⟩ := walkP_total g (tosOk_of h) g.length 0 (List.replicate g.length false) [] (by simp) (by simp [unseen]) hp (by simp [List.getD, hp])
  have hpost : postP g = o' := by unfold postP; rw [h, h1]; simp
  rw [hpost]
  refine ⟨s', h1, ?_⟩
  obtain ⟨j, hj⟩ := walkP_post g _ _ _ _ _ _ h1 []
  exact ⟨j + 0, by rw [hj 0]; rfl⟩
end Go.Proofs.Ytoplllebaagnnaa
