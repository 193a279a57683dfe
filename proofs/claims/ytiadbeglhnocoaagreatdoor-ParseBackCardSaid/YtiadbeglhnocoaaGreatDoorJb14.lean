/-
  The parser, as it lies; what it reads next, and whether it is such a sign.
  The parser's next word; its fault.
-/
import Derived.Test.YtiadbeglhnocoaaGreatDoorJb4
import Derived.Test.YtiadbeglhnocoaaGreatDoorJb6
import Derived.WalkKit
import Derived.WalkSpells
import Derived.Lib.Hide
import Derived.Below
import Derived.Outline
namespace Go.Proofs.YtiadbeglhnocoaaGreatDoor
set_option linter.unusedVariables false
set_option linter.unusedSimpArgs false
open Go.RowKit

/-- Words, as they lie. -/
def RdT (w : World) (g : Nat) (A : Option Addr) (ts : List Tk) : Prop := 0 < ts.length → ∃ t o, A = some ⟨t, o, none⟩ ∧ t < g ∧ ∀ i x, ts[i]? = some x → w.cell? ⟨t, o + i * 4, none⟩ = some (.int .i64 x.kind) ∧ w.cell? ⟨t, o + i * 4 + 1, none⟩ = some (.int .i64 x.at_) ∧ w.cell? ⟨t, o + i * 4 + 2, none⟩ = some (.int .i64 x.num) ∧ w.cell? ⟨t, o + i * 4 + 3, none⟩ = some (.string ⟨x.bytes.toArray⟩)
/-- The parser, as it lies. -/
def PAt (w : World) (g : Nat) (s : PS) : Prop := ∃ A cap, w.heap[g]? = some (.cells #[.slice A s.left.length cap, .int .i64 s.fk, .int .i64 s.fa, .int .i64 s.deep, .int .i64 s.nest] 38 (0, 0)) ∧ s.left.length ≤ cap ∧ cap ≤ maxLen ∧ RdT w g A s.left
theorem RdT.keep {w w' : World} {g : Nat} {A : Option Addr} {ts : List Tk} (h : RdT w g A ts) (hb : ∀ k, k < g → w'.heap[k]? = w.heap[k]?) : RdT w' g A ts := fun hl => by
  obtain ⟨t, o, hA, ht, hx⟩ := h hl
  refine ⟨t, o, hA, ht, fun i x hi => ?_⟩
  have hc : ∀ j, w'.cell? ⟨t, j, none⟩ = w.cell? ⟨t, j, none⟩ := fun j => World.cell?_of_block (a := ⟨t, j, none⟩) (hb t ht)
  rw [hc, hc, hc, hc]
  exact hx i x hi
theorem heap_lt {w : World} {k : Nat} {o : Obj} (h : w.heap[k]? = some o) : k < w.heap.size := by
  rcases Nat.lt_or_ge k w.heap.size with h' | h'
  · exact h'
  · rw [Array.getElem?_eq_none h'] at h; cases h
/-- All but one block is as it was. -/
structure But (g : Nat) (w w' : World) : Prop where
  os : w'.os = w.os
  tape : w'.tape = w.tape
  output : w'.output = w.output
  size : w.heap.size ≤ w'.heap.size
  block : ∀ k, k < w.heap.size → k ≠ g → w'.heap[k]? = w.heap[k]?
theorem But.refl (g : Nat) (w : World) : But g w w := ⟨rfl, rfl, rfl, Nat.le_refl _, fun _ _ _ => rfl⟩
theorem But.trans {g : Nat} {a b c : World} (h : But g a b) (k : But g b c) : But g a c :=
  ⟨k.os.trans h.os, k.tape.trans h.tape, k.output.trans h.output, Nat.le_trans h.size k.size, fun i hi hg => (k.block i (Nat.lt_of_lt_of_le hi h.size) hg).trans (h.block i hi hg)⟩
theorem But.of_below {g : Nat} {w w' : World} (h : Below w.heap.size w w') : But g w w' := ⟨h.os, h.tape, h.output, h.size, fun k hk _ => h.block k hk⟩
/-- Whoever calls: below a block of its own all is as it was. -/
theorem But.below {g B : Nat} {a w w' : World} (h : But g w w') (ha : Below B a w) (hg : B ≤ g) (hB : B ≤ w.heap.size) : Below B a w' :=
  ha.trans ⟨h.os, h.tape, h.output, h.size, fun k hk => h.block k (Nat.lt_of_lt_of_le hk hB) (by omega)⟩
theorem But.alloc {g : Nat} {a w : World} (h : But g a w) (o : Obj) : But g a (w.alloc o) := h.trans (But.of_below ((Below.refl _ _).alloc (Nat.le_refl _) o))
theorem But.drew {g : Nat} {a w : World} (h : But g a w) : But g a w.drew := ⟨h.os, h.tape, h.output, h.size, h.block⟩
/-- A store into the block, or into one that was not there. -/
theorem But.setCell {g : Nat} {a w : World} (h : But g a w) {p : Addr} (hp : p.block = g ∨ a.heap.size ≤ p.block) (u : Value) : But g a (w.setCell p u) :=
  ⟨h.os, h.tape, h.output, by simpa [World.setCell] using h.size, fun k hk hg => (Below.heap_setCell _ _ _ _ (by omega)).trans (h.block k hk hg)⟩
theorem But.cell {g : Nat} {w w' : World} (h : But g w w') {p : Addr} (hp : p.block < w.heap.size) (hg : p.block ≠ g) : w'.cell? p = w.cell? p := World.cell?_of_block (h.block _ hp hg)
theorem But.frozen {g : Nat} {w w' : World} (h : But g w w') {p : Addr} (hp : p.block < w.heap.size) (hg : p.block ≠ g) : w'.frozen? p = w.frozen? p := World.frozen?_of_block (h.block _ hp hg)

theorem PAt.lt {w : World} {g : Nat} {s : PS} (h : PAt w g s) : g < w.heap.size := by
  obtain ⟨A, cap, hp, _⟩ := h
  exact heap_lt hp
theorem PAt.up {w w' : World} {g : Nat} {s : PS} (h : PAt w g s) (hb : Below (g + 1) w w') : PAt w' g s := by
  obtain ⟨A, cap, hp, hc, hm, hr⟩ := h
  exact ⟨A, cap, (hb.block g (by omega)).trans hp, hc, hm, RdT.keep hr (fun k hk => hb.block k (by omega))⟩
theorem PAt.keep {w w' : World} {g : Nat} {s : PS} (h : PAt w g s) (hb : Below w.heap.size w w') : PAt w' g s := h.up (hb.mono h.lt)
/-- The parser's own cells have turned, nothing else. -/
theorem PAt.turn {w w' : World} {g : Nat} {A : Option Addr} {cap : Nat} {s' : PS} (hr : RdT w g A s'.left) (hl : g < w.heap.size) (hb : But g w w') (hp : w'.heap[g]? = some (.cells #[.slice A s'.left.length cap, .int .i64 s'.fk, .int .i64 s'.fa, .int .i64 s'.deep, .int .i64 s'.nest] 38 (0, 0))) (hc : s'.left.length ≤ cap) (hm : cap ≤ maxLen) : PAt w' g s' :=
  ⟨A, cap, hp, hc, hm, RdT.keep hr (fun k hk => hb.block k (by omega) (by omega))⟩
theorem But.up {g : Nat} {a w w' : World} (h : But g a w) (hb : Below a.heap.size w w') : But g a w' := ⟨hb.os.trans h.os, hb.tape.trans h.tape, hb.output.trans h.output, Nat.le_trans h.size hb.size, fun k hk hg => (hb.block k hk).trans (h.block k hk hg)⟩
/-- Behind a call of the parser's own: what was there, but for the parser, reads as it did. -/
theorem pcell {g : Nat} {W w1 : World} (hb : But g W w1) : (∀ b o, b < W.heap.size → b ≠ g → w1.cell? ⟨b, o, none⟩ = W.cell? ⟨b, o, none⟩) ∧ (∀ b o, b < W.heap.size → b ≠ g → w1.frozen? ⟨b, o, none⟩ = W.frozen? ⟨b, o, none⟩) :=
  ⟨fun b o h hg => hb.cell (p := ⟨b, o, none⟩) h hg, fun b o h hg => hb.frozen (p := ⟨b, o, none⟩) h hg⟩
theorem PAt.cells {w : World} {g : Nat} {s : PS} {A : Option Addr} {cap : Nat} (hp : w.heap[g]? = some (.cells #[.slice A s.left.length cap, .int .i64 s.fk, .int .i64 s.fa, .int .i64 s.deep, .int .i64 s.nest] 38 (0, 0))) :
    w.cell? ⟨g, 0, none⟩ = some (.slice A s.left.length cap) ∧ w.cell? ⟨g, 1, none⟩ = some (.int .i64 s.fk) ∧ w.cell? ⟨g, 2, none⟩ = some (.int .i64 s.fa) ∧ w.cell? ⟨g, 3, none⟩ = some (.int .i64 s.deep) ∧ w.cell? ⟨g, 4, none⟩ = some (.int .i64 s.nest) ∧ ∀ j, w.frozen? ⟨g, j, none⟩ = false :=
  ⟨Lib.cell_of_heap hp 0, Lib.cell_of_heap hp 1, Lib.cell_of_heap hp 2, Lib.cell_of_heap hp 3, Lib.cell_of_heap hp 4, fun j => Lib.frozen_of_heap hp j⟩

theorem setP {w : World} {b : Nat} {cs : Array Value} {T : TypeId} {fr : Nat × Nat} (hb : w.heap[b]? = some (.cells cs T fr)) (j : Nat) (u : Value) : (w.setCell ⟨b, j, none⟩ u).heap[b]? = some (.cells (cs.setIfInBounds j u) T fr) := by
  simp [World.setCell, Array.getElem?_modify, hb]
/-- A store into the parser: other words are left. -/
theorem PAt.set0 {w : World} {g : Nat} {s : PS} (h : PAt w g s) {A : Option Addr} {ts : List Tk} {c : Nat} (hr : RdT w g A ts) (hc : ts.length ≤ c) (hm : c ≤ maxLen) : PAt (w.setCell ⟨g, 0, none⟩ (.slice A ts.length c)) g { s with left := ts } := by
  have hl := h.lt
  obtain ⟨A0, c0, hp, _⟩ := h
  exact PAt.turn (s' := { s with left := ts }) hr hl ((But.refl g w).setCell (Or.inl rfl) _) (setP hp 0 _) hc hm
theorem PAt.set12 {w : World} {g : Nat} {s : PS} (h : PAt w g s) (k a : Int) : PAt ((w.setCell ⟨g, 1, none⟩ (.int .i64 k)).setCell ⟨g, 2, none⟩ (.int .i64 a)) g { s with fk := k, fa := a } := by
  have hl := h.lt
  obtain ⟨A0, c0, hp, hc, hm, hr⟩ := h
  exact PAt.turn (s' := { s with fk := k, fa := a }) hr hl (((But.refl g w).setCell (Or.inl rfl) _).setCell (Or.inl rfl) _) (setP (setP hp 1 _) 2 _) hc hm
theorem PAt.set3 {w : World} {g : Nat} {s : PS} (h : PAt w g s) (k : Int) : PAt (w.setCell ⟨g, 3, none⟩ (.int .i64 k)) g { s with deep := k } := by
  have hl := h.lt
  obtain ⟨A0, c0, hp, hc, hm, hr⟩ := h
  exact PAt.turn (s' := { s with deep := k }) hr hl ((But.refl g w).setCell (Or.inl rfl) _) (setP hp 3 _) hc hm
theorem PAt.set4 {w : World} {g : Nat} {s : PS} (h : PAt w g s) (k : Int) : PAt (w.setCell ⟨g, 4, none⟩ (.int .i64 k)) g { s with nest := k } := by
  have hl := h.lt
  obtain ⟨A0, c0, hp, hc, hm, hr⟩ := h
  exact PAt.turn (s' := { s with nest := k }) hr hl ((But.refl g w).setCell (Or.inl rfl) _) (setP hp 4 _) hc hm
theorem PAt.five {w : World} {g : Nat} {s : PS} (h : PAt w g s) : ∃ A cap, w.cell? ⟨g, 0, none⟩ = some (.slice A s.left.length cap) ∧ w.cell? ⟨g, 1, none⟩ = some (.int .i64 s.fk) ∧ w.cell? ⟨g, 2, none⟩ = some (.int .i64 s.fa) ∧ w.cell? ⟨g, 3, none⟩ = some (.int .i64 s.deep) ∧ w.cell? ⟨g, 4, none⟩ = some (.int .i64 s.nest) ∧ (∀ j, w.frozen? ⟨g, j, none⟩ = false) ∧ s.left.length ≤ cap ∧ cap ≤ maxLen ∧ RdT w g A s.left := by
  obtain ⟨A0, c0, hp, hc, hm, hr⟩ := h
  exact ⟨A0, c0, Lib.cell_of_heap hp 0, Lib.cell_of_heap hp 1, Lib.cell_of_heap hp 2, Lib.cell_of_heap hp 3, Lib.cell_of_heap hp 4, fun j => Lib.frozen_of_heap hp j, hc, hm, hr⟩

set_option maxHeartbeats 1000000 in
theorem now_any (g : Nat) (s : PS) (w : World) (h : PAt w g s) :
    Calls Tryz.prog 18 #[.pointer (some ⟨g, 0, none⟩)] w fun e w' => e = .returned (tkV s.now) ∧ Below w.heap.size w w' := by
  obtain ⟨A, cap, hp, hc, hm, hr⟩ := h
  have hgl := heap_lt hp
  obtain ⟨x0, x1, x2, x3, x4, xf⟩ := PAt.cells hp
  replace hp := Lib.hid hp
  obtain ⟨ts, fk, fa, dp, ns⟩ := s
  cases ts with
  | nil =>
    clear hr
    go_enter Tryz.func18, Tryz.ntmps18
    go_wp2
    refine bodyPost_ret (v := .agg #[.int .i64 0, .int .i64 0, .int .i64 0, .string ⟨#[]⟩]) (by simp [results, Tryz.results18, go_sem]) rfl ⟨rfl, ?_⟩
    exact ((Below.refl _ _).alloc (Nat.le_refl _) _)
  | cons t r =>
    obtain ⟨tb, o, rfl, ht, hx⟩ := hr (by simp)
    obtain ⟨y0, y1, y2, y3⟩ := hx 0 t rfl
    rw [Nat.zero_mul, Nat.add_zero] at y0 y1 y2 y3
    have htl : tb < w.heap.size := by omega
    have hlen : (((t :: r).length : Nat) : Int) = (r.length : Int) + 1 := by simp
    have hz : (((r.length : Int) + 1) == 0) = false := by simp; omega
    have hpos : (0 : Int) < (r.length : Int) + 1 := by omega
    clear hx ht
    go_enter Tryz.func18, Tryz.ntmps18
    go_wp2
    refine bodyPost_ret (v := .agg #[.int .i64 t.kind, .int .i64 t.at_, .int .i64 t.num, .string ⟨t.bytes.toArray⟩]) (by simp [results, Tryz.results18, go_sem]) rfl ⟨rfl, ?_⟩
    exact ((Below.refl _ _).alloc (Nat.le_refl _) _)
/-- A word's parts. -/
theorem tok_f0 (k a n : Int) (s : ByteArray) (W : World) : (Instr.field 56 (.agg #[.int .i64 k, .int .i64 a, .int .i64 n, .string s]) 0).run Tryz.prog W = .ok (.int .i64 k) W := by kernel_rfl
theorem tok_f1 (k a n : Int) (s : ByteArray) (W : World) : (Instr.field 56 (.agg #[.int .i64 k, .int .i64 a, .int .i64 n, .string s]) 1).run Tryz.prog W = .ok (.int .i64 a) W := by kernel_rfl
theorem tok_f3 (k a n : Int) (s : ByteArray) (W : World) : (Instr.field 56 (.agg #[.int .i64 k, .int .i64 a, .int .i64 n, .string s]) 3).run Tryz.prog W = .ok (.string s) W := by kernel_rfl
/-- What a word reads as. -/
theorem bytes_eq (a b : List UInt8) : ((⟨a.toArray⟩ : ByteArray).toList == (⟨b.toArray⟩ : ByteArray).toList) = (a == b) := by
  simp [ByteArray.toList_eq]
set_option maxRecDepth 100000 in
set_option maxHeartbeats 1000000 in
theorem is_any (g : Nat) (s : PS) (b : List UInt8) (w : World) (h : PAt w g s) :
    Calls Tryz.prog 61 #[.pointer (some ⟨g, 0, none⟩), .string ⟨b.toArray⟩] w fun e w' => e = .returned (.bool (s.isB b)) ∧ Below w.heap.size w w' := by
  have hN := now_any g s w h
  obtain ⟨t, ht⟩ : ∃ t, t = s.now := ⟨_, rfl⟩
  unfold PS.isB
  rw [← ht] at hN ⊢
  clear ht h
  obtain ⟨k, a, n, bs⟩ := t
  unfold tkV at hN
  have f3 := tok_f3 k a n ⟨bs.toArray⟩
  go_enter Tryz.func61, Tryz.ntmps61
  go_wp2_with (go_at_call 18; refine hN.mono ?_; rintro e w1 ⟨rfl, hb⟩)
  go_ret
  exact ⟨rfl, hb⟩
end Go.Proofs.YtiadbeglhnocoaaGreatDoor
namespace Go.Proofs.YtiadbeglhnocoaaGreatDoor
set_option linter.unusedVariables false
set_option linter.unusedSimpArgs false
open Go.RowKit

/-- The words behind the first one. -/
theorem RdT.tail_run {w : World} {g : Nat} {A : Option Addr} {t : Tk} {r : List Tk} {cap : Nat} (h : RdT w g A (t :: r)) (hc : (t :: r).length ≤ cap) :
    ∃ A1 c1, (∀ W, (Instr.slice 34 (.slice A (r.length + 1) cap) (some (.int .i64 1)) none none).run Tryz.prog W = .ok (.slice A1 r.length c1) W) ∧ RdT w g A1 r ∧ r.length ≤ c1 ∧ c1 ≤ cap := by
  obtain ⟨tb, o, rfl, ht, hx⟩ := h (by simp)
  have hrun : ∀ W, (Instr.slice 34 (.slice (some ⟨tb, o, none⟩) (t :: r).length cap) (some (.int .i64 ((1 : Nat) : Int))) none none).run Tryz.prog W = .ok (sliced (some ⟨tb, o, none⟩) 1 (t :: r).length cap 4) W := fun W => by
    rw [run_slice_l W 34 _ (t :: r).length cap (by simp [Program.elem, Tryz.underlying34]) .i64 ((1 : Nat) : Int) (by omega) (by simp; omega)]
    go_simp
  by_cases hr : r = []
  · subst hr
    refine ⟨_, cap - 1, fun W => (hrun W).trans rfl, fun hl => by simp at hl, by simp, by omega⟩
  · have hpos : 0 < r.length := List.length_pos_iff.mpr hr
    refine ⟨some ⟨tb, o + 4, none⟩, cap - 1, fun W => (hrun W).trans ?_, fun _ => ⟨tb, o + 4, rfl, ht, fun i x hi => ?_⟩, by simp at hc; omega, by omega⟩
    · have h1 : ¬ cap = 1 := by simp at hc; omega
      unfold sliced
      simp [h1, Addr.add]
    · have := hx (i + 1) x (by simpa using hi)
      have e0 : o + (i + 1) * 4 = o + 4 + i * 4 := by omega
      rw [e0] at this
      exact this
set_option maxRecDepth 100000 in
set_option maxHeartbeats 2000000 in
theorem next_any (g : Nat) (s : PS) (w : World) (h : PAt w g s) :
    Calls Tryz.prog 58 #[.pointer (some ⟨g, 0, none⟩)] w fun e w' => e = .returned (tkV s.now) ∧ PAt w' g s.next ∧ But g w w' := by
  have hgl := h.lt
  have hgn : w.heap.size ≠ g := by omega
  have hng : g ≠ w.heap.size := by omega
  have hN1 := now_any g s (w.alloc (.cells #[.int .i64 0, .int .i64 0, .int .i64 0, .string ⟨#[]⟩] 56)) (h.keep ((Below.refl _ _).alloc (Nat.le_refl _) _))
  by_cases hk : s.now.kind = 0
  · have hs : s.next = s := by unfold PS.next; rw [if_pos hk]
    rw [hs]
    clear hs
    obtain ⟨t, ht⟩ : ∃ t, t = s.now := ⟨_, rfl⟩
    rw [← ht] at hN1 hk ⊢
    have H := Lib.hid h
    clear ht h
    obtain ⟨k, a, n, bs⟩ := t
    unfold tkV at hN1 ⊢
    simp only at hk
    subst hk
    go_enter Tryz.func58, Tryz.ntmps58
    go_wp2_with (go_at_call 18; refine hN1.mono ?_; rintro e w1 ⟨rfl, hb⟩; obtain ⟨hc, hf⟩ := bcell hb; have hz : w.heap.size < w1.heap.size := (by have := hb.size; simp at this; omega); have Hb := Lib.hid hb; clear hb)
    refine bodyPost_ret (v := .agg #[.int .i64 0, .int .i64 a, .int .i64 n, .string ⟨bs.toArray⟩]) (by simp [results, Tryz.results58, go_sem, hc, hz]) rfl ?_
    have hbw : Below w.heap.size w w1 := ((Below.refl _ _).alloc (Nat.le_refl _) _).trans (Hb.out.mono (by simp))
    have hbW : ∀ W, Below w.heap.size w W → PAt W g s ∧ But g w W := fun W hW => ⟨H.out.keep hW, But.of_below hW⟩
    refine ⟨rfl, hbW _ ?_⟩
    repeat (first | with_reducible exact hbw | with_reducible refine Below.setCell ?_ (by first | (simp; done) | (simp; omega)) _ | with_reducible refine Below.alloc ?_ (by first | (simp; done) | (simp; omega)) _)
  · obtain ⟨A, cap, x0, x1, x2, x3, x4, xf, hcap, hmax, hr⟩ := h.five
    obtain ⟨ts, fk, fa, dp, ns⟩ := s
    cases ts with
    | nil => exact absurd rfl hk
    | cons t r =>
      have hs : (⟨t :: r, fk, fa, dp, ns⟩ : PS).next = ⟨r, fk, fa, dp, ns⟩ := by unfold PS.next; rw [if_neg hk]; rfl
      rw [hs]
      have hnow : (⟨t :: r, fk, fa, dp, ns⟩ : PS).now = t := rfl
      rw [hnow] at hN1 hk ⊢
      have H := Lib.hid h
      obtain ⟨A1, c1, hrun, hr1, hc1, hc2⟩ := RdT.tail_run hr hcap
      have Hr1 := Lib.hid hr1
      rw [show (t :: r).length = r.length + 1 from rfl] at x0
      clear hnow hs h hr hr1 x1 x2 x3 x4
      obtain ⟨k, a, n, bs⟩ := t
      unfold tkV at hN1 ⊢
      simp only at hk
      have hkb : (k != 0) = true := by simpa using hk
      clear hk
      go_enter Tryz.func58, Tryz.ntmps58
      go_wp2_with (go_at_call 18; refine hN1.mono ?_; rintro e w1 ⟨rfl, hb⟩; obtain ⟨hc, hf⟩ := bcell hb; have hz : w.heap.size < w1.heap.size := (by have := hb.size; simp at this; omega); have hbw : Below w.heap.size w w1 := ((Below.refl _ _).alloc (Nat.le_refl _) _).trans (hb.mono (by simp)); have y0 := (hbw.cell (p := ⟨g, 0, none⟩) hgl).trans x0; have yf := (hbw.frozen (p := ⟨g, 0, none⟩) hgl).trans (xf 0); have hg1 : g < w1.heap.size := (by omega); have hg2 : g ≠ w1.heap.size := (by omega); replace hbw := Lib.hid hbw; clear hb)
      refine bodyPost_ret (v := .agg #[.int .i64 k, .int .i64 a, .int .i64 n, .string ⟨bs.toArray⟩]) (by simp [results, Tryz.results58, go_sem, hc, hz]) rfl ?_
      replace hbw := hbw.out
      have hP := (H.out.keep hbw).set0 (RdT.keep Hr1.out (fun k hk => hbw.block k (by omega))) hc1 (by omega)
      refine ⟨rfl, hP.up ?_, ?_⟩
      · repeat (first | with_reducible exact Below.refl _ _ | with_reducible refine Below.setCell ?_ (by first | (simp; done) | (simp; omega)) _ | with_reducible refine Below.alloc ?_ (by first | (simp; done) | (simp; omega)) _)
      · repeat (first | with_reducible exact But.of_below hbw | with_reducible refine But.setCell ?_ (by first | exact Or.inl rfl | exact Or.inr (by simp)) _ | with_reducible refine But.alloc ?_ _)
end Go.Proofs.YtiadbeglhnocoaaGreatDoor
