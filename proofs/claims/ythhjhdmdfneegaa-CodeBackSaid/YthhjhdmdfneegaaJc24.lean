/-
  Programs that say the same are the same: slices.Equal, slices.EqualFunc, sameIns, sameTerm, sameBlock, Same, SameProg.
  Which programs may be, by the reference: types, how often, ends.
-/
import Derived.Test.YthhjhdmdfneegaaJc13
import Derived.Deep.CutBlock
import Derived.Deep.DeepCutAuto
import Derived.BigQuiet
namespace Go.Proofs.Ythhjhdmdfneegaa
set_option linter.unusedVariables false
set_option linter.unusedSimpArgs false
open Go.RowKit Go.Shelf

set_option maxRecDepth 100000 in
set_option maxHeartbeats 4000000 in
theorem eq_ints (n0 : Nat) (A1 A2 : Option Addr) (c1 c2 : Nat) (l : List Int) (w : World) (h1 : GNs n0 w (.slice A1 l.length c1) l) (h2 : GNs n0 w (.slice A2 l.length c2) l) (hl : l.length ≤ 1048576) (hn : n0 ≤ w.heap.size) :
    Calls Try.prog 47 #[.slice A1 l.length c1, .slice A2 l.length c2] w fun e w' => e = .returned (.bool true) ∧ Below w.heap.size w w' := by
  obtain ⟨m, hm⟩ : ∃ m, m = l.length := ⟨_, rfl⟩
  rw [← hm] at h1 h2 hl ⊢
  have Hm := Lib.hid hm
  have Hv := Lib.hid h1
  have Hu := Lib.hid h2
  clear hm h1 h2
  go_enter Try.func47, Try.ntmps47
  go_upto_region 4 with fail
  go_loopw [13] (fun u5 wr => ∃ (i : Nat), i ≤ m ∧ u5 = .int .i64 i ∧ Hid (Below w.heap.size w wr)) (fun u5 _ => m - (intOf u5).toNat)
  case atStart => exact ⟨0, Nat.zero_le _, rfl, Lib.hid (Below.refl _ _)⟩
  case round =>
    obtain ⟨i, hi, rfl, HB⟩ := hrel
    by_cases hlt : i < m
    · have hil : i < l.length := by rw [← Hm.out]; exact hlt
      obtain ⟨b1, o1, rfl, hb1, hc1⟩ := (Hv.out.keep (HB.out.mono hn)).at hil
      obtain ⟨b2, o2, rfl, hb2, hc2⟩ := (Hu.out.keep (HB.out.mono hn)).at hil
      obtain ⟨x, hx⟩ : ∃ x, x = l[i] := ⟨_, rfl⟩
      rw [← hx] at hc1 hc2
      clear hx hb1 hb2
      go_upto_region 6 with fail
      go_quiet (fail)
      go_wp2
      go_roundw
      case rel => exact ⟨i + 1, by omega, by go_num, Lib.hid (below_dr HB.out _)⟩
      case measure => simp [intOf]; omega
    · obtain rfl : i = m := by omega
      go_wp2
      go_ret
      exact ⟨rfl, HB.out⟩
set_option maxRecDepth 100000 in
set_option maxHeartbeats 8000000 in
theorem sameIns_t (n0 : Nat) (d : SIn) (aA bA : Option Addr) (ac bc : Nat) (w : World) (ha : GNs n0 w (.slice aA d.args.length ac) d.args) (hb' : GNs n0 w (.slice bA d.args.length bc) d.args) (hl : d.args.length ≤ 1048576) (hn : n0 ≤ w.heap.size) :
    Calls Try.prog 49 #[.agg #[.int .i64 d.op, .int .i64 d.ty, .slice aA d.args.length ac, .int .i64 d.n, .int .i64 d.to_], .agg #[.int .i64 d.op, .int .i64 d.ty, .slice bA d.args.length bc, .int .i64 d.n, .int .i64 d.to_]] w fun e w' => e = .returned (.bool true) ∧ Below w.heap.size w w' := by
  obtain ⟨W1, hW1, hbW1, hzW1, h0W1⟩ := gr_one w #[.int .i64 d.op, .int .i64 d.ty, .slice aA d.args.length ac, .int .i64 d.n, .int .i64 d.to_] 46
  obtain ⟨W2, hW2, hbW2, hzW2, h0W2⟩ := gr_one W1 #[.int .i64 d.op, .int .i64 d.ty, .slice bA d.args.length bc, .int .i64 d.n, .int .i64 d.to_] 46
  rw [hzW1] at h0W2
  have h1W2 := (hbW2.block w.heap.size (by omega)).trans h0W1
  have hbw : Below w.heap.size w W2 := hbW1.trans (hbW2.mono hbW1.size)
  have HC : Hid (∀ X, Below W2.heap.size W2 X → X.cell? ⟨w.heap.size, 0, none⟩ = some (.int .i64 d.op) ∧ X.cell? ⟨w.heap.size, 1, none⟩ = some (.int .i64 d.ty) ∧ X.cell? ⟨w.heap.size, 2, none⟩ = some (.slice aA d.args.length ac) ∧ X.cell? ⟨w.heap.size, 3, none⟩ = some (.int .i64 d.n) ∧ X.cell? ⟨w.heap.size, 4, none⟩ = some (.int .i64 d.to_) ∧ X.cell? ⟨w.heap.size + 1, 0, none⟩ = some (.int .i64 d.op) ∧ X.cell? ⟨w.heap.size + 1, 1, none⟩ = some (.int .i64 d.ty) ∧ X.cell? ⟨w.heap.size + 1, 2, none⟩ = some (.slice bA d.args.length bc) ∧ X.cell? ⟨w.heap.size + 1, 3, none⟩ = some (.int .i64 d.n) ∧ X.cell? ⟨w.heap.size + 1, 4, none⟩ = some (.int .i64 d.to_)) := Lib.hid fun X hX => by
    have e1 := (hX.block w.heap.size (by omega)).trans h1W2
    have e2 := (hX.block (w.heap.size + 1) (by omega)).trans h0W2
    exact ⟨Lib.cell_of_heap e1 0, Lib.cell_of_heap e1 1, Lib.cell_of_heap e1 2, Lib.cell_of_heap e1 3, Lib.cell_of_heap e1 4, Lib.cell_of_heap e2 0, Lib.cell_of_heap e2 1, Lib.cell_of_heap e2 2, Lib.cell_of_heap e2 3, Lib.cell_of_heap e2 4⟩
  obtain ⟨x0, x1, x2, x3, x4, y0, y1, y2, y3, y4⟩ := HC.out W2 (Below.refl _ _)
  have HBw := Lib.hid hbw
  have HW1 := Lib.hid hW1
  have HW2 := Lib.hid hW2
  have Hn0 : Hid (n0 ≤ W2.heap.size) := Lib.hid (by omega)
  have hC0 : ∀ X, Below W2.heap.size W2 X → Calls Try.prog 47 #[.slice aA d.args.length ac, .slice bA d.args.length bc] X fun e w' => e = .returned (.bool true) ∧ Below X.heap.size X w' := fun X hX => by
    have hb := hbw.trans (hX.mono (by omega))
    have hnX : n0 ≤ X.heap.size := by have := hX.size; omega
    exact eq_ints n0 aA bA ac bc d.args X (ha.keep (hb.mono hn)) (hb'.keep (hb.mono hn)) hl hnX
  clear hW1 hW2 hbW1 hbW2 hzW1 hzW2 h0W1 h0W2 h1W2 hbw ha hb' hl
  go_enter Try.func49, Try.ntmps49
  go_upto_region 1 with fail
  rw [← HW1.out, ← HW2.out]
  go_wp2_with (go_at_call 47; refine (hC0 _ (Below.refl W2.heap.size W2)).mono ?_; rintro e v0 ⟨rfl, b0⟩; have B0 := Lib.hid ((Below.refl W2.heap.size W2).trans (b0.mono ((Below.refl W2.heap.size W2)).size)); clear b0 hC0)
  go_ret
  exact ⟨rfl, HBw.out.trans (B0.out.mono HBw.out.size)⟩
set_option maxRecDepth 100000 in
set_option maxHeartbeats 8000000 in
theorem sameTerm_t (n0 : Nat) (kind arg : Int) (to_ : List Int) (aA bA : Option Addr) (ac bc : Nat) (w : World) (ha : GNs n0 w (.slice aA to_.length ac) to_) (hb' : GNs n0 w (.slice bA to_.length bc) to_) (hl : to_.length ≤ 1048576) (hn : n0 ≤ w.heap.size) :
    Calls Try.prog 67 #[.agg #[.int .i64 kind, .int .i64 arg, .slice aA to_.length ac], .agg #[.int .i64 kind, .int .i64 arg, .slice bA to_.length bc]] w fun e w' => e = .returned (.bool true) ∧ Below w.heap.size w w' := by
  obtain ⟨W1, hW1, hbW1, hzW1, h0W1⟩ := gr_one w #[.int .i64 kind, .int .i64 arg, .slice aA to_.length ac] 49
  obtain ⟨W2, hW2, hbW2, hzW2, h0W2⟩ := gr_one W1 #[.int .i64 kind, .int .i64 arg, .slice bA to_.length bc] 49
  rw [hzW1] at h0W2
  have h1W2 := (hbW2.block w.heap.size (by omega)).trans h0W1
  have hbw : Below w.heap.size w W2 := hbW1.trans (hbW2.mono hbW1.size)
  have HC : Hid (∀ X, Below W2.heap.size W2 X → X.cell? ⟨w.heap.size, 0, none⟩ = some (.int .i64 kind) ∧ X.cell? ⟨w.heap.size, 1, none⟩ = some (.int .i64 arg) ∧ X.cell? ⟨w.heap.size, 2, none⟩ = some (.slice aA to_.length ac) ∧ X.cell? ⟨w.heap.size + 1, 0, none⟩ = some (.int .i64 kind) ∧ X.cell? ⟨w.heap.size + 1, 1, none⟩ = some (.int .i64 arg) ∧ X.cell? ⟨w.heap.size + 1, 2, none⟩ = some (.slice bA to_.length bc)) := Lib.hid fun X hX => by
    have e1 := (hX.block w.heap.size (by omega)).trans h1W2
    have e2 := (hX.block (w.heap.size + 1) (by omega)).trans h0W2
    exact ⟨Lib.cell_of_heap e1 0, Lib.cell_of_heap e1 1, Lib.cell_of_heap e1 2, Lib.cell_of_heap e2 0, Lib.cell_of_heap e2 1, Lib.cell_of_heap e2 2⟩
  obtain ⟨x0, x1, x2, y0, y1, y2⟩ := HC.out W2 (Below.refl _ _)
  have HBw := Lib.hid hbw
  have HW1 := Lib.hid hW1
  have HW2 := Lib.hid hW2
  have Hn0 : Hid (n0 ≤ W2.heap.size) := Lib.hid (by omega)
  have hC0 : ∀ X, Below W2.heap.size W2 X → Calls Try.prog 47 #[.slice aA to_.length ac, .slice bA to_.length bc] X fun e w' => e = .returned (.bool true) ∧ Below X.heap.size X w' := fun X hX => by
    have hb := hbw.trans (hX.mono (by omega))
    have hnX : n0 ≤ X.heap.size := by have := hX.size; omega
    exact eq_ints n0 aA bA ac bc to_ X (ha.keep (hb.mono hn)) (hb'.keep (hb.mono hn)) hl hnX
  clear hW1 hW2 hbW1 hbW2 hzW1 hzW2 h0W1 h0W2 h1W2 hbw ha hb' hl
  go_enter Try.func67, Try.ntmps67
  go_upto_region 1 with fail
  rw [← HW1.out, ← HW2.out]
  go_wp2_with (go_at_call 47; refine (hC0 _ (Below.refl W2.heap.size W2)).mono ?_; rintro e v0 ⟨rfl, b0⟩; have B0 := Lib.hid ((Below.refl W2.heap.size W2).trans (b0.mono ((Below.refl W2.heap.size W2)).size)); clear b0 hC0)
  go_ret
  exact ⟨rfl, HBw.out.trans (B0.out.mono HBw.out.size)⟩
set_option maxRecDepth 100000 in
set_option maxHeartbeats 8000000 in
theorem sameBlock_t (n0 : Nat) (k : SB) (aL bL aP bP aT bT : Option Addr) (al bl ap bp at_ bt : Nat) (w : World) (ha1 : GNs n0 w (.slice aL k.list.length al) k.list) (hb1 : GNs n0 w (.slice bL k.list.length bl) k.list) (ha2 : GNs n0 w (.slice aP k.preds.length ap) k.preds) (hb2 : GNs n0 w (.slice bP k.preds.length bp) k.preds) (ha3 : GNs n0 w (.slice aT k.to_.length at_) k.to_) (hb3 : GNs n0 w (.slice bT k.to_.length bt) k.to_) (hl : k.list.length ≤ 1048576 ∧ k.preds.length ≤ 1048576 ∧ k.to_.length ≤ 1048576) (hn : n0 ≤ w.heap.size) :
    Calls Try.prog 51 #[.agg #[.slice aL k.list.length al, .slice aP k.preds.length ap, .int .i64 k.kind, .int .i64 k.arg, .slice aT k.to_.length at_], .agg #[.slice bL k.list.length bl, .slice bP k.preds.length bp, .int .i64 k.kind, .int .i64 k.arg, .slice bT k.to_.length bt]] w fun e w' => e = .returned (.bool true) ∧ Below w.heap.size w w' := by
  obtain ⟨W1, hW1, hbW1, hzW1, h0W1⟩ := gr_one w #[.slice aL k.list.length al, .slice aP k.preds.length ap, .int .i64 k.kind, .int .i64 k.arg, .slice aT k.to_.length at_] 51
  obtain ⟨W2, hW2, hbW2, hzW2, h0W2⟩ := gr_one W1 #[.slice bL k.list.length bl, .slice bP k.preds.length bp, .int .i64 k.kind, .int .i64 k.arg, .slice bT k.to_.length bt] 51
  rw [hzW1] at h0W2
  have h1W2 := (hbW2.block w.heap.size (by omega)).trans h0W1
  have hbw : Below w.heap.size w W2 := hbW1.trans (hbW2.mono hbW1.size)
  have HC : Hid (∀ X, Below W2.heap.size W2 X → X.cell? ⟨w.heap.size, 0, none⟩ = some (.slice aL k.list.length al) ∧ X.cell? ⟨w.heap.size, 1, none⟩ = some (.slice aP k.preds.length ap) ∧ X.cell? ⟨w.heap.size, 2, none⟩ = some (.int .i64 k.kind) ∧ X.cell? ⟨w.heap.size, 3, none⟩ = some (.int .i64 k.arg) ∧ X.cell? ⟨w.heap.size, 4, none⟩ = some (.slice aT k.to_.length at_) ∧ X.cell? ⟨w.heap.size + 1, 0, none⟩ = some (.slice bL k.list.length bl) ∧ X.cell? ⟨w.heap.size + 1, 1, none⟩ = some (.slice bP k.preds.length bp) ∧ X.cell? ⟨w.heap.size + 1, 2, none⟩ = some (.int .i64 k.kind) ∧ X.cell? ⟨w.heap.size + 1, 3, none⟩ = some (.int .i64 k.arg) ∧ X.cell? ⟨w.heap.size + 1, 4, none⟩ = some (.slice bT k.to_.length bt)) := Lib.hid fun X hX => by
    have e1 := (hX.block w.heap.size (by omega)).trans h1W2
    have e2 := (hX.block (w.heap.size + 1) (by omega)).trans h0W2
    exact ⟨Lib.cell_of_heap e1 0, Lib.cell_of_heap e1 1, Lib.cell_of_heap e1 2, Lib.cell_of_heap e1 3, Lib.cell_of_heap e1 4, Lib.cell_of_heap e2 0, Lib.cell_of_heap e2 1, Lib.cell_of_heap e2 2, Lib.cell_of_heap e2 3, Lib.cell_of_heap e2 4⟩
  obtain ⟨x0, x1, x2, x3, x4, y0, y1, y2, y3, y4⟩ := HC.out W2 (Below.refl _ _)
  have HBw := Lib.hid hbw
  have HW1 := Lib.hid hW1
  have HW2 := Lib.hid hW2
  have Hn0 : Hid (n0 ≤ W2.heap.size) := Lib.hid (by omega)
  have hC0 : ∀ X, Below W2.heap.size W2 X → Calls Try.prog 47 #[.slice aL k.list.length al, .slice bL k.list.length bl] X fun e w' => e = .returned (.bool true) ∧ Below X.heap.size X w' := fun X hX => by
    have hb := hbw.trans (hX.mono (by omega))
    have hnX : n0 ≤ X.heap.size := by have := hX.size; omega
    exact eq_ints n0 aL bL al bl k.list X (ha1.keep (hb.mono hn)) (hb1.keep (hb.mono hn)) hl.1 hnX
  have hC1 : ∀ X, Below W2.heap.size W2 X → Calls Try.prog 47 #[.slice aP k.preds.length ap, .slice bP k.preds.length bp] X fun e w' => e = .returned (.bool true) ∧ Below X.heap.size X w' := fun X hX => by
    have hb := hbw.trans (hX.mono (by omega))
    have hnX : n0 ≤ X.heap.size := by have := hX.size; omega
    exact eq_ints n0 aP bP ap bp k.preds X (ha2.keep (hb.mono hn)) (hb2.keep (hb.mono hn)) hl.2.1 hnX
  have hC2 : ∀ X, Below W2.heap.size W2 X → Calls Try.prog 67 #[.agg #[.int .i64 k.kind, .int .i64 k.arg, .slice aT k.to_.length at_], .agg #[.int .i64 k.kind, .int .i64 k.arg, .slice bT k.to_.length bt]] X fun e w' => e = .returned (.bool true) ∧ Below X.heap.size X w' := fun X hX => by
    have hb := hbw.trans (hX.mono (by omega))
    have hnX : n0 ≤ X.heap.size := by have := hX.size; omega
    exact sameTerm_t n0 k.kind k.arg k.to_ aT bT at_ bt X (ha3.keep (hb.mono hn)) (hb3.keep (hb.mono hn)) hl.2.2 hnX
  clear hW1 hW2 hbW1 hbW2 hzW1 hzW2 h0W1 h0W2 h1W2 hbw ha1 hb1 ha2 hb2 ha3 hb3 hl
  go_enter Try.func51, Try.ntmps51
  go_upto_region 1 with fail
  rw [← HW1.out, ← HW2.out]
  go_wp2_with (first
    | (go_at_call 47; refine (hC0 _ (Below.refl W2.heap.size W2)).mono ?_; rintro e v0 ⟨rfl, b0⟩; have B0 := Lib.hid ((Below.refl W2.heap.size W2).trans (b0.mono ((Below.refl W2.heap.size W2)).size)); clear b0 hC0; clear x0 x1 x2 x3 x4 y0 y1 y2 y3 y4; obtain ⟨x0, x1, x2, x3, x4, y0, y1, y2, y3, y4⟩ := HC.out _ B0.out)
    | (go_at_call 47; refine (hC1 _ B0.out).mono ?_; rintro e v1 ⟨rfl, b1⟩; have B1 := Lib.hid (B0.out.trans (b1.mono (B0.out).size)); clear b1 hC1; clear x0 x1 x2 x3 x4 y0 y1 y2 y3 y4; obtain ⟨x0, x1, x2, x3, x4, y0, y1, y2, y3, y4⟩ := HC.out _ B1.out)
    | (go_at_call 67; refine (hC2 _ B1.out).mono ?_; rintro e v2 ⟨rfl, b2⟩; have B2 := Lib.hid (B1.out.trans (b2.mono (B1.out).size)); clear b2 hC2))
  go_ret
  exact ⟨rfl, HBw.out.trans (B2.out.mono HBw.out.size)⟩
theorem gr_lt_of {w : World} {b q : Nat} {v : Value} (h : w.cell? ⟨b, q, none⟩ = some v) : b < w.heap.size := World.block_lt_of_cell? w ⟨b, q, none⟩ h
set_option maxRecDepth 100000 in
set_option maxHeartbeats 8000000 in
theorem eq_inss (n0 : Nat) (A1 A2 : Option Addr) (c1 c2 : Nat) (l : List SIn) (w : World) (h1 : SIs n0 w (.slice A1 l.length c1) l) (h2 : SIs n0 w (.slice A2 l.length c2) l) (hl : l.length ≤ 1048576) (hle : ∀ d ∈ l, d.args.length ≤ 1048576) (hn : n0 ≤ w.heap.size) :
    Calls Try.prog 48 #[.slice A1 l.length c1, .slice A2 l.length c2, .func (.func 49) #[] #[]] w fun e w' => e = .returned (.bool true) ∧ Below w.heap.size w w' := by
  obtain ⟨m, hm⟩ : ∃ m, m = l.length := ⟨_, rfl⟩
  rw [← hm] at h1 h2 hl ⊢
  have Hm := Lib.hid hm
  have Hv := Lib.hid h1
  have Hu := Lib.hid h2
  have Hle := Lib.hid hle
  clear hm h1 h2 hle
  go_enter Try.func48, Try.ntmps48
  go_upto_region 4 with fail
  go_loopw [17] (fun u5 wr => ∃ (i : Nat), i ≤ m ∧ u5 = .int .i64 i ∧ Hid (Below w.heap.size w wr)) (fun u5 _ => m - (intOf u5).toNat)
  case atStart => exact ⟨0, Nat.zero_le _, rfl, Lib.hid (Below.refl _ _)⟩
  case round =>
    obtain ⟨i, hi, rfl, HB⟩ := hrel
    obtain ⟨wo, hwo⟩ : ∃ x, x = wr := ⟨_, rfl⟩
    rw [← hwo] at HB ⊢
    clear hwo
    by_cases hlt : i < m
    · have hil : i < l.length := by rw [← Hm.out]; exact hlt
      obtain ⟨b1, o1, aA, ac, rfl, hla, p0, p1, p2, p3, p4, ga⟩ := (Hv.out.keep (HB.out.mono hn)).at hil
      obtain ⟨b2, o2, bA, bc, rfl, hlb, q0, q1, q2, q3, q4, gb⟩ := (Hu.out.keep (HB.out.mono hn)).at hil
      have hmem := Hle.out l[i] (List.getElem_mem hil)
      obtain ⟨d, hd⟩ : ∃ d, d = l[i] := ⟨_, rfl⟩
      rw [← hd] at p0 p1 p2 p3 p4 q0 q1 q2 q3 q4 hmem ga gb
      obtain ⟨W1, hW1, hbW1, hzW1, h0W1⟩ := gr_one wo #[.int .i64 d.op, .int .i64 d.ty, .slice aA d.args.length ac, .int .i64 d.n, .int .i64 d.to_] 46
      obtain ⟨W2, hW2, hbW2, hzW2, h0W2⟩ := gr_one W1 #[.int .i64 d.op, .int .i64 d.ty, .slice bA d.args.length bc, .int .i64 d.n, .int .i64 d.to_] 46
      have h1W2 := (hbW2.block wo.heap.size (by omega)).trans h0W1
      have hbw : Below wo.heap.size wo W2 := hbW1.trans (hbW2.mono hbW1.size)
      have hno : n0 ≤ wo.heap.size := Nat.le_trans hn HB.out.size
      have hk0 := hbw.mono hno
      have hk1 := hbW1.mono hno
      have hS := sameIns_t n0 d aA bA ac bc W2 (ga.keep hk0) (gb.keep hk0) hmem (Nat.le_trans hno hbw.size)
      have q0 := (World.cell?_of_block (hbW1.block _ (gr_lt_of q0))).trans q0
      have q1 := (World.cell?_of_block (hbW1.block _ (gr_lt_of q1))).trans q1
      have q2 := (World.cell?_of_block (hbW1.block _ (gr_lt_of q2))).trans q2
      have q3 := (World.cell?_of_block (hbW1.block _ (gr_lt_of q3))).trans q3
      have q4 := (World.cell?_of_block (hbW1.block _ (gr_lt_of q4))).trans q4
      have x0 := Lib.cell_of_heap h1W2 0
      have x1 := Lib.cell_of_heap h1W2 1
      have x2 := Lib.cell_of_heap h1W2 2
      have x3 := Lib.cell_of_heap h1W2 3
      have x4 := Lib.cell_of_heap h1W2 4
      have y0 := Lib.cell_of_heap h0W2 0
      have y1 := Lib.cell_of_heap h0W2 1
      have y2 := Lib.cell_of_heap h0W2 2
      have y3 := Lib.cell_of_heap h0W2 3
      have y4 := Lib.cell_of_heap h0W2 4
      have HW1 := Lib.hid hW1
      have HW2 := Lib.hid hW2
      have HBW := Lib.hid (HB.out.trans (hbw.mono HB.out.size))
      clear hW1 hW2 hbW1 hbW2 hzW1 hzW2 h0W1 h0W2 h1W2 hbw hk0 hk1 hno hmem hd hil HB ga gb hla hlb
      go_upto_region 6 with fail
      rw [← HW1.out]
      clear p0 p1 p2 p3 p4
      go_upto_region 7 with fail
      rw [← HW2.out]
      clear q0 q1 q2 q3 q4
      go_wp2_with (go_at_call 49; refine hS.mono ?_; rintro e w8 ⟨rfl, b8⟩; have H8 := Lib.hid (HBW.out.trans (b8.mono HBW.out.size)); clear b8 hS)
      go_roundw
      case rel => exact ⟨i + 1, by omega, by go_num, H8⟩
      case measure => simp [intOf]; omega
    · obtain rfl : i = m := by omega
      go_wp2
      go_ret
      exact ⟨rfl, HB.out⟩
set_option maxRecDepth 100000 in
set_option maxHeartbeats 8000000 in
theorem eq_blks (n0 : Nat) (A1 A2 : Option Addr) (c1 c2 : Nat) (l : List SB) (w : World) (h1 : SBs n0 w (.slice A1 l.length c1) l) (h2 : SBs n0 w (.slice A2 l.length c2) l) (hl : l.length ≤ 1048576) (hle : ∀ k ∈ l, k.list.length ≤ 1048576 ∧ k.preds.length ≤ 1048576 ∧ k.to_.length ≤ 1048576) (hn : n0 ≤ w.heap.size) :
    Calls Try.prog 50 #[.slice A1 l.length c1, .slice A2 l.length c2, .func (.func 51) #[] #[]] w fun e w' => e = .returned (.bool true) ∧ Below w.heap.size w w' := by
  obtain ⟨m, hm⟩ : ∃ m, m = l.length := ⟨_, rfl⟩
  rw [← hm] at h1 h2 hl ⊢
  have Hm := Lib.hid hm
  have Hv := Lib.hid h1
  have Hu := Lib.hid h2
  have Hle := Lib.hid hle
  clear hm h1 h2 hle
  go_enter Try.func50, Try.ntmps50
  go_upto_region 4 with fail
  go_loopw [17] (fun u5 wr => ∃ (i : Nat), i ≤ m ∧ u5 = .int .i64 i ∧ Hid (Below w.heap.size w wr)) (fun u5 _ => m - (intOf u5).toNat)
  case atStart => exact ⟨0, Nat.zero_le _, rfl, Lib.hid (Below.refl _ _)⟩
  case round =>
    obtain ⟨i, hi, rfl, HB⟩ := hrel
    obtain ⟨wo, hwo⟩ : ∃ x, x = wr := ⟨_, rfl⟩
    rw [← hwo] at HB ⊢
    clear hwo
    by_cases hlt : i < m
    · have hil : i < l.length := by rw [← Hm.out]; exact hlt
      obtain ⟨b1, o1, aL, al, aP, ap, aT, at_, rfl, hla, p0, p1, p2, p3, p4, ga1, ga2, ga3⟩ := (Hv.out.keep (HB.out.mono hn)).at hil
      obtain ⟨b2, o2, bL, bl, bP, bp, bT, bt, rfl, hlb, q0, q1, q2, q3, q4, gb1, gb2, gb3⟩ := (Hu.out.keep (HB.out.mono hn)).at hil
      have hmem := Hle.out l[i] (List.getElem_mem hil)
      obtain ⟨d, hd⟩ : ∃ d, d = l[i] := ⟨_, rfl⟩
      rw [← hd] at p0 p1 p2 p3 p4 q0 q1 q2 q3 q4 hmem ga1 gb1 ga2 gb2 ga3 gb3
      obtain ⟨W1, hW1, hbW1, hzW1, h0W1⟩ := gr_one wo #[.slice aL d.list.length al, .slice aP d.preds.length ap, .int .i64 d.kind, .int .i64 d.arg, .slice aT d.to_.length at_] 51
      obtain ⟨W2, hW2, hbW2, hzW2, h0W2⟩ := gr_one W1 #[.slice bL d.list.length bl, .slice bP d.preds.length bp, .int .i64 d.kind, .int .i64 d.arg, .slice bT d.to_.length bt] 51
      have h1W2 := (hbW2.block wo.heap.size (by omega)).trans h0W1
      have hbw : Below wo.heap.size wo W2 := hbW1.trans (hbW2.mono hbW1.size)
      have hno : n0 ≤ wo.heap.size := Nat.le_trans hn HB.out.size
      have hk0 := hbw.mono hno
      have hk1 := hbW1.mono hno
      have hS := sameBlock_t n0 d aL bL aP bP aT bT al bl ap bp at_ bt W2 (ga1.keep hk0) (gb1.keep hk0) (ga2.keep hk0) (gb2.keep hk0) (ga3.keep hk0) (gb3.keep hk0) hmem (Nat.le_trans hno hbw.size)
      have q0 := (World.cell?_of_block (hbW1.block _ (gr_lt_of q0))).trans q0
      have q1 := (World.cell?_of_block (hbW1.block _ (gr_lt_of q1))).trans q1
      have q2 := (World.cell?_of_block (hbW1.block _ (gr_lt_of q2))).trans q2
      have q3 := (World.cell?_of_block (hbW1.block _ (gr_lt_of q3))).trans q3
      have q4 := (World.cell?_of_block (hbW1.block _ (gr_lt_of q4))).trans q4
      have x0 := Lib.cell_of_heap h1W2 0
      have x1 := Lib.cell_of_heap h1W2 1
      have x2 := Lib.cell_of_heap h1W2 2
      have x3 := Lib.cell_of_heap h1W2 3
      have x4 := Lib.cell_of_heap h1W2 4
      have y0 := Lib.cell_of_heap h0W2 0
      have y1 := Lib.cell_of_heap h0W2 1
      have y2 := Lib.cell_of_heap h0W2 2
      have y3 := Lib.cell_of_heap h0W2 3
      have y4 := Lib.cell_of_heap h0W2 4
      have HW1 := Lib.hid hW1
      have HW2 := Lib.hid hW2
      have HBW := Lib.hid (HB.out.trans (hbw.mono HB.out.size))
      clear hW1 hW2 hbW1 hbW2 hzW1 hzW2 h0W1 h0W2 h1W2 hbw hk0 hk1 hno hmem hd hil HB ga1 gb1 ga2 gb2 ga3 gb3 hla hlb
      go_upto_region 6 with fail
      rw [← HW1.out]
      clear p0 p1 p2 p3 p4
      go_upto_region 7 with fail
      rw [← HW2.out]
      clear q0 q1 q2 q3 q4
      go_wp2_with (go_at_call 51; refine hS.mono ?_; rintro e w8 ⟨rfl, b8⟩; have H8 := Lib.hid (HBW.out.trans (b8.mono HBW.out.size)); clear b8 hS)
      go_roundw
      case rel => exact ⟨i + 1, by omega, by go_num, H8⟩
      case measure => simp [intOf]; omega
    · obtain rfl : i = m := by omega
      go_wp2
      go_ret
      exact ⟨rfl, HB.out⟩
/-- No list of a function is longer than what is looked at. -/
def FunL (f : SF) : Prop := (f.params.length ≤ 1048576 ∧ f.ins.length ≤ 1048576 ∧ f.blocks.length ≤ 1048576) ∧ (∀ d ∈ f.ins, d.args.length ≤ 1048576) ∧ (∀ k ∈ f.blocks, k.list.length ≤ 1048576 ∧ k.preds.length ≤ 1048576 ∧ k.to_.length ≤ 1048576)
set_option maxRecDepth 100000 in
set_option maxHeartbeats 8000000 in
theorem same_t (n0 : Nat) (nm : ByteArray) (f : SF) (aP bP aI bI aB bB : Option Addr) (ap bp ai bi ab bb : Nat) (w : World) (ha1 : GNs n0 w (.slice aP f.params.length ap) f.params) (hb1 : GNs n0 w (.slice bP f.params.length bp) f.params) (ha2 : SIs n0 w (.slice aI f.ins.length ai) f.ins) (hb2 : SIs n0 w (.slice bI f.ins.length bi) f.ins) (ha3 : SBs n0 w (.slice aB f.blocks.length ab) f.blocks) (hb3 : SBs n0 w (.slice bB f.blocks.length bb) f.blocks) (hl : FunL f) (hn : n0 ≤ w.heap.size) :
    Calls Try.prog 25 #[.agg #[.string nm, .slice aP f.params.length ap, .int .i64 f.ret, .slice aI f.ins.length ai, .slice aB f.blocks.length ab], .agg #[.string nm, .slice bP f.params.length bp, .int .i64 f.ret, .slice bI f.ins.length bi, .slice bB f.blocks.length bb]] w fun e w' => e = .returned (.bool true) ∧ Below w.heap.size w w' := by
  obtain ⟨W1, hW1, hbW1, hzW1, h0W1⟩ := gr_one w #[.string nm, .slice aP f.params.length ap, .int .i64 f.ret, .slice aI f.ins.length ai, .slice aB f.blocks.length ab] 43
  obtain ⟨W2, hW2, hbW2, hzW2, h0W2⟩ := gr_one W1 #[.string nm, .slice bP f.params.length bp, .int .i64 f.ret, .slice bI f.ins.length bi, .slice bB f.blocks.length bb] 43
  rw [hzW1] at h0W2
  have h1W2 := (hbW2.block w.heap.size (by omega)).trans h0W1
  have hbw : Below w.heap.size w W2 := hbW1.trans (hbW2.mono hbW1.size)
  have HC : Hid (∀ X, Below W2.heap.size W2 X → X.cell? ⟨w.heap.size, 0, none⟩ = some (.string nm) ∧ X.cell? ⟨w.heap.size, 1, none⟩ = some (.slice aP f.params.length ap) ∧ X.cell? ⟨w.heap.size, 2, none⟩ = some (.int .i64 f.ret) ∧ X.cell? ⟨w.heap.size, 3, none⟩ = some (.slice aI f.ins.length ai) ∧ X.cell? ⟨w.heap.size, 4, none⟩ = some (.slice aB f.blocks.length ab) ∧ X.cell? ⟨w.heap.size + 1, 0, none⟩ = some (.string nm) ∧ X.cell? ⟨w.heap.size + 1, 1, none⟩ = some (.slice bP f.params.length bp) ∧ X.cell? ⟨w.heap.size + 1, 2, none⟩ = some (.int .i64 f.ret) ∧ X.cell? ⟨w.heap.size + 1, 3, none⟩ = some (.slice bI f.ins.length bi) ∧ X.cell? ⟨w.heap.size + 1, 4, none⟩ = some (.slice bB f.blocks.length bb)) := Lib.hid fun X hX => by
    have e1 := (hX.block w.heap.size (by omega)).trans h1W2
    have e2 := (hX.block (w.heap.size + 1) (by omega)).trans h0W2
    exact ⟨Lib.cell_of_heap e1 0, Lib.cell_of_heap e1 1, Lib.cell_of_heap e1 2, Lib.cell_of_heap e1 3, Lib.cell_of_heap e1 4, Lib.cell_of_heap e2 0, Lib.cell_of_heap e2 1, Lib.cell_of_heap e2 2, Lib.cell_of_heap e2 3, Lib.cell_of_heap e2 4⟩
  obtain ⟨x0, x1, x2, x3, x4, y0, y1, y2, y3, y4⟩ := HC.out W2 (Below.refl _ _)
  have HBw := Lib.hid hbw
  have HW1 := Lib.hid hW1
  have HW2 := Lib.hid hW2
  have Hn0 : Hid (n0 ≤ W2.heap.size) := Lib.hid (by omega)
  have hC0 : ∀ X, Below W2.heap.size W2 X → Calls Try.prog 47 #[.slice aP f.params.length ap, .slice bP f.params.length bp] X fun e w' => e = .returned (.bool true) ∧ Below X.heap.size X w' := fun X hX => by
    have hb := hbw.trans (hX.mono (by omega))
    have hnX : n0 ≤ X.heap.size := by have := hX.size; omega
    exact eq_ints n0 aP bP ap bp f.params X (ha1.keep (hb.mono hn)) (hb1.keep (hb.mono hn)) hl.1.1 hnX
  have hC1 : ∀ X, Below W2.heap.size W2 X → Calls Try.prog 48 #[.slice aI f.ins.length ai, .slice bI f.ins.length bi, .func (.func 49) #[] #[]] X fun e w' => e = .returned (.bool true) ∧ Below X.heap.size X w' := fun X hX => by
    have hb := hbw.trans (hX.mono (by omega))
    have hnX : n0 ≤ X.heap.size := by have := hX.size; omega
    exact eq_inss n0 aI bI ai bi f.ins X (ha2.keep (hb.mono hn)) (hb2.keep (hb.mono hn)) hl.1.2.1 hl.2.1 hnX
  have hC2 : ∀ X, Below W2.heap.size W2 X → Calls Try.prog 50 #[.slice aB f.blocks.length ab, .slice bB f.blocks.length bb, .func (.func 51) #[] #[]] X fun e w' => e = .returned (.bool true) ∧ Below X.heap.size X w' := fun X hX => by
    have hb := hbw.trans (hX.mono (by omega))
    have hnX : n0 ≤ X.heap.size := by have := hX.size; omega
    exact eq_blks n0 aB bB ab bb f.blocks X (ha3.keep (hb.mono hn)) (hb3.keep (hb.mono hn)) hl.1.2.2 hl.2.2 hnX
  clear hW1 hW2 hbW1 hbW2 hzW1 hzW2 h0W1 h0W2 h1W2 hbw ha1 hb1 ha2 hb2 ha3 hb3 hl
  go_enter Try.func25, Try.ntmps25
  go_upto_region 1 with fail
  rw [← HW1.out, ← HW2.out]
  go_wp2_with (first
    | (go_at_call 47; refine (hC0 _ (Below.refl W2.heap.size W2)).mono ?_; rintro e v0 ⟨rfl, b0⟩; have B0 := Lib.hid ((Below.refl W2.heap.size W2).trans (b0.mono ((Below.refl W2.heap.size W2)).size)); clear b0 hC0; clear x0 x1 x2 x3 x4 y0 y1 y2 y3 y4; obtain ⟨x0, x1, x2, x3, x4, y0, y1, y2, y3, y4⟩ := HC.out _ B0.out)
    | (go_at_call 48; refine (hC1 _ B0.out).mono ?_; rintro e v1 ⟨rfl, b1⟩; have B1 := Lib.hid (B0.out.trans (b1.mono (B0.out).size)); clear b1 hC1; clear x0 x1 x2 x3 x4 y0 y1 y2 y3 y4; obtain ⟨x0, x1, x2, x3, x4, y0, y1, y2, y3, y4⟩ := HC.out _ B1.out)
    | (go_at_call 50; refine (hC2 _ B1.out).mono ?_; rintro e v2 ⟨rfl, b2⟩; have B2 := Lib.hid (B1.out.trans (b2.mono (B1.out).size)); clear b2 hC2))
  go_ret
  exact ⟨rfl, HBw.out.trans (B2.out.mono HBw.out.size)⟩
set_option maxRecDepth 100000 in
set_option maxHeartbeats 8000000 in
theorem eq_fns (n0 : Nat) (A1 A2 : Option Addr) (c1 c2 : Nat) (l : List (List UInt8 × SF)) (w : World) (h1 : CFs n0 w (.slice A1 l.length c1) l) (h2 : CFs n0 w (.slice A2 l.length c2) l) (hl : l.length ≤ 1048576) (hle : ∀ d ∈ l, FunL d.2) (hn : n0 ≤ w.heap.size) :
    Calls Try.prog 24 #[.slice A1 l.length c1, .slice A2 l.length c2, .func (.func 25) #[] #[]] w fun e w' => e = .returned (.bool true) ∧ Below w.heap.size w w' := by
  obtain ⟨m, hm⟩ : ∃ m, m = l.length := ⟨_, rfl⟩
  rw [← hm] at h1 h2 hl ⊢
  have Hm := Lib.hid hm
  have Hv := Lib.hid h1
  have Hu := Lib.hid h2
  have Hle := Lib.hid hle
  clear hm h1 h2 hle
  go_enter Try.func24, Try.ntmps24
  go_upto_region 4 with fail
  go_loopw [17] (fun u5 wr => ∃ (i : Nat), i ≤ m ∧ u5 = .int .i64 i ∧ Hid (Below w.heap.size w wr)) (fun u5 _ => m - (intOf u5).toNat)
  case atStart => exact ⟨0, Nat.zero_le _, rfl, Lib.hid (Below.refl _ _)⟩
  case round =>
    obtain ⟨i, hi, rfl, HB⟩ := hrel
    obtain ⟨wo, hwo⟩ : ∃ x, x = wr := ⟨_, rfl⟩
    rw [← hwo] at HB ⊢
    clear hwo
    by_cases hlt : i < m
    · have hil : i < l.length := by rw [← Hm.out]; exact hlt
      obtain ⟨b1, o1, aP, ap, aI, ai, aB, ab, rfl, hla, p0, p1, p2, p3, p4, ga1, ga2, ga3⟩ := (Hv.out.keep (HB.out.mono hn)).at hil
      obtain ⟨b2, o2, bP, bp, bI, bi, bB, bb, rfl, hlb, q0, q1, q2, q3, q4, gb1, gb2, gb3⟩ := (Hu.out.keep (HB.out.mono hn)).at hil
      have hmem := Hle.out l[i] (List.getElem_mem hil)
      obtain ⟨d, hd⟩ : ∃ d, d = l[i] := ⟨_, rfl⟩
      rw [← hd] at p0 p1 p2 p3 p4 q0 q1 q2 q3 q4 hmem ga1 gb1 ga2 gb2 ga3 gb3
      obtain ⟨W1, hW1, hbW1, hzW1, h0W1⟩ := gr_one wo #[.string ⟨d.1.toArray⟩, .slice aP d.2.params.length ap, .int .i64 d.2.ret, .slice aI d.2.ins.length ai, .slice aB d.2.blocks.length ab] 43
      obtain ⟨W2, hW2, hbW2, hzW2, h0W2⟩ := gr_one W1 #[.string ⟨d.1.toArray⟩, .slice bP d.2.params.length bp, .int .i64 d.2.ret, .slice bI d.2.ins.length bi, .slice bB d.2.blocks.length bb] 43
      have h1W2 := (hbW2.block wo.heap.size (by omega)).trans h0W1
      have hbw : Below wo.heap.size wo W2 := hbW1.trans (hbW2.mono hbW1.size)
      have hno : n0 ≤ wo.heap.size := Nat.le_trans hn HB.out.size
      have hk0 := hbw.mono hno
      have hk1 := hbW1.mono hno
      have hS := same_t n0 ⟨d.1.toArray⟩ d.2 aP bP aI bI aB bB ap bp ai bi ab bb W2 (ga1.keep hk0) (gb1.keep hk0) (ga2.keep hk0) (gb2.keep hk0) (ga3.keep hk0) (gb3.keep hk0) hmem (Nat.le_trans hno hbw.size)
      have q0 := (World.cell?_of_block (hbW1.block _ (gr_lt_of q0))).trans q0
      have q1 := (World.cell?_of_block (hbW1.block _ (gr_lt_of q1))).trans q1
      have q2 := (World.cell?_of_block (hbW1.block _ (gr_lt_of q2))).trans q2
      have q3 := (World.cell?_of_block (hbW1.block _ (gr_lt_of q3))).trans q3
      have q4 := (World.cell?_of_block (hbW1.block _ (gr_lt_of q4))).trans q4
      have x0 := Lib.cell_of_heap h1W2 0
      have x1 := Lib.cell_of_heap h1W2 1
      have x2 := Lib.cell_of_heap h1W2 2
      have x3 := Lib.cell_of_heap h1W2 3
      have x4 := Lib.cell_of_heap h1W2 4
      have y0 := Lib.cell_of_heap h0W2 0
      have y1 := Lib.cell_of_heap h0W2 1
      have y2 := Lib.cell_of_heap h0W2 2
      have y3 := Lib.cell_of_heap h0W2 3
      have y4 := Lib.cell_of_heap h0W2 4
      have HW1 := Lib.hid hW1
      have HW2 := Lib.hid hW2
      have HBW := Lib.hid (HB.out.trans (hbw.mono HB.out.size))
      clear hW1 hW2 hbW1 hbW2 hzW1 hzW2 h0W1 h0W2 h1W2 hbw hk0 hk1 hno hmem hd hil HB ga1 gb1 ga2 gb2 ga3 gb3 hla hlb
      go_upto_region 6 with fail
      rw [← HW1.out]
      clear p0 p1 p2 p3 p4
      go_upto_region 7 with fail
      rw [← HW2.out]
      clear q0 q1 q2 q3 q4
      go_wp2_with (go_at_call 25; refine hS.mono ?_; rintro e w8 ⟨rfl, b8⟩; have H8 := Lib.hid (HBW.out.trans (b8.mono HBW.out.size)); clear b8 hS)
      go_roundw
      case rel => exact ⟨i + 1, by omega, by go_num, H8⟩
      case measure => simp [intOf]; omega
    · obtain rfl : i = m := by omega
      go_wp2
      go_ret
      exact ⟨rfl, HB.out⟩
set_option maxRecDepth 100000 in
set_option maxHeartbeats 8000000 in
theorem sameProg_t (n0 : Nat) (mn : Int) (fs : List (List UInt8 × SF)) (aA bA : Option Addr) (ac bc : Nat) (w : World) (ha : CFs n0 w (.slice aA fs.length ac) fs) (hb' : CFs n0 w (.slice bA fs.length bc) fs) (hl : fs.length ≤ 1048576 ∧ ∀ d ∈ fs, FunL d.2) (hn : n0 ≤ w.heap.size) :
    Calls Try.prog 10 #[.agg #[.slice aA fs.length ac, .int .i64 mn], .agg #[.slice bA fs.length bc, .int .i64 mn]] w fun e w' => e = .returned (.bool true) ∧ Below w.heap.size w w' := by
  obtain ⟨W1, hW1, hbW1, hzW1, h0W1⟩ := gr_one w #[.slice aA fs.length ac, .int .i64 mn] 25
  obtain ⟨W2, hW2, hbW2, hzW2, h0W2⟩ := gr_one W1 #[.slice bA fs.length bc, .int .i64 mn] 25
  rw [hzW1] at h0W2
  have h1W2 := (hbW2.block w.heap.size (by omega)).trans h0W1
  have hbw : Below w.heap.size w W2 := hbW1.trans (hbW2.mono hbW1.size)
  have HC : Hid (∀ X, Below W2.heap.size W2 X → X.cell? ⟨w.heap.size, 0, none⟩ = some (.slice aA fs.length ac) ∧ X.cell? ⟨w.heap.size, 1, none⟩ = some (.int .i64 mn) ∧ X.cell? ⟨w.heap.size + 1, 0, none⟩ = some (.slice bA fs.length bc) ∧ X.cell? ⟨w.heap.size + 1, 1, none⟩ = some (.int .i64 mn)) := Lib.hid fun X hX => by
    have e1 := (hX.block w.heap.size (by omega)).trans h1W2
    have e2 := (hX.block (w.heap.size + 1) (by omega)).trans h0W2
    exact ⟨Lib.cell_of_heap e1 0, Lib.cell_of_heap e1 1, Lib.cell_of_heap e2 0, Lib.cell_of_heap e2 1⟩
  obtain ⟨x0, x1, y0, y1⟩ := HC.out W2 (Below.refl _ _)
  have HBw := Lib.hid hbw
  have HW1 := Lib.hid hW1
  have HW2 := Lib.hid hW2
  have Hn0 : Hid (n0 ≤ W2.heap.size) := Lib.hid (by omega)
  have hC0 : ∀ X, Below W2.heap.size W2 X → Calls Try.prog 24 #[.slice aA fs.length ac, .slice bA fs.length bc, .func (.func 25) #[] #[]] X fun e w' => e = .returned (.bool true) ∧ Below X.heap.size X w' := fun X hX => by
    have hb := hbw.trans (hX.mono (by omega))
    have hnX : n0 ≤ X.heap.size := by have := hX.size; omega
    exact eq_fns n0 aA bA ac bc fs X (ha.keep (hb.mono hn)) (hb'.keep (hb.mono hn)) hl.1 hl.2 hnX
  clear hW1 hW2 hbW1 hbW2 hzW1 hzW2 h0W1 h0W2 h1W2 hbw ha hb' hl
  go_enter Try.func10, Try.ntmps10
  go_upto_region 1 with fail
  rw [← HW1.out, ← HW2.out]
  go_wp2_with (go_at_call 24; refine (hC0 _ (Below.refl W2.heap.size W2)).mono ?_; rintro e v0 ⟨rfl, b0⟩; have B0 := Lib.hid ((Below.refl W2.heap.size W2).trans (b0.mono ((Below.refl W2.heap.size W2)).size)); clear b0 hC0)
  go_ret
  exact ⟨rfl, HBw.out.trans (B0.out.mono HBw.out.size)⟩
end Go.Proofs.Ythhjhdmdfneegaa
namespace Go.Proofs.Ythhjhdmdfneegaa
set_option linter.unusedVariables false
set_option linter.unusedSimpArgs false
open Go.RowKit

/-- A function as a value. -/
structure RV where
  nm : ByteArray
  pA : Option Addr
  pn : Nat
  pc : Nat
  r : Int
  iA : Option Addr
  in_ : Nat
  ic : Nat
  bA : Option Addr
  bn : Nat
  bc : Nat
def RV.cs (V : RV) : Array Value := #[.string V.nm, .slice V.pA V.pn V.pc, .int .i64 V.r, .slice V.iA V.in_ V.ic, .slice V.bA V.bn V.bc]
structure FA (n0 : Nat) (V : RV) (f : SF) (w : World) : Prop where
  r : V.r = f.ret
  p : GNs n0 w (.slice V.pA V.pn V.pc) f.params
  i : SIs n0 w (.slice V.iA V.in_ V.ic) f.ins
  b : SBs n0 w (.slice V.bA V.bn V.bc) f.blocks
theorem FA.keep {n0 : Nat} {V : RV} {f : SF} {w w' : World} (h : FA n0 V f w) (hb : Below n0 w w') : FA n0 V f w' := ⟨h.r, h.p.keep hb, h.i.keep hb, h.b.keep hb⟩
theorem FA.pl {n0 : Nat} {V : RV} {f : SF} {w : World} (h : FA n0 V f w) : V.pn = f.params.length := h.p.len
theorem FA.il {n0 : Nat} {V : RV} {f : SF} {w : World} (h : FA n0 V f w) : V.in_ = f.ins.length := by
  obtain ⟨A', c', hv, hr⟩ := h.i
  injection hv
theorem FA.bl {n0 : Nat} {V : RV} {f : SF} {w : World} (h : FA n0 V f w) : V.bn = f.blocks.length := by
  obtain ⟨A', c', hv, hr⟩ := h.b
  injection hv
/-- Small enough. -/
structure FS (f : SF) : Prop where
  p : f.params.length ≤ 1000
  i : f.ins.length ≤ 1000
  b : f.blocks.length ≤ 1000
  args : ∀ x ∈ f.ins, x.args.length ≤ 1000
  lists : ∀ k ∈ f.blocks, k.list.length ≤ 1000
  preds : ∀ k ∈ f.blocks, k.preds.length ≤ 1000
  tos : ∀ k ∈ f.blocks, k.to_.length ≤ 1000
  gp : ∀ k ∈ f.blocks, ∀ x ∈ k.preds, InG x
  gt : ∀ k ∈ f.blocks, ∀ x ∈ k.to_, InG x
/-- A truth is answered, and where it is true, P holds. -/
def BP (P : Prop) (w : World) (e : Ending) (w' : World) : Prop := ∃ r : Bool, e = .returned (.bool r) ∧ Below w.heap.size w w' ∧ (r = true → P)
theorem BP.yes {P : Prop} {w w' : World} (r : Bool) (h : Below w.heap.size w w') (hp : P) : BP P w (.returned (.bool r)) w' := ⟨r, rfl, h, fun _ => hp⟩
theorem BP.no {P : Prop} {w w' : World} (h : Below w.heap.size w w') : BP P w (.returned (.bool false)) w' := ⟨false, rfl, h, fun e => by cases e⟩
/-- The type of an instruction; -1: there is none. -/
def typQ (f : SF) (id : Int) : Int := if 0 ≤ id ∧ id < f.ins.length then (if (f.ins.getD id.toNat ⟨0, 0, [], 0, 0⟩).op = 0 then -1 else (f.ins.getD id.toNat ⟨0, 0, [], 0, 0⟩).ty) else -1
theorem typQ_in {f : SF} {id : Int} (h : typQ f id ≠ -1) : 0 ≤ id ∧ id < f.ins.length := by
  unfold typQ at h
  split at h
  · assumption
  · exact absurd rfl h
set_option maxRecDepth 100000 in
set_option maxHeartbeats 4000000 in
theorem typ_c (n0 : Nat) (V : RV) (f : SF) (id : Int) (w : World) (h : FA n0 V f w) (hn : n0 ≤ w.heap.size) :
    Calls Try.prog 56 #[.agg V.cs, .int .i64 id] w fun e w' => e = .returned (.int .i64 (typQ f id)) ∧ Below w.heap.size w w' := by
  obtain ⟨W, hW, hbW, hzW, h0W⟩ := gr_one w V.cs 43
  have hil := h.il
  have hi := h.i.keep (hbW.mono hn)
  obtain ⟨nm, pA, pn, pc, rt, iA, in_, ic, bA, bn, bc⟩ := V
  simp only at hil hi
  have HbW := Lib.hid hbW
  have HW := Lib.hid (show W = w.alloc (.cells #[.string nm, .slice pA pn pc, .int .i64 rt, .slice iA in_ ic, .slice bA bn bc] 43) from hW)
  obtain ⟨-, -, -, x3, -, -⟩ := gr_five (show W.heap[w.heap.size]? = some (.cells #[.string nm, .slice pA pn pc, .int .i64 rt, .slice iA in_ ic, .slice bA bn bc] 43 (0, 0)) from h0W)
  show Calls _ _ #[.agg #[.string nm, .slice pA pn pc, .int .i64 rt, .slice iA in_ ic, .slice bA bn bc], .int .i64 id] _ _
  clear hW hbW hzW h0W h
  by_cases h1 : id < 0
  · have HR : Hid (typQ f id = -1) := Lib.hid (by unfold typQ; rw [if_neg (by omega)])
    rw [HR.out]
    clear hi hil
    go_enter Try.func56, Try.ntmps56
    go_upto_region 1 with fail
    rw [← HW.out]
    go_wp2
    go_ret
    exact ⟨rfl, HbW.out⟩
  · by_cases h2 : id < (in_ : Int)
    · obtain ⟨k, rfl⟩ : ∃ k : Nat, id = (k : Int) := ⟨id.toNat, by omega⟩
      have hk : k < in_ := by omega
      have hkl : k < f.ins.length := by omega
      obtain ⟨gb, go, aA, ac, rfl, -, q0, q1, -, -, -, -⟩ := hi.at hkl
      have hT : typQ f (k : Int) = if f.ins[k].op = 0 then -1 else f.ins[k].ty := by
        unfold typQ
        rw [if_pos ⟨by omega, by omega⟩, Int.toNat_natCast]
        simp [List.getD, List.getElem?_eq_getElem hkl]
      rw [hT]
      obtain ⟨op, hop⟩ : ∃ o, o = f.ins[k].op := ⟨_, rfl⟩
      obtain ⟨ty, hty⟩ : ∃ o, o = f.ins[k].ty := ⟨_, rfl⟩
      rw [← hop, ← hty]
      rw [← hop] at q0
      rw [← hty] at q1
      clear hop hty hT hi hil hkl
      by_cases h3 : op = 0
      · rw [if_pos h3]
        go_enter Try.func56, Try.ntmps56
        go_upto_region 1 with fail
        rw [← HW.out]
        go_wp2
        go_ret
        exact ⟨rfl, HbW.out⟩
      · rw [if_neg h3]
        have d3 : (op == 0) = false := by simp [h3]
        have dk : decide (in_ ≤ k) = false := by simp; omega
        go_enter Try.func56, Try.ntmps56
        go_upto_region 1 with fail
        rw [← HW.out]
        go_wp2
        go_ret
        exact ⟨rfl, HbW.out⟩
    · have HR : Hid (typQ f id = -1) := Lib.hid (by unfold typQ; rw [if_neg (by omega)])
      rw [HR.out]
      clear hi hil
      go_enter Try.func56, Try.ntmps56
      go_upto_region 1 with fail
      rw [← HW.out]
      go_wp2
      go_ret
      exact ⟨rfl, HbW.out⟩
/-- How often. -/
def timesQ (l : List Int) (n : Int) : Nat := l.countP (fun x => x == n)
theorem timesQ_more (l : List Int) (n : Int) (i : Nat) (h : i < l.length) : timesQ (l.take (i + 1)) n = timesQ (l.take i) n + (if l[i] = n then 1 else 0) := by
  rw [List.take_succ_eq_append_getElem h]
  unfold timesQ
  rw [List.countP_append]
  by_cases e : l[i] = n <;> simp [e]
theorem timesQ_le (l : List Int) (n : Int) : timesQ l n ≤ l.length := List.countP_le_length
set_option maxRecDepth 100000 in
set_option maxHeartbeats 4000000 in
theorem times_c (n0 : Nat) (A : Option Addr) (m c : Nat) (l : List Int) (n : Int) (w : World) (h : GNs n0 w (.slice A m c) l) (hn : n0 ≤ w.heap.size) (hm : m ≤ 1000) :
    Calls Try.prog 53 #[.slice A m c, .int .i64 n] w fun e w' => e = .returned (.int .i64 (timesQ l n : Int)) ∧ w' = w := by
  have hml := h.len
  have H := Lib.hid h
  have Hml := Lib.hid hml
  clear h hml
  go_enter Try.func53, Try.ntmps53
  go_wp2_with fail
  go_loopw [5, 6] (fun u5 u6 wr => ∃ i : Nat, i ≤ m ∧ u6 = .int .i64 (i : Int) ∧ u5 = .int .i64 (timesQ (l.take i) n : Int) ∧ wr = w) (fun _ u6 _ => m - (intOf u6).toNat)
  case atStart => exact ⟨0, Nat.zero_le _, rfl, by simp [timesQ], rfl⟩
  case round =>
    obtain ⟨i, hi, rfl, rfl, rfl⟩ := hrel
    by_cases hlt : i < m
    · have hil : i < l.length := by rw [← Hml.out]; exact hlt
      obtain ⟨b, o, rfl, -, hx⟩ := H.out.at hil
      have hS := timesQ_more l n i hil
      have hle := timesQ_le (l.take i) n
      have hti : (l.take i).length ≤ i := by rw [List.length_take]; omega
      obtain ⟨t, ht⟩ : ∃ t, t = timesQ (l.take i) n := ⟨_, rfl⟩
      rw [← ht] at hS hle ⊢
      have hwt : wrap64 ((t : Int) + 1) = (t : Int) + 1 := IntWalk.wrap64_in _ (by omega)
      obtain ⟨x, hxx⟩ : ∃ x, x = l[i] := ⟨_, rfl⟩
      rw [← hxx] at hx hS
      have HS := Lib.hid hS
      clear hxx ht hS hil hle hti
      by_cases e : x = n
      · go_wp2_with fail
        go_roundw
        case rel => exact ⟨i + 1, by omega, by go_num, by rw [HS.out, if_pos e]; go_num, trivial⟩
        case measure => simp [intOf]; omega
      · go_wp2_with fail
        go_roundw
        case rel => exact ⟨i + 1, by omega, by go_num, by rw [HS.out, if_neg e, Nat.add_zero], trivial⟩
        case measure => simp [intOf]; omega
    · have hie : i = l.length := by rw [← Hml.out]; omega
      have HR : Hid (timesQ (l.take i) n = timesQ l n) := Lib.hid (by rw [hie, List.take_length])
      rw [HR.out]
      clear hie
      go_wp2_with fail
      go_ret
      exact ⟨rfl, rfl⟩
end Go.Proofs.Ythhjhdmdfneegaa
