/-
  Programs that say the same are the same: slices.Equal, slices.EqualFunc, sameIns, sameTerm, sameBlock, Same, SameProg.
-/
import Derived.Test.YthjlpbglnnebkaaCdR
namespace Go.Proofs.Ythjlpbglnnebkaa
open Go.RowKit Go.Shelf
set_option linter.unusedVariables false
set_option linter.unusedSimpArgs false

set_option maxRecDepth 100000 in
set_option maxHeartbeats 4000000 in
theorem eq_ints (n0 : Nat) (A1 A2 : Option Addr) (c1 c2 : Nat) (l : List Int) (w : World) (h1 : GNs n0 w (.slice A1 l.length c1) l) (h2 : GNs n0 w (.slice A2 l.length c2) l) (hl : l.length ≤ 1048576) (hn : n0 ≤ w.heap.size) :
    Calls Try.prog 60 #[.slice A1 l.length c1, .slice A2 l.length c2] w fun e w' => e = .returned (.bool true) ∧ Below w.heap.size w w' := by
  obtain ⟨m, hm⟩ : ∃ m, m = l.length := ⟨_, rfl⟩
  rw [← hm] at h1 h2 hl ⊢
  have Hm := Lib.hid hm
  have Hv := Lib.hid h1
  have Hu := Lib.hid h2
  clear hm h1 h2
  go_enter Try.func60, Try.ntmps60
  go_upto_region 4 with fail
  go_loopw [13] (fun u5 wr => ∃ (i : Nat), i ≤ m ∧ u5 = .int .i64 i ∧ Hid (Below w.heap.size w wr)) (fun u5 _ => m - (intOf u5).toNat)
  case atStart => exact ⟨0, Nat.zero_le _, rfl, Lib.hid (Below.refl _ _)⟩
  case round =>
    obtain ⟨i, hi, rfl, HB⟩ := hrel
    by_cases hlt : i < m
    · have hil : i < l.length := by rw [← Hm.out]; exact hlt
      obtain ⟨b1, o1, rfl, hb1, hc1⟩ := (Hv.out.keep (HB.out.mono hn)).at hil
      obtain ⟨b2, o2, rfl, hb2, hc2⟩ := (Hu.out.keep (HB.out.mono hn)).at hil
      obtain ⟨x, hx⟩ : ∃ x, x = l[i] := ⟨_, rfl⟩
      rw [← hx] at hc1 hc2
      clear hx hb1 hb2
      go_upto_region 6 with fail
      go_quiet (fail)
      go_wp2
      go_roundw
      case rel => exact ⟨i + 1, by omega, by go_num, Lib.hid (below_dr HB.out _)⟩
      case measure => simp [intOf]; omega
    · obtain rfl : i = m := by omega
      go_wp2
      go_ret
      exact ⟨rfl, HB.out⟩
set_option maxRecDepth 100000 in
set_option maxHeartbeats 8000000 in
theorem sameIns_t (n0 : Nat) (d : SIn) (aA bA : Option Addr) (ac bc : Nat) (w : World) (ha : GNs n0 w (.slice aA d.args.length ac) d.args) (hb' : GNs n0 w (.slice bA d.args.length bc) d.args) (hl : d.args.length ≤ 1048576) (hn : n0 ≤ w.heap.size) :
    Calls Try.prog 62 #[.agg #[.int .i64 d.op, .int .i64 d.ty, .slice aA d.args.length ac, .int .i64 d.n, .int .i64 d.to_], .agg #[.int .i64 d.op, .int .i64 d.ty, .slice bA d.args.length bc, .int .i64 d.n, .int .i64 d.to_]] w fun e w' => e = .returned (.bool true) ∧ Below w.heap.size w w' := by
  obtain ⟨W1, hW1, hbW1, hzW1, h0W1⟩ := gr_one w #[.int .i64 d.op, .int .i64 d.ty, .slice aA d.args.length ac, .int .i64 d.n, .int .i64 d.to_] 66
  obtain ⟨W2, hW2, hbW2, hzW2, h0W2⟩ := gr_one W1 #[.int .i64 d.op, .int .i64 d.ty, .slice bA d.args.length bc, .int .i64 d.n, .int .i64 d.to_] 66
  rw [hzW1] at h0W2
  have h1W2 := (hbW2.block w.heap.size (by omega)).trans h0W1
  have hbw : Below w.heap.size w W2 := hbW1.trans (hbW2.mono hbW1.size)
  have HC : Hid (∀ X, Below W2.heap.size W2 X → X.cell? ⟨w.heap.size, 0, none⟩ = some (.int .i64 d.op) ∧ X.cell? ⟨w.heap.size, 1, none⟩ = some (.int .i64 d.ty) ∧ X.cell? ⟨w.heap.size, 2, none⟩ = some (.slice aA d.args.length ac) ∧ X.cell? ⟨w.heap.size, 3, none⟩ = some (.int .i64 d.n) ∧ X.cell? ⟨w.heap.size, 4, none⟩ = some (.int .i64 d.to_) ∧ X.cell? ⟨w.heap.size + 1, 0, none⟩ = some (.int .i64 d.op) ∧ X.cell? ⟨w.heap.size + 1, 1, none⟩ = some (.int .i64 d.ty) ∧ X.cell? ⟨w.heap.size + 1, 2, none⟩ = some (.slice bA d.args.length bc) ∧ X.cell? ⟨w.heap.size + 1, 3, none⟩ = some (.int .i64 d.n) ∧ X.cell? ⟨w.heap.size + 1, 4, none⟩ = some (.int .i64 d.to_)) := Lib.hid fun X hX => by
    have e1 := (hX.block w.heap.size (by omega)).trans h1W2
    have e2 := (hX.block (w.heap.size + 1) (by omega)).trans h0W2
    exact ⟨Lib.cell_of_heap e1 0, Lib.cell_of_heap e1 1, Lib.cell_of_heap e1 2, Lib.cell_of_heap e1 3, Lib.cell_of_heap e1 4, Lib.cell_of_heap e2 0, Lib.cell_of_heap e2 1, Lib.cell_of_heap e2 2, Lib.cell_of_heap e2 3, Lib.cell_of_heap e2 4⟩
  obtain ⟨x0, x1, x2, x3, x4, y0, y1, y2, y3, y4⟩ := HC.out W2 (Below.refl _ _)
  have HBw := Lib.hid hbw
  have HW1 := Lib.hid hW1
  have HW2 := Lib.hid hW2
  have Hn0 : Hid (n0 ≤ W2.heap.size) := Lib.hid (by omega)
  have hC0 : ∀ X, Below W2.heap.size W2 X → Calls Try.prog 60 #[.slice aA d.args.length ac, .slice bA d.args.length bc] X fun e w' => e = .returned (.bool true) ∧ Below X.heap.size X w' := fun X hX => by
    have hb := hbw.trans (hX.mono (by omega))
    have hnX : n0 ≤ X.heap.size := by have := hX.size; omega
    exact eq_ints n0 aA bA ac bc d.args X (ha.keep (hb.mono hn)) (hb'.keep (hb.mono hn)) hl hnX
  clear hW1 hW2 hbW1 hbW2 hzW1 hzW2 h0W1 h0W2 h1W2 hbw ha hb' hl
  go_enter Try.func62, Try.ntmps62
  go_upto_region 1 with fail
  rw [← HW1.out, ← HW2.out]
  go_wp2_with (go_at_call 60; refine (hC0 _ (Below.refl W2.heap.size W2)).mono ?_; rintro e v0 ⟨rfl, b0⟩; have B0 := Lib.hid ((Below.refl W2.heap.size W2).trans (b0.mono ((Below.refl W2.heap.size W2)).size)); clear b0 hC0)
  go_ret
  exact ⟨rfl, HBw.out.trans (B0.out.mono HBw.out.size)⟩
set_option maxRecDepth 100000 in
set_option maxHeartbeats 8000000 in
theorem sameTerm_t (n0 : Nat) (kind arg : Int) (to_ : List Int) (aA bA : Option Addr) (ac bc : Nat) (w : World) (ha : GNs n0 w (.slice aA to_.length ac) to_) (hb' : GNs n0 w (.slice bA to_.length bc) to_) (hl : to_.length ≤ 1048576) (hn : n0 ≤ w.heap.size) :
    Calls Try.prog 77 #[.agg #[.int .i64 kind, .int .i64 arg, .slice aA to_.length ac], .agg #[.int .i64 kind, .int .i64 arg, .slice bA to_.length bc]] w fun e w' => e = .returned (.bool true) ∧ Below w.heap.size w w' := by
  obtain ⟨W1, hW1, hbW1, hzW1, h0W1⟩ := gr_one w #[.int .i64 kind, .int .i64 arg, .slice aA to_.length ac] 69
  obtain ⟨W2, hW2, hbW2, hzW2, h0W2⟩ := gr_one W1 #[.int .i64 kind, .int .i64 arg, .slice bA to_.length bc] 69
  rw [hzW1] at h0W2
  have h1W2 := (hbW2.block w.heap.size (by omega)).trans h0W1
  have hbw : Below w.heap.size w W2 := hbW1.trans (hbW2.mono hbW1.size)
  have HC : Hid (∀ X, Below W2.heap.size W2 X → X.cell? ⟨w.heap.size, 0, none⟩ = some (.int .i64 kind) ∧ X.cell? ⟨w.heap.size, 1, none⟩ = some (.int .i64 arg) ∧ X.cell? ⟨w.heap.size, 2, none⟩ = some (.slice aA to_.length ac) ∧ X.cell? ⟨w.heap.size + 1, 0, none⟩ = some (.int .i64 kind) ∧ X.cell? ⟨w.heap.size + 1, 1, none⟩ = some (.int .i64 arg) ∧ X.cell? ⟨w.heap.size + 1, 2, none⟩ = some (.slice bA to_.length bc)) := Lib.hid fun X hX => by
    have e1 := (hX.block w.heap.size (by omega)).trans h1W2
    have e2 := (hX.block (w.heap.size + 1) (by omega)).trans h0W2
    exact ⟨Lib.cell_of_heap e1 0, Lib.cell_of_heap e1 1, Lib.cell_of_heap e1 2, Lib.cell_of_heap e2 0, Lib.cell_of_heap e2 1, Lib.cell_of_heap e2 2⟩
  obtain ⟨x0, x1, x2, y0, y1, y2⟩ := HC.out W2 (Below.refl _ _)
  have HBw := Lib.hid hbw
  have HW1 := Lib.hid hW1
  have HW2 := Lib.hid hW2
  have Hn0 : Hid (n0 ≤ W2.heap.size) := Lib.hid (by omega)
  have hC0 : ∀ X, Below W2.heap.size W2 X → Calls Try.prog 60 #[.slice aA to_.length ac, .slice bA to_.length bc] X fun e w' => e = .returned (.bool true) ∧ Below X.heap.size X w' := fun X hX => by
    have hb := hbw.trans (hX.mono (by omega))
    have hnX : n0 ≤ X.heap.size := by have := hX.size; omega
    exact eq_ints n0 aA bA ac bc to_ X (ha.keep (hb.mono hn)) (hb'.keep (hb.mono hn)) hl hnX
  clear hW1 hW2 hbW1 hbW2 hzW1 hzW2 h0W1 h0W2 h1W2 hbw ha hb' hl
  go_enter Try.func77, Try.ntmps77
  go_upto_region 1 with fail
  rw [← HW1.out, ← HW2.out]
  go_wp2_with (go_at_call 60; refine (hC0 _ (Below.refl W2.heap.size W2)).mono ?_; rintro e v0 ⟨rfl, b0⟩; have B0 := Lib.hid ((Below.refl W2.heap.size W2).trans (b0.mono ((Below.refl W2.heap.size W2)).size)); clear b0 hC0)
  go_ret
  exact ⟨rfl, HBw.out.trans (B0.out.mono HBw.out.size)⟩
set_option maxRecDepth 100000 in
set_option maxHeartbeats 8000000 in
theorem sameBlock_t (n0 : Nat) (k : SB) (aL bL aP bP aT bT : Option Addr) (al bl ap bp at_ bt : Nat) (w : World) (ha1 : GNs n0 w (.slice aL k.list.length al) k.list) (hb1 : GNs n0 w (.slice bL k.list.length bl) k.list) (ha2 : GNs n0 w (.slice aP k.preds.length ap) k.preds) (hb2 : GNs n0 w (.slice bP k.preds.length bp) k.preds) (ha3 : GNs n0 w (.slice aT k.to_.length at_) k.to_) (hb3 : GNs n0 w (.slice bT k.to_.length bt) k.to_) (hl : k.list.length ≤ 1048576 ∧ k.preds.length ≤ 1048576 ∧ k.to_.length ≤ 1048576) (hn : n0 ≤ w.heap.size) :
    Calls Try.prog 64 #[.agg #[.slice aL k.list.length al, .slice aP k.preds.length ap, .int .i64 k.kind, .int .i64 k.arg, .slice aT k.to_.length at_], .agg #[.slice bL k.list.length bl, .slice bP k.preds.length bp, .int .i64 k.kind, .int .i64 k.arg, .slice bT k.to_.length bt]] w fun e w' => e = .returned (.bool true) ∧ Below w.heap.size w w' := by
  obtain ⟨W1, hW1, hbW1, hzW1, h0W1⟩ := gr_one w #[.slice aL k.list.length al, .slice aP k.preds.length ap, .int .i64 k.kind, .int .i64 k.arg, .slice aT k.to_.length at_] 71
  obtain ⟨W2, hW2, hbW2, hzW2, h0W2⟩ := gr_one W1 #[.slice bL k.list.length bl, .slice bP k.preds.length bp, .int .i64 k.kind, .int .i64 k.arg, .slice bT k.to_.length bt] 71
  rw [hzW1] at h0W2
  have h1W2 := (hbW2.block w.heap.size (by omega)).trans h0W1
  have hbw : Below w.heap.size w W2 := hbW1.trans (hbW2.mono hbW1.size)
  have HC : Hid (∀ X, Below W2.heap.size W2 X → X.cell? ⟨w.heap.size, 0, none⟩ = some (.slice aL k.list.length al) ∧ X.cell? ⟨w.heap.size, 1, none⟩ = some (.slice aP k.preds.length ap) ∧ X.cell? ⟨w.heap.size, 2, none⟩ = some (.int .i64 k.kind) ∧ X.cell? ⟨w.heap.size, 3, none⟩ = some (.int .i64 k.arg) ∧ X.cell? ⟨w.heap.size, 4, none⟩ = some (.slice aT k.to_.length at_) ∧ X.cell? ⟨w.heap.size + 1, 0, none⟩ = some (.slice bL k.list.length bl) ∧ X.cell? ⟨w.heap.size + 1, 1, none⟩ = some (.slice bP k.preds.length bp) ∧ X.cell? ⟨w.heap.size + 1, 2, none⟩ = some (.int .i64 k.kind) ∧ X.cell? ⟨w.heap.size + 1, 3, none⟩ = some (.int .i64 k.arg) ∧ X.cell? ⟨w.heap.size + 1, 4, none⟩ = some (.slice bT k.to_.length bt)) := Lib.hid fun X hX => by
    have e1 := (hX.block w.heap.size (by omega)).trans h1W2
    have e2 := (hX.block (w.heap.size + 1) (by omega)).trans h0W2
    exact ⟨Lib.cell_of_heap e1 0, Lib.cell_of_heap e1 1, Lib.cell_of_heap e1 2, Lib.cell_of_heap e1 3, Lib.cell_of_heap e1 4, Lib.cell_of_heap e2 0, Lib.cell_of_heap e2 1, Lib.cell_of_heap e2 2, Lib.cell_of_heap e2 3, Lib.cell_of_heap e2 4⟩
  obtain ⟨x0, x1, x2, x3, x4, y0, y1, y2, y3, y4⟩ := HC.out W2 (Below.refl _ _)
  have HBw := Lib.hid hbw
  have HW1 := Lib.hid hW1
  have HW2 := Lib.hid hW2
  have Hn0 : Hid (n0 ≤ W2.heap.size) := Lib.hid (by omega)
  have hC0 : ∀ X, Below W2.heap.size W2 X → Calls Try.prog 60 #[.slice aL k.list.length al, .slice bL k.list.length bl] X fun e w' => e = .returned (.bool true) ∧ Below X.heap.size X w' := fun X hX => by
    have hb := hbw.trans (hX.mono (by omega))
    have hnX : n0 ≤ X.heap.size := by have := hX.size; omega
    exact eq_ints n0 aL bL al bl k.list X (ha1.keep (hb.mono hn)) (hb1.keep (hb.mono hn)) hl.1 hnX
  have hC1 : ∀ X, Below W2.heap.size W2 X → Calls Try.prog 60 #[.slice aP k.preds.length ap, .slice bP k.preds.length bp] X fun e w' => e = .returned (.bool true) ∧ Below X.heap.size X w' := fun X hX => by
    have hb := hbw.trans (hX.mono (by omega))
    have hnX : n0 ≤ X.heap.size := by have := hX.size; omega
    exact eq_ints n0 aP bP ap bp k.preds X (ha2.keep (hb.mono hn)) (hb2.keep (hb.mono hn)) hl.2.1 hnX
  have hC2 : ∀ X, Below W2.heap.size W2 X → Calls Try.prog 77 #[.agg #[.int .i64 k.kind, .int .i64 k.arg, .slice aT k.to_.length at_], .agg #[.int .i64 k.kind, .int .i64 k.arg, .slice bT k.to_.length bt]] X fun e w' => e = .returned (.bool true) ∧ Below X.heap.size X w' := fun X hX => by
    have hb := hbw.trans (hX.mono (by omega))
    have hnX : n0 ≤ X.heap.size := by have := hX.size; omega
    exact sameTerm_t n0 k.kind k.arg k.to_ aT bT at_ bt X (ha3.keep (hb.mono hn)) (hb3.keep (hb.mono hn)) hl.2.2 hnX
  clear hW1 hW2 hbW1 hbW2 hzW1 hzW2 h0W1 h0W2 h1W2 hbw ha1 hb1 ha2 hb2 ha3 hb3 hl
  go_enter Try.func64, Try.ntmps64
  go_upto_region 1 with fail
  rw [← HW1.out, ← HW2.out]
  go_wp2_with (first
    | (go_at_call 60; refine (hC0 _ (Below.refl W2.heap.size W2)).mono ?_; rintro e v0 ⟨rfl, b0⟩; have B0 := Lib.hid ((Below.refl W2.heap.size W2).trans (b0.mono ((Below.refl W2.heap.size W2)).size)); clear b0 hC0; clear x0 x1 x2 x3 x4 y0 y1 y2 y3 y4; obtain ⟨x0, x1, x2, x3, x4, y0, y1, y2, y3, y4⟩ := HC.out _ B0.out)
    | (go_at_call 60; refine (hC1 _ B0.out).mono ?_; rintro e v1 ⟨rfl, b1⟩; have B1 := Lib.hid (B0.out.trans (b1.mono (B0.out).size)); clear b1 hC1; clear x0 x1 x2 x3 x4 y0 y1 y2 y3 y4; obtain ⟨x0, x1, x2, x3, x4, y0, y1, y2, y3, y4⟩ := HC.out _ B1.out)
    | (go_at_call 77; refine (hC2 _ B1.out).mono ?_; rintro e v2 ⟨rfl, b2⟩; have B2 := Lib.hid (B1.out.trans (b2.mono (B1.out).size)); clear b2 hC2))
  go_ret
  exact ⟨rfl, HBw.out.trans (B2.out.mono HBw.out.size)⟩
theorem gr_lt_of {w : World} {b q : Nat} {v : Value} (h : w.cell? ⟨b, q, none⟩ = some v) : b < w.heap.size := World.block_lt_of_cell? w ⟨b, q, none⟩ h
set_option maxRecDepth 100000 in
set_option maxHeartbeats 8000000 in
theorem eq_inss (n0 : Nat) (A1 A2 : Option Addr) (c1 c2 : Nat) (l : List SIn) (w : World) (h1 : SIs n0 w (.slice A1 l.length c1) l) (h2 : SIs n0 w (.slice A2 l.length c2) l) (hl : l.length ≤ 1048576) (hle : ∀ d ∈ l, d.args.length ≤ 1048576) (hn : n0 ≤ w.heap.size) :
    Calls Try.prog 61 #[.slice A1 l.length c1, .slice A2 l.length c2, .func (.func 62) #[] #[]] w fun e w' => e = .returned (.bool true) ∧ Below w.heap.size w w' := by
  obtain ⟨m, hm⟩ : ∃ m, m = l.length := ⟨_, rfl⟩
  rw [← hm] at h1 h2 hl ⊢
  have Hm := Lib.hid hm
  have Hv := Lib.hid h1
  have Hu := Lib.hid h2
  have Hle := Lib.hid hle
  clear hm h1 h2 hle
  go_enter Try.func61, Try.ntmps61
  go_upto_region 4 with fail
  go_loopw [17] (fun u5 wr => ∃ (i : Nat), i ≤ m ∧ u5 = .int .i64 i ∧ Hid (Below w.heap.size w wr)) (fun u5 _ => m - (intOf u5).toNat)
  case atStart => exact ⟨0, Nat.zero_le _, rfl, Lib.hid (Below.refl _ _)⟩
  case round =>
    obtain ⟨i, hi, rfl, HB⟩ := hrel
    obtain ⟨wo, hwo⟩ : ∃ x, x = wr := ⟨_, rfl⟩
    rw [← hwo] at HB ⊢
    clear hwo
    by_cases hlt : i < m
    · have hil : i < l.length := by rw [← Hm.out]; exact hlt
      obtain ⟨b1, o1, aA, ac, rfl, hla, p0, p1, p2, p3, p4, ga⟩ := (Hv.out.keep (HB.out.mono hn)).at hil
      obtain ⟨b2, o2, bA, bc, rfl, hlb, q0, q1, q2, q3, q4, gb⟩ := (Hu.out.keep (HB.out.mono hn)).at hil
      have hmem := Hle.out l[i] (List.getElem_mem hil)
      obtain ⟨d, hd⟩ : ∃ d, d = l[i] := ⟨_, rfl⟩
      rw [← hd] at p0 p1 p2 p3 p4 q0 q1 q2 q3 q4 hmem ga gb
      obtain ⟨W1, hW1, hbW1, hzW1, h0W1⟩ := gr_one wo #[.int .i64 d.op, .int .i64 d.ty, .slice aA d.args.length ac, .int .i64 d.n, .int .i64 d.to_] 66
      obtain ⟨W2, hW2, hbW2, hzW2, h0W2⟩ := gr_one W1 #[.int .i64 d.op, .int .i64 d.ty, .slice bA d.args.length bc, .int .i64 d.n, .int .i64 d.to_] 66
      have h1W2 := (hbW2.block wo.heap.size (by omega)).trans h0W1
      have hbw : Below wo.heap.size wo W2 := hbW1.trans (hbW2.mono hbW1.size)
      have hno : n0 ≤ wo.heap.size := Nat.le_trans hn HB.out.size
      have hk0 := hbw.mono hno
      have hk1 := hbW1.mono hno
      have hS := sameIns_t n0 d aA bA ac bc W2 (ga.keep hk0) (gb.keep hk0) hmem (Nat.le_trans hno hbw.size)
      have q0 := (World.cell?_of_block (hbW1.block _ (gr_lt_of q0))).trans q0
      have q1 := (World.cell?_of_block (hbW1.block _ (gr_lt_of q1))).trans q1
      have q2 := (World.cell?_of_block (hbW1.block _ (gr_lt_of q2))).trans q2
      have q3 := (World.cell?_of_block (hbW1.block _ (gr_lt_of q3))).trans q3
      have q4 := (World.cell?_of_block (hbW1.block _ (gr_lt_of q4))).trans q4
      have x0 := Lib.cell_of_heap h1W2 0
      have x1 := Lib.cell_of_heap h1W2 1
      have x2 := Lib.cell_of_heap h1W2 2
      have x3 := Lib.cell_of_heap h1W2 3
      have x4 := Lib.cell_of_heap h1W2 4
      have y0 := Lib.cell_of_heap h0W2 0
      have y1 := Lib.cell_of_heap h0W2 1
      have y2 := Lib.cell_of_heap h0W2 2
      have y3 := Lib.cell_of_heap h0W2 3
      have y4 := Lib.cell_of_heap h0W2 4
      have HW1 := Lib.hid hW1
      have HW2 := Lib.hid hW2
      have HBW := Lib.hid (HB.out.trans (hbw.mono HB.out.size))
      clear hW1 hW2 hbW1 hbW2 hzW1 hzW2 h0W1 h0W2 h1W2 hbw hk0 hk1 hno hmem hd hil HB ga gb hla hlb
      go_upto_region 6 with fail
      rw [← HW1.out]
      clear p0 p1 p2 p3 p4
      go_upto_region 7 with fail
      rw [← HW2.out]
      clear q0 q1 q2 q3 q4
      go_wp2_with (go_at_call 62; refine hS.mono ?_; rintro e w8 ⟨rfl, b8⟩; have H8 := Lib.hid (HBW.out.trans (b8.mono HBW.out.size)); clear b8 hS)
      go_roundw
      case rel => exact ⟨i + 1, by omega, by go_num, H8⟩
      case measure => simp [intOf]; omega
    · obtain rfl : i = m := by omega
      go_wp2
      go_ret
      exact ⟨rfl, HB.out⟩
set_option maxRecDepth 100000 in
set_option maxHeartbeats 8000000 in
theorem eq_blks (n0 : Nat) (A1 A2 : Option Addr) (c1 c2 : Nat) (l : List SB) (w : World) (h1 : SBs n0 w (.slice A1 l.length c1) l) (h2 : SBs n0 w (.slice A2 l.length c2) l) (hl : l.length ≤ 1048576) (hle : ∀ k ∈ l, k.list.length ≤ 1048576 ∧ k.preds.length ≤ 1048576 ∧ k.to_.length ≤ 1048576) (hn : n0 ≤ w.heap.size) :
    Calls Try.prog 63 #[.slice A1 l.length c1, .slice A2 l.length c2, .func (.func 64) #[] #[]] w fun e w' => e = .returned (.bool true) ∧ Below w.heap.size w w' := by
  obtain ⟨m, hm⟩ : ∃ m, m = l.length := ⟨_, rfl⟩
  rw [← hm] at h1 h2 hl ⊢
  have Hm := Lib.hid hm
  have Hv := Lib.hid h1
  have Hu := Lib.hid h2
  have Hle := Lib.hid hle
  clear hm h1 h2 hle
  go_enter Try.func63, Try.ntmps63
  go_upto_region 4 with fail
  go_loopw [17] (fun u5 wr => ∃ (i : Nat), i ≤ m ∧ u5 = .int .i64 i ∧ Hid (Below w.heap.size w wr)) (fun u5 _ => m - (intOf u5).toNat)
  case atStart => exact ⟨0, Nat.zero_le _, rfl, Lib.hid (Below.refl _ _)⟩
  case round =>
    obtain ⟨i, hi, rfl, HB⟩ := hrel
    obtain ⟨wo, hwo⟩ : ∃ x, x = wr := ⟨_, rfl⟩
    rw [← hwo] at HB ⊢
    clear hwo
    by_cases hlt : i < m
    · have hil : i < l.length := by rw [← Hm.out]; exact hlt
      obtain ⟨b1, o1, aL, al, aP, ap, aT, at_, rfl, hla, p0, p1, p2, p3, p4, ga1, ga2, ga3⟩ := (Hv.out.keep (HB.out.mono hn)).at hil
      obtain ⟨b2, o2, bL, bl, bP, bp, bT, bt, rfl, hlb, q0, q1, q2, q3, q4, gb1, gb2, gb3⟩ := (Hu.out.keep (HB.out.mono hn)).at hil
      have hmem := Hle.out l[i] (List.getElem_mem hil)
      obtain ⟨d, hd⟩ : ∃ d, d = l[i] := ⟨_, rfl⟩
      rw [← hd] at p0 p1 p2 p3 p4 q0 q1 q2 q3 q4 hmem ga1 gb1 ga2 gb2 ga3 gb3
      obtain ⟨W1, hW1, hbW1, hzW1, h0W1⟩ := gr_one wo #[.slice aL d.list.length al, .slice aP d.preds.length ap, .int .i64 d.kind, .int .i64 d.arg, .slice aT d.to_.length at_] 71
      obtain ⟨W2, hW2, hbW2, hzW2, h0W2⟩ := gr_one W1 #[.slice bL d.list.length bl, .slice bP d.preds.length bp, .int .i64 d.kind, .int .i64 d.arg, .slice bT d.to_.length bt] 71
      have h1W2 := (hbW2.block wo.heap.size (by omega)).trans h0W1
      have hbw : Below wo.heap.size wo W2 := hbW1.trans (hbW2.mono hbW1.size)
      have hno : n0 ≤ wo.heap.size := Nat.le_trans hn HB.out.size
      have hk0 := hbw.mono hno
      have hk1 := hbW1.mono hno
      have hS := sameBlock_t n0 d aL bL aP bP aT bT al bl ap bp at_ bt W2 (ga1.keep hk0) (gb1.keep hk0) (ga2.keep hk0) (gb2.keep hk0) (ga3.keep hk0) (gb3.keep hk0) hmem (Nat.le_trans hno hbw.size)
      have q0 := (World.cell?_of_block (hbW1.block _ (gr_lt_of q0))).trans q0
      have q1 := (World.cell?_of_block (hbW1.block _ (gr_lt_of q1))).trans q1
      have q2 := (World.cell?_of_block (hbW1.block _ (gr_lt_of q2))).trans q2
      have q3 := (World.cell?_of_block (hbW1.block _ (gr_lt_of q3))).trans q3
      have q4 := (World.cell?_of_block (hbW1.block _ (gr_lt_of q4))).trans q4
      have x0 := Lib.cell_of_heap h1W2 0
      have x1 := Lib.cell_of_heap h1W2 1
      have x2 := Lib.cell_of_heap h1W2 2
      have x3 := Lib.cell_of_heap h1W2 3
      have x4 := Lib.cell_of_heap h1W2 4
      have y0 := Lib.cell_of_heap h0W2 0
      have y1 := Lib.cell_of_heap h0W2 1
      have y2 := Lib.cell_of_heap h0W2 2
      have y3 := Lib.cell_of_heap h0W2 3
      have y4 := Lib.cell_of_heap h0W2 4
      have HW1 := Lib.hid hW1
      have HW2 := Lib.hid hW2
      have HBW := Lib.hid (HB.out.trans (hbw.mono HB.out.size))
      clear hW1 hW2 hbW1 hbW2 hzW1 hzW2 h0W1 h0W2 h1W2 hbw hk0 hk1 hno hmem hd hil HB ga1 gb1 ga2 gb2 ga3 gb3 hla hlb
      go_upto_region 6 with fail
      rw [← HW1.out]
      clear p0 p1 p2 p3 p4
      go_upto_region 7 with fail
      rw [← HW2.out]
      clear q0 q1 q2 q3 q4
      go_wp2_with (go_at_call 64; refine hS.mono ?_; rintro e w8 ⟨rfl, b8⟩; have H8 := Lib.hid (HBW.out.trans (b8.mono HBW.out.size)); clear b8 hS)
      go_roundw
      case rel => exact ⟨i + 1, by omega, by go_num, H8⟩
      case measure => simp [intOf]; omega
    · obtain rfl : i = m := by omega
      go_wp2
      go_ret
      exact ⟨rfl, HB.out⟩
/-- No list of a function is longer than what is looked at. -/
def FunL (f : SF) : Prop := (f.params.length ≤ 1048576 ∧ f.ins.length ≤ 1048576 ∧ f.blocks.length ≤ 1048576) ∧ (∀ d ∈ f.ins, d.args.length ≤ 1048576) ∧ (∀ k ∈ f.blocks, k.list.length ≤ 1048576 ∧ k.preds.length ≤ 1048576 ∧ k.to_.length ≤ 1048576)
set_option maxRecDepth 100000 in
set_option maxHeartbeats 8000000 in
theorem same_t (n0 : Nat) (nm : ByteArray) (f : SF) (aP bP aI bI aB bB : Option Addr) (ap bp ai bi ab bb : Nat) (w : World) (ha1 : GNs n0 w (.slice aP f.params.length ap) f.params) (hb1 : GNs n0 w (.slice bP f.params.length bp) f.params) (ha2 : SIs n0 w (.slice aI f.ins.length ai) f.ins) (hb2 : SIs n0 w (.slice bI f.ins.length bi) f.ins) (ha3 : SBs n0 w (.slice aB f.blocks.length ab) f.blocks) (hb3 : SBs n0 w (.slice bB f.blocks.length bb) f.blocks) (hl : FunL f) (hn : n0 ≤ w.heap.size) :
    Calls Try.prog 40 #[.agg #[.string nm, .slice aP f.params.length ap, .int .i64 f.ret, .slice aI f.ins.length ai, .slice aB f.blocks.length ab], .agg #[.string nm, .slice bP f.params.length bp, .int .i64 f.ret, .slice bI f.ins.length bi, .slice bB f.blocks.length bb]] w fun e w' => e = .returned (.bool true) ∧ Below w.heap.size w w' := by
  obtain ⟨W1, hW1, hbW1, hzW1, h0W1⟩ := gr_one w #[.string nm, .slice aP f.params.length ap, .int .i64 f.ret, .slice aI f.ins.length ai, .slice aB f.blocks.length ab] 63
  obtain ⟨W2, hW2, hbW2, hzW2, h0W2⟩ := gr_one W1 #[.string nm, .slice bP f.params.length bp, .int .i64 f.ret, .slice bI f.ins.length bi, .slice bB f.blocks.length bb] 63
  rw [hzW1] at h0W2
  have h1W2 := (hbW2.block w.heap.size (by omega)).trans h0W1
  have hbw : Below w.heap.size w W2 := hbW1.trans (hbW2.mono hbW1.size)
  have HC : Hid (∀ X, Below W2.heap.size W2 X → X.cell? ⟨w.heap.size, 0, none⟩ = some (.string nm) ∧ X.cell? ⟨w.heap.size, 1, none⟩ = some (.slice aP f.params.length ap) ∧ X.cell? ⟨w.heap.size, 2, none⟩ = some (.int .i64 f.ret) ∧ X.cell? ⟨w.heap.size, 3, none⟩ = some (.slice aI f.ins.length ai) ∧ X.cell? ⟨w.heap.size, 4, none⟩ = some (.slice aB f.blocks.length ab) ∧ X.cell? ⟨w.heap.size + 1, 0, none⟩ = some (.string nm) ∧ X.cell? ⟨w.heap.size + 1, 1, none⟩ = some (.slice bP f.params.length bp) ∧ X.cell? ⟨w.heap.size + 1, 2, none⟩ = some (.int .i64 f.ret) ∧ X.cell? ⟨w.heap.size + 1, 3, none⟩ = some (.slice bI f.ins.length bi) ∧ X.cell? ⟨w.heap.size + 1, 4, none⟩ = some (.slice bB f.blocks.length bb)) := Lib.hid fun X hX => by
    have e1 := (hX.block w.heap.size (by omega)).trans h1W2
    have e2 := (hX.block (w.heap.size + 1) (by omega)).trans h0W2
    exact ⟨Lib.cell_of_heap e1 0, Lib.cell_of_heap e1 1, Lib.cell_of_heap e1 2, Lib.cell_of_heap e1 3, Lib.cell_of_heap e1 4, Lib.cell_of_heap e2 0, Lib.cell_of_heap e2 1, Lib.cell_of_heap e2 2, Lib.cell_of_heap e2 3, Lib.cell_of_heap e2 4⟩
  obtain ⟨x0, x1, x2, x3, x4, y0, y1, y2, y3, y4⟩ := HC.out W2 (Below.refl _ _)
  have HBw := Lib.hid hbw
  have HW1 := Lib.hid hW1
  have HW2 := Lib.hid hW2
  have Hn0 : Hid (n0 ≤ W2.heap.size) := Lib.hid (by omega)
  have hC0 : ∀ X, Below W2.heap.size W2 X → Calls Try.prog 60 #[.slice aP f.params.length ap, .slice bP f.params.length bp] X fun e w' => e = .returned (.bool true) ∧ Below X.heap.size X w' := fun X hX => by
    have hb := hbw.trans (hX.mono (by omega))
    have hnX : n0 ≤ X.heap.size := by have := hX.size; omega
    exact eq_ints n0 aP bP ap bp f.params X (ha1.keep (hb.mono hn)) (hb1.keep (hb.mono hn)) hl.1.1 hnX
  have hC1 : ∀ X, Below W2.heap.size W2 X → Calls Try.prog 61 #[.slice aI f.ins.length ai, .slice bI f.ins.length bi, .func (.func 62) #[] #[]] X fun e w' => e = .returned (.bool true) ∧ Below X.heap.size X w' := fun X hX => by
    have hb := hbw.trans (hX.mono (by omega))
    have hnX : n0 ≤ X.heap.size := by have := hX.size; omega
    exact eq_inss n0 aI bI ai bi f.ins X (ha2.keep (hb.mono hn)) (hb2.keep (hb.mono hn)) hl.1.2.1 hl.2.1 hnX
  have hC2 : ∀ X, Below W2.heap.size W2 X → Calls Try.prog 63 #[.slice aB f.blocks.length ab, .slice bB f.blocks.length bb, .func (.func 64) #[] #[]] X fun e w' => e = .returned (.bool true) ∧ Below X.heap.size X w' := fun X hX => by
    have hb := hbw.trans (hX.mono (by omega))
    have hnX : n0 ≤ X.heap.size := by have := hX.size; omega
    exact eq_blks n0 aB bB ab bb f.blocks X (ha3.keep (hb.mono hn)) (hb3.keep (hb.mono hn)) hl.1.2.2 hl.2.2 hnX
  clear hW1 hW2 hbW1 hbW2 hzW1 hzW2 h0W1 h0W2 h1W2 hbw ha1 hb1 ha2 hb2 ha3 hb3 hl
  go_enter Try.func40, Try.ntmps40
  go_upto_region 1 with fail
  rw [← HW1.out, ← HW2.out]
  go_wp2_with (first
    | (go_at_call 60; refine (hC0 _ (Below.refl W2.heap.size W2)).mono ?_; rintro e v0 ⟨rfl, b0⟩; have B0 := Lib.hid ((Below.refl W2.heap.size W2).trans (b0.mono ((Below.refl W2.heap.size W2)).size)); clear b0 hC0; clear x0 x1 x2 x3 x4 y0 y1 y2 y3 y4; obtain ⟨x0, x1, x2, x3, x4, y0, y1, y2, y3, y4⟩ := HC.out _ B0.out)
    | (go_at_call 61; refine (hC1 _ B0.out).mono ?_; rintro e v1 ⟨rfl, b1⟩; have B1 := Lib.hid (B0.out.trans (b1.mono (B0.out).size)); clear b1 hC1; clear x0 x1 x2 x3 x4 y0 y1 y2 y3 y4; obtain ⟨x0, x1, x2, x3, x4, y0, y1, y2, y3, y4⟩ := HC.out _ B1.out)
    | (go_at_call 63; refine (hC2 _ B1.out).mono ?_; rintro e v2 ⟨rfl, b2⟩; have B2 := Lib.hid (B1.out.trans (b2.mono (B1.out).size)); clear b2 hC2))
  go_ret
  exact ⟨rfl, HBw.out.trans (B2.out.mono HBw.out.size)⟩
set_option maxRecDepth 100000 in
set_option maxHeartbeats 8000000 in
theorem eq_fns (n0 : Nat) (A1 A2 : Option Addr) (c1 c2 : Nat) (l : List (List UInt8 × SF)) (w : World) (h1 : CFs n0 w (.slice A1 l.length c1) l) (h2 : CFs n0 w (.slice A2 l.length c2) l) (hl : l.length ≤ 1048576) (hle : ∀ d ∈ l, FunL d.2) (hn : n0 ≤ w.heap.size) :
    Calls Try.prog 39 #[.slice A1 l.length c1, .slice A2 l.length c2, .func (.func 40) #[] #[]] w fun e w' => e = .returned (.bool true) ∧ Below w.heap.size w w' := by
  obtain ⟨m, hm⟩ : ∃ m, m = l.length := ⟨_, rfl⟩
  rw [← hm] at h1 h2 hl ⊢
  have Hm := Lib.hid hm
  have Hv := Lib.hid h1
  have Hu := Lib.hid h2
  have Hle := Lib.hid hle
  clear hm h1 h2 hle
  go_enter Try.func39, Try.ntmps39
  go_upto_region 4 with fail
  go_loopw [17] (fun u5 wr => ∃ (i : Nat), i ≤ m ∧ u5 = .int .i64 i ∧ Hid (Below w.heap.size w wr)) (fun u5 _ => m - (intOf u5).toNat)
  case atStart => exact ⟨0, Nat.zero_le _, rfl, Lib.hid (Below.refl _ _)⟩
  case round =>
    obtain ⟨i, hi, rfl, HB⟩ := hrel
    obtain ⟨wo, hwo⟩ : ∃ x, x = wr := ⟨_, rfl⟩
    rw [← hwo] at HB ⊢
    clear hwo
    by_cases hlt : i < m
    · have hil : i < l.length := by rw [← Hm.out]; exact hlt
      obtain ⟨b1, o1, aP, ap, aI, ai, aB, ab, rfl, hla, p0, p1, p2, p3, p4, ga1, ga2, ga3⟩ := (Hv.out.keep (HB.out.mono hn)).at hil
      obtain ⟨b2, o2, bP, bp, bI, bi, bB, bb, rfl, hlb, q0, q1, q2, q3, q4, gb1, gb2, gb3⟩ := (Hu.out.keep (HB.out.mono hn)).at hil
      have hmem := Hle.out l[i] (List.getElem_mem hil)
      obtain ⟨d, hd⟩ : ∃ d, d = l[i] := ⟨_, rfl⟩
      rw [← hd] at p0 p1 p2 p3 p4 q0 q1 q2 q3 q4 hmem ga1 gb1 ga2 gb2 ga3 gb3
      obtain ⟨W1, hW1, hbW1, hzW1, h0W1⟩ := gr_one wo #[.string ⟨d.1.toArray⟩, .slice aP d.2.params.length ap, .int .i64 d.2.ret, .slice aI d.2.ins.length ai, .slice aB d.2.blocks.length ab] 63
      obtain ⟨W2, hW2, hbW2, hzW2, h0W2⟩ := gr_one W1 #[.string ⟨d.1.toArray⟩, .slice bP d.2.params.length bp, .int .i64 d.2.ret, .slice bI d.2.ins.length bi, .slice bB d.2.blocks.length bb] 63
      have h1W2 := (hbW2.block wo.heap.size (by omega)).trans h0W1
      have hbw : Below wo.heap.size wo W2 := hbW1.trans (hbW2.mono hbW1.size)
      have hno : n0 ≤ wo.heap.size := Nat.le_trans hn HB.out.size
      have hk0 := hbw.mono hno
      have hk1 := hbW1.mono hno
      have hS := same_t n0 ⟨d.1.toArray⟩ d.2 aP bP aI bI aB bB ap bp ai bi ab bb W2 (ga1.keep hk0) (gb1.keep hk0) (ga2.keep hk0) (gb2.keep hk0) (ga3.keep hk0) (gb3.keep hk0) hmem (Nat.le_trans hno hbw.size)
      have q0 := (World.cell?_of_block (hbW1.block _ (gr_lt_of q0))).trans q0
      have q1 := (World.cell?_of_block (hbW1.block _ (gr_lt_of q1))).trans q1
      have q2 := (World.cell?_of_block (hbW1.block _ (gr_lt_of q2))).trans q2
      have q3 := (World.cell?_of_block (hbW1.block _ (gr_lt_of q3))).trans q3
      have q4 := (World.cell?_of_block (hbW1.block _ (gr_lt_of q4))).trans q4
      have x0 := Lib.cell_of_heap h1W2 0
      have x1 := Lib.cell_of_heap h1W2 1
      have x2 := Lib.cell_of_heap h1W2 2
      have x3 := Lib.cell_of_heap h1W2 3
      have x4 := Lib.cell_of_heap h1W2 4
      have y0 := Lib.cell_of_heap h0W2 0
      have y1 := Lib.cell_of_heap h0W2 1
      have y2 := Lib.cell_of_heap h0W2 2
      have y3 := Lib.cell_of_heap h0W2 3
      have y4 := Lib.cell_of_heap h0W2 4
      have HW1 := Lib.hid hW1
      have HW2 := Lib.hid hW2
      have HBW := Lib.hid (HB.out.trans (hbw.mono HB.out.size))
      clear hW1 hW2 hbW1 hbW2 hzW1 hzW2 h0W1 h0W2 h1W2 hbw hk0 hk1 hno hmem hd hil HB ga1 gb1 ga2 gb2 ga3 gb3 hla hlb
      go_upto_region 6 with fail
      rw [← HW1.out]
      clear p0 p1 p2 p3 p4
      go_upto_region 7 with fail
      rw [← HW2.out]
      clear q0 q1 q2 q3 q4
      go_wp2_with (go_at_call 40; refine hS.mono ?_; rintro e w8 ⟨rfl, b8⟩; have H8 := Lib.hid (HBW.out.trans (b8.mono HBW.out.size)); clear b8 hS)
      go_roundw
      case rel => exact ⟨i + 1, by omega, by go_num, H8⟩
      case measure => simp [intOf]; omega
    · obtain rfl : i = m := by omega
      go_wp2
      go_ret
      exact ⟨rfl, HB.out⟩
set_option maxRecDepth 100000 in
set_option maxHeartbeats 8000000 in
theorem sameProg_t (n0 : Nat) (mn : Int) (fs : List (List UInt8 × SF)) (aA bA : Option Addr) (ac bc : Nat) (w : World) (ha : CFs n0 w (.slice aA fs.length ac) fs) (hb' : CFs n0 w (.slice bA fs.length bc) fs) (hl : fs.length ≤ 1048576 ∧ ∀ d ∈ fs, FunL d.2) (hn : n0 ≤ w.heap.size) :
    Calls Try.prog 24 #[.agg #[.slice aA fs.length ac, .int .i64 mn], .agg #[.slice bA fs.length bc, .int .i64 mn]] w fun e w' => e = .returned (.bool true) ∧ Below w.heap.size w w' := by
  obtain ⟨W1, hW1, hbW1, hzW1, h0W1⟩ := gr_one w #[.slice aA fs.length ac, .int .i64 mn] 36
  obtain ⟨W2, hW2, hbW2, hzW2, h0W2⟩ := gr_one W1 #[.slice bA fs.length bc, .int .i64 mn] 36
  rw [hzW1] at h0W2
  have h1W2 := (hbW2.block w.heap.size (by omega)).trans h0W1
  have hbw : Below w.heap.size w W2 := hbW1.trans (hbW2.mono hbW1.size)
  have HC : Hid (∀ X, Below W2.heap.size W2 X → X.cell? ⟨w.heap.size, 0, none⟩ = some (.slice aA fs.length ac) ∧ X.cell? ⟨w.heap.size, 1, none⟩ = some (.int .i64 mn) ∧ X.cell? ⟨w.heap.size + 1, 0, none⟩ = some (.slice bA fs.length bc) ∧ X.cell? ⟨w.heap.size + 1, 1, none⟩ = some (.int .i64 mn)) := Lib.hid fun X hX => by
    have e1 := (hX.block w.heap.size (by omega)).trans h1W2
    have e2 := (hX.block (w.heap.size + 1) (by omega)).trans h0W2
    exact ⟨Lib.cell_of_heap e1 0, Lib.cell_of_heap e1 1, Lib.cell_of_heap e2 0, Lib.cell_of_heap e2 1⟩
  obtain ⟨x0, x1, y0, y1⟩ := HC.out W2 (Below.refl _ _)
  have HBw := Lib.hid hbw
  have HW1 := Lib.hid hW1
  have HW2 := Lib.hid hW2
  have Hn0 : Hid (n0 ≤ W2.heap.size) := Lib.hid (by omega)
  have hC0 : ∀ X, Below W2.heap.size W2 X → Calls Try.prog 39 #[.slice aA fs.length ac, .slice bA fs.length bc, .func (.func 40) #[] #[]] X fun e w' => e = .returned (.bool true) ∧ Below X.heap.size X w' := fun X hX => by
    have hb := hbw.trans (hX.mono (by omega))
    have hnX : n0 ≤ X.heap.size := by have := hX.size; omega
    exact eq_fns n0 aA bA ac bc fs X (ha.keep (hb.mono hn)) (hb'.keep (hb.mono hn)) hl.1 hl.2 hnX
  clear hW1 hW2 hbW1 hbW2 hzW1 hzW2 h0W1 h0W2 h1W2 hbw ha hb' hl
  go_enter Try.func24, Try.ntmps24
  go_upto_region 1 with fail
  rw [← HW1.out, ← HW2.out]
  go_wp2_with (go_at_call 39; refine (hC0 _ (Below.refl W2.heap.size W2)).mono ?_; rintro e v0 ⟨rfl, b0⟩; have B0 := Lib.hid ((Below.refl W2.heap.size W2).trans (b0.mono ((Below.refl W2.heap.size W2)).size)); clear b0 hC0)
  go_ret
  exact ⟨rfl, HBw.out.trans (B0.out.mono HBw.out.size)⟩
end Go.Proofs.Ythjlpbglnnebkaa
