/-
  Programs that may be: the subject in one piece; operations that are of the right types.
-/
import Derived.Test.YtagagpappjkgbaaJx28
namespace Go.Proofs.Ytagagpappjkgbaa
set_option linter.unusedVariables false
set_option linter.unusedSimpArgs false
open Go.RowKit

structure SV where
  fA : Option Addr
  fn : Nat
  fc : Nat
  mn : Int
  s : ByteArray
  pA : Option Addr
  pn : Nat
  pc : Nat
  r : Int
  iA : Option Addr
  in_ : Nat
  ic : Nat
  bA : Option Addr
  bn : Nat
  bc : Nat
/-- A function in its program, as the subject holds it. -/
structure Sbj (n0 sb : Nat) (V : SV) (fs : List SF) (f : SF) (vi va : Value) (w : World) : Prop where
  c : SubC w sb V.fA V.fn V.fc V.mn V.s V.pA V.pn V.pc V.r V.iA V.in_ V.ic V.bA V.bn V.bc vi va
  hn : n0 ≤ w.heap.size
  fsr : SFs n0 w (.slice V.fA V.fn V.fc) fs
  fl : V.fn = fs.length
  pr : GNs n0 w (.slice V.pA V.pn V.pc) f.params
  rr : V.r = f.ret
  ir : SIs n0 w (.slice V.iA V.in_ V.ic) f.ins
  il : V.in_ = f.ins.length
  br : SBs n0 w (.slice V.bA V.bn V.bc) f.blocks
  bl : V.bn = f.blocks.length
  ib : V.in_ ≤ 1048576
  bb : V.bn ≤ 1048576
  fb : V.fn ≤ 1048576
theorem Sbj.keep {n0 sb : Nat} {V : SV} {fs : List SF} {f : SF} {vi va : Value} {w w' : World} (h : Sbj n0 sb V fs f vi va w) (hb : Below w.heap.size w w') : Sbj n0 sb V fs f vi va w' :=
  ⟨h.c.keep hb, Nat.le_trans h.hn hb.size, h.fsr.keep (hb.mono h.hn), h.fl, h.pr.keep (hb.mono h.hn), h.rr, h.ir.keep (hb.mono h.hn), h.il, h.br.keep (hb.mono h.hn), h.bl, h.ib, h.bb, h.fb⟩
/-- An instruction, as it is handed over. -/
def insV (d : SIn) (aA : Option Addr) (an ac : Nat) : Value := .agg #[.int .i64 d.op, .int .i64 d.ty, .slice aA an ac, .int .i64 d.n, .int .i64 d.to_]
/-- What it uses is there. -/
def inI (ins : List SIn) (args : List Int) : Prop := ∀ a ∈ args, 0 ≤ a ∧ a < ins.length
theorem GNs.ltr {w w' : World} {v : Value} {l : List Int} (h : GNs w.heap.size w v l) (hb : Below w.heap.size w w') : GNs w'.heap.size w' v l := (h.keep hb).mono hb.size
theorem of_t (n0 sb : Nat) (V : SV) (fs : List SF) (f : SF) (vi va : Value) (d : SIn) (aA : Option Addr) (an ac : Nat) (tA : Option Addr) (tn tc : Nat) (types : List Int) (w : World) (h : Sbj n0 sb V fs f vi va w) (ha : GNs w.heap.size w (.slice aA an ac) d.args) (hab : an ≤ 1048576) (ht : GNs w.heap.size w (.slice tA tn tc) types) (htb : tn ≤ 1048576) (hin : inI f.ins d.args) (ho : ofP f.ins d.args types = true) :
    Calls Try.prog 138 #[.pointer (some ⟨sb, 0, none⟩), insV d aA an ac, .slice tA tn tc] w fun e w' => e = .returned (.bool true) ∧ Below w.heap.size w w' := by
  have := of_g n0 sb V.fA V.fn V.fc V.mn V.s V.pA V.pn V.pc V.r V.iA V.in_ V.ic V.bA V.bn V.bc vi va f.ins d.op d.ty d.n d.to_ aA an ac d.args tA tn tc types w h.c h.hn h.ir h.il ha hab h.ib ht htb hin
  rw [ho] at this
  exact this
/-- Numbers that are written out. -/
theorem lit_row (w : World) (l : List Int) : ∃ Z, Z = w.alloc (.cells (intsV l).toArray 3) ∧ Below w.heap.size w Z ∧ GNs Z.heap.size Z (.slice (some ⟨w.heap.size, 0, none⟩) l.length l.length) l := by
  obtain ⟨Z, hZ, hbZ, hzZ, h0Z⟩ := gr_one w (intsV l).toArray 3
  refine ⟨Z, hZ, hbZ, ⟨_, _, rfl, fun _ => ⟨w.heap.size, 0, rfl, by omega, fun j x hx => ?_⟩⟩⟩
  rw [Nat.zero_add, Lib.cell_of_heap h0Z j]
  simp [intsV, hx]
set_option maxHeartbeats 1000000 in
theorem bin_t (op : Int) (w : World) (h : (4 ≤ op ∧ op ≤ 14) ∨ (17 ≤ op ∧ op ≤ 23)) : Calls Try.prog 139 #[.int .i64 op] w fun e w' => e = .returned (.bool true) ∧ w' = w := by
  rcases h with h | h
  · have d1 : decide (op ≥ 4) = true := decide_eq_true (by omega)
    have d2 : decide (op ≤ 14) = true := decide_eq_true (by omega)
    clear h
    go_enter Try.func139, Try.ntmps139
    go_wp2
    go_ret
    exact ⟨rfl, rfl⟩
  · have d1 : decide (op ≥ 4) = true := decide_eq_true (by omega)
    have d2 : decide (op ≤ 14) = false := decide_eq_false (by omega)
    have d3 : decide (op ≥ 17) = true := decide_eq_true (by omega)
    have d4 : decide (op ≤ 23) = true := decide_eq_true (by omega)
    clear h
    go_enter Try.func139, Try.ntmps139
    go_wp2
    go_ret
    exact ⟨rfl, rfl⟩
set_option maxHeartbeats 1000000 in
theorem bin_f (op : Int) (w : World) (h : op < 4 ∨ (14 < op ∧ op < 17) ∨ 23 < op) : Calls Try.prog 139 #[.int .i64 op] w fun e w' => e = .returned (.bool false) ∧ w' = w := by
  rcases h with h | h | h
  all_goals
    go_enter Try.func139, Try.ntmps139
    go_wp2
    go_ret
    exact ⟨congrArg (fun x => Ending.returned (Value.bool x)) (by first | rfl | exact decide_eq_false (by omega) | exact (decide_eq_false (by omega)).symm | simp; omega), rfl⟩
set_option maxHeartbeats 1000000 in
theorem un_g (op : Int) (w : World) : Calls Try.prog 131 #[.int .i64 op] w fun e w' => e = .returned (.bool (decide (op = 15 ∨ op = 16 ∨ op = 24))) ∧ w' = w := by
  have hs : op = 15 ∨ op = 16 ∨ op = 24 ∨ (op ≠ 15 ∧ op ≠ 16 ∧ op ≠ 24) := by omega
  rcases hs with rfl | rfl | rfl | ⟨h1, h2, h3⟩
  all_goals
    go_enter Try.func131, Try.ntmps131
    go_wp2
    go_ret
    exact ⟨congrArg (fun x => Ending.returned (Value.bool x)) (by first | rfl | exact (decide_eq_true (by omega)).symm | exact (decide_eq_false (by omega)).symm | (rw [Bool.eq_iff_iff]; simp; omega)), rfl⟩
set_option maxHeartbeats 1000000 in
theorem cmp_g (op : Int) (w : World) : Calls Try.prog 157 #[.int .i64 op] w fun e w' => e = .returned (.bool (decide (17 ≤ op ∧ op ≤ 24))) ∧ w' = w := by
  have hs : op < 17 ∨ (17 ≤ op ∧ op ≤ 24) ∨ 24 < op := by omega
  rcases hs with h | h | h
  all_goals
    go_enter Try.func157, Try.ntmps157
    go_wp2
    go_ret
    exact ⟨congrArg (fun x => Ending.returned (Value.bool x)) (by first | exact (decide_eq_true (by omega)).symm | exact (decide_eq_false (by omega)).symm | (rw [Bool.eq_iff_iff]; simp; omega)), rfl⟩
set_option maxRecDepth 100000 in
theorem reck_cmp (n0 sb : Nat) (V : SV) (fs : List SF) (f : SF) (vi va : Value) (d : SIn) (aA : Option Addr) (an ac : Nat) (w : World) (h : Sbj n0 sb V fs f vi va w) (ha : GNs w.heap.size w (.slice aA an ac) d.args) (hab : an ≤ 1048576) (hin : inI f.ins d.args) (hop : 19 ≤ d.op ∧ d.op ≤ 23) (hty : d.ty = 2) (ho : ofP f.ins d.args [1, 1] = true) :
    Calls Try.prog 140 #[.pointer (some ⟨sb, 0, none⟩), insV d aA an ac] w fun e w' => e = .returned (.bool true) ∧ Below w.heap.size w w' := by
  obtain ⟨W, hW, hbW, hzW, h0W⟩ := gr_one w #[.int .i64 d.op, .int .i64 d.ty, .slice aA an ac, .int .i64 d.n, .int .i64 d.to_] 71
  obtain ⟨x0, x1, x2, x3, x4, -⟩ := gr_five h0W
  obtain ⟨Z, hZ, hbZ, hg⟩ := lit_row W [1, 1]
  have hO := of_t n0 sb V fs f vi va d aA an ac _ _ _ [1, 1] Z ((h.keep hbW).keep hbZ) ((ha.ltr hbW).ltr hbZ) hab hg (by decide) hin ho
  have HB : Hid (∀ A, Below Z.heap.size Z A → Below w.heap.size w A) := Lib.hid fun A hA => hbW.trans ((hbZ.trans (hA.mono hbZ.size)).mono (by omega))
  have hC := cmp_g d.op W
  have hU := un_g d.op W
  rw [decide_eq_true (by omega)] at hC
  rw [decide_eq_false (by omega)] at hU
  have hcz : (intsV [1, 1]).toArray = #[.int .i64 1, .int .i64 1] := rfl
  rw [hcz] at hZ
  unfold insV at hO ⊢
  rw [hty] at hO x1 ⊢
  have hl : [1, 1].length = 2 := rfl
  rw [hZ] at hO HB
  have HW : Hid (W = _) := Lib.hid hW
  rw [hty] at HW
  have d1 : (d.op == 24) = false := by simp; omega
  have d2 : (d.op == 17) = false := by simp; omega
  have d3 : (d.op == 18) = false := by simp; omega
  clear hW hbW hzW h0W hZ hbZ hg h ha hin ho hcz hl hty hop
  generalize hop2 : d.op = op at *
  clear hop2
  go_enter Try.func140, Try.ntmps140
  go_upto_region 1 with fail
  rw [← HW.out]
  go_wp2_with (first
    | (go_at_call 157; refine hC.mono ?_; rintro e w1 ⟨rfl, hw1⟩; rw [hw1]; clear hw1 w1 hC)
    | (go_at_call 131; refine hU.mono ?_; rintro e w1 ⟨rfl, hw1⟩; rw [hw1]; clear hw1 w1 hU)
    | (go_at_call 138; refine hO.mono ?_; rintro e w2 ⟨rfl, hb2⟩; have Hb2 := Lib.hid hb2; clear hb2 hO))
  go_ret
  exact ⟨rfl, HB.out _ Hb2.out⟩
set_option maxRecDepth 100000 in
theorem reck_two (n0 sb : Nat) (V : SV) (fs : List SF) (f : SF) (vi va : Value) (d : SIn) (aA : Option Addr) (an ac : Nat) (w : World) (h : Sbj n0 sb V fs f vi va w) (ha : GNs w.heap.size w (.slice aA an ac) d.args) (hab : an ≤ 1048576) (hin : inI f.ins d.args) (hop : 4 ≤ d.op ∧ d.op ≤ 14) (hty : d.ty = 1) (ho : ofP f.ins d.args [1, 1] = true) :
    Calls Try.prog 140 #[.pointer (some ⟨sb, 0, none⟩), insV d aA an ac] w fun e w' => e = .returned (.bool true) ∧ Below w.heap.size w w' := by
  obtain ⟨W, hW, hbW, hzW, h0W⟩ := gr_one w #[.int .i64 d.op, .int .i64 d.ty, .slice aA an ac, .int .i64 d.n, .int .i64 d.to_] 71
  obtain ⟨x0, x1, x2, x3, x4, -⟩ := gr_five h0W
  obtain ⟨Z, hZ, hbZ, hg⟩ := lit_row W [1, 1]
  have hO := of_t n0 sb V fs f vi va d aA an ac _ _ _ [1, 1] Z ((h.keep hbW).keep hbZ) ((ha.ltr hbW).ltr hbZ) hab hg (by decide) hin ho
  have HB : Hid (∀ A, Below Z.heap.size Z A → Below w.heap.size w A) := Lib.hid fun A hA => hbW.trans ((hbZ.trans (hA.mono hbZ.size)).mono (by omega))
  have hC := cmp_g d.op W
  have hU := un_g d.op W
  rw [decide_eq_false (by omega)] at hC
  rw [decide_eq_false (by omega)] at hU
  have hcz : (intsV [1, 1]).toArray = #[.int .i64 1, .int .i64 1] := rfl
  rw [hcz] at hZ
  unfold insV at hO ⊢
  rw [hty] at hO x1 ⊢
  have hl : [1, 1].length = 2 := rfl
  rw [hZ] at hO HB
  have HW : Hid (W = _) := Lib.hid hW
  rw [hty] at HW
  have d1 : (d.op == 24) = false := by simp; omega
  have d2 : (d.op == 17) = false := by simp; omega
  have d3 : (d.op == 18) = false := by simp; omega
  clear hW hbW hzW h0W hZ hbZ hg h ha hin ho hcz hl hty hop
  generalize hop2 : d.op = op at *
  clear hop2
  go_enter Try.func140, Try.ntmps140
  go_upto_region 1 with fail
  rw [← HW.out]
  go_wp2_with (first
    | (go_at_call 157; refine hC.mono ?_; rintro e w1 ⟨rfl, hw1⟩; rw [hw1]; clear hw1 w1 hC)
    | (go_at_call 131; refine hU.mono ?_; rintro e w1 ⟨rfl, hw1⟩; rw [hw1]; clear hw1 w1 hU)
    | (go_at_call 138; refine hO.mono ?_; rintro e w2 ⟨rfl, hb2⟩; have Hb2 := Lib.hid hb2; clear hb2 hO))
  go_ret
  exact ⟨rfl, HB.out _ Hb2.out⟩
set_option maxRecDepth 100000 in
theorem reck_one (n0 sb : Nat) (V : SV) (fs : List SF) (f : SF) (vi va : Value) (d : SIn) (aA : Option Addr) (an ac : Nat) (w : World) (h : Sbj n0 sb V fs f vi va w) (ha : GNs w.heap.size w (.slice aA an ac) d.args) (hab : an ≤ 1048576) (hin : inI f.ins d.args) (hop : d.op = 15 ∨ d.op = 16) (hty : d.ty = 1) (ho : ofP f.ins d.args [1] = true) :
    Calls Try.prog 140 #[.pointer (some ⟨sb, 0, none⟩), insV d aA an ac] w fun e w' => e = .returned (.bool true) ∧ Below w.heap.size w w' := by
  obtain ⟨W, hW, hbW, hzW, h0W⟩ := gr_one w #[.int .i64 d.op, .int .i64 d.ty, .slice aA an ac, .int .i64 d.n, .int .i64 d.to_] 71
  obtain ⟨x0, x1, x2, x3, x4, -⟩ := gr_five h0W
  obtain ⟨Z, hZ, hbZ, hg⟩ := lit_row W [1]
  have hO := of_t n0 sb V fs f vi va d aA an ac _ _ _ [1] Z ((h.keep hbW).keep hbZ) ((ha.ltr hbW).ltr hbZ) hab hg (by decide) hin ho
  have HB : Hid (∀ A, Below Z.heap.size Z A → Below w.heap.size w A) := Lib.hid fun A hA => hbW.trans ((hbZ.trans (hA.mono hbZ.size)).mono (by omega))
  have hC := cmp_g d.op W
  have hU := un_g d.op W
  rw [decide_eq_false (by omega)] at hC
  rw [decide_eq_true (by omega)] at hU
  have hcz : (intsV [1]).toArray = #[.int .i64 1] := rfl
  rw [hcz] at hZ
  unfold insV at hO ⊢
  rw [hty] at hO x1 ⊢
  have hl : [1].length = 1 := rfl
  rw [hZ] at hO HB
  have HW : Hid (W = _) := Lib.hid hW
  rw [hty] at HW
  have d1 : (d.op == 24) = false := by simp; omega
  clear hW hbW hzW h0W hZ hbZ hg h ha hin ho hcz hl hty hop
  generalize hop2 : d.op = op at *
  clear hop2
  go_enter Try.func140, Try.ntmps140
  go_upto_region 1 with fail
  rw [← HW.out]
  go_wp2_with (first
    | (go_at_call 157; refine hC.mono ?_; rintro e w1 ⟨rfl, hw1⟩; rw [hw1]; clear hw1 w1 hC)
    | (go_at_call 131; refine hU.mono ?_; rintro e w1 ⟨rfl, hw1⟩; rw [hw1]; clear hw1 w1 hU)
    | (go_at_call 138; refine hO.mono ?_; rintro e w2 ⟨rfl, hb2⟩; have Hb2 := Lib.hid hb2; clear hb2 hO))
  go_ret
  exact ⟨rfl, HB.out _ Hb2.out⟩
set_option maxRecDepth 100000 in
theorem hand_26 (n0 sb : Nat) (V : SV) (fs : List SF) (f : SF) (vi va : Value) (d : SIn) (aA : Option Addr) (an ac : Nat) (w : World) (h : Sbj n0 sb V fs f vi va w) (ha : GNs w.heap.size w (.slice aA an ac) d.args) (hab : an ≤ 1048576) (hin : inI f.ins d.args) (hop : d.op = 26) (hty : d.ty = 1) (ho : ofP f.ins d.args [3] = true) :
    Calls Try.prog 141 #[.pointer (some ⟨sb, 0, none⟩), insV d aA an ac] w fun e w' => e = .returned (.bool true) ∧ Below w.heap.size w w' := by
  obtain ⟨W, hW, hbW, hzW, h0W⟩ := gr_one w #[.int .i64 d.op, .int .i64 d.ty, .slice aA an ac, .int .i64 d.n, .int .i64 d.to_] 71
  obtain ⟨x0, x1, x2, x3, x4, -⟩ := gr_five h0W
  obtain ⟨Z, hZ, hbZ, hg⟩ := lit_row W [3]
  have hO := of_t n0 sb V fs f vi va d aA an ac _ _ _ [3] Z ((h.keep hbW).keep hbZ) ((ha.ltr hbW).ltr hbZ) hab hg (by decide) hin ho
  have hcz : (intsV [3]).toArray = #[.int .i64 3] := rfl
  rw [hcz] at hZ
  have HB : Hid (∀ A, Below Z.heap.size Z A → Below w.heap.size w A) := Lib.hid fun A hA => hbW.trans ((hbZ.trans (hA.mono hbZ.size)).mono (by omega))
  unfold insV at hO ⊢
  rw [hop, hty] at hO ⊢
  rw [hop] at x0
  rw [hty] at x1
  rw [hZ] at hO HB
  have HW : Hid (W = _) := Lib.hid hW
  rw [hop, hty] at HW
  clear hW hbW hzW h0W hbZ h ha hin ho hty hop hZ hg hcz
  go_enter Try.func141, Try.ntmps141
  go_upto_region 1 with fail
  rw [← HW.out]
  go_wp2_with (go_at_call 138; refine hO.mono ?_; rintro e w2 ⟨rfl, hb2⟩; have Hb2 := Lib.hid hb2; clear hb2 hO)
  go_ret
  exact ⟨rfl, HB.out _ Hb2.out⟩
set_option maxRecDepth 100000 in
theorem hand_29 (n0 sb : Nat) (V : SV) (fs : List SF) (f : SF) (vi va : Value) (d : SIn) (aA : Option Addr) (an ac : Nat) (w : World) (h : Sbj n0 sb V fs f vi va w) (ha : GNs w.heap.size w (.slice aA an ac) d.args) (hab : an ≤ 1048576) (hin : inI f.ins d.args) (hop : d.op = 29) (hty : d.ty = 1) (ho : ofP f.ins d.args [3, 1] = true) :
    Calls Try.prog 141 #[.pointer (some ⟨sb, 0, none⟩), insV d aA an ac] w fun e w' => e = .returned (.bool true) ∧ Below w.heap.size w w' := by
  obtain ⟨W, hW, hbW, hzW, h0W⟩ := gr_one w #[.int .i64 d.op, .int .i64 d.ty, .slice aA an ac, .int .i64 d.n, .int .i64 d.to_] 71
  obtain ⟨x0, x1, x2, x3, x4, -⟩ := gr_five h0W
  obtain ⟨Z, hZ, hbZ, hg⟩ := lit_row W [3, 1]
  have hO := of_t n0 sb V fs f vi va d aA an ac _ _ _ [3, 1] Z ((h.keep hbW).keep hbZ) ((ha.ltr hbW).ltr hbZ) hab hg (by decide) hin ho
  have hcz : (intsV [3, 1]).toArray = #[.int .i64 3, .int .i64 1] := rfl
  rw [hcz] at hZ
  have HB : Hid (∀ A, Below Z.heap.size Z A → Below w.heap.size w A) := Lib.hid fun A hA => hbW.trans ((hbZ.trans (hA.mono hbZ.size)).mono (by omega))
  unfold insV at hO ⊢
  rw [hop, hty] at hO ⊢
  rw [hop] at x0
  rw [hty] at x1
  rw [hZ] at hO HB
  have HW : Hid (W = _) := Lib.hid hW
  rw [hop, hty] at HW
  clear hW hbW hzW h0W hbZ h ha hin ho hty hop hZ hg hcz
  go_enter Try.func141, Try.ntmps141
  go_upto_region 1 with fail
  rw [← HW.out]
  go_wp2_with (go_at_call 138; refine hO.mono ?_; rintro e w2 ⟨rfl, hb2⟩; have Hb2 := Lib.hid hb2; clear hb2 hO)
  go_ret
  exact ⟨rfl, HB.out _ Hb2.out⟩
set_option maxRecDepth 100000 in
theorem hand_30 (n0 sb : Nat) (V : SV) (fs : List SF) (f : SF) (vi va : Value) (d : SIn) (aA : Option Addr) (an ac : Nat) (w : World) (h : Sbj n0 sb V fs f vi va w) (ha : GNs w.heap.size w (.slice aA an ac) d.args) (hab : an ≤ 1048576) (hin : inI f.ins d.args) (hop : d.op = 30) (hty : d.ty = 3) (ho : ofP f.ins d.args [1] = true) :
    Calls Try.prog 141 #[.pointer (some ⟨sb, 0, none⟩), insV d aA an ac] w fun e w' => e = .returned (.bool true) ∧ Below w.heap.size w w' := by
  obtain ⟨W, hW, hbW, hzW, h0W⟩ := gr_one w #[.int .i64 d.op, .int .i64 d.ty, .slice aA an ac, .int .i64 d.n, .int .i64 d.to_] 71
  obtain ⟨x0, x1, x2, x3, x4, -⟩ := gr_five h0W
  obtain ⟨Z, hZ, hbZ, hg⟩ := lit_row W [1]
  have hO := of_t n0 sb V fs f vi va d aA an ac _ _ _ [1] Z ((h.keep hbW).keep hbZ) ((ha.ltr hbW).ltr hbZ) hab hg (by decide) hin ho
  have hcz : (intsV [1]).toArray = #[.int .i64 1] := rfl
  rw [hcz] at hZ
  have HB : Hid (∀ A, Below Z.heap.size Z A → Below w.heap.size w A) := Lib.hid fun A hA => hbW.trans ((hbZ.trans (hA.mono hbZ.size)).mono (by omega))
  unfold insV at hO ⊢
  rw [hop, hty] at hO ⊢
  rw [hop] at x0
  rw [hty] at x1
  rw [hZ] at hO HB
  have HW : Hid (W = _) := Lib.hid hW
  rw [hop, hty] at HW
  clear hW hbW hzW h0W hbZ h ha hin ho hty hop hZ hg hcz
  go_enter Try.func141, Try.ntmps141
  go_upto_region 1 with fail
  rw [← HW.out]
  go_wp2_with (go_at_call 138; refine hO.mono ?_; rintro e w2 ⟨rfl, hb2⟩; have Hb2 := Lib.hid hb2; clear hb2 hO)
  go_ret
  exact ⟨rfl, HB.out _ Hb2.out⟩
set_option maxRecDepth 100000 in
theorem hand_32 (n0 sb : Nat) (V : SV) (fs : List SF) (f : SF) (vi va : Value) (d : SIn) (aA : Option Addr) (an ac : Nat) (w : World) (h : Sbj n0 sb V fs f vi va w) (ha : GNs w.heap.size w (.slice aA an ac) d.args) (hab : an ≤ 1048576) (hin : inI f.ins d.args) (hop : d.op = 32) (hty : d.ty = 0) (ho : ofP f.ins d.args [3, 1, 1] = true) :
    Calls Try.prog 141 #[.pointer (some ⟨sb, 0, none⟩), insV d aA an ac] w fun e w' => e = .returned (.bool true) ∧ Below w.heap.size w w' := by
  obtain ⟨W, hW, hbW, hzW, h0W⟩ := gr_one w #[.int .i64 d.op, .int .i64 d.ty, .slice aA an ac, .int .i64 d.n, .int .i64 d.to_] 71
  obtain ⟨x0, x1, x2, x3, x4, -⟩ := gr_five h0W
  obtain ⟨Z, hZ, hbZ, hg⟩ := lit_row W [3, 1, 1]
  have hO := of_t n0 sb V fs f vi va d aA an ac _ _ _ [3, 1, 1] Z ((h.keep hbW).keep hbZ) ((ha.ltr hbW).ltr hbZ) hab hg (by decide) hin ho
  have hcz : (intsV [3, 1, 1]).toArray = #[.int .i64 3, .int .i64 1, .int .i64 1] := rfl
  rw [hcz] at hZ
  have HB : Hid (∀ A, Below Z.heap.size Z A → Below w.heap.size w A) := Lib.hid fun A hA => hbW.trans ((hbZ.trans (hA.mono hbZ.size)).mono (by omega))
  unfold insV at hO ⊢
  rw [hop, hty] at hO ⊢
  rw [hop] at x0
  rw [hty] at x1
  rw [hZ] at hO HB
  have HW : Hid (W = _) := Lib.hid hW
  rw [hop, hty] at HW
  clear hW hbW hzW h0W hbZ h ha hin ho hty hop hZ hg hcz
  go_enter Try.func141, Try.ntmps141
  go_upto_region 1 with fail
  rw [← HW.out]
  go_wp2_with (go_at_call 138; refine hO.mono ?_; rintro e w2 ⟨rfl, hb2⟩; have Hb2 := Lib.hid hb2; clear hb2 hO)
  go_ret
  exact ⟨rfl, HB.out _ Hb2.out⟩
set_option maxRecDepth 100000 in
theorem hand_33 (n0 sb : Nat) (V : SV) (fs : List SF) (f : SF) (vi va : Value) (d : SIn) (aA : Option Addr) (an ac : Nat) (w : World) (h : Sbj n0 sb V fs f vi va w) (ha : GNs w.heap.size w (.slice aA an ac) d.args) (hab : an ≤ 1048576) (hin : inI f.ins d.args) (hop : d.op = 33) (hty : d.ty = 0) (ho : ofP f.ins d.args [1] = true) :
    Calls Try.prog 141 #[.pointer (some ⟨sb, 0, none⟩), insV d aA an ac] w fun e w' => e = .returned (.bool true) ∧ Below w.heap.size w w' := by
  obtain ⟨W, hW, hbW, hzW, h0W⟩ := gr_one w #[.int .i64 d.op, .int .i64 d.ty, .slice aA an ac, .int .i64 d.n, .int .i64 d.to_] 71
  obtain ⟨x0, x1, x2, x3, x4, -⟩ := gr_five h0W
  obtain ⟨Z, hZ, hbZ, hg⟩ := lit_row W [1]
  have hO := of_t n0 sb V fs f vi va d aA an ac _ _ _ [1] Z ((h.keep hbW).keep hbZ) ((ha.ltr hbW).ltr hbZ) hab hg (by decide) hin ho
  have hcz : (intsV [1]).toArray = #[.int .i64 1] := rfl
  rw [hcz] at hZ
  have HB : Hid (∀ A, Below Z.heap.size Z A → Below w.heap.size w A) := Lib.hid fun A hA => hbW.trans ((hbZ.trans (hA.mono hbZ.size)).mono (by omega))
  unfold insV at hO ⊢
  rw [hop, hty] at hO ⊢
  rw [hop] at x0
  rw [hty] at x1
  rw [hZ] at hO HB
  have HW : Hid (W = _) := Lib.hid hW
  rw [hop, hty] at HW
  clear hW hbW hzW h0W hbZ h ha hin ho hty hop hZ hg hcz
  go_enter Try.func141, Try.ntmps141
  go_upto_region 1 with fail
  rw [← HW.out]
  go_wp2_with (go_at_call 138; refine hO.mono ?_; rintro e w2 ⟨rfl, hb2⟩; have Hb2 := Lib.hid hb2; clear hb2 hO)
  go_ret
  exact ⟨rfl, HB.out _ Hb2.out⟩
set_option maxRecDepth 100000 in
theorem hand_34 (n0 sb : Nat) (V : SV) (fs : List SF) (f : SF) (vi va : Value) (d : SIn) (aA : Option Addr) (an ac : Nat) (w : World) (h : Sbj n0 sb V fs f vi va w) (ha : GNs w.heap.size w (.slice aA an ac) d.args) (hab : an ≤ 1048576) (hin : inI f.ins d.args) (hop : d.op = 34) (hty : d.ty = 1) (ho : ofP f.ins d.args [] = true) :
    Calls Try.prog 141 #[.pointer (some ⟨sb, 0, none⟩), insV d aA an ac] w fun e w' => e = .returned (.bool true) ∧ Below w.heap.size w w' := by
  obtain ⟨W, hW, hbW, hzW, h0W⟩ := gr_one w #[.int .i64 d.op, .int .i64 d.ty, .slice aA an ac, .int .i64 d.n, .int .i64 d.to_] 71
  obtain ⟨x0, x1, x2, x3, x4, -⟩ := gr_five h0W
  obtain ⟨Z, hZ⟩ : ∃ Z, Z = W := ⟨_, rfl⟩
  have hbZ : Below W.heap.size W Z := by rw [hZ]; exact Below.refl _ _
  have hO := of_t n0 sb V fs f vi va d aA an ac none 0 0 [] W (h.keep hbW) (ha.ltr hbW) hab ⟨none, 0, rfl, fun h => by simp at h⟩ (by decide) hin ho
  have HB : Hid (∀ A, Below Z.heap.size Z A → Below w.heap.size w A) := Lib.hid fun A hA => hbW.trans ((hbZ.trans (hA.mono hbZ.size)).mono (by omega))
  unfold insV at hO ⊢
  rw [hop, hty] at hO ⊢
  rw [hop] at x0
  rw [hty] at x1
  have HW : Hid (W = _) := Lib.hid hW
  rw [hop, hty] at HW
  clear hW hbW hzW h0W hbZ h ha hin ho hty hop
  go_enter Try.func141, Try.ntmps141
  go_upto_region 1 with fail
  rw [← HW.out]
  go_wp2_with (go_at_call 138; refine hO.mono ?_; rintro e w2 ⟨rfl, hb2⟩; have Hb2 := Lib.hid hb2; clear hb2 hO)
  go_ret
  exact ⟨rfl, HB.out _ (by rw [hZ]; exact Hb2.out)⟩
end Go.Proofs.Ytagagpappjkgbaa
