/-
  Programs that may be: fits where it says yes: numbers, Select, Guard, operations, rows.
-/
import Derived.Test.YtagagpappjkgbaaJx29
namespace Go.Proofs.Ytagagpappjkgbaa
set_option linter.unusedVariables false
set_option linter.unusedSimpArgs false
open Go.RowKit

set_option maxRecDepth 100000 in
set_option maxHeartbeats 1000000 in
theorem fits_1 (n0 sb : Nat) (V : SV) (fs : List SF) (f : SF) (vi va : Value) (d : SIn) (aA : Option Addr) (an ac : Nat) (w : World) (h : Sbj n0 sb V fs f vi va w) (ha : GNs w.heap.size w (.slice aA an ac) d.args) (hab : an ≤ 1048576) (hin : inI f.ins d.args) (hop : d.op = 1) (hty : d.ty = 1) (ho : ofP f.ins d.args [] = true) :
    Calls Try.prog 120 #[.pointer (some ⟨sb, 0, none⟩), insV d aA an ac] w fun e w' => e = .returned (.bool true) ∧ Below w.heap.size w w' := by
  obtain ⟨W, hW, hbW, hzW, h0W⟩ := gr_one w #[.int .i64 d.op, .int .i64 d.ty, .slice aA an ac, .int .i64 d.n, .int .i64 d.to_] 71
  have HK : Hid (∀ A, Below W.heap.size W A → A.cell? ⟨w.heap.size, 0, none⟩ = some (.int .i64 d.op) ∧ A.cell? ⟨w.heap.size, 1, none⟩ = some (.int .i64 d.ty) ∧ A.cell? ⟨w.heap.size, 2, none⟩ = some (.slice aA an ac) ∧ A.cell? ⟨w.heap.size, 3, none⟩ = some (.int .i64 d.n) ∧ A.cell? ⟨w.heap.size, 4, none⟩ = some (.int .i64 d.to_)) := Lib.hid fun A hA => by
    obtain ⟨x0, x1, x2, x3, x4, -⟩ := gr_five ((hA.block w.heap.size (by omega)).trans h0W)
    exact ⟨x0, x1, x2, x3, x4⟩
  obtain ⟨x0, x1, x2, x3, x4⟩ := HK.out W (Below.refl _ _)
  have hO := of_t n0 sb V fs f vi va d aA an ac none 0 0 [] W (h.keep hbW) (ha.ltr hbW) hab ⟨none, 0, rfl, fun h => by simp at h⟩ (by decide) hin ho
  have HB : Hid (∀ A, Below W.heap.size W A → Below w.heap.size w A ∧ Below W.heap.size W A) := Lib.hid fun A hA => ⟨hbW.trans (hA.mono (by omega)), hA⟩
  unfold insV at hO ⊢
  have HW : Hid (W = _) := Lib.hid hW
  rw [hop] at HW HK hO ⊢
  try rw [hop] at x0
  rw [hty] at HW HK hO ⊢
  try rw [hty] at x1
  clear hW hbW hzW h0W h ha hin ho
  go_enter Try.func120, Try.ntmps120
  go_upto_region 1 with fail
  rw [← HW.out]
  go_wp2_with (go_at_call 138; refine hO.mono ?_; rintro e w2 ⟨rfl, hb2⟩; obtain ⟨hE, hE2⟩ := HB.out w2 hb2; obtain ⟨y0, y1, y2, y3, y4⟩ := HK.out w2 hE2; have HE := Lib.hid hE; clear hb2 hE hE2 hO)
  go_ret
  exact ⟨rfl, HE.out⟩
set_option maxRecDepth 100000 in
set_option maxHeartbeats 1000000 in
theorem fits_25 (n0 sb : Nat) (V : SV) (fs : List SF) (f : SF) (vi va : Value) (d : SIn) (aA : Option Addr) (an ac : Nat) (w : World) (h : Sbj n0 sb V fs f vi va w) (ha : GNs w.heap.size w (.slice aA an ac) d.args) (hab : an ≤ 1048576) (hin : inI f.ins d.args) (hop : d.op = 25) (hty : d.ty ≠ 0) (ho : ofP f.ins d.args [2, d.ty, d.ty] = true) :
    Calls Try.prog 120 #[.pointer (some ⟨sb, 0, none⟩), insV d aA an ac] w fun e w' => e = .returned (.bool true) ∧ Below w.heap.size w w' := by
  obtain ⟨W, hW, hbW, hzW, h0W⟩ := gr_one w #[.int .i64 d.op, .int .i64 d.ty, .slice aA an ac, .int .i64 d.n, .int .i64 d.to_] 71
  have HK : Hid (∀ A, Below W.heap.size W A → A.cell? ⟨w.heap.size, 0, none⟩ = some (.int .i64 d.op) ∧ A.cell? ⟨w.heap.size, 1, none⟩ = some (.int .i64 d.ty) ∧ A.cell? ⟨w.heap.size, 2, none⟩ = some (.slice aA an ac) ∧ A.cell? ⟨w.heap.size, 3, none⟩ = some (.int .i64 d.n) ∧ A.cell? ⟨w.heap.size, 4, none⟩ = some (.int .i64 d.to_)) := Lib.hid fun A hA => by
    obtain ⟨x0, x1, x2, x3, x4, -⟩ := gr_five ((hA.block w.heap.size (by omega)).trans h0W)
    exact ⟨x0, x1, x2, x3, x4⟩
  obtain ⟨x0, x1, x2, x3, x4⟩ := HK.out W (Below.refl _ _)
  obtain ⟨Z, hZ, hbZ, hg⟩ := lit_row W [2, d.ty, d.ty]
  have hO := of_t n0 sb V fs f vi va d aA an ac _ _ _ [2, d.ty, d.ty] Z ((h.keep hbW).keep hbZ) ((ha.ltr hbW).ltr hbZ) hab hg (by simp) hin ho
  have hcz : (intsV [2, d.ty, d.ty]).toArray = #[.int .i64 2, .int .i64 (d.ty), .int .i64 (d.ty)] := rfl
  rw [hcz] at hZ
  have HB : Hid (∀ A, Below Z.heap.size Z A → Below w.heap.size w A ∧ Below W.heap.size W A) := Lib.hid fun A hA => ⟨hbW.trans ((hbZ.trans (hA.mono hbZ.size)).mono (by omega)), hbZ.trans (hA.mono hbZ.size)⟩
  rw [hZ] at hO HB
  unfold insV at hO ⊢
  have HW : Hid (W = _) := Lib.hid hW
  rw [hop] at HW HK hO ⊢
  try rw [hop] at x0
  have e1 : (d.ty != 0) = true := by simpa using hty
  clear hty
  clear hW hbW hzW h0W h ha hin ho hZ hbZ hg hcz
  go_enter Try.func120, Try.ntmps120
  go_upto_region 1 with fail
  rw [← HW.out]
  go_wp2_with (go_at_call 138; refine hO.mono ?_; rintro e w2 ⟨rfl, hb2⟩; obtain ⟨hE, hE2⟩ := HB.out w2 hb2; obtain ⟨y0, y1, y2, y3, y4⟩ := HK.out w2 hE2; have HE := Lib.hid hE; clear hb2 hE hE2 hO)
  go_ret
  exact ⟨rfl, HE.out⟩
set_option maxRecDepth 100000 in
set_option maxHeartbeats 1000000 in
theorem fits_35 (n0 sb : Nat) (V : SV) (fs : List SF) (f : SF) (vi va : Value) (d : SIn) (aA : Option Addr) (an ac : Nat) (w : World) (h : Sbj n0 sb V fs f vi va w) (ha : GNs w.heap.size w (.slice aA an ac) d.args) (hab : an ≤ 1048576) (hin : inI f.ins d.args) (hop : d.op = 35) (hty : d.ty = 0) (hn1 : 1 ≤ d.n) (hn3 : d.n ≤ 3) (ho : ofP f.ins d.args [2] = true) :
    Calls Try.prog 120 #[.pointer (some ⟨sb, 0, none⟩), insV d aA an ac] w fun e w' => e = .returned (.bool true) ∧ Below w.heap.size w w' := by
  obtain ⟨W, hW, hbW, hzW, h0W⟩ := gr_one w #[.int .i64 d.op, .int .i64 d.ty, .slice aA an ac, .int .i64 d.n, .int .i64 d.to_] 71
  have HK : Hid (∀ A, Below W.heap.size W A → A.cell? ⟨w.heap.size, 0, none⟩ = some (.int .i64 d.op) ∧ A.cell? ⟨w.heap.size, 1, none⟩ = some (.int .i64 d.ty) ∧ A.cell? ⟨w.heap.size, 2, none⟩ = some (.slice aA an ac) ∧ A.cell? ⟨w.heap.size, 3, none⟩ = some (.int .i64 d.n) ∧ A.cell? ⟨w.heap.size, 4, none⟩ = some (.int .i64 d.to_)) := Lib.hid fun A hA => by
    obtain ⟨x0, x1, x2, x3, x4, -⟩ := gr_five ((hA.block w.heap.size (by omega)).trans h0W)
    exact ⟨x0, x1, x2, x3, x4⟩
  obtain ⟨x0, x1, x2, x3, x4⟩ := HK.out W (Below.refl _ _)
  obtain ⟨Z, hZ, hbZ, hg⟩ := lit_row W [2]
  have hO := of_t n0 sb V fs f vi va d aA an ac _ _ _ [2] Z ((h.keep hbW).keep hbZ) ((ha.ltr hbW).ltr hbZ) hab hg (by simp) hin ho
  have hcz : (intsV [2]).toArray = #[.int .i64 2] := rfl
  rw [hcz] at hZ
  have HB : Hid (∀ A, Below Z.heap.size Z A → Below w.heap.size w A ∧ Below W.heap.size W A) := Lib.hid fun A hA => ⟨hbW.trans ((hbZ.trans (hA.mono hbZ.size)).mono (by omega)), hbZ.trans (hA.mono hbZ.size)⟩
  rw [hZ] at hO HB
  unfold insV at hO ⊢
  have HW : Hid (W = _) := Lib.hid hW
  rw [hop] at HW HK hO ⊢
  try rw [hop] at x0
  rw [hty] at HW HK hO ⊢
  try rw [hty] at x1
  have e1 : decide (d.n ≥ 1) = true := decide_eq_true hn1
  have e2 : decide (d.n ≤ 3) = true := decide_eq_true hn3
  clear hn1 hn3
  clear hW hbW hzW h0W h ha hin ho hZ hbZ hg hcz
  go_enter Try.func120, Try.ntmps120
  go_upto_region 1 with fail
  rw [← HW.out]
  go_wp2_with (go_at_call 138; refine hO.mono ?_; rintro e w2 ⟨rfl, hb2⟩; obtain ⟨hE, hE2⟩ := HB.out w2 hb2; obtain ⟨y0, y1, y2, y3, y4⟩ := HK.out w2 hE2; have HE := Lib.hid hE; clear hb2 hE hE2 hO)
  go_ret
  exact ⟨rfl, HE.out⟩
set_option maxRecDepth 100000 in
set_option maxHeartbeats 1000000 in
theorem fits_reck (n0 sb : Nat) (V : SV) (fs : List SF) (f : SF) (vi va : Value) (d : SIn) (aA : Option Addr) (an ac : Nat) (w : World) (h : Sbj n0 sb V fs f vi va w) (ha : GNs w.heap.size w (.slice aA an ac) d.args) (hab : an ≤ 1048576) (hin : inI f.ins d.args) (hop : (4 ≤ d.op ∧ d.op ≤ 16) ∨ (19 ≤ d.op ∧ d.op ≤ 23)) (hR : ∀ A, Below w.heap.size w A → Calls Try.prog 140 #[.pointer (some ⟨sb, 0, none⟩), insV d aA an ac] A fun e w' => e = .returned (.bool true) ∧ Below A.heap.size A w') :
    Calls Try.prog 120 #[.pointer (some ⟨sb, 0, none⟩), insV d aA an ac] w fun e w' => e = .returned (.bool true) ∧ Below w.heap.size w w' := by
  obtain ⟨W, hW, hbW, hzW, h0W⟩ := gr_one w #[.int .i64 d.op, .int .i64 d.ty, .slice aA an ac, .int .i64 d.n, .int .i64 d.to_] 71
  have HK : Hid (∀ A, Below W.heap.size W A → A.cell? ⟨w.heap.size, 0, none⟩ = some (.int .i64 d.op) ∧ A.cell? ⟨w.heap.size, 1, none⟩ = some (.int .i64 d.ty) ∧ A.cell? ⟨w.heap.size, 2, none⟩ = some (.slice aA an ac) ∧ A.cell? ⟨w.heap.size, 3, none⟩ = some (.int .i64 d.n) ∧ A.cell? ⟨w.heap.size, 4, none⟩ = some (.int .i64 d.to_)) := Lib.hid fun A hA => by
    obtain ⟨x0, x1, x2, x3, x4, -⟩ := gr_five ((hA.block w.heap.size (by omega)).trans h0W)
    exact ⟨x0, x1, x2, x3, x4⟩
  obtain ⟨x0, x1, x2, x3, x4⟩ := HK.out W (Below.refl _ _)
  have hRk := hR W hbW
  have HB : Hid (∀ A, Below W.heap.size W A → Below w.heap.size w A) := Lib.hid fun A hA => hbW.trans (hA.mono (by omega))
  have hU := un_g d.op W
  have d1 : (d.op == 1) = false := by simp; omega
  have d2 : (d.op == 2) = false := by simp; omega
  have d3 : (d.op == 3) = false := by simp; omega
  have d4 : (d.op == 25) = false := by simp; omega
  have d5 : (d.op == 36) = false := by simp; omega
  have d6 : (d.op == 35) = false := by simp; omega
  unfold insV at hRk ⊢
  have HW : Hid (W = _) := Lib.hid hW
  clear hW hbW hzW h0W h ha hin hR
  by_cases h1 : d.op = 15 ∨ d.op = 16
  · have hB := bin_f d.op W (by omega)
    rw [decide_eq_true (by omega)] at hU
    clear hop h1
    generalize hop2 : d.op = op at *
    clear hop2
    go_enter Try.func120, Try.ntmps120
    go_upto_region 1 with fail
    rw [← HW.out]
    go_wp2_with (first
      | (go_at_call 139; refine hB.mono ?_; rintro e w1 ⟨rfl, hw1⟩; rw [hw1]; clear hw1 w1 hB)
      | (go_at_call 131; refine hU.mono ?_; rintro e w1 ⟨rfl, hw1⟩; rw [hw1]; clear hw1 w1 hU)
      | (go_at_call 140; refine hRk.mono ?_; rintro e w2 ⟨rfl, hb2⟩; have HE := Lib.hid (HB.out w2 hb2); clear hb2 hRk))
    go_ret
    exact ⟨rfl, HE.out⟩
  · have hB := bin_t d.op W (by omega)
    clear hop h1
    generalize hop2 : d.op = op at *
    clear hop2
    go_enter Try.func120, Try.ntmps120
    go_upto_region 1 with fail
    rw [← HW.out]
    go_wp2_with (first
      | (go_at_call 139; refine hB.mono ?_; rintro e w1 ⟨rfl, hw1⟩; rw [hw1]; clear hw1 w1 hB)
      | (go_at_call 140; refine hRk.mono ?_; rintro e w2 ⟨rfl, hb2⟩; have HE := Lib.hid (HB.out w2 hb2); clear hb2 hRk))
    go_ret
    exact ⟨rfl, HE.out⟩
set_option maxRecDepth 100000 in
set_option maxHeartbeats 1000000 in
theorem fits_hand (n0 sb : Nat) (V : SV) (fs : List SF) (f : SF) (vi va : Value) (d : SIn) (aA : Option Addr) (an ac : Nat) (w : World) (h : Sbj n0 sb V fs f vi va w) (ha : GNs w.heap.size w (.slice aA an ac) d.args) (hab : an ≤ 1048576) (hin : inI f.ins d.args) (hop : 26 ≤ d.op ∧ d.op ≤ 34) (hR : ∀ A, Below w.heap.size w A → Calls Try.prog 141 #[.pointer (some ⟨sb, 0, none⟩), insV d aA an ac] A fun e w' => e = .returned (.bool true) ∧ Below A.heap.size A w') :
    Calls Try.prog 120 #[.pointer (some ⟨sb, 0, none⟩), insV d aA an ac] w fun e w' => e = .returned (.bool true) ∧ Below w.heap.size w w' := by
  obtain ⟨W, hW, hbW, hzW, h0W⟩ := gr_one w #[.int .i64 d.op, .int .i64 d.ty, .slice aA an ac, .int .i64 d.n, .int .i64 d.to_] 71
  have HK : Hid (∀ A, Below W.heap.size W A → A.cell? ⟨w.heap.size, 0, none⟩ = some (.int .i64 d.op) ∧ A.cell? ⟨w.heap.size, 1, none⟩ = some (.int .i64 d.ty) ∧ A.cell? ⟨w.heap.size, 2, none⟩ = some (.slice aA an ac) ∧ A.cell? ⟨w.heap.size, 3, none⟩ = some (.int .i64 d.n) ∧ A.cell? ⟨w.heap.size, 4, none⟩ = some (.int .i64 d.to_)) := Lib.hid fun A hA => by
    obtain ⟨x0, x1, x2, x3, x4, -⟩ := gr_five ((hA.block w.heap.size (by omega)).trans h0W)
    exact ⟨x0, x1, x2, x3, x4⟩
  obtain ⟨x0, x1, x2, x3, x4⟩ := HK.out W (Below.refl _ _)
  have hRk := hR W hbW
  have HB : Hid (∀ A, Below W.heap.size W A → Below w.heap.size w A) := Lib.hid fun A hA => hbW.trans (hA.mono (by omega))
  have hU := un_g d.op W
  have d1 : (d.op == 1) = false := by simp; omega
  have d2 : (d.op == 2) = false := by simp; omega
  have d3 : (d.op == 3) = false := by simp; omega
  have d4 : (d.op == 25) = false := by simp; omega
  have d5 : (d.op == 36) = false := by simp; omega
  have d6 : (d.op == 35) = false := by simp; omega
  unfold insV at hRk ⊢
  have HW : Hid (W = _) := Lib.hid hW
  have hB := bin_f d.op W (by omega)
  rw [decide_eq_false (by omega)] at hU
  clear hW hbW hzW h0W h ha hin hR hop
  generalize hop2 : d.op = op at *
  clear hop2
  go_enter Try.func120, Try.ntmps120
  go_upto_region 1 with fail
  rw [← HW.out]
  go_wp2_with (first
    | (go_at_call 139; refine hB.mono ?_; rintro e w1 ⟨rfl, hw1⟩; rw [hw1]; clear hw1 w1 hB)
    | (go_at_call 131; refine hU.mono ?_; rintro e w1 ⟨rfl, hw1⟩; rw [hw1]; clear hw1 w1 hU)
    | (go_at_call 141; refine hRk.mono ?_; rintro e w2 ⟨rfl, hb2⟩; have HE := Lib.hid (HB.out w2 hb2); clear hb2 hRk))
  go_ret
  exact ⟨rfl, HE.out⟩
end Go.Proofs.Ytagagpappjkgbaa
