/-
  Programs that may be: fits where it says yes: an argument, a call.
-/
import Derived.Test.YtagagpappjkgbaaJx30
import Derived.Lib.QuietBelow
import Derived.BigQuiet
namespace Go.Proofs.Ytagagpappjkgbaa
set_option linter.unusedVariables false
set_option linter.unusedSimpArgs false
open Go.RowKit Go.Sort

theorem so_call {P : Program} {f : FuncId} {args : Array Value} {v : Value} (W : World) (h : ∀ A, Below W.heap.size W A → Calls P f args A fun e w' => e = .returned v ∧ Below A.heap.size A w') :
    ∀ p : Regrown, Calls P f args (grow (redrawn W p.d) p.os) fun e w' => e = .returned v ∧ ∃ q : Regrown, w' = grow (redrawn W q.d) q.os := fun p => Calls.regrown_of (h _ (below_regrown W p.d p.os))
set_option maxRecDepth 100000 in
set_option maxHeartbeats 1000000 in
theorem fits_2 (n0 sb : Nat) (V : SV) (fs : List SF) (f : SF) (vi va : Value) (d : SIn) (aA : Option Addr) (an ac : Nat) (w : World) (h : Sbj n0 sb V fs f vi va w) (ha : GNs w.heap.size w (.slice aA an ac) d.args) (hab : an ≤ 1048576) (hin : inI f.ins d.args) (hop : d.op = 2) (k : Nat) (hk : d.n = (k : Int)) (hkp : k < f.params.length) (hty : d.ty = f.params.getD k 0) (ho : ofP f.ins d.args [] = true) :
    Calls Try.prog 120 #[.pointer (some ⟨sb, 0, none⟩), insV d aA an ac] w fun e w' => e = .returned (.bool true) ∧ Below w.heap.size w w' := by
  obtain ⟨W, hW, hbW, hzW, h0W⟩ := gr_one w #[.int .i64 d.op, .int .i64 d.ty, .slice aA an ac, .int .i64 d.n, .int .i64 d.to_] 71
  have HK : Hid (∀ A, Below W.heap.size W A → A.cell? ⟨w.heap.size, 0, none⟩ = some (.int .i64 d.op) ∧ A.cell? ⟨w.heap.size, 1, none⟩ = some (.int .i64 d.ty) ∧ A.cell? ⟨w.heap.size, 2, none⟩ = some (.slice aA an ac) ∧ A.cell? ⟨w.heap.size, 3, none⟩ = some (.int .i64 d.n) ∧ A.cell? ⟨w.heap.size, 4, none⟩ = some (.int .i64 d.to_)) := Lib.hid fun A hA => by
    obtain ⟨x0, x1, x2, x3, x4, -⟩ := gr_five ((hA.block w.heap.size (by omega)).trans h0W)
    exact ⟨x0, x1, x2, x3, x4⟩
  obtain ⟨x0, x1, x2, x3, x4⟩ := HK.out W (Below.refl _ _)
  have hO := so_call W fun A hA => of_t n0 sb V fs f vi va d aA an ac none 0 0 [] A ((h.keep hbW).keep hA) ((ha.ltr hbW).ltr hA) hab ⟨none, 0, rfl, fun h => by simp at h⟩ (by decide) hin ho
  have HB : Hid (∀ A, Below W.heap.size W A → Below w.heap.size w A) := Lib.hid fun A hA => hbW.trans (hA.mono (by omega))
  have hpn : V.pn = f.params.length := by obtain ⟨A', c', e, -⟩ := h.pr; injection e
  obtain ⟨b, o, epA, hcp⟩ := (h.keep hbW).pr.rd (j := k) (by omega)
  have y3 : ∀ d os, (grow (redrawn W d) os).cell? ⟨sb, 3, none⟩ = some (.slice (some ⟨b, o, none⟩) V.pn V.pc) := cell_regrown (by rw [← epA]; exact Lib.cell_of_heap (h.keep hbW).c 3)
  have zp := cell_regrown hcp
  have k0 := cell_regrown x0
  have k1 := cell_regrown x1
  have k2 := cell_regrown x2
  have k3 := cell_regrown x3
  have k4 := cell_regrown x4
  have e1 : decide ((k : Int) ≥ 0) = true := decide_eq_true (by omega)
  have e2 : decide ((k : Int) < (V.pn : Int)) = true := decide_eq_true (by omega)
  have e3 : k < V.pn := by omega
  unfold insV at hO ⊢
  have HW : Hid (W = _) := Lib.hid hW
  rw [hop, hk, hty] at hO ⊢
  rw [hop, hk, hty] at HW
  rw [hop] at k0
  rw [hty] at k1
  rw [hk] at k3
  generalize f.params.getD k 0 = v at *
  clear hW hbW hzW h0W h ha hin ho HK x0 x1 x2 x3 x4 hcp hpn hop hk hty epA hkp
  go_enter Try.func120, Try.ntmps120
  go_upto_region 5 with fail
  rw [← HW.out]
  refine wp_region_quiet_below (by kernel_rfl) (by kernel_rfl) ?_
  -- MARK
  repeat (go_big_quiet_step (first | exact hO _))
  refine wpQuiet_nil ?_
  intro _ hw'
  obtain ⟨⟨dq, osq⟩, hw''⟩ := hw'
  have HE := Lib.hid (HB.out _ (below_regrown W dq osq))
  rw [← hw''] at HE
  clear hw''
  go_wp2
  go_ret
  exact ⟨rfl, HE.out⟩
set_option maxRecDepth 100000 in
set_option maxHeartbeats 1000000 in
theorem fits_36 (n0 sb : Nat) (V : SV) (fs : List SF) (f : SF) (vi va : Value) (d : SIn) (aA : Option Addr) (an ac : Nat) (w : World) (h : Sbj n0 sb V fs f vi va w) (ha : GNs w.heap.size w (.slice aA an ac) d.args) (hab : an ≤ 1048576) (hin : inI f.ins d.args) (hop : d.op = 36) (k : Nat) (hk : d.to_ = (k : Int)) (g : SF) (hg : fs[k]? = some g) (hgb : g.params.length ≤ 1048576) (hty : d.ty = g.ret) (ho : ofP f.ins d.args g.params = true) :
    Calls Try.prog 120 #[.pointer (some ⟨sb, 0, none⟩), insV d aA an ac] w fun e w' => e = .returned (.bool true) ∧ Below w.heap.size w w' := by
  obtain ⟨hkl, hgk⟩ := List.getElem?_eq_some_iff.mp hg
  obtain ⟨W, hW, hbW, hzW, h0W⟩ := gr_one w #[.int .i64 d.op, .int .i64 d.ty, .slice aA an ac, .int .i64 d.n, .int .i64 d.to_] 71
  have HK : Hid (∀ A, Below W.heap.size W A → A.cell? ⟨w.heap.size, 0, none⟩ = some (.int .i64 d.op) ∧ A.cell? ⟨w.heap.size, 1, none⟩ = some (.int .i64 d.ty) ∧ A.cell? ⟨w.heap.size, 2, none⟩ = some (.slice aA an ac) ∧ A.cell? ⟨w.heap.size, 3, none⟩ = some (.int .i64 d.n) ∧ A.cell? ⟨w.heap.size, 4, none⟩ = some (.int .i64 d.to_)) := Lib.hid fun A hA => by
    obtain ⟨x0, x1, x2, x3, x4, -⟩ := gr_five ((hA.block w.heap.size (by omega)).trans h0W)
    exact ⟨x0, x1, x2, x3, x4⟩
  obtain ⟨x0, x1, x2, x3, x4⟩ := HK.out W (Below.refl _ _)
  obtain ⟨b, o, s, pA, pc, iA, ic, bA, bc, efA, hbn, -, hc1, hc2, -, -, hgp, -, -⟩ := (h.keep hbW).fsr.at hkl
  rw [hgk] at hc1 hc2 hgp
  have hnW := (h.keep hbW).hn
  have hO := so_call W fun A hA => of_t n0 sb V fs f vi va d aA an ac pA g.params.length pc g.params A ((h.keep hbW).keep hA) ((ha.ltr hbW).ltr hA) hab ((hgp.keep (hA.mono hnW)).mono (Nat.le_trans hnW hA.size)) hgb hin ho
  have hH := so_call W fun A hA => sound_has_g V.fA V.fn V.fc V.mn (k : Int) A
  have hfl := h.fl
  have ehas : hasG V.fn (k : Int) = true := by unfold hasG; simp; omega
  have HB : Hid (∀ A, Below W.heap.size W A → Below w.heap.size w A) := Lib.hid fun A hA => hbW.trans (hA.mono (by omega))
  rw [ehas, efA] at hH
  have y0 : ∀ d os, (grow (redrawn W d) os).cell? ⟨sb, 0, none⟩ = some (.slice (some ⟨b, o, none⟩) V.fn V.fc) := cell_regrown (by rw [← efA]; exact Lib.cell_of_heap (h.keep hbW).c 0)
  have y1 : ∀ d os, (grow (redrawn W d) os).cell? ⟨sb, 1, none⟩ = some (.int .i64 V.mn) := cell_regrown (Lib.cell_of_heap (h.keep hbW).c 1)
  have z1 := cell_regrown hc1
  have z2 := cell_regrown hc2
  have k0 := cell_regrown x0
  have k1 := cell_regrown x1
  have k2 := cell_regrown x2
  have k3 := cell_regrown x3
  have k4 := cell_regrown x4
  have e3 : k < V.fn := by omega
  generalize g.params.length = pn at *
  unfold insV at hO ⊢
  have HW : Hid (W = _) := Lib.hid hW
  rw [hop, hk, hty] at hO ⊢
  rw [hop, hk, hty] at HW
  rw [hop] at k0
  rw [hty] at k1
  rw [hk] at k4
  generalize g.ret = v at *
  clear hW hbW hzW h0W h ha hin ho HK x0 x1 x2 x3 x4 hc1 hc2 hgp hop hk hty efA hg hgk hkl ehas hfl hnW hgb
  go_enter Try.func120, Try.ntmps120
  go_upto_region 11 with fail
  rw [← HW.out]
  refine wp_region_quiet_below (by kernel_rfl) (by kernel_rfl) ?_
  -- MARK
  repeat (go_big_quiet_step (first | exact hH _ | exact hO _))
  refine wpQuiet_nil ?_
  intro _ hw'
  obtain ⟨⟨dq, osq⟩, hw''⟩ := hw'
  have HE := Lib.hid (HB.out _ (below_regrown W dq osq))
  rw [← hw''] at HE
  clear hw''
  go_wp2
  go_ret
  exact ⟨rfl, HE.out⟩
end Go.Proofs.Ytagagpappjkgbaa
