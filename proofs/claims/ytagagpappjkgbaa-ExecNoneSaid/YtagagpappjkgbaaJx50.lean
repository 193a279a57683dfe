/-
  The base's runs; ExecNone, whole.
-/
import Derived.Test.YtagagpappjkgbaaJx24
import Derived.Test.YtagagpappjkgbaaJx25
import Derived.Test.YtagagpappjkgbaaJx49
namespace Go.Proofs.Ytagagpappjkgbaa
set_option linter.unusedVariables false
set_option linter.unusedSimpArgs false
open Go.RowKit Go.Shelf Go.Sort

theorem rA_end : rA.events = [3] ∧ endX' rA = 1 ∧ valX rA = -3 := ⟨rfl, rfl, rfl⟩
theorem rB_end : rB.events = [] ∧ endX' rB = 0 ∧ valX rB = 0 ∧ rB.left = 0 := ⟨rfl, rfl, rfl, rfl⟩
theorem base_cm : ∀ (i : Nat) (f : SF) (L : List (Int × Int)), baseFs[i]? = some f → [cm0, cm1][i]? = some L → layX f = some L ∧ L.length = f.blocks.length := by
  intro i f L hf hL
  rcases i with _ | _ | i
  · injection hf with hf
    injection hL with hL
    subst hf hL
    exact ⟨cm0_ok.1, cm0_ok.2⟩
  · injection hf with hf
    injection hL with hL
    subst hf hL
    exact ⟨cm1_ok.1, cm1_ok.2⟩
  · cases hf
theorem base_bd : ∀ f ∈ baseFs, f.ins.length ≤ 1048576 ∧ f.blocks.length ≤ 1048576 ∧ ∀ k ∈ f.blocks, k.list.length ≤ 1048576 ∧ k.preds.length ≤ 1048576 ∧ k.to_.length ≤ 1048576 := by
  have h : (baseFs.all fun f => decide (f.ins.length ≤ 20) && decide (f.blocks.length ≤ 20) && f.blocks.all fun k => decide (k.list.length ≤ 20) && decide (k.preds.length ≤ 20) && decide (k.to_.length ≤ 20)) = true := by kernel_rfl
  intro f hf
  have h1 := List.all_eq_true.mp h f hf
  simp only [Bool.and_eq_true, decide_eq_true_eq] at h1
  refine ⟨by omega, by omega, fun k hk => ?_⟩
  have h2 := List.all_eq_true.mp h1.2 k hk
  simp only [Bool.and_eq_true, decide_eq_true_eq] at h2
  exact ⟨by omega, by omega, by omega⟩
theorem run_base {w0 w : World} {fb bb : Nat} {v0 v1 : FV} (hB : BaseAt w0 w fb bb v0 v1) (W : World) (hW : Below w.heap.size w W) (inn : List Int) (inA : Option Addr) (inL inC : Nat) (hi : GNs W.heap.size W (.slice inA inL inC) inn) (hil : inL = inn.length) (hic : inL ≤ inC ∧ inC ≤ 9223372036854775807)
    (fuel0 fuel : Int) (hmax : max fuel0 0 = fuel) (hfu : 0 ≤ fuel ∧ fuel ≤ 1152921504606846976) (K : Nat) (rE : XR) (hrun : runX baseFs [cm0, cm1] K (beginX baseFs inn fuel 0) = some rE) :
    Calls Try.prog 28 #[.agg #[.slice (some ⟨fb, 0, none⟩) 2 2, .int .i64 0], .slice inA inL inC, .int .i64 fuel0] W fun e w' => ∃ A c, e = .returned (.agg #[.slice A rE.events.length c, .int .i64 (endX' rE), .int .i64 (valX rE), .int .i64 (fuel - rE.left), .int .i64 0, .int .i64 0, .int .i64 0]) ∧ w'.ownsRow W.heap.size 2 1 (.slice A rE.events.length c) rE.events.length (intsV rE.events) ∧ Below W.heap.size W w' := by
  have row : ∀ A, Below w.heap.size w A → A.heap[fb]? = some (.cells (funRow [(baseM, v0), (baseF, v1)]).toArray 68 (0, 0)) ∧ funHas fb A [(baseM, v0), (baseF, v1)] := fun A hA => ⟨(hA.block fb hB.hi).trans hB.row, funHas_keep (hA.mono (Nat.le_of_lt hB.hi)) hB.has⟩
  have hrW := row W hW
  have hlt : fb < W.heap.size := gr_in hrW.1
  have hF : SFs W.heap.size W (.slice (some ⟨fb, 0, none⟩) 2 2) baseFs := SFs.of _ hrW.1 hlt (Nat.le_of_lt hlt) hrW.2
  exact run_c baseFs [cm0, cm1] 0 (some ⟨fb, 0, none⟩) 2 2 W hF rfl (by decide) (fun A hA => by
    have hrA := row A (hW.trans (hA.mono hW.size))
    exact (prog_base fb v0 v1 A hrA.1 hrA.2).mono fun e w' he => ⟨⟨0, he.1⟩, he.2⟩) rfl base_cm base_bd inn inA inL inC hi hil hic fuel0 fuel hmax hfu K rE hrun
set_option maxRecDepth 100000 in
set_option maxHeartbeats 8000000 in
/-- The run of no program. -/
theorem run_none (fuel : Int) (w : World) : Calls Try.prog 28 #[.agg #[.slice none 0 0, .int .i64 0], .slice none 0 0, .int .i64 fuel] w fun e w' => e = .returned (.agg #[.slice none 0 0, .int .i64 4, .int .i64 0, .int .i64 0, .int .i64 0, .int .i64 0, .int .i64 0]) ∧ Below w.heap.size w w' := by
  obtain ⟨W1, hW1, hbW1, hzW1, h0W1⟩ := gr_one w #[.slice none 0 0, .int .i64 0] 36
  obtain ⟨W2, hW2, hbW2, hzW2, h0W2⟩ := gr_one W1 #[.slice none 0 0, .int .i64 0, .int .i64 0, .int .i64 0, .int .i64 0, .int .i64 0, .int .i64 0] 50
  have hbw2 : Below w.heap.size w W2 := hbW1.trans (hbW2.mono hbW1.size)
  have hP := prog_no none 0 0 0 [] W2 ⟨none, 0, rfl, fun h => by simp at h⟩ rfl (by decide) (by unfold beginsP hasG; simp)
  have h1W2 : W2.heap[w.heap.size]? = some (.cells #[.slice none 0 0, .int .i64 0] 36 (0, 0)) := (hbW2.block _ (by omega)).trans h0W1
  have c0 := Lib.cell_of_heap h1W2 0
  have c1 := Lib.cell_of_heap h1W2 1
  rw [hzW1] at h0W2
  have HW1 := Lib.hid hW1
  have HW2 := Lib.hid hW2
  have H0 := Lib.hid h0W2
  have Hbw := Lib.hid hbw2
  clear hW1 hW2 hbW1 hbW2 hzW1 hzW2 h0W1 h0W2 h1W2 hbw2
  go_enter Try.func28, Try.ntmps28
  go_upto_region 1 with fail
  rw [← HW1.out, ← HW2.out]
  go_upto_region 3 with (go_at_call 46; refine hP.mono ?_; rintro e W3 ⟨rfl, hb3⟩; have Hb3 := Lib.hid hb3; clear hb3 hP)
  clear c0 c1
  have h0 : W3.heap[w.heap.size + 1]? = some (.cells #[.slice none 0 0, .int .i64 0, .int .i64 0, .int .i64 0, .int .i64 0, .int .i64 0, .int .i64 0] 50 (0, 0)) := (Hb3.out.block _ (gr_in H0.out)).trans H0.out
  have hbw3 : Below w.heap.size w W3 := Hbw.out.trans (Hb3.out.mono Hbw.out.size)
  have u0 := Lib.cell_of_heap h0 0
  have u1 := Lib.cell_of_heap h0 1
  have u2 := Lib.cell_of_heap h0 2
  have u3 := Lib.cell_of_heap h0 3
  have u4 := Lib.cell_of_heap h0 4
  have u5 := Lib.cell_of_heap h0 5
  have u6 := Lib.cell_of_heap h0 6
  have uf := Lib.frozen_of_heap h0
  obtain ⟨Z, hZ⟩ : ∃ Z, Z = (((((((W3.setCell ⟨w.heap.size + 1, 0, none⟩ (.slice none 0 0)).setCell ⟨w.heap.size + 1, 1, none⟩ (.int .i64 4)).setCell ⟨w.heap.size + 1, 2, none⟩ (.int .i64 0)).setCell ⟨w.heap.size + 1, 3, none⟩ (.int .i64 0)).setCell ⟨w.heap.size + 1, 4, none⟩ (.int .i64 0)).setCell ⟨w.heap.size + 1, 5, none⟩ (.int .i64 0)).setCell ⟨w.heap.size + 1, 6, none⟩ (.int .i64 0)) := ⟨_, rfl⟩
  have hqZ : Z.heap[w.heap.size + 1]? = some (.cells #[.slice none 0 0, .int .i64 4, .int .i64 0, .int .i64 0, .int .i64 0, .int .i64 0, .int .i64 0] 50 (0, 0)) := by
    rw [hZ]
    exact (gr_put (gr_put (gr_put (gr_put (gr_put (gr_put (gr_put h0 0 _) 1 _) 2 _) 3 _) 4 _) 5 _) 6 _)
  have hbZ : Below w.heap.size w Z := by
    rw [hZ]
    exact (((((((hbw3.setCell (p := ⟨w.heap.size + 1, 0, none⟩) (Nat.le_succ _) _).setCell (p := ⟨w.heap.size + 1, 1, none⟩) (Nat.le_succ _) _).setCell (p := ⟨w.heap.size + 1, 2, none⟩) (Nat.le_succ _) _).setCell (p := ⟨w.heap.size + 1, 3, none⟩) (Nat.le_succ _) _).setCell (p := ⟨w.heap.size + 1, 4, none⟩) (Nat.le_succ _) _).setCell (p := ⟨w.heap.size + 1, 5, none⟩) (Nat.le_succ _) _).setCell (p := ⟨w.heap.size + 1, 6, none⟩) (Nat.le_succ _) _)
  have HZ := Lib.hid hZ
  have HqZ := Lib.hid hqZ
  have HbZ := Lib.hid hbZ
  clear h0 hbw3 hZ hqZ hbZ
  go_wp2_with fail
  rw [← HZ.out]
  try simp only [Exit.inBlock, Exit.then]
  refine bodyPost_ret (results_cell_row rfl _ _ (w.heap.size + 1) _ _ _ _ rfl HqZ.out Try.underlying50 rfl (by kernel_rfl)) rfl ?_
  exact ⟨rfl, HbZ.out⟩
theorem run_A {w0 w : World} {fb bb : Nat} {v0 v1 : FV} (hB : BaseAt w0 w fb bb v0 v1) :
    Calls Try.prog 28 #[.agg #[.slice (some ⟨fb, 0, none⟩) 2 2, .int .i64 0], .slice (some ⟨w.heap.size, 0, none⟩) 1 1, .int .i64 1000] (w.alloc (.cells #[.int .i64 3] 2)) fun e w' => ∃ g c u, e = .returned (.agg #[.slice (some ⟨g, 0, none⟩) 1 c, .int .i64 1, .int .i64 (-3), .int .i64 u, .int .i64 0, .int .i64 0, .int .i64 0]) ∧ w'.cell? ⟨g, 0, none⟩ = some (.int .i64 3) ∧ Below w.heap.size w w' := by
  obtain ⟨W, hW, hbW, hzW, h0W⟩ := gr_one w #[.int .i64 3] 2
  rw [← hW]
  refine (run_base hB W hbW [3] (some ⟨w.heap.size, 0, none⟩) 1 1 (GNs.of [3] h0W (by omega)) rfl (by omega) 1000 1000 (by decide) (by decide) 47 rA rA_ok).mono ?_
  rintro e w' ⟨A, c, rfl, hown, hb⟩
  have hown : w'.ownsRow W.heap.size 2 1 (.slice A 1 c) 1 [.int .i64 3] := hown
  rcases id hown.2 with ⟨e, e0⟩ | ⟨g, cap, cur, e, -⟩
  · cases e0
  · injection e with e1 e2 e3
    subst e1
    exact ⟨g, c, _, rfl, hown.cellAt 0 (by decide), hbW.trans (hb.mono hbW.size)⟩
theorem run_B {w0 w : World} {fb bb : Nat} {v0 v1 : FV} (hB : BaseAt w0 w fb bb v0 v1) (fuel0 : Int) (hf : max fuel0 0 = 0) :
    Calls Try.prog 28 #[.agg #[.slice (some ⟨fb, 0, none⟩) 2 2, .int .i64 0], .slice none 0 0, .int .i64 fuel0] w fun e w' => ∃ A c, e = .returned (.agg #[.slice A 0 c, .int .i64 0, .int .i64 0, .int .i64 0, .int .i64 0, .int .i64 0, .int .i64 0]) ∧ Below w.heap.size w w' := by
  refine (run_base hB w (Below.refl _ _) [] none 0 0 (GNs.nil _ _) rfl (by omega) fuel0 0 hf (by decide) 1 rB rB_ok).mono ?_
  rintro e w' ⟨A, c, rfl, hown, hb⟩
  exact ⟨A, c, rfl, hb⟩
set_option maxRecDepth 100000 in
set_option maxHeartbeats 8000000 in
theorem awake11_any (w : World) : Calls Try.prog 30 #[] w fun e w' => e = .returned (.bool true) ∧ Below w.heap.size w w' := by
  have hB := base_any w
  go_enter Try.func30, Try.ntmps30
  go_upto_region 2 with (first
    | (go_at_call 29; refine hB.mono ?_; rintro e w1 ⟨fb, bb, v0, v1, rfl, hb⟩; have hR := run_A hb; have Hb := Lib.hid hb.below; clear hb hB)
    | (go_at_call 28; refine hR.mono ?_; rintro e w2 ⟨g, c, u, rfl, hg, hb2⟩; have Hb2 := Lib.hid (Hb.out.trans (hb2.mono Hb.out.size)); clear hb2 hR))
  obtain ⟨X, hX, hbX, hzX, h0X⟩ := gr_one w2 #[.slice (some ⟨g, 0, none⟩) 1 c, .int .i64 1, .int .i64 (-3), .int .i64 u, .int .i64 0, .int .i64 0, .int .i64 0] 50
  have y0 := Lib.cell_of_heap h0X 0
  have y1 := Lib.cell_of_heap h0X 1
  have y2 := Lib.cell_of_heap h0X 2
  have yg : X.cell? ⟨g, 0, none⟩ = some (.int .i64 3) := (hbX.cell (p := ⟨g, 0, none⟩) (gr_clt (a := ⟨g, 0, none⟩) hg)).trans hg
  have Hb3 := Lib.hid (Hb2.out.trans (hbX.mono Hb2.out.size))
  rw [← hX]
  clear hX hbX hzX h0X hg
  go_wp2_with fail
  go_ret
  exact ⟨rfl, Hb3.out⟩
set_option maxRecDepth 100000 in
set_option maxHeartbeats 8000000 in
theorem execNone_any (l : Int) (w : World) : Calls Try.prog 7 #[.int .i64 l] w fun e w' => e = .returned (.bool true) ∧ Below w.heap.size w w' := by
  have hB := base_any w
  obtain ⟨m, hm⟩ : ∃ m, min l 0 = m := ⟨_, rfl⟩
  have hm0 : max m 0 = 0 := by omega
  have Hm0 := Lib.hid hm0
  clear hm0
  go_enter Try.func7, Try.ntmps7
  go_upto_region 2 with (first
    | (go_at_call 29; refine hB.mono ?_; rintro e w1 ⟨fb, bb, v0, v1, rfl, hb⟩; have hR := run_B hb m Hm0.out; have Hb := Lib.hid hb.below; clear hb hB)
    | (go_at_call 28; first
      | (with_reducible refine hR.mono ?_; rintro e w2 ⟨A, c, rfl, hb2⟩; have hN := run_none l w2; have Hb2 := Lib.hid (Hb.out.trans (hb2.mono Hb.out.size)); clear hb2 hR)
      | (with_reducible refine hN.mono ?_; rintro e w3 ⟨rfl, hb3⟩; have Hb3 := Lib.hid (Hb2.out.trans (hb3.mono Hb2.out.size)); clear hb3 hN)))
  obtain ⟨X1, hX1, hbX1, hzX1, h0X1⟩ := gr_one w3 #[.slice A 0 c, .int .i64 0, .int .i64 0, .int .i64 0, .int .i64 0, .int .i64 0, .int .i64 0] 50
  obtain ⟨X, hX, hbX, hzX, h0X⟩ := gr_one X1 #[.slice none 0 0, .int .i64 4, .int .i64 0, .int .i64 0, .int .i64 0, .int .i64 0, .int .i64 0] 50
  rw [hzX1] at h0X
  have h1X := (hbX.block w3.heap.size (by omega)).trans h0X1
  have HbX := Lib.hid (Hb3.out.trans ((hbX1.trans (hbX.mono hbX1.size)).mono Hb3.out.size))
  have HC : Hid (∀ Y, Below X.heap.size X Y → Y.cell? ⟨w3.heap.size, 1, none⟩ = some (.int .i64 0) ∧ Y.cell? ⟨w3.heap.size, 3, none⟩ = some (.int .i64 0) ∧ Y.cell? ⟨w3.heap.size + 1, 1, none⟩ = some (.int .i64 4) ∧ Y.cell? ⟨w3.heap.size + 1, 0, none⟩ = some (.slice none 0 0)) := Lib.hid fun Y hY => by
    have e1 := (hY.block w3.heap.size (by omega)).trans h1X
    have e2 := (hY.block (w3.heap.size + 1) (by omega)).trans h0X
    exact ⟨Lib.cell_of_heap e1 1, Lib.cell_of_heap e1 3, Lib.cell_of_heap e2 1, Lib.cell_of_heap e2 0⟩
  have hAw := awake11_any X
  rw [← hX1, ← hX]
  clear hX1 hbX1 hzX1 h0X1 hX hbX hzX h0X h1X hm
  go_wp2_with (go_at_call 30; refine hAw.mono ?_; rintro e w4 ⟨rfl, hb4⟩; obtain ⟨y1, y2, y3, y4⟩ := HC.out w4 hb4; have Hb4 := Lib.hid (HbX.out.trans (hb4.mono HbX.out.size)); clear hb4 hAw)
  go_ret
  exact ⟨rfl, Hb4.out⟩
end Go.Proofs.Ytagagpappjkgbaa
