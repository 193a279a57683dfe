/-
  The law's awake: a loop.
-/
import Derived.Test.YtlejpoofgnenhaaGrX
namespace Go.Proofs.Ytlejpoofgnenhaa
open Go.RowKit Go.Shelf
set_option linter.unusedVariables false
set_option linter.unusedSimpArgs false

def loopL : List (Int × Int) := [(1, 1), (1, 2), (-1, 0)]
theorem loop_order : orderP (graphP loopL true) = [0, 1, 2] := by kernel_rfl
theorem loop_rings : (ringsP (graphP loopL true)).length = 3 := by kernel_rfl
theorem loop_edges : (edgesOf (graphP loopL true) (orderP (graphP loopL true))).length = 3 := by kernel_rfl

theorem three_ints (w : World) : ∃ Z, Z = w.alloc (.cells #[.int .i64 0, .int .i64 1, .int .i64 2] 3) ∧ Below w.heap.size w Z ∧ Z.heap.size = w.heap.size + 1 ∧ GNs Z.heap.size Z (.slice (some ⟨w.heap.size, 0, none⟩) 3 3) [0, 1, 2] := by
  obtain ⟨Z, hZ, hbZ, hzZ, h0Z⟩ := gr_one w #[.int .i64 0, .int .i64 1, .int .i64 2] 3
  refine ⟨Z, hZ, hbZ, hzZ, ⟨_, 3, rfl, fun _ => ⟨w.heap.size, 0, rfl, by omega, fun j x hx => ?_⟩⟩⟩
  rcases j with _ | _ | _ | j
  · injection hx with hx; subst hx; exact Lib.cell_of_heap h0Z 0
  · injection hx with hx; subst hx; exact Lib.cell_of_heap h0Z 1
  · injection hx with hx; subst hx; exact Lib.cell_of_heap h0Z 2
  · cases hx

set_option maxRecDepth 100000 in
set_option maxHeartbeats 8000000 in
theorem awake8_any (w : World) :
    Calls Try.prog 12 #[] w fun e w' => e = .returned (.bool true) ∧ Below w.heap.size w w' := by
  obtain ⟨W, hW, hbW, hzW, h0W⟩ := gr_one w #[.int .i64 1, .int .i64 1, .int .i64 1, .int .i64 2, .int .i64 (-1), .int .i64 0] 51
  have hv : GPr W.heap.size W (.slice (some ⟨w.heap.size, 0, none⟩) 3 3) loopL := by
    refine ⟨_, 3, rfl, fun _ => ⟨w.heap.size, 0, rfl, by omega, fun j x hx => ?_⟩⟩
    rcases j with _ | _ | _ | j
    · injection hx with hx; subst hx; exact ⟨Lib.cell_of_heap h0W 0, Lib.cell_of_heap h0W 1⟩
    · injection hx with hx; subst hx; exact ⟨Lib.cell_of_heap h0W 2, Lib.cell_of_heap h0W 3⟩
    · injection hx with hx; subst hx; exact ⟨Lib.cell_of_heap h0W 4, Lib.cell_of_heap h0W 5⟩
    · cases hx
  have hGr := graph_true W.heap.size _ loopL W hv (Nat.le_refl _) (by decide) (by unfold loopL InG; decide)
  have HW := Lib.hid hW
  have HbW := Lib.hid hbW
  clear hW hbW hzW h0W hv
  go_enter Try.func12, Try.ntmps12
  go_wp2_with (first
    | (go_at_call 10; rw [← HW.out]; refine hGr.mono ?_; rintro e w1 ⟨f, rfl, hf1, hb1⟩; obtain ⟨s, pA, pn, pc, r, iA, in_, ic, bA, bn, bc, rfl, hG1, hbn1⟩ := id hf1;
        obtain ⟨Y, hY, hbY, hzY, h0Y⟩ := gr_one w1 #[.string s, .slice pA pn pc, .int .i64 r, .slice iA in_ ic, .slice bA bn bc] 27;
        have hfr : ∀ A : World, Below w1.heap.size w1 A → GF w1.heap.size A (.agg #[.string s, .slice pA pn pc, .int .i64 r, .slice iA in_ ic, .slice bA bn bc]) (graphP loopL true) := (fun A hA => ⟨s, pA, pn, pc, r, iA, in_, ic, bA, bn, bc, rfl, hG1.keep hA, hbn1⟩);
        have hO := order_g w1.heap.size _ (graphP loopL true) Y (hfr Y hbY) (by omega);
        rw [loop_order] at hO;
        have Hfr := Lib.hid hfr; have HY := Lib.hid hY; have HbY := Lib.hid hbY; have HzY := Lib.hid hzY; have H0Y := Lib.hid h0Y; have Hb1 := Lib.hid hb1; clear hf1 hb1 hGr hG1 hbn1 hfr hY hbY hzY h0Y))
  have hY2 := HY.out
  go_upto_region 2 with fail
  rw [← HY.out]
  clear hY2
  obtain ⟨x0, x1, x2, x3, x4, -⟩ := gr_five H0Y.out
  go_wp2_with (first
    | (go_at_call 26; refine hO.mono ?_; rintro e w2 ⟨v2, rfl, ho2, hb2⟩;
        obtain ⟨OA, oc, rfl⟩ := gr_slice ho2;
        obtain ⟨Z, hZ, hbZ, hzZ, hn2⟩ := three_ints w2;
        have hn1 : GNs w2.heap.size w2 (.slice OA ([0, 1, 2] : List Nat).length oc) [0, 1, 2] := (GNs.of_own (l := [0, 1, 2]) ho2);
        have hI := ints_g Z.heap.size _ _ [0, 1, 2] [0, 1, 2] Z ((hn1.keep hbZ).mono (by omega)) hn2 (by decide) (by decide) (Nat.le_refl _);
        rw [decide_eq_true rfl] at hI;
        have Hb2 := Lib.hid (hb2.trans (hbZ.mono hb2.size)); have HZ := Lib.hid hZ; clear ho2 hb2 hZ hbZ hzZ hn1 hn2 hO)
    | (go_at_call 21; rw [← HZ.out]; refine hI.mono ?_; rintro e w3 ⟨rfl, hb3⟩;
        have hb3Y : Below Y.heap.size Y w3 := (Hb2.out.trans (hb3.mono Hb2.out.size));
        have h03 := (hb3Y.block w1.heap.size (gr_in H0Y.out)).trans H0Y.out;
        obtain ⟨x0, x1, x2, x3, x4, -⟩ := gr_five h03;
        have hRg := rings_g w1.heap.size _ (graphP loopL true) w3 (Hfr.out w3 (HbY.out.trans (hb3Y.mono (by have := HzY.out; omega)))) (by have := hb3Y.size; have := HzY.out; omega) (by rw [loop_edges]; decide);
        have Hb3Y := Lib.hid hb3Y; clear hb3 hb3Y h03 hI)
    | (go_at_call 11; refine hRg.mono ?_; rintro e w4 ⟨v4, rs, rfl, hgr, hrs, hb4⟩;
        obtain ⟨RA, rc, hv4⟩ := gr_slice hgr.1;
        have hrl : rs.length = 3 := (by have := congrArg List.length hrs; rw [List.length_map, loop_rings] at this; exact this);
        rw [hrl] at hv4; subst hv4;
        have Hb4 := Lib.hid hb4; clear hgr hrs hb4 hrl hRg))
  go_ret
  refine ⟨rfl, HbW.out.trans ((Hb1.out.trans ((HbY.out.trans ((Hb3Y.out.trans (Hb4.out.mono Hb3Y.out.size)).mono (by have := HzY.out; omega))).mono Hb1.out.size)).mono HbW.out.size)⟩
end Go.Proofs.Ytlejpoofgnenhaa
