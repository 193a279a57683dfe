/-
  Programs that may be: the law's awake.
  SoundNone, whole.
-/
import Derived.Test.YtglobeajmdieaaaJe5
import Derived.Test.YtglobeajmdieaaaJe47
import Derived.Test.YtglobeajmdieaaaJe49
namespace Go.Proofs.Ytglobeajmdieaaa
set_option linter.unusedVariables false
set_option linter.unusedSimpArgs false
open Go.RowKit

def baseM3 : SF := ⟨baseM.params, baseM.ret, baseM.ins, baseM.blocks.take 3⟩
theorem fs2_params (f g : SF) (hf : f.params.length ≤ 1048576) (hg : g.params.length ≤ 1048576) : ∀ x ∈ [f, g], x.params.length ≤ 1048576 := fun x hx => by
  rcases List.mem_cons.1 hx with rfl | hx
  · exact hf
  · rcases List.mem_cons.1 hx with rfl | hx
    · exact hg
    · cases hx
theorem fs2_decl (f g : SF) (hf : declaredP f.params f.ret = true) (hg : declaredP g.params g.ret = true) : ∀ x ∈ [f, g], declaredP x.params x.ret = true := fun x hx => by
  rcases List.mem_cons.1 hx with rfl | hx
  · exact hf
  · rcases List.mem_cons.1 hx with rfl | hx
    · exact hg
    · cases hx
/-- The base may be. -/
theorem prog_base (fb : Nat) (v0 v1 : FV) (w : World) (hr : w.heap[fb]? = some (.cells (funRow [(baseM, v0), (baseF, v1)]).toArray 46 (0, 0))) (hh : funHas fb w [(baseM, v0), (baseF, v1)]) :
    Calls Try.prog 6 #[.agg #[.slice (some ⟨fb, 0, none⟩) 2 2, .int .i64 0]] w fun e w' => e = .returned (.tuple #[.int .i64 0, .int .i64 0]) ∧ Below w.heap.size w w' := by
  have hlt : fb < w.heap.size := gr_in hr
  have hF : SFs w.heap.size w (.slice (some ⟨fb, 0, none⟩) 2 2) baseFs := SFs.of _ hr hlt (Nat.le_of_lt hlt) hh
  refine prog_t (some ⟨fb, 0, none⟩) 2 2 0 baseFs [0, 0] w hF rfl (by decide) (fs2_params _ _ (by decide) (by decide)) (by decide) (fs2_decl _ _ (by decide) (by decide)) rfl ?_
  intro k a hk _ A hA
  have hFA : SFs w.heap.size A (.slice (some ⟨fb, 0, none⟩) 2 2) baseFs := hF.keep hA
  rcases k with _ | _ | k
  · injection hk with hk
    subst hk
    exact func_t w.heap.size _ 2 2 0 baseFs 0 baseM rfl _ _ _ _ A hA.size hFA rfl (by decide) baseM_ok
  · injection hk with hk
    subst hk
    exact func_t w.heap.size _ 2 2 0 baseFs 1 baseF rfl _ _ _ _ A hA.size hFA rfl (by decide) baseF_ok
  · cases hk
/-- Without its last block it may not. -/
theorem prog_cut (fb : Nat) (v0 v1 : FV) (w : World) (hr : w.heap[fb]? = some (.cells (funRow [(baseM3, v0), (baseF, v1)]).toArray 46 (0, 0))) (hh : funHas fb w [(baseM3, v0), (baseF, v1)]) :
    Calls Try.prog 6 #[.agg #[.slice (some ⟨fb, 0, none⟩) 2 2, .int .i64 0]] w fun e w' => e = .returned (.tuple #[.int .i64 1, .int .i64 0]) ∧ Below w.heap.size w w' := by
  have hlt : fb < w.heap.size := gr_in hr
  have hF : SFs w.heap.size w (.slice (some ⟨fb, 0, none⟩) 2 2) [baseM3, baseF] := SFs.of _ hr hlt (Nat.le_of_lt hlt) hh
  refine prog_t (some ⟨fb, 0, none⟩) 2 2 0 [baseM3, baseF] [1, 0] w hF rfl (by decide) (fs2_params _ _ (by decide) (by decide)) (by decide) (fs2_decl _ _ (by decide) (by decide)) rfl ?_
  intro k a hk hz A hA
  have hFA : SFs w.heap.size A (.slice (some ⟨fb, 0, none⟩) 2 2) [baseM3, baseF] := hF.keep hA
  rcases k with _ | k
  · injection hk with hk
    subst hk
    exact func_shape w.heap.size _ 2 2 0 [baseM3, baseF] 0 baseM3 rfl A hA.size hFA rfl (by decide) (by decide) (by decide) (by decide)
  · have := hz 0 (by omega)
    cases this
set_option maxRecDepth 100000 in
set_option maxHeartbeats 8000000 in
theorem awake10_any (w : World) : Calls Try.prog 7 #[] w fun e w' => e = .returned (.bool true) ∧ Below w.heap.size w w' := by
  have hB := base_any w
  go_enter Try.func7, Try.ntmps7
  go_upto_region 2 with (go_at_call 14; refine hB.mono ?_; rintro e w1 ⟨fb, bb, v0, v1, rfl, hb⟩; have Hb := Lib.hid hb; clear hb hB)
  obtain ⟨W, hW, hbW, hzW, h0W⟩ := gr_one w1 #[.slice (some ⟨fb, 0, none⟩) 2 2, .int .i64 0] 26
  rw [← hW]
  have hlo := Hb.out.lo
  have hhi := Hb.out.hi
  have HK : Hid (∀ A, Below W.heap.size W A → A.cell? ⟨w1.heap.size, 0, none⟩ = some (.slice (some ⟨fb, 0, none⟩) 2 2) ∧ A.cell? ⟨w1.heap.size, 1, none⟩ = some (.int .i64 0) ∧ A.heap[fb]? = some (.cells (funRow [(baseM, v0), (baseF, v1)]).toArray 46 (0, 0)) ∧ funHas fb A [(baseM, v0), (baseF, v1)] ∧ Below w.heap.size w A ∧ A.heap[w1.heap.size]? = some (.cells #[.slice (some ⟨fb, 0, none⟩) 2 2, .int .i64 0] 26 (0, 0))) := Lib.hid fun A hA => by
    have e := (hA.block w1.heap.size (by omega)).trans h0W
    have b1 : Below w1.heap.size w1 A := hbW.trans (hA.mono hbW.size)
    exact ⟨Lib.cell_of_heap e 0, Lib.cell_of_heap e 1, (b1.block fb hhi).trans Hb.out.row, funHas_keep (b1.mono (Nat.le_of_lt hhi)) Hb.out.has, Hb.out.below.trans (b1.mono (by omega)), e⟩
  obtain ⟨u0, u1, hr, hh, hWw, -⟩ := HK.out W (Below.refl _ _)
  have hP := prog_base fb v0 v1 W hr hh
  have Hhi := Lib.hid hhi
  have Hlo := Lib.hid hlo
  clear hr hh hWw hlo hhi hW hbW hzW h0W
  go_upto_region 3 with (go_at_call 6; refine hP.mono ?_; rintro e X ⟨rfl, hbX⟩; have HbX := Lib.hid hbX; clear hbX hP)
  clear u0 u1
  obtain ⟨D, hD⟩ : ∃ D, D = X.drew := ⟨_, rfl⟩
  obtain ⟨u0, u1, hr, hh, hDw, hq⟩ := HK.out X.drew HbX.out.drew
  have c4 : X.drew.cell? ⟨fb, 4, none⟩ = some (.slice (some ⟨bb, 0, none⟩) 4 4) := by
    rw [Lib.cell_of_heap hr 4, ← Hb.out.blk]
    rfl
  have f4 : X.drew.frozen? ⟨fb, 4, none⟩ = false := Lib.frozen_of_heap hr 4
  obtain ⟨Y, hY⟩ : ∃ Y, Y = X.drew.setCell ⟨fb, 4, none⟩ (.slice (some ⟨bb, 0, none⟩) 3 4) := ⟨_, rfl⟩
  have hrY : Y.heap[fb]? = some (.cells (funRow [(baseM3, ⟨v0.s, v0.p, v0.i, .slice (some ⟨bb, 0, none⟩) 3 4⟩), (baseF, v1)]).toArray 46 (0, 0)) := by
    rw [hY, gr_put hr 4 _]
    rfl
  have bY : Below fb X.drew Y := by rw [hY]; exact (Below.refl _ _).setCell (p := ⟨fb, 4, none⟩) (Nat.le_refl _) _
  have hhY : funHas fb Y [(baseM3, ⟨v0.s, v0.p, v0.i, .slice (some ⟨bb, 0, none⟩) 3 4⟩), (baseF, v1)] := by
    have h := funHas_keep bY hh
    have hb : SBs fb Y (.slice (some ⟨bb, 0, none⟩) 3 4) baseM3.blocks := SBs.take (n := 4) (l := baseM.blocks) 3 (Hb.out.blk ▸ h.1.2.2) (by decide)
    exact ⟨⟨h.1.1, h.1.2.1, hb⟩, h.2⟩
  have hYw : Below w.heap.size w Y := hDw.trans (bY.mono Hlo.out)
  have hne : w1.heap.size ≠ fb := by have := Hhi.out; omega
  have y0 : Y.cell? ⟨w1.heap.size, 0, none⟩ = some (.slice (some ⟨fb, 0, none⟩) 2 2) := by rw [hY]; exact (World.cell?_setCell_other _ _ _ _ (fun e => hne (congrArg Addr.block e).symm)).trans u0
  have y1 : Y.cell? ⟨w1.heap.size, 1, none⟩ = some (.int .i64 0) := by rw [hY]; exact (World.cell?_setCell_other _ _ _ _ (fun e => hne (congrArg Addr.block e).symm)).trans u1
  have hP := prog_cut fb _ v1 Y hrY hhY
  have hY' : Y = (X.setCell ⟨fb, 4, none⟩ (.slice (some ⟨bb, 0, none⟩) 3 4)).drew := hY.trans rfl
  have HY := Lib.hid hY'
  have HYw := Lib.hid hYw
  clear hD D hr hh hDw hq hY hY' hrY bY hhY hYw hne
  go_still_tail 10, (by kernel_rfl)
  change wpList _ _ _ _ _ X.drew
  go_upto_region 4 with fail
  rw [← HY.out]
  clear u0 u1 c4 f4
  go_wp2_with (go_at_call 6; refine hP.mono ?_; rintro e V ⟨rfl, hbV⟩; have HbV := Lib.hid (HYw.out.trans (hbV.mono HYw.out.size)); clear hbV hP)
  go_ret
  exact ⟨rfl, HbV.out⟩
end Go.Proofs.Ytglobeajmdieaaa
namespace Go.Proofs.Ytglobeajmdieaaa
set_option linter.unusedVariables false
set_option linter.unusedSimpArgs false
open Go.RowKit

set_option maxRecDepth 100000 in
set_option maxHeartbeats 8000000 in
theorem soundNone_any (n : Int) (w : World) : Calls Try.prog 3 #[.int .i64 n] w fun e w' => e = .returned (.bool true) ∧ Below w.heap.size w w' := by
  have hP := prog_no none 0 0 n [] w ⟨none, 0, rfl, fun h => by simp at h⟩ rfl (by decide) (by unfold beginsP hasG; simp; intro h1 h2; omega)
  go_enter Try.func3, Try.ntmps3
  go_upto_region 2 with (go_at_call 6; refine hP.mono ?_; rintro e w1 ⟨rfl, hb1⟩; have Hb1 := Lib.hid hb1; clear hb1 hP)
  have hA := awake10_any w1
  have hF : ∀ A : World, Calls Try.prog 8 #[.agg #[.slice none 0 0, .int .i64 0], .int .i64 n] A fun e w' => e = .returned (.int .i64 8) ∧ Below A.heap.size A w' := fun A => func_no none 0 0 0 n A (by unfold hasG; simp; try omega)
  have HF := Lib.hid hF
  clear hF
  go_wp2_with (first
    | (go_at_call 7; refine hA.mono ?_; rintro e w2 ⟨rfl, hb2⟩; have hF2 := HF.out w2; have Hb2 := Lib.hid (Hb1.out.trans (hb2.mono Hb1.out.size)); clear hb2 hA)
    | (go_at_call 8; refine hF2.mono ?_; rintro e w3 ⟨rfl, hb3⟩; have Hb3 := Lib.hid (Hb2.out.trans (hb3.mono Hb2.out.size)); clear hb3 hF2))
  go_ret
  exact ⟨rfl, Hb3.out⟩
end Go.Proofs.Ytglobeajmdieaaa
