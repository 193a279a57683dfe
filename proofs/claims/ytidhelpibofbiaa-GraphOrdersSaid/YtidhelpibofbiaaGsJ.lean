/-
  The reference's Post.
-/
import Derived.Test.YtidhelpibofbiaaGsH
import Derived.Test.YtidhelpibofbiaaGsI
namespace Go.Proofs.Ytidhelpibofbiaa
open Go.RowKit
set_option linter.unusedVariables false
set_option linter.unusedSimpArgs false

theorem makeB (n : Nat) (hn : n ≤ 1048576) (W : World) : (Instr.makeSlice 35 (.int .i64 (n : Int)) (.int .i64 (n : Int))).run Try.prog W = .ok (.slice (some ⟨W.heap.size, 0, none⟩) n n) (W.alloc (.cells (boolsV (List.replicate n false)).toArray 4)) := by
  obtain ⟨i0, hi0, hz0, hz1, hz2⟩ := info_parts infoBoolG
  have h := run_make (w := W) (P := Try.prog) 35 4 i0 (.bool false) Try.underlying35 hi0 hz0 .i64 .i64 (n : Int) (n : Int) (by omega) (by omega) (by rw [hz2]; omega) (by omega)
  rw [h, Int.toNat_natCast, hz1, Nat.mul_one, ← madeBool n, Array.toArray_toList]
  rfl

set_option maxRecDepth 100000 in
set_option maxHeartbeats 16000000 in
theorem rpost_g (n0 : Nat) (f : Value) (g : List GB) (w : World) (hf : GF n0 w f g) (hn : n0 ≤ w.heap.size) :
    Calls Try.prog 12 #[f] w fun e w' => ∃ v, e = .returned v ∧ w'.ownsRow w.heap.size 3 1 v (postP g).length (natsV (postP g)) ∧ Below w.heap.size w w' := by
  obtain ⟨s, pA, pn, pc, r, iA, in_, ic, bA, bn, bc, rfl, hG, hbn⟩ := hf
  obtain ⟨W, hW, hbW, hzW, h0W⟩ := gr_one w #[.string s, .slice pA pn pc, .int .i64 r, .slice iA in_ ic, .slice bA bn bc] 27
  obtain ⟨x0, x1, x2, x3, x4, -⟩ := gr_five h0W
  have hlen : bn ≤ 1048576 := by rw [hbn]; obtain ⟨_, _, _, h, _⟩ := hG; exact h
  have hfr : ∀ A : World, Below w.heap.size w A → GF n0 A (.agg #[.string s, .slice pA pn pc, .int .i64 r, .slice iA in_ ic, .slice bA bn bc]) g := fun A hA => ⟨s, pA, pn, pc, r, iA, in_, ic, bA, bn, bc, rfl, hG.keep (hA.mono hn), hbn⟩
  have hH := valid_g n0 _ g W (hfr W hbW) (by omega)
  have Hfr := Lib.hid hfr
  have Hbn := Lib.hid hbn
  have HbW := Lib.hid hbW
  have HW := Lib.hid hW
  have HzW := Lib.hid hzW
  have H0W := Lib.hid h0W
  clear hbW hW hG hbn hzW h0W hfr
  cases hq : wholeG g with
  | false =>
    rw [hq] at hH
    have hnil : postP g = [] := by unfold postP; rw [hq]; rfl
    go_enter Try.func12, Try.ntmps12
    go_upto_region 1 with fail
    rw [← HW.out]
    go_wp2_with (go_at_call 20; refine hH.mono ?_; rintro e w1 ⟨rfl, h1⟩; have H1 := Lib.hid h1; clear h1 hH)
    go_ret
    refine ⟨_, rfl, ?_, HbW.out.trans (H1.out.mono (by rw [HzW.out]; omega))⟩
    rw [hnil]
    exact World.ownsRow_nil _ _ _ _
  | true =>
    rw [hq] at hH
    obtain ⟨s', hwalk, -⟩ := postP_run hq
    obtain ⟨hpos, -⟩ := wholeG_all hq
    have htos := tosOk_of hq
    have hgl : g.length ≤ 1048576 := by rw [← Hbn.out]; exact hlen
    have hWk : ∀ (Z : World) (sb : Nat), w.heap.size ≤ sb → Below w.heap.size w Z → Z.heap[sb]? = some (.cells (boolsV (List.replicate bn false)).toArray 4 (0, 0)) → Calls Try.prog 21 #[.agg #[.string s, .slice pA pn pc, .int .i64 r, .slice iA in_ ic, .slice bA bn bc], .int .i64 0, .slice (some ⟨sb, 0, none⟩) bn bn, .slice none 0 0] Z fun e w' => ∃ v, e = .returned v ∧ w'.ownsRow w.heap.size 3 1 v (postP g).length (natsV (postP g)) ∧ Below w.heap.size w w' := fun Z sb hsb hZ h0Z => by
      have hZs := hZ.size
      have hl := gr_in h0Z
      have h := walkr_g n0 sb sb bn g htos hgl Hbn.out (by omega) (by omega) g.length 0 (List.replicate g.length false) [] s' (postP g) _ (.slice none 0 0) Z hwalk (Hfr.out Z hZ) (by omega) (by omega) (World.ownsRow_nil _ _ _ _) (by rw [← Hbn.out]; exact h0Z) (by simp) (by simp [Value.ownBlock]) hpos (by simp [List.getD, hpos]) (by simp [unseen]; omega)
      refine h.mono ?_
      rintro e w' ⟨v, rfl, hS⟩
      have hk : Below w.heap.size Z w' := hS.kept.below (by omega) (fun x e => by simp [Value.ownBlock] at e) (by omega)
      exact ⟨v, rfl, gr_mono hS.own hsb, hZ.trans hk⟩
    have hmk := makeB bn hlen
    have HWk := Lib.hid hWk
    clear hwalk hpos htos hgl hWk hq
    go_enter Try.func12, Try.ntmps12
    go_upto_region 1 with fail
    rw [← HW.out]
    go_upto_region 3 with (go_at_call 20; refine hH.mono ?_; rintro e w1 ⟨rfl, h1⟩; have H1 := Lib.hid (HbW.out.trans (h1.mono (by rw [HzW.out]; omega))); have h01 := Lib.hid ((h1.block w.heap.size (gr_in H0W.out)).trans H0W.out); clear h1 hH)
    clear x0 x1 x2 x3 x4
    obtain ⟨x0, x1, x2, x3, x4, -⟩ := gr_five h01.out
    obtain ⟨Z, hZ, hbZ, hzZ, h0Z⟩ := gr_one w1 (boolsV (List.replicate bn false)).toArray 4
    have hwZ := H1.out.trans (hbZ.mono H1.out.size)
    rw [hZ] at hwZ h0Z
    have hcall := HWk.out _ w1.heap.size H1.out.size hwZ.drew h0Z
    have h0f := (hbZ.block w.heap.size (gr_in h01.out)).trans h01.out
    rw [hZ] at h0f
    obtain ⟨y0, y1, y2, y3, y4, -⟩ := gr_five h0f
    clear hZ hbZ hzZ h0Z hwZ h0f
    go_region_with (go_at_call 21; refine hcall.mono ?_; rintro e w4 ⟨v4, rfl, ho4, hb4⟩; have Ho4 := Lib.hid ho4; have Hb4 := Lib.hid hb4; clear ho4 hb4 hcall)
    all_goals
      go_wp2
      go_ret
      exact ⟨_, rfl, Ho4.out, Hb4.out⟩
end Go.Proofs.Ytidhelpibofbiaa
