/-
  The laws GraphNone and GraphPlaces.
-/
import Derived.Test.YtidhelpibofbiaaGrY
namespace Go.Proofs.Ytidhelpibofbiaa
open Go.RowKit Go.Shelf
set_option linter.unusedVariables false
set_option linter.unusedSimpArgs false

theorem inG_wf {x : Int} (h : (Lit.int .i64 x).wf = true) : InG x := by
  unfold Lit.wf at h
  rw [Bool.and_eq_true] at h
  exact ⟨of_decide_eq_true h.1, of_decide_eq_true h.2⟩
theorem gbs_none (n0 : Nat) (w : World) : GBs n0 w (.slice none 0 0) [] := ⟨none, 0, rfl, by decide, (fun d hd => by cases hd), (fun h => absurd h (by decide))⟩
set_option maxRecDepth 100000 in
set_option maxHeartbeats 8000000 in
theorem graphNone_any (i : Int) (w : World) (hi : InG i) :
    Calls Try.prog 7 #[.int .i64 i] w fun e w' => e = .returned (.bool true) ∧ Below w.heap.size w w' := by
  obtain ⟨W, hW, hbW, hzW, h0W⟩ := gr_one w #[.string ⟨#[]⟩, .slice none 0 0, .int .i64 0, .slice none 0 0, .slice none 0 0] 27
  have hf : ∀ A : World, GF W.heap.size A (.agg #[.string ⟨#[]⟩, .slice none 0 0, .int .i64 0, .slice none 0 0, .slice none 0 0]) [] := fun A => ⟨⟨#[]⟩, none, 0, 0, 0, none, 0, 0, none, 0, 0, rfl, gbs_none _ _, rfl⟩
  have hA := awake8_any W
  have HW := Lib.hid hW
  have HbW := Lib.hid hbW
  have HzW := Lib.hid hzW
  have H0W := Lib.hid h0W
  have Hf := Lib.hid hf
  have Hin := Lib.hid hi
  clear hW hbW hzW h0W hf hi
  go_enter Try.func7, Try.ntmps7
  go_upto_region 2 with fail
  rw [← HW.out]
  go_wp2_with (first
    | (go_at_call 9; refine hA.mono ?_; rintro e w1 ⟨rfl, hb1⟩;
        have h01 := (hb1.block w.heap.size (gr_in H0W.out)).trans H0W.out;
        obtain ⟨x0, x1, x2, x3, x4, -⟩ := gr_five h01;
        have hP := post_g W.heap.size _ [] w1 (Hf.out w1) hb1.size;
        have Hb1 := Lib.hid hb1; clear hb1 h01 hA)
    | (go_at_call 11; refine hP.mono ?_; rintro e w2 ⟨v2, rfl, ho2, hb2⟩; obtain ⟨A2, c2, rfl⟩ := gr_slice ho2;
        have hb2W := Hb1.out.trans (hb2.mono Hb1.out.size);
        have h02 := (hb2W.block w.heap.size (gr_in H0W.out)).trans H0W.out;
        obtain ⟨x0, x1, x2, x3, x4, -⟩ := gr_five h02;
        have hO := order_g W.heap.size _ [] w2 (Hf.out w2) hb2W.size;
        have Hb2 := Lib.hid hb2W; clear ho2 hb2 hb2W h02 hP)
    | (go_at_call 13; refine hO.mono ?_; rintro e w3 ⟨v3, rfl, ho3, hb3⟩; obtain ⟨A3, c3, rfl⟩ := gr_slice ho3;
        have hb3W := Hb2.out.trans (hb3.mono Hb2.out.size);
        have h03 := (hb3W.block w.heap.size (gr_in H0W.out)).trans H0W.out;
        obtain ⟨x0, x1, x2, x3, x4, -⟩ := gr_five h03;
        have hR := rings_g W.heap.size _ [] w3 (Hf.out w3) hb3W.size (by decide);
        have Hb3 := Lib.hid hb3W; clear ho3 hb3 hb3W h03 hO)
    | (go_at_call 18; refine hR.mono ?_; rintro e w4 ⟨v4, rs, rfl, hgr, hrs, hb4⟩; obtain ⟨A4, c4, hv4⟩ := gr_slice hgr.1;
        have hrl : rs.length = 0 := (by have h := congrArg List.length hrs; rw [List.length_map] at h; exact h);
        rw [hrl] at hv4; subst hv4;
        have hb4W := Hb3.out.trans (hb4.mono Hb3.out.size);
        have h04 := (hb4W.block w.heap.size (gr_in H0W.out)).trans H0W.out;
        obtain ⟨x0, x1, x2, x3, x4, -⟩ := gr_five h04;
        have hE := reach_g W.heap.size _ [] i 0 w4 (Hf.out w4) hb4W.size Hin.out (by unfold InG; decide);
        have Hb4 := Lib.hid hb4W; clear hgr hrs hb4 hb4W h04 hrl hR)
    | (go_at_call 16; refine hE.mono ?_; rintro e w5 ⟨v5, rfl, ho5, hb5⟩; obtain ⟨A5, c5, rfl⟩ := gr_slice ho5;
        have Hb5 := Lib.hid (Hb4.out.trans (hb5.mono Hb4.out.size)); clear ho5 hb5 hE))
  go_ret
  exact ⟨rfl, HbW.out.trans (Hb5.out.mono (by have := HzW.out; omega))⟩
end Go.Proofs.Ytidhelpibofbiaa
