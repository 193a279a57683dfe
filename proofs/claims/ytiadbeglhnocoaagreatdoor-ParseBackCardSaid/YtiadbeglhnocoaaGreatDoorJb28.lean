/-
  A statement.
-/
import Derived.Test.YtiadbeglhnocoaaGreatDoorJb27
namespace Go.Proofs.YtiadbeglhnocoaaGreatDoor
set_option linter.unusedVariables false
set_option linter.unusedSimpArgs false
open Go.RowKit

set_option maxRecDepth 100000 in
set_option maxHeartbeats 2000000 in
/-- One statement less around, as it is put off. -/
theorem down_d (g b : Nat) (s : PS) (u : FrameMode) (w : World) (h : PAt w g s) (hb : w.cell? ⟨b, 0, none⟩ = some (.pointer (some ⟨g, 0, none⟩))) (h1 : -4611686018427387904 ≤ s.deep) (h2 : s.deep ≤ 4611686018427387904) :
    CallsD Tryz.prog 72 #[.pointer (some ⟨b, 0, none⟩)] u w fun e u' w' => u' = u ∧ Mv g w s.up e w' := by
  have hgl := h.lt
  obtain ⟨A, cap, x0, x1, x2, x3, x4, xf, hcap, hmax, hr⟩ := h.five
  have H := Lib.hid (h.set3 (s.deep - 1))
  have hl : s.up = { s with deep := s.deep - 1 } := rfl
  rw [hl]
  clear hr h hl
  go_enter_d Tryz.func72, Tryz.ntmps72
  go_wp2
  go_end0
  exact ⟨rfl, H.out, (But.refl g w).setCell (Or.inl rfl) _⟩
set_option maxRecDepth 100000 in
set_option maxHeartbeats 8000000 in
theorem st_choice_in (k : Nat) (HS : SmC (fun s a => choiceK k a s) k 73) (g : Nat) (s : PS) (x : St) (s6 : PS) (w : World) (hx : choiceK k s.now.at_ s.down = some (x, s6)) (hok : Ok (k + 1) s) (h : PAt w g s) (hc : ¬ s.deep + 1 > 256) (hf_choice : s.down.isB ([105, 102] : List UInt8) = true) :
    Calls Tryz.prog 62 #[.pointer (some ⟨g, 0, none⟩)] w (StP g w.heap.size w (x, (s6).up)) := by
  have hgl := h.lt
  obtain ⟨W, hW, hbW, hzW, hbX, hbR⟩ := two_al w #[.pointer (some ⟨g, 0, none⟩)] #[.int .i64 0, .int .i64 0, .int .i64 0, .string ⟨#[]⟩, .int .i64 0, .slice none 0 0, .slice none 0 0, .slice none 0 0] 59 77
  have hPW := h.keep hbW
  obtain ⟨_, _, _, _, _, x3, _, xf, _⟩ := hPW.five
  have c0 : W.cell? ⟨w.heap.size, 0, none⟩ = some (.pointer (some ⟨g, 0, none⟩)) := Lib.cell_of_heap hbX 0
  have HPW := Lib.hid hPW
  have HbW := Lib.hid hbW
  have HbX := Lib.hid hbX
  have HbR := Lib.hid hbR
  have hokd : Ok k s.down := by
    have h1 := down_deep s
    unfold Ok at hok ⊢
    rw [h1.1, h1.2]
    omega
  have hX := fun q w' (hp : PAt w' g s.down) (h1 : g < q) (h2 : w'.heap[q]? = some (.cells (st0 s.now.at_) 77 (0, 0))) => HS g q s.now.at_ s.down (x, s6) w' hx hokd hp h1 h2
  have hev : Even s.down s6 := (pureS_all k).choice _ _ _ hx
  have Hdp := Lib.hid (show -4611686018427387904 ≤ (s6).deep ∧ (s6).deep ≤ 4611686018427387904 from by
    have h1 := (even_need1 s6 ([59] : List UInt8)).2
    have h2 := hev.2
    have h3 := (down_deep s).2
    unfold Ok at hok
    first | (rw [h1]; omega) | omega)
  have hd0 : 0 ≤ s.deep := hok.2.2.2.1
  have hd1 : s.deep ≤ 1099511627776 := by have := hok.2.2.2.2; omega
  have hmf : ∀ (fn : Fn) (first cap : Array Value) (w : World), (Instr.makeFunc fn first cap).run Tryz.prog w = .ok (.func fn first cap) w := fun _ _ _ _ => rfl
  obtain ⟨sD, hsD⟩ : ∃ sD : PS, sD = { s with deep := s.deep + 1 } := ⟨_, rfl⟩
  have hnD : sD.now = s.now := by rw [hsD]; rfl
  have hdn : s.down = sD := by unfold PS.down; rw [if_neg hc, hsD]
  have hdb : decide (256 < s.deep + 1) = false := by simp; omega
  have hN := fun w' (hp : PAt w' g sD) => now_any g sD w' hp
  rw [hnD] at hN
  have hNx := fun w' (hp : PAt w' g s.down) => now_any g s.down w' hp
  obtain ⟨t, hnow⟩ : ∃ t, t = s.now := ⟨_, rfl⟩
  obtain ⟨t', hnow'⟩ : ∃ t', t' = s.down.now := ⟨_, rfl⟩
  unfold PS.isB at hf_choice
  rw [← hnow'] at hNx hf_choice
  rw [← hnow] at hN hX
  obtain ⟨sx, hsx⟩ : ∃ sx, sx = s.down := ⟨_, rfl⟩
  rw [← hsx] at hNx hX hdn
  obtain ⟨tk, ta, tn, tb⟩ := t
  obtain ⟨tk', ta', tn', tb'⟩ := t'
  unfold tkV at hN hNx
  unfold st0 at hX
  simp only at hN hNx hX hf_choice
  have f1 := tok_f1 tk ta tn ⟨tb.toArray⟩
  have f3 := tok_f3 tk' ta' tn' ⟨tb'.toArray⟩
  rw [hdn] at hNx hX; clear hdn
  have HsD := Lib.hid hsD
  clear hsD
  clear hx hok h hbW hbX hbR hPW hev hnow hnow' hsx hokd hc hnD HS
  go_enter_defers Tryz.func62, Tryz.ntmps62
  go_upto_region 1 with fail
  rw [← hW]
  clear hW
  go_upto_region 2 with fail
  obtain ⟨w1, hw1⟩ : ∃ w1, w1 = W.setCell ⟨g, 3, none⟩ (.int .i64 (s.deep + 1)) := ⟨_, rfl⟩
  rw [← hw1]
  have hb1 : But g W w1 := by rw [hw1]; exact (But.refl g W).setCell (Or.inl rfl) _
  have hp1 : PAt w1 g sD := by rw [hw1, HsD.out]; exact HPW.out.set3 (s.deep + 1)
  have hx1 := (hb1.block w.heap.size (by omega) (by omega)).trans HbX.out
  have hr1 := (hb1.block (w.heap.size + 1) (by omega) (by omega)).trans HbR.out
  have c1 : w1.cell? ⟨w.heap.size, 0, none⟩ = some (.pointer (some ⟨g, 0, none⟩)) := Lib.cell_of_heap hx1 0
  have Hb1 := Lib.hid ((But.of_below (g := g) HbW.out).trans hb1)
  have Hp1 := Lib.hid hp1
  have Hx1 := Lib.hid hx1
  have Hr1 := Lib.hid hr1
  clear hw1 hb1 hp1 hx1 hr1 x3 xf c0
  have hN1 := hN w1 Hp1.out
  go_upto_region 4 with (go_at_call 18; refine hN1.mono ?_; rintro e w2 ⟨rfl, hb⟩; have hb2 := hb; have HB2 := Lib.hid hb2; have hz2 : w.heap.size + 1 < w2.heap.size := (by have := heap_lt Hr1.out; have := hb.size; omega); clear hb hb2 hN1)
  obtain ⟨w3, hw3, hb3, hz3, hq3⟩ := one_al w2 #[.int .i64 0, .int .i64 ta, .int .i64 0, .string ⟨#[]⟩, .int .i64 0, .slice none 0 0, .slice none 0 0, .slice none 0 0] 77
  rw [← hw3]
  have hb13 := HB2.out.trans (hb3.mono HB2.out.size)
  have hp3 := Hp1.out.keep hb13
  have hx3 := (hb13.block w.heap.size (heap_lt Hx1.out)).trans Hx1.out
  have hr3 := (hb13.block (w.heap.size + 1) (heap_lt Hr1.out)).trans Hr1.out
  have c3 : w3.cell? ⟨w.heap.size, 0, none⟩ = some (.pointer (some ⟨g, 0, none⟩)) := Lib.cell_of_heap hx3 0
  obtain ⟨A, cap, _, _, _, y3, _, yf, _⟩ := hp3.five
  replace y3 : w3.cell? ⟨g, 3, none⟩ = some (.int .i64 (s.deep + 1)) := by rw [y3, HsD.out]
  obtain ⟨q, hq⟩ : ∃ q, q = w2.heap.size := ⟨_, rfl⟩
  rw [← hq] at hq3 hz3 ⊢
  have hgq : g < q := by omega
  have hbq : w.heap.size + 1 < q := by omega
  obtain ⟨q0, q1, q2, q3, q4, q5, q6, q7, qf⟩ := cells8 hq3
  have Hb3 := Lib.hid (Hb1.out.trans (But.of_below hb13))
  have Hp3 := Lib.hid hp3
  have Hx3 := Lib.hid hx3
  have Hr3 := Lib.hid hr3
  have Hq3 := Lib.hid hq3
  clear hw3 hb3 hb13 hp3 hx3 hr3 hq3 hq Hx1 Hr1 HB2 Hp1 c1 hz2
  go_upto_region 6 with fail
  obtain ⟨w5, hw5⟩ : ∃ w5, w5 = w3 := ⟨_, rfl⟩
  rw [← hw5] at Hp3 Hb3 Hx3 Hr3 Hq3 c3 ⊢
  have Hp5 := Hp3
  have Hb5 := Hb3
  have Hx5 := Hx3
  have Hr5 := Hr3
  have Hq5 := Hq3
  have c5 := c3
  clear hw5 c3 y3 yf q0 q1 q2 q3 q4 q5 q6 q7 qf
  go_wp2_with (first
    | (go_at_call 18; refine (hNx w5 Hp5.out).mono ?_; rintro e w6 ⟨rfl, hb⟩; have Hp6 := Lib.hid (Hp5.out.keep hb); have Hb6 := Lib.hid (Hb5.out.trans (But.of_below hb)); have Hx6 := Lib.hid ((hb.block w.heap.size (heap_lt Hx5.out)).trans Hx5.out); have Hr6 := Lib.hid ((hb.block (w.heap.size + 1) (heap_lt Hr5.out)).trans Hr5.out); have Hq6 := Lib.hid ((hb.block q (heap_lt Hq5.out)).trans Hq5.out); have c6 : w6.cell? ⟨w.heap.size, 0, none⟩ = some (.pointer (some ⟨g, 0, none⟩)) := Lib.cell_of_heap Hx6.out 0; clear hb hNx c5)
    | (go_at_call 73; refine (hX q w6 Hp6.out hgq Hq6.out).mono ?_; rintro e w7 ⟨rfl, hp, hb, zk, za, zn, zz, zp, zkids, zbody, zels, zK, kc, zB, bc, zE, ec, hxe, hq7, hk, hB, hE⟩; simp only at hp hxe; have hz7 := hb.size; have Hxe := Lib.hid hxe; have Hb7 := Lib.hid (hb.but Hb6.out (by omega)); have Hx7 := Lib.hid ((hb.block w.heap.size (heap_lt Hx6.out) (by omega) (by omega)).trans Hx6.out); have Hr7 := Lib.hid ((hb.block (w.heap.size + 1) (heap_lt Hr6.out) (by omega) (by omega)).trans Hr6.out); have c7 : w7.cell? ⟨w.heap.size, 0, none⟩ = some (.pointer (some ⟨g, 0, none⟩)) := Lib.cell_of_heap Hx7.out 0; have hzw : w.heap.size + 1 < w6.heap.size := heap_lt Hr6.out; have HK7 := Lib.hid (RdEs.more (S' := From (w.heap.size + 2) w7) (fun _ hS => hS.lo (by omega)) _ _ _ hk); have HB7 := Lib.hid (RdSs.more (S' := From (w.heap.size + 2) w7) (fun _ hS => hS.lo (by omega)) _ _ _ hB); have HE7 := Lib.hid (RdSs.more (S' := From (w.heap.size + 2) w7) (fun _ hS => hS.lo (by omega)) _ _ _ hE); have Hp7 := Lib.hid hp; have Hq7 := Lib.hid hq7; clear hxe hp hb hq7 hk hB hE hX c6; obtain ⟨q0, q1, q2, q3, q4, q5, q6, q7, qf⟩ := cells8 Hq7.out; obtain ⟨r0, r1, r2, r3, r4, r5, r6, r7, rf⟩ := cells8 Hr7.out; have hrz := heap_lt Hr7.out))
  obtain ⟨W8, hW8, hR8, hfar8, hbl8, hz8⟩ := eight_name Hr7.out (.int .i64 zk) (.int .i64 za) (.int .i64 zn) (.string zz) (.int .i64 zp) (.slice zK zkids.length kc) (.slice zB zbody.length bc) (.slice zE zels.length ec)
  rw [← hW8]
  clear hW8
  refine leaves_cons (f := 72) (args := #[.pointer (some ⟨w.heap.size, 0, none⟩)]) (by simp) (by simp [go_sem]) ?_
  refine (down_d g w.heap.size s6 .returning _ (Hp7.out.up (hbl8 _ (by omega))) ((World.cell?_of_block (a := ⟨w.heap.size, 0, none⟩) (hfar8 w.heap.size (by omega))).trans c7) (by have := Hdp.out; omega) (by have := Hdp.out; omega)).mono ?_
  rintro e u' w'' ⟨rfl, rfl, hp, hb⟩
  have hRR := (hb.block (w.heap.size + 1) (by omega) (by omega)).trans hR8
  obtain ⟨v0, v1, v2, v3, v4, v5, v6, v7, _⟩ := cells8 hRR
  have hz' := hb.size
  have hb8 := hbl8 (w.heap.size + 1) (Nat.le_refl _)
  have hbt : Bt g (w.heap.size + 1) w7 w'' := ⟨hb.os.trans hb8.os, hb.tape.trans hb8.tape, hb.output.trans hb8.output, by omega, fun b h1 h2 h3 => (hb.block b (by omega) h2).trans (hfar8 b h3)⟩
  refine ⟨.agg (stC zk za zn zz zp zK zkids.length kc zB zbody.length bc zE zels.length ec), by simp [results, Tryz.results62, go_sem, stC, v0, v1, v2, v3, v4, v5, v6, v7], zk, za, zn, zz, zp, zkids, zbody, zels, zK, kc, zB, bc, zE, ec, rfl, Hxe.out, ?_, ?_, ?_, hp, hbt.but Hb7.out (by omega)⟩
  · exact RdEs.more (fun _ hS => hS.lo (by omega)) _ _ _ (RdEs.bt HK7.out hbt (by omega) (by omega))
  · exact RdSs.more (fun _ hS => hS.lo (by omega)) _ _ _ (RdSs.bt HB7.out hbt (by omega) (by omega))
  · exact RdSs.more (fun _ hS => hS.lo (by omega)) _ _ _ (RdSs.bt HE7.out hbt (by omega) (by omega))
set_option maxRecDepth 100000 in
set_option maxHeartbeats 8000000 in
theorem st_choice_over (k : Nat) (HS : SmC (fun s a => choiceK k a s) k 73) (g : Nat) (s : PS) (x : St) (s6 : PS) (w : World) (hx : choiceK k s.now.at_ s.down = some (x, s6)) (hok : Ok (k + 1) s) (h : PAt w g s) (hc : s.deep + 1 > 256) (hf_choice : s.down.isB ([105, 102] : List UInt8) = true) :
    Calls Tryz.prog 62 #[.pointer (some ⟨g, 0, none⟩)] w (StP g w.heap.size w (x, (s6).up)) := by
  have hgl := h.lt
  obtain ⟨W, hW, hbW, hzW, hbX, hbR⟩ := two_al w #[.pointer (some ⟨g, 0, none⟩)] #[.int .i64 0, .int .i64 0, .int .i64 0, .string ⟨#[]⟩, .int .i64 0, .slice none 0 0, .slice none 0 0, .slice none 0 0] 59 77
  have hPW := h.keep hbW
  obtain ⟨_, _, _, _, _, x3, _, xf, _⟩ := hPW.five
  have c0 : W.cell? ⟨w.heap.size, 0, none⟩ = some (.pointer (some ⟨g, 0, none⟩)) := Lib.cell_of_heap hbX 0
  have HPW := Lib.hid hPW
  have HbW := Lib.hid hbW
  have HbX := Lib.hid hbX
  have HbR := Lib.hid hbR
  have hokd : Ok k s.down := by
    have h1 := down_deep s
    unfold Ok at hok ⊢
    rw [h1.1, h1.2]
    omega
  have hX := fun q w' (hp : PAt w' g s.down) (h1 : g < q) (h2 : w'.heap[q]? = some (.cells (st0 s.now.at_) 77 (0, 0))) => HS g q s.now.at_ s.down (x, s6) w' hx hokd hp h1 h2
  have hev : Even s.down s6 := (pureS_all k).choice _ _ _ hx
  have Hdp := Lib.hid (show -4611686018427387904 ≤ (s6).deep ∧ (s6).deep ≤ 4611686018427387904 from by
    have h1 := (even_need1 s6 ([59] : List UInt8)).2
    have h2 := hev.2
    have h3 := (down_deep s).2
    unfold Ok at hok
    first | (rw [h1]; omega) | omega)
  have hd0 : 0 ≤ s.deep := hok.2.2.2.1
  have hd1 : s.deep ≤ 1099511627776 := by have := hok.2.2.2.2; omega
  have hmf : ∀ (fn : Fn) (first cap : Array Value) (w : World), (Instr.makeFunc fn first cap).run Tryz.prog w = .ok (.func fn first cap) w := fun _ _ _ _ => rfl
  obtain ⟨sD, hsD⟩ : ∃ sD : PS, sD = { s with deep := s.deep + 1 } := ⟨_, rfl⟩
  have hnD : sD.now = s.now := by rw [hsD]; rfl
  have hdn : s.down = sD.fail 4 s.now.at_ := by unfold PS.down; rw [if_pos hc, hsD]
  have hF := fun w' (hp : PAt w' g sD) => fail_any g sD 4 s.now.at_ w' hp
  rw [← hdn] at hF
  have hdb : decide (256 < s.deep + 1) = true := by simp; omega
  have hN := fun w' (hp : PAt w' g sD) => now_any g sD w' hp
  rw [hnD] at hN
  have hNx := fun w' (hp : PAt w' g s.down) => now_any g s.down w' hp
  obtain ⟨t, hnow⟩ : ∃ t, t = s.now := ⟨_, rfl⟩
  obtain ⟨t', hnow'⟩ : ∃ t', t' = s.down.now := ⟨_, rfl⟩
  unfold PS.isB at hf_choice
  rw [← hnow'] at hNx hf_choice
  rw [← hnow] at hN hX hF
  obtain ⟨sx, hsx⟩ : ∃ sx, sx = s.down := ⟨_, rfl⟩
  rw [← hsx] at hNx hX hdn hF
  obtain ⟨tk, ta, tn, tb⟩ := t
  obtain ⟨tk', ta', tn', tb'⟩ := t'
  unfold tkV at hN hNx
  unfold st0 at hX
  simp only at hN hNx hX hf_choice hF
  have f1 := tok_f1 tk ta tn ⟨tb.toArray⟩
  have f3 := tok_f3 tk' ta' tn' ⟨tb'.toArray⟩
  
  have HsD := Lib.hid hsD
  clear hsD
  clear hx hok h hbW hbX hbR hPW hev hnow hnow' hsx hokd hc hnD HS
  go_enter_defers Tryz.func62, Tryz.ntmps62
  go_upto_region 1 with fail
  rw [← hW]
  clear hW
  go_upto_region 2 with fail
  obtain ⟨w1, hw1⟩ : ∃ w1, w1 = W.setCell ⟨g, 3, none⟩ (.int .i64 (s.deep + 1)) := ⟨_, rfl⟩
  rw [← hw1]
  have hb1 : But g W w1 := by rw [hw1]; exact (But.refl g W).setCell (Or.inl rfl) _
  have hp1 : PAt w1 g sD := by rw [hw1, HsD.out]; exact HPW.out.set3 (s.deep + 1)
  have hx1 := (hb1.block w.heap.size (by omega) (by omega)).trans HbX.out
  have hr1 := (hb1.block (w.heap.size + 1) (by omega) (by omega)).trans HbR.out
  have c1 : w1.cell? ⟨w.heap.size, 0, none⟩ = some (.pointer (some ⟨g, 0, none⟩)) := Lib.cell_of_heap hx1 0
  have Hb1 := Lib.hid ((But.of_below (g := g) HbW.out).trans hb1)
  have Hp1 := Lib.hid hp1
  have Hx1 := Lib.hid hx1
  have Hr1 := Lib.hid hr1
  clear hw1 hb1 hp1 hx1 hr1 x3 xf c0
  have hN1 := hN w1 Hp1.out
  go_upto_region 4 with (go_at_call 18; refine hN1.mono ?_; rintro e w2 ⟨rfl, hb⟩; have hb2 := hb; have HB2 := Lib.hid hb2; have hz2 : w.heap.size + 1 < w2.heap.size := (by have := heap_lt Hr1.out; have := hb.size; omega); clear hb hb2 hN1)
  obtain ⟨w3, hw3, hb3, hz3, hq3⟩ := one_al w2 #[.int .i64 0, .int .i64 ta, .int .i64 0, .string ⟨#[]⟩, .int .i64 0, .slice none 0 0, .slice none 0 0, .slice none 0 0] 77
  rw [← hw3]
  have hb13 := HB2.out.trans (hb3.mono HB2.out.size)
  have hp3 := Hp1.out.keep hb13
  have hx3 := (hb13.block w.heap.size (heap_lt Hx1.out)).trans Hx1.out
  have hr3 := (hb13.block (w.heap.size + 1) (heap_lt Hr1.out)).trans Hr1.out
  have c3 : w3.cell? ⟨w.heap.size, 0, none⟩ = some (.pointer (some ⟨g, 0, none⟩)) := Lib.cell_of_heap hx3 0
  obtain ⟨A, cap, _, _, _, y3, _, yf, _⟩ := hp3.five
  replace y3 : w3.cell? ⟨g, 3, none⟩ = some (.int .i64 (s.deep + 1)) := by rw [y3, HsD.out]
  obtain ⟨q, hq⟩ : ∃ q, q = w2.heap.size := ⟨_, rfl⟩
  rw [← hq] at hq3 hz3 ⊢
  have hgq : g < q := by omega
  have hbq : w.heap.size + 1 < q := by omega
  obtain ⟨q0, q1, q2, q3, q4, q5, q6, q7, qf⟩ := cells8 hq3
  have Hb3 := Lib.hid (Hb1.out.trans (But.of_below hb13))
  have Hp3 := Lib.hid hp3
  have Hx3 := Lib.hid hx3
  have Hr3 := Lib.hid hr3
  have Hq3 := Lib.hid hq3
  clear hw3 hb3 hb13 hp3 hx3 hr3 hq3 hq Hx1 Hr1 HB2 Hp1 c1 hz2
  go_upto_region 6 with (go_at_call 19; refine (hF w3 Hp3.out).mono ?_; rintro e w5 ⟨rfl, hp, hb⟩; have Hp5 := Lib.hid hp; have Hb5 := Lib.hid (Hb3.out.trans hb); have Hx5 := Lib.hid ((hb.block w.heap.size (by omega) (by omega)).trans Hx3.out); have Hr5 := Lib.hid ((hb.block (w.heap.size + 1) (by omega) (by omega)).trans Hr3.out); have Hq5 := Lib.hid ((hb.block q (by omega) (by omega)).trans Hq3.out); have c5 : w5.cell? ⟨w.heap.size, 0, none⟩ = some (.pointer (some ⟨g, 0, none⟩)) := Lib.cell_of_heap Hx5.out 0; clear hp hb hF c3 y3 yf q0 q1 q2 q3 q4 q5 q6 q7 qf)
  go_wp2_with (first
    | (go_at_call 18; refine (hNx w5 Hp5.out).mono ?_; rintro e w6 ⟨rfl, hb⟩; have Hp6 := Lib.hid (Hp5.out.keep hb); have Hb6 := Lib.hid (Hb5.out.trans (But.of_below hb)); have Hx6 := Lib.hid ((hb.block w.heap.size (heap_lt Hx5.out)).trans Hx5.out); have Hr6 := Lib.hid ((hb.block (w.heap.size + 1) (heap_lt Hr5.out)).trans Hr5.out); have Hq6 := Lib.hid ((hb.block q (heap_lt Hq5.out)).trans Hq5.out); have c6 : w6.cell? ⟨w.heap.size, 0, none⟩ = some (.pointer (some ⟨g, 0, none⟩)) := Lib.cell_of_heap Hx6.out 0; clear hb hNx c5)
    | (go_at_call 73; refine (hX q w6 Hp6.out hgq Hq6.out).mono ?_; rintro e w7 ⟨rfl, hp, hb, zk, za, zn, zz, zp, zkids, zbody, zels, zK, kc, zB, bc, zE, ec, hxe, hq7, hk, hB, hE⟩; simp only at hp hxe; have hz7 := hb.size; have Hxe := Lib.hid hxe; have Hb7 := Lib.hid (hb.but Hb6.out (by omega)); have Hx7 := Lib.hid ((hb.block w.heap.size (heap_lt Hx6.out) (by omega) (by omega)).trans Hx6.out); have Hr7 := Lib.hid ((hb.block (w.heap.size + 1) (heap_lt Hr6.out) (by omega) (by omega)).trans Hr6.out); have c7 : w7.cell? ⟨w.heap.size, 0, none⟩ = some (.pointer (some ⟨g, 0, none⟩)) := Lib.cell_of_heap Hx7.out 0; have hzw : w.heap.size + 1 < w6.heap.size := heap_lt Hr6.out; have HK7 := Lib.hid (RdEs.more (S' := From (w.heap.size + 2) w7) (fun _ hS => hS.lo (by omega)) _ _ _ hk); have HB7 := Lib.hid (RdSs.more (S' := From (w.heap.size + 2) w7) (fun _ hS => hS.lo (by omega)) _ _ _ hB); have HE7 := Lib.hid (RdSs.more (S' := From (w.heap.size + 2) w7) (fun _ hS => hS.lo (by omega)) _ _ _ hE); have Hp7 := Lib.hid hp; have Hq7 := Lib.hid hq7; clear hxe hp hb hq7 hk hB hE hX c6; obtain ⟨q0, q1, q2, q3, q4, q5, q6, q7, qf⟩ := cells8 Hq7.out; obtain ⟨r0, r1, r2, r3, r4, r5, r6, r7, rf⟩ := cells8 Hr7.out; have hrz := heap_lt Hr7.out))
  obtain ⟨W8, hW8, hR8, hfar8, hbl8, hz8⟩ := eight_name Hr7.out (.int .i64 zk) (.int .i64 za) (.int .i64 zn) (.string zz) (.int .i64 zp) (.slice zK zkids.length kc) (.slice zB zbody.length bc) (.slice zE zels.length ec)
  rw [← hW8]
  clear hW8
  refine leaves_cons (f := 72) (args := #[.pointer (some ⟨w.heap.size, 0, none⟩)]) (by simp) (by simp [go_sem]) ?_
  refine (down_d g w.heap.size s6 .returning _ (Hp7.out.up (hbl8 _ (by omega))) ((World.cell?_of_block (a := ⟨w.heap.size, 0, none⟩) (hfar8 w.heap.size (by omega))).trans c7) (by have := Hdp.out; omega) (by have := Hdp.out; omega)).mono ?_
  rintro e u' w'' ⟨rfl, rfl, hp, hb⟩
  have hRR := (hb.block (w.heap.size + 1) (by omega) (by omega)).trans hR8
  obtain ⟨v0, v1, v2, v3, v4, v5, v6, v7, _⟩ := cells8 hRR
  have hz' := hb.size
  have hb8 := hbl8 (w.heap.size + 1) (Nat.le_refl _)
  have hbt : Bt g (w.heap.size + 1) w7 w'' := ⟨hb.os.trans hb8.os, hb.tape.trans hb8.tape, hb.output.trans hb8.output, by omega, fun b h1 h2 h3 => (hb.block b (by omega) h2).trans (hfar8 b h3)⟩
  refine ⟨.agg (stC zk za zn zz zp zK zkids.length kc zB zbody.length bc zE zels.length ec), by simp [results, Tryz.results62, go_sem, stC, v0, v1, v2, v3, v4, v5, v6, v7], zk, za, zn, zz, zp, zkids, zbody, zels, zK, kc, zB, bc, zE, ec, rfl, Hxe.out, ?_, ?_, ?_, hp, hbt.but Hb7.out (by omega)⟩
  · exact RdEs.more (fun _ hS => hS.lo (by omega)) _ _ _ (RdEs.bt HK7.out hbt (by omega) (by omega))
  · exact RdSs.more (fun _ hS => hS.lo (by omega)) _ _ _ (RdSs.bt HB7.out hbt (by omega) (by omega))
  · exact RdSs.more (fun _ hS => hS.lo (by omega)) _ _ _ (RdSs.bt HE7.out hbt (by omega) (by omega))
set_option maxRecDepth 100000 in
set_option maxHeartbeats 8000000 in
theorem st_while_in (k : Nat) (HS : SmC (fun s a => whileK k a s) k 74) (g : Nat) (s : PS) (x : St) (s6 : PS) (w : World) (hx : whileK k s.now.at_ s.down = some (x, s6)) (hok : Ok (k + 1) s) (h : PAt w g s) (hc : ¬ s.deep + 1 > 256) (hf_choice : s.down.isB ([105, 102] : List UInt8) = false) (hf_while : s.down.isB ([119, 104, 105, 108, 101] : List UInt8) = true) :
    Calls Tryz.prog 62 #[.pointer (some ⟨g, 0, none⟩)] w (StP g w.heap.size w (x, (s6).up)) := by
  have hgl := h.lt
  obtain ⟨W, hW, hbW, hzW, hbX, hbR⟩ := two_al w #[.pointer (some ⟨g, 0, none⟩)] #[.int .i64 0, .int .i64 0, .int .i64 0, .string ⟨#[]⟩, .int .i64 0, .slice none 0 0, .slice none 0 0, .slice none 0 0] 59 77
  have hPW := h.keep hbW
  obtain ⟨_, _, _, _, _, x3, _, xf, _⟩ := hPW.five
  have c0 : W.cell? ⟨w.heap.size, 0, none⟩ = some (.pointer (some ⟨g, 0, none⟩)) := Lib.cell_of_heap hbX 0
  have HPW := Lib.hid hPW
  have HbW := Lib.hid hbW
  have HbX := Lib.hid hbX
  have HbR := Lib.hid hbR
  have hokd : Ok k s.down := by
    have h1 := down_deep s
    unfold Ok at hok ⊢
    rw [h1.1, h1.2]
    omega
  have hX := fun q w' (hp : PAt w' g s.down) (h1 : g < q) (h2 : w'.heap[q]? = some (.cells (st0 s.now.at_) 77 (0, 0))) => HS g q s.now.at_ s.down (x, s6) w' hx hokd hp h1 h2
  have hev : Even s.down s6 := (pureS_all k).whil _ _ _ hx
  have Hdp := Lib.hid (show -4611686018427387904 ≤ (s6).deep ∧ (s6).deep ≤ 4611686018427387904 from by
    have h1 := (even_need1 s6 ([59] : List UInt8)).2
    have h2 := hev.2
    have h3 := (down_deep s).2
    unfold Ok at hok
    first | (rw [h1]; omega) | omega)
  have hd0 : 0 ≤ s.deep := hok.2.2.2.1
  have hd1 : s.deep ≤ 1099511627776 := by have := hok.2.2.2.2; omega
  have hmf : ∀ (fn : Fn) (first cap : Array Value) (w : World), (Instr.makeFunc fn first cap).run Tryz.prog w = .ok (.func fn first cap) w := fun _ _ _ _ => rfl
  obtain ⟨sD, hsD⟩ : ∃ sD : PS, sD = { s with deep := s.deep + 1 } := ⟨_, rfl⟩
  have hnD : sD.now = s.now := by rw [hsD]; rfl
  have hdn : s.down = sD := by unfold PS.down; rw [if_neg hc, hsD]
  have hdb : decide (256 < s.deep + 1) = false := by simp; omega
  have hN := fun w' (hp : PAt w' g sD) => now_any g sD w' hp
  rw [hnD] at hN
  have hNx := fun w' (hp : PAt w' g s.down) => now_any g s.down w' hp
  obtain ⟨t, hnow⟩ : ∃ t, t = s.now := ⟨_, rfl⟩
  obtain ⟨t', hnow'⟩ : ∃ t', t' = s.down.now := ⟨_, rfl⟩
  unfold PS.isB at hf_choice hf_while
  rw [← hnow'] at hNx hf_choice hf_while
  rw [← hnow] at hN hX
  obtain ⟨sx, hsx⟩ : ∃ sx, sx = s.down := ⟨_, rfl⟩
  rw [← hsx] at hNx hX hdn
  obtain ⟨tk, ta, tn, tb⟩ := t
  obtain ⟨tk', ta', tn', tb'⟩ := t'
  unfold tkV at hN hNx
  unfold st0 at hX
  simp only at hN hNx hX hf_choice hf_while
  have f1 := tok_f1 tk ta tn ⟨tb.toArray⟩
  have f3 := tok_f3 tk' ta' tn' ⟨tb'.toArray⟩
  rw [hdn] at hNx hX; clear hdn
  have HsD := Lib.hid hsD
  clear hsD
  clear hx hok h hbW hbX hbR hPW hev hnow hnow' hsx hokd hc hnD HS
  go_enter_defers Tryz.func62, Tryz.ntmps62
  go_upto_region 1 with fail
  rw [← hW]
  clear hW
  go_upto_region 2 with fail
  obtain ⟨w1, hw1⟩ : ∃ w1, w1 = W.setCell ⟨g, 3, none⟩ (.int .i64 (s.deep + 1)) := ⟨_, rfl⟩
  rw [← hw1]
  have hb1 : But g W w1 := by rw [hw1]; exact (But.refl g W).setCell (Or.inl rfl) _
  have hp1 : PAt w1 g sD := by rw [hw1, HsD.out]; exact HPW.out.set3 (s.deep + 1)
  have hx1 := (hb1.block w.heap.size (by omega) (by omega)).trans HbX.out
  have hr1 := (hb1.block (w.heap.size + 1) (by omega) (by omega)).trans HbR.out
  have c1 : w1.cell? ⟨w.heap.size, 0, none⟩ = some (.pointer (some ⟨g, 0, none⟩)) := Lib.cell_of_heap hx1 0
  have Hb1 := Lib.hid ((But.of_below (g := g) HbW.out).trans hb1)
  have Hp1 := Lib.hid hp1
  have Hx1 := Lib.hid hx1
  have Hr1 := Lib.hid hr1
  clear hw1 hb1 hp1 hx1 hr1 x3 xf c0
  have hN1 := hN w1 Hp1.out
  go_upto_region 4 with (go_at_call 18; refine hN1.mono ?_; rintro e w2 ⟨rfl, hb⟩; have hb2 := hb; have HB2 := Lib.hid hb2; have hz2 : w.heap.size + 1 < w2.heap.size := (by have := heap_lt Hr1.out; have := hb.size; omega); clear hb hb2 hN1)
  obtain ⟨w3, hw3, hb3, hz3, hq3⟩ := one_al w2 #[.int .i64 0, .int .i64 ta, .int .i64 0, .string ⟨#[]⟩, .int .i64 0, .slice none 0 0, .slice none 0 0, .slice none 0 0] 77
  rw [← hw3]
  have hb13 := HB2.out.trans (hb3.mono HB2.out.size)
  have hp3 := Hp1.out.keep hb13
  have hx3 := (hb13.block w.heap.size (heap_lt Hx1.out)).trans Hx1.out
  have hr3 := (hb13.block (w.heap.size + 1) (heap_lt Hr1.out)).trans Hr1.out
  have c3 : w3.cell? ⟨w.heap.size, 0, none⟩ = some (.pointer (some ⟨g, 0, none⟩)) := Lib.cell_of_heap hx3 0
  obtain ⟨A, cap, _, _, _, y3, _, yf, _⟩ := hp3.five
  replace y3 : w3.cell? ⟨g, 3, none⟩ = some (.int .i64 (s.deep + 1)) := by rw [y3, HsD.out]
  obtain ⟨q, hq⟩ : ∃ q, q = w2.heap.size := ⟨_, rfl⟩
  rw [← hq] at hq3 hz3 ⊢
  have hgq : g < q := by omega
  have hbq : w.heap.size + 1 < q := by omega
  obtain ⟨q0, q1, q2, q3, q4, q5, q6, q7, qf⟩ := cells8 hq3
  have Hb3 := Lib.hid (Hb1.out.trans (But.of_below hb13))
  have Hp3 := Lib.hid hp3
  have Hx3 := Lib.hid hx3
  have Hr3 := Lib.hid hr3
  have Hq3 := Lib.hid hq3
  clear hw3 hb3 hb13 hp3 hx3 hr3 hq3 hq Hx1 Hr1 HB2 Hp1 c1 hz2
  go_upto_region 6 with fail
  obtain ⟨w5, hw5⟩ : ∃ w5, w5 = w3 := ⟨_, rfl⟩
  rw [← hw5] at Hp3 Hb3 Hx3 Hr3 Hq3 c3 ⊢
  have Hp5 := Hp3
  have Hb5 := Hb3
  have Hx5 := Hx3
  have Hr5 := Hr3
  have Hq5 := Hq3
  have c5 := c3
  clear hw5 c3 y3 yf q0 q1 q2 q3 q4 q5 q6 q7 qf
  go_wp2_with (first
    | (go_at_call 18; refine (hNx w5 Hp5.out).mono ?_; rintro e w6 ⟨rfl, hb⟩; have Hp6 := Lib.hid (Hp5.out.keep hb); have Hb6 := Lib.hid (Hb5.out.trans (But.of_below hb)); have Hx6 := Lib.hid ((hb.block w.heap.size (heap_lt Hx5.out)).trans Hx5.out); have Hr6 := Lib.hid ((hb.block (w.heap.size + 1) (heap_lt Hr5.out)).trans Hr5.out); have Hq6 := Lib.hid ((hb.block q (heap_lt Hq5.out)).trans Hq5.out); have c6 : w6.cell? ⟨w.heap.size, 0, none⟩ = some (.pointer (some ⟨g, 0, none⟩)) := Lib.cell_of_heap Hx6.out 0; clear hb hNx c5)
    | (go_at_call 74; refine (hX q w6 Hp6.out hgq Hq6.out).mono ?_; rintro e w7 ⟨rfl, hp, hb, zk, za, zn, zz, zp, zkids, zbody, zels, zK, kc, zB, bc, zE, ec, hxe, hq7, hk, hB, hE⟩; simp only at hp hxe; have hz7 := hb.size; have Hxe := Lib.hid hxe; have Hb7 := Lib.hid (hb.but Hb6.out (by omega)); have Hx7 := Lib.hid ((hb.block w.heap.size (heap_lt Hx6.out) (by omega) (by omega)).trans Hx6.out); have Hr7 := Lib.hid ((hb.block (w.heap.size + 1) (heap_lt Hr6.out) (by omega) (by omega)).trans Hr6.out); have c7 : w7.cell? ⟨w.heap.size, 0, none⟩ = some (.pointer (some ⟨g, 0, none⟩)) := Lib.cell_of_heap Hx7.out 0; have hzw : w.heap.size + 1 < w6.heap.size := heap_lt Hr6.out; have HK7 := Lib.hid (RdEs.more (S' := From (w.heap.size + 2) w7) (fun _ hS => hS.lo (by omega)) _ _ _ hk); have HB7 := Lib.hid (RdSs.more (S' := From (w.heap.size + 2) w7) (fun _ hS => hS.lo (by omega)) _ _ _ hB); have HE7 := Lib.hid (RdSs.more (S' := From (w.heap.size + 2) w7) (fun _ hS => hS.lo (by omega)) _ _ _ hE); have Hp7 := Lib.hid hp; have Hq7 := Lib.hid hq7; clear hxe hp hb hq7 hk hB hE hX c6; obtain ⟨q0, q1, q2, q3, q4, q5, q6, q7, qf⟩ := cells8 Hq7.out; obtain ⟨r0, r1, r2, r3, r4, r5, r6, r7, rf⟩ := cells8 Hr7.out; have hrz := heap_lt Hr7.out))
  obtain ⟨W8, hW8, hR8, hfar8, hbl8, hz8⟩ := eight_name Hr7.out (.int .i64 zk) (.int .i64 za) (.int .i64 zn) (.string zz) (.int .i64 zp) (.slice zK zkids.length kc) (.slice zB zbody.length bc) (.slice zE zels.length ec)
  rw [← hW8]
  clear hW8
  refine leaves_cons (f := 72) (args := #[.pointer (some ⟨w.heap.size, 0, none⟩)]) (by simp) (by simp [go_sem]) ?_
  refine (down_d g w.heap.size s6 .returning _ (Hp7.out.up (hbl8 _ (by omega))) ((World.cell?_of_block (a := ⟨w.heap.size, 0, none⟩) (hfar8 w.heap.size (by omega))).trans c7) (by have := Hdp.out; omega) (by have := Hdp.out; omega)).mono ?_
  rintro e u' w'' ⟨rfl, rfl, hp, hb⟩
  have hRR := (hb.block (w.heap.size + 1) (by omega) (by omega)).trans hR8
  obtain ⟨v0, v1, v2, v3, v4, v5, v6, v7, _⟩ := cells8 hRR
  have hz' := hb.size
  have hb8 := hbl8 (w.heap.size + 1) (Nat.le_refl _)
  have hbt : Bt g (w.heap.size + 1) w7 w'' := ⟨hb.os.trans hb8.os, hb.tape.trans hb8.tape, hb.output.trans hb8.output, by omega, fun b h1 h2 h3 => (hb.block b (by omega) h2).trans (hfar8 b h3)⟩
  refine ⟨.agg (stC zk za zn zz zp zK zkids.length kc zB zbody.length bc zE zels.length ec), by simp [results, Tryz.results62, go_sem, stC, v0, v1, v2, v3, v4, v5, v6, v7], zk, za, zn, zz, zp, zkids, zbody, zels, zK, kc, zB, bc, zE, ec, rfl, Hxe.out, ?_, ?_, ?_, hp, hbt.but Hb7.out (by omega)⟩
  · exact RdEs.more (fun _ hS => hS.lo (by omega)) _ _ _ (RdEs.bt HK7.out hbt (by omega) (by omega))
  · exact RdSs.more (fun _ hS => hS.lo (by omega)) _ _ _ (RdSs.bt HB7.out hbt (by omega) (by omega))
  · exact RdSs.more (fun _ hS => hS.lo (by omega)) _ _ _ (RdSs.bt HE7.out hbt (by omega) (by omega))
set_option maxRecDepth 100000 in
set_option maxHeartbeats 8000000 in
theorem st_while_over (k : Nat) (HS : SmC (fun s a => whileK k a s) k 74) (g : Nat) (s : PS) (x : St) (s6 : PS) (w : World) (hx : whileK k s.now.at_ s.down = some (x, s6)) (hok : Ok (k + 1) s) (h : PAt w g s) (hc : s.deep + 1 > 256) (hf_choice : s.down.isB ([105, 102] : List UInt8) = false) (hf_while : s.down.isB ([119, 104, 105, 108, 101] : List UInt8) = true) :
    Calls Tryz.prog 62 #[.pointer (some ⟨g, 0, none⟩)] w (StP g w.heap.size w (x, (s6).up)) := by
  have hgl := h.lt
  obtain ⟨W, hW, hbW, hzW, hbX, hbR⟩ := two_al w #[.pointer (some ⟨g, 0, none⟩)] #[.int .i64 0, .int .i64 0, .int .i64 0, .string ⟨#[]⟩, .int .i64 0, .slice none 0 0, .slice none 0 0, .slice none 0 0] 59 77
  have hPW := h.keep hbW
  obtain ⟨_, _, _, _, _, x3, _, xf, _⟩ := hPW.five
  have c0 : W.cell? ⟨w.heap.size, 0, none⟩ = some (.pointer (some ⟨g, 0, none⟩)) := Lib.cell_of_heap hbX 0
  have HPW := Lib.hid hPW
  have HbW := Lib.hid hbW
  have HbX := Lib.hid hbX
  have HbR := Lib.hid hbR
  have hokd : Ok k s.down := by
    have h1 := down_deep s
    unfold Ok at hok ⊢
    rw [h1.1, h1.2]
    omega
  have hX := fun q w' (hp : PAt w' g s.down) (h1 : g < q) (h2 : w'.heap[q]? = some (.cells (st0 s.now.at_) 77 (0, 0))) => HS g q s.now.at_ s.down (x, s6) w' hx hokd hp h1 h2
  have hev : Even s.down s6 := (pureS_all k).whil _ _ _ hx
  have Hdp := Lib.hid (show -4611686018427387904 ≤ (s6).deep ∧ (s6).deep ≤ 4611686018427387904 from by
    have h1 := (even_need1 s6 ([59] : List UInt8)).2
    have h2 := hev.2
    have h3 := (down_deep s).2
    unfold Ok at hok
    first | (rw [h1]; omega) | omega)
  have hd0 : 0 ≤ s.deep := hok.2.2.2.1
  have hd1 : s.deep ≤ 1099511627776 := by have := hok.2.2.2.2; omega
  have hmf : ∀ (fn : Fn) (first cap : Array Value) (w : World), (Instr.makeFunc fn first cap).run Tryz.prog w = .ok (.func fn first cap) w := fun _ _ _ _ => rfl
  obtain ⟨sD, hsD⟩ : ∃ sD : PS, sD = { s with deep := s.deep + 1 } := ⟨_, rfl⟩
  have hnD : sD.now = s.now := by rw [hsD]; rfl
  have hdn : s.down = sD.fail 4 s.now.at_ := by unfold PS.down; rw [if_pos hc, hsD]
  have hF := fun w' (hp : PAt w' g sD) => fail_any g sD 4 s.now.at_ w' hp
  rw [← hdn] at hF
  have hdb : decide (256 < s.deep + 1) = true := by simp; omega
  have hN := fun w' (hp : PAt w' g sD) => now_any g sD w' hp
  rw [hnD] at hN
  have hNx := fun w' (hp : PAt w' g s.down) => now_any g s.down w' hp
  obtain ⟨t, hnow⟩ : ∃ t, t = s.now := ⟨_, rfl⟩
  obtain ⟨t', hnow'⟩ : ∃ t', t' = s.down.now := ⟨_, rfl⟩
  unfold PS.isB at hf_choice hf_while
  rw [← hnow'] at hNx hf_choice hf_while
  rw [← hnow] at hN hX hF
  obtain ⟨sx, hsx⟩ : ∃ sx, sx = s.down := ⟨_, rfl⟩
  rw [← hsx] at hNx hX hdn hF
  obtain ⟨tk, ta, tn, tb⟩ := t
  obtain ⟨tk', ta', tn', tb'⟩ := t'
  unfold tkV at hN hNx
  unfold st0 at hX
  simp only at hN hNx hX hf_choice hf_while hF
  have f1 := tok_f1 tk ta tn ⟨tb.toArray⟩
  have f3 := tok_f3 tk' ta' tn' ⟨tb'.toArray⟩
  
  have HsD := Lib.hid hsD
  clear hsD
  clear hx hok h hbW hbX hbR hPW hev hnow hnow' hsx hokd hc hnD HS
  go_enter_defers Tryz.func62, Tryz.ntmps62
  go_upto_region 1 with fail
  rw [← hW]
  clear hW
  go_upto_region 2 with fail
  obtain ⟨w1, hw1⟩ : ∃ w1, w1 = W.setCell ⟨g, 3, none⟩ (.int .i64 (s.deep + 1)) := ⟨_, rfl⟩
  rw [← hw1]
  have hb1 : But g W w1 := by rw [hw1]; exact (But.refl g W).setCell (Or.inl rfl) _
  have hp1 : PAt w1 g sD := by rw [hw1, HsD.out]; exact HPW.out.set3 (s.deep + 1)
  have hx1 := (hb1.block w.heap.size (by omega) (by omega)).trans HbX.out
  have hr1 := (hb1.block (w.heap.size + 1) (by omega) (by omega)).trans HbR.out
  have c1 : w1.cell? ⟨w.heap.size, 0, none⟩ = some (.pointer (some ⟨g, 0, none⟩)) := Lib.cell_of_heap hx1 0
  have Hb1 := Lib.hid ((But.of_below (g := g) HbW.out).trans hb1)
  have Hp1 := Lib.hid hp1
  have Hx1 := Lib.hid hx1
  have Hr1 := Lib.hid hr1
  clear hw1 hb1 hp1 hx1 hr1 x3 xf c0
  have hN1 := hN w1 Hp1.out
  go_upto_region 4 with (go_at_call 18; refine hN1.mono ?_; rintro e w2 ⟨rfl, hb⟩; have hb2 := hb; have HB2 := Lib.hid hb2; have hz2 : w.heap.size + 1 < w2.heap.size := (by have := heap_lt Hr1.out; have := hb.size; omega); clear hb hb2 hN1)
  obtain ⟨w3, hw3, hb3, hz3, hq3⟩ := one_al w2 #[.int .i64 0, .int .i64 ta, .int .i64 0, .string ⟨#[]⟩, .int .i64 0, .slice none 0 0, .slice none 0 0, .slice none 0 0] 77
  rw [← hw3]
  have hb13 := HB2.out.trans (hb3.mono HB2.out.size)
  have hp3 := Hp1.out.keep hb13
  have hx3 := (hb13.block w.heap.size (heap_lt Hx1.out)).trans Hx1.out
  have hr3 := (hb13.block (w.heap.size + 1) (heap_lt Hr1.out)).trans Hr1.out
  have c3 : w3.cell? ⟨w.heap.size, 0, none⟩ = some (.pointer (some ⟨g, 0, none⟩)) := Lib.cell_of_heap hx3 0
  obtain ⟨A, cap, _, _, _, y3, _, yf, _⟩ := hp3.five
  replace y3 : w3.cell? ⟨g, 3, none⟩ = some (.int .i64 (s.deep + 1)) := by rw [y3, HsD.out]
  obtain ⟨q, hq⟩ : ∃ q, q = w2.heap.size := ⟨_, rfl⟩
  rw [← hq] at hq3 hz3 ⊢
  have hgq : g < q := by omega
  have hbq : w.heap.size + 1 < q := by omega
  obtain ⟨q0, q1, q2, q3, q4, q5, q6, q7, qf⟩ := cells8 hq3
  have Hb3 := Lib.hid (Hb1.out.trans (But.of_below hb13))
  have Hp3 := Lib.hid hp3
  have Hx3 := Lib.hid hx3
  have Hr3 := Lib.hid hr3
  have Hq3 := Lib.hid hq3
  clear hw3 hb3 hb13 hp3 hx3 hr3 hq3 hq Hx1 Hr1 HB2 Hp1 c1 hz2
  go_upto_region 6 with (go_at_call 19; refine (hF w3 Hp3.out).mono ?_; rintro e w5 ⟨rfl, hp, hb⟩; have Hp5 := Lib.hid hp; have Hb5 := Lib.hid (Hb3.out.trans hb); have Hx5 := Lib.hid ((hb.block w.heap.size (by omega) (by omega)).trans Hx3.out); have Hr5 := Lib.hid ((hb.block (w.heap.size + 1) (by omega) (by omega)).trans Hr3.out); have Hq5 := Lib.hid ((hb.block q (by omega) (by omega)).trans Hq3.out); have c5 : w5.cell? ⟨w.heap.size, 0, none⟩ = some (.pointer (some ⟨g, 0, none⟩)) := Lib.cell_of_heap Hx5.out 0; clear hp hb hF c3 y3 yf q0 q1 q2 q3 q4 q5 q6 q7 qf)
  go_wp2_with (first
    | (go_at_call 18; refine (hNx w5 Hp5.out).mono ?_; rintro e w6 ⟨rfl, hb⟩; have Hp6 := Lib.hid (Hp5.out.keep hb); have Hb6 := Lib.hid (Hb5.out.trans (But.of_below hb)); have Hx6 := Lib.hid ((hb.block w.heap.size (heap_lt Hx5.out)).trans Hx5.out); have Hr6 := Lib.hid ((hb.block (w.heap.size + 1) (heap_lt Hr5.out)).trans Hr5.out); have Hq6 := Lib.hid ((hb.block q (heap_lt Hq5.out)).trans Hq5.out); have c6 : w6.cell? ⟨w.heap.size, 0, none⟩ = some (.pointer (some ⟨g, 0, none⟩)) := Lib.cell_of_heap Hx6.out 0; clear hb hNx c5)
    | (go_at_call 74; refine (hX q w6 Hp6.out hgq Hq6.out).mono ?_; rintro e w7 ⟨rfl, hp, hb, zk, za, zn, zz, zp, zkids, zbody, zels, zK, kc, zB, bc, zE, ec, hxe, hq7, hk, hB, hE⟩; simp only at hp hxe; have hz7 := hb.size; have Hxe := Lib.hid hxe; have Hb7 := Lib.hid (hb.but Hb6.out (by omega)); have Hx7 := Lib.hid ((hb.block w.heap.size (heap_lt Hx6.out) (by omega) (by omega)).trans Hx6.out); have Hr7 := Lib.hid ((hb.block (w.heap.size + 1) (heap_lt Hr6.out) (by omega) (by omega)).trans Hr6.out); have c7 : w7.cell? ⟨w.heap.size, 0, none⟩ = some (.pointer (some ⟨g, 0, none⟩)) := Lib.cell_of_heap Hx7.out 0; have hzw : w.heap.size + 1 < w6.heap.size := heap_lt Hr6.out; have HK7 := Lib.hid (RdEs.more (S' := From (w.heap.size + 2) w7) (fun _ hS => hS.lo (by omega)) _ _ _ hk); have HB7 := Lib.hid (RdSs.more (S' := From (w.heap.size + 2) w7) (fun _ hS => hS.lo (by omega)) _ _ _ hB); have HE7 := Lib.hid (RdSs.more (S' := From (w.heap.size + 2) w7) (fun _ hS => hS.lo (by omega)) _ _ _ hE); have Hp7 := Lib.hid hp; have Hq7 := Lib.hid hq7; clear hxe hp hb hq7 hk hB hE hX c6; obtain ⟨q0, q1, q2, q3, q4, q5, q6, q7, qf⟩ := cells8 Hq7.out; obtain ⟨r0, r1, r2, r3, r4, r5, r6, r7, rf⟩ := cells8 Hr7.out; have hrz := heap_lt Hr7.out))
  obtain ⟨W8, hW8, hR8, hfar8, hbl8, hz8⟩ := eight_name Hr7.out (.int .i64 zk) (.int .i64 za) (.int .i64 zn) (.string zz) (.int .i64 zp) (.slice zK zkids.length kc) (.slice zB zbody.length bc) (.slice zE zels.length ec)
  rw [← hW8]
  clear hW8
  refine leaves_cons (f := 72) (args := #[.pointer (some ⟨w.heap.size, 0, none⟩)]) (by simp) (by simp [go_sem]) ?_
  refine (down_d g w.heap.size s6 .returning _ (Hp7.out.up (hbl8 _ (by omega))) ((World.cell?_of_block (a := ⟨w.heap.size, 0, none⟩) (hfar8 w.heap.size (by omega))).trans c7) (by have := Hdp.out; omega) (by have := Hdp.out; omega)).mono ?_
  rintro e u' w'' ⟨rfl, rfl, hp, hb⟩
  have hRR := (hb.block (w.heap.size + 1) (by omega) (by omega)).trans hR8
  obtain ⟨v0, v1, v2, v3, v4, v5, v6, v7, _⟩ := cells8 hRR
  have hz' := hb.size
  have hb8 := hbl8 (w.heap.size + 1) (Nat.le_refl _)
  have hbt : Bt g (w.heap.size + 1) w7 w'' := ⟨hb.os.trans hb8.os, hb.tape.trans hb8.tape, hb.output.trans hb8.output, by omega, fun b h1 h2 h3 => (hb.block b (by omega) h2).trans (hfar8 b h3)⟩
  refine ⟨.agg (stC zk za zn zz zp zK zkids.length kc zB zbody.length bc zE zels.length ec), by simp [results, Tryz.results62, go_sem, stC, v0, v1, v2, v3, v4, v5, v6, v7], zk, za, zn, zz, zp, zkids, zbody, zels, zK, kc, zB, bc, zE, ec, rfl, Hxe.out, ?_, ?_, ?_, hp, hbt.but Hb7.out (by omega)⟩
  · exact RdEs.more (fun _ hS => hS.lo (by omega)) _ _ _ (RdEs.bt HK7.out hbt (by omega) (by omega))
  · exact RdSs.more (fun _ hS => hS.lo (by omega)) _ _ _ (RdSs.bt HB7.out hbt (by omega) (by omega))
  · exact RdSs.more (fun _ hS => hS.lo (by omega)) _ _ _ (RdSs.bt HE7.out hbt (by omega) (by omega))
set_option maxRecDepth 100000 in
set_option maxHeartbeats 8000000 in
theorem st_count_in (k : Nat) (HS : SmC (fun s a => countK k a s) k 75) (g : Nat) (s : PS) (x : St) (s6 : PS) (w : World) (hx : countK k s.now.at_ s.down = some (x, s6)) (hok : Ok (k + 1) s) (h : PAt w g s) (hc : ¬ s.deep + 1 > 256) (hf_choice : s.down.isB ([105, 102] : List UInt8) = false) (hf_while : s.down.isB ([119, 104, 105, 108, 101] : List UInt8) = false) (hf_count : s.down.isB ([102, 111, 114] : List UInt8) = true) :
    Calls Tryz.prog 62 #[.pointer (some ⟨g, 0, none⟩)] w (StP g w.heap.size w (x, (s6).up)) := by
  have hgl := h.lt
  obtain ⟨W, hW, hbW, hzW, hbX, hbR⟩ := two_al w #[.pointer (some ⟨g, 0, none⟩)] #[.int .i64 0, .int .i64 0, .int .i64 0, .string ⟨#[]⟩, .int .i64 0, .slice none 0 0, .slice none 0 0, .slice none 0 0] 59 77
  have hPW := h.keep hbW
  obtain ⟨_, _, _, _, _, x3, _, xf, _⟩ := hPW.five
  have c0 : W.cell? ⟨w.heap.size, 0, none⟩ = some (.pointer (some ⟨g, 0, none⟩)) := Lib.cell_of_heap hbX 0
  have HPW := Lib.hid hPW
  have HbW := Lib.hid hbW
  have HbX := Lib.hid hbX
  have HbR := Lib.hid hbR
  have hokd : Ok k s.down := by
    have h1 := down_deep s
    unfold Ok at hok ⊢
    rw [h1.1, h1.2]
    omega
  have hX := fun q w' (hp : PAt w' g s.down) (h1 : g < q) (h2 : w'.heap[q]? = some (.cells (st0 s.now.at_) 77 (0, 0))) => HS g q s.now.at_ s.down (x, s6) w' hx hokd hp h1 h2
  have hev : Even s.down s6 := (pureS_all k).count _ _ _ hx
  have Hdp := Lib.hid (show -4611686018427387904 ≤ (s6).deep ∧ (s6).deep ≤ 4611686018427387904 from by
    have h1 := (even_need1 s6 ([59] : List UInt8)).2
    have h2 := hev.2
    have h3 := (down_deep s).2
    unfold Ok at hok
    first | (rw [h1]; omega) | omega)
  have hd0 : 0 ≤ s.deep := hok.2.2.2.1
  have hd1 : s.deep ≤ 1099511627776 := by have := hok.2.2.2.2; omega
  have hmf : ∀ (fn : Fn) (first cap : Array Value) (w : World), (Instr.makeFunc fn first cap).run Tryz.prog w = .ok (.func fn first cap) w := fun _ _ _ _ => rfl
  obtain ⟨sD, hsD⟩ : ∃ sD : PS, sD = { s with deep := s.deep + 1 } := ⟨_, rfl⟩
  have hnD : sD.now = s.now := by rw [hsD]; rfl
  have hdn : s.down = sD := by unfold PS.down; rw [if_neg hc, hsD]
  have hdb : decide (256 < s.deep + 1) = false := by simp; omega
  have hN := fun w' (hp : PAt w' g sD) => now_any g sD w' hp
  rw [hnD] at hN
  have hNx := fun w' (hp : PAt w' g s.down) => now_any g s.down w' hp
  obtain ⟨t, hnow⟩ : ∃ t, t = s.now := ⟨_, rfl⟩
  obtain ⟨t', hnow'⟩ : ∃ t', t' = s.down.now := ⟨_, rfl⟩
  unfold PS.isB at hf_choice hf_while hf_count
  rw [← hnow'] at hNx hf_choice hf_while hf_count
  rw [← hnow] at hN hX
  obtain ⟨sx, hsx⟩ : ∃ sx, sx = s.down := ⟨_, rfl⟩
  rw [← hsx] at hNx hX hdn
  obtain ⟨tk, ta, tn, tb⟩ := t
  obtain ⟨tk', ta', tn', tb'⟩ := t'
  unfold tkV at hN hNx
  unfold st0 at hX
  simp only at hN hNx hX hf_choice hf_while hf_count
  have f1 := tok_f1 tk ta tn ⟨tb.toArray⟩
  have f3 := tok_f3 tk' ta' tn' ⟨tb'.toArray⟩
  rw [hdn] at hNx hX; clear hdn
  have HsD := Lib.hid hsD
  clear hsD
  clear hx hok h hbW hbX hbR hPW hev hnow hnow' hsx hokd hc hnD HS
  go_enter_defers Tryz.func62, Tryz.ntmps62
  go_upto_region 1 with fail
  rw [← hW]
  clear hW
  go_upto_region 2 with fail
  obtain ⟨w1, hw1⟩ : ∃ w1, w1 = W.setCell ⟨g, 3, none⟩ (.int .i64 (s.deep + 1)) := ⟨_, rfl⟩
  rw [← hw1]
  have hb1 : But g W w1 := by rw [hw1]; exact (But.refl g W).setCell (Or.inl rfl) _
  have hp1 : PAt w1 g sD := by rw [hw1, HsD.out]; exact HPW.out.set3 (s.deep + 1)
  have hx1 := (hb1.block w.heap.size (by omega) (by omega)).trans HbX.out
  have hr1 := (hb1.block (w.heap.size + 1) (by omega) (by omega)).trans HbR.out
  have c1 : w1.cell? ⟨w.heap.size, 0, none⟩ = some (.pointer (some ⟨g, 0, none⟩)) := Lib.cell_of_heap hx1 0
  have Hb1 := Lib.hid ((But.of_below (g := g) HbW.out).trans hb1)
  have Hp1 := Lib.hid hp1
  have Hx1 := Lib.hid hx1
  have Hr1 := Lib.hid hr1
  clear hw1 hb1 hp1 hx1 hr1 x3 xf c0
  have hN1 := hN w1 Hp1.out
  go_upto_region 4 with (go_at_call 18; refine hN1.mono ?_; rintro e w2 ⟨rfl, hb⟩; have hb2 := hb; have HB2 := Lib.hid hb2; have hz2 : w.heap.size + 1 < w2.heap.size := (by have := heap_lt Hr1.out; have := hb.size; omega); clear hb hb2 hN1)
  obtain ⟨w3, hw3, hb3, hz3, hq3⟩ := one_al w2 #[.int .i64 0, .int .i64 ta, .int .i64 0, .string ⟨#[]⟩, .int .i64 0, .slice none 0 0, .slice none 0 0, .slice none 0 0] 77
  rw [← hw3]
  have hb13 := HB2.out.trans (hb3.mono HB2.out.size)
  have hp3 := Hp1.out.keep hb13
  have hx3 := (hb13.block w.heap.size (heap_lt Hx1.out)).trans Hx1.out
  have hr3 := (hb13.block (w.heap.size + 1) (heap_lt Hr1.out)).trans Hr1.out
  have c3 : w3.cell? ⟨w.heap.size, 0, none⟩ = some (.pointer (some ⟨g, 0, none⟩)) := Lib.cell_of_heap hx3 0
  obtain ⟨A, cap, _, _, _, y3, _, yf, _⟩ := hp3.five
  replace y3 : w3.cell? ⟨g, 3, none⟩ = some (.int .i64 (s.deep + 1)) := by rw [y3, HsD.out]
  obtain ⟨q, hq⟩ : ∃ q, q = w2.heap.size := ⟨_, rfl⟩
  rw [← hq] at hq3 hz3 ⊢
  have hgq : g < q := by omega
  have hbq : w.heap.size + 1 < q := by omega
  obtain ⟨q0, q1, q2, q3, q4, q5, q6, q7, qf⟩ := cells8 hq3
  have Hb3 := Lib.hid (Hb1.out.trans (But.of_below hb13))
  have Hp3 := Lib.hid hp3
  have Hx3 := Lib.hid hx3
  have Hr3 := Lib.hid hr3
  have Hq3 := Lib.hid hq3
  clear hw3 hb3 hb13 hp3 hx3 hr3 hq3 hq Hx1 Hr1 HB2 Hp1 c1 hz2
  go_upto_region 6 with fail
  obtain ⟨w5, hw5⟩ : ∃ w5, w5 = w3 := ⟨_, rfl⟩
  rw [← hw5] at Hp3 Hb3 Hx3 Hr3 Hq3 c3 ⊢
  have Hp5 := Hp3
  have Hb5 := Hb3
  have Hx5 := Hx3
  have Hr5 := Hr3
  have Hq5 := Hq3
  have c5 := c3
  clear hw5 c3 y3 yf q0 q1 q2 q3 q4 q5 q6 q7 qf
  go_wp2_with (first
    | (go_at_call 18; refine (hNx w5 Hp5.out).mono ?_; rintro e w6 ⟨rfl, hb⟩; have Hp6 := Lib.hid (Hp5.out.keep hb); have Hb6 := Lib.hid (Hb5.out.trans (But.of_below hb)); have Hx6 := Lib.hid ((hb.block w.heap.size (heap_lt Hx5.out)).trans Hx5.out); have Hr6 := Lib.hid ((hb.block (w.heap.size + 1) (heap_lt Hr5.out)).trans Hr5.out); have Hq6 := Lib.hid ((hb.block q (heap_lt Hq5.out)).trans Hq5.out); have c6 : w6.cell? ⟨w.heap.size, 0, none⟩ = some (.pointer (some ⟨g, 0, none⟩)) := Lib.cell_of_heap Hx6.out 0; clear hb hNx c5)
    | (go_at_call 75; refine (hX q w6 Hp6.out hgq Hq6.out).mono ?_; rintro e w7 ⟨rfl, hp, hb, zk, za, zn, zz, zp, zkids, zbody, zels, zK, kc, zB, bc, zE, ec, hxe, hq7, hk, hB, hE⟩; simp only at hp hxe; have hz7 := hb.size; have Hxe := Lib.hid hxe; have Hb7 := Lib.hid (hb.but Hb6.out (by omega)); have Hx7 := Lib.hid ((hb.block w.heap.size (heap_lt Hx6.out) (by omega) (by omega)).trans Hx6.out); have Hr7 := Lib.hid ((hb.block (w.heap.size + 1) (heap_lt Hr6.out) (by omega) (by omega)).trans Hr6.out); have c7 : w7.cell? ⟨w.heap.size, 0, none⟩ = some (.pointer (some ⟨g, 0, none⟩)) := Lib.cell_of_heap Hx7.out 0; have hzw : w.heap.size + 1 < w6.heap.size := heap_lt Hr6.out; have HK7 := Lib.hid (RdEs.more (S' := From (w.heap.size + 2) w7) (fun _ hS => hS.lo (by omega)) _ _ _ hk); have HB7 := Lib.hid (RdSs.more (S' := From (w.heap.size + 2) w7) (fun _ hS => hS.lo (by omega)) _ _ _ hB); have HE7 := Lib.hid (RdSs.more (S' := From (w.heap.size + 2) w7) (fun _ hS => hS.lo (by omega)) _ _ _ hE); have Hp7 := Lib.hid hp; have Hq7 := Lib.hid hq7; clear hxe hp hb hq7 hk hB hE hX c6; obtain ⟨q0, q1, q2, q3, q4, q5, q6, q7, qf⟩ := cells8 Hq7.out; obtain ⟨r0, r1, r2, r3, r4, r5, r6, r7, rf⟩ := cells8 Hr7.out; have hrz := heap_lt Hr7.out))
  obtain ⟨W8, hW8, hR8, hfar8, hbl8, hz8⟩ := eight_name Hr7.out (.int .i64 zk) (.int .i64 za) (.int .i64 zn) (.string zz) (.int .i64 zp) (.slice zK zkids.length kc) (.slice zB zbody.length bc) (.slice zE zels.length ec)
  rw [← hW8]
  clear hW8
  refine leaves_cons (f := 72) (args := #[.pointer (some ⟨w.heap.size, 0, none⟩)]) (by simp) (by simp [go_sem]) ?_
  refine (down_d g w.heap.size s6 .returning _ (Hp7.out.up (hbl8 _ (by omega))) ((World.cell?_of_block (a := ⟨w.heap.size, 0, none⟩) (hfar8 w.heap.size (by omega))).trans c7) (by have := Hdp.out; omega) (by have := Hdp.out; omega)).mono ?_
  rintro e u' w'' ⟨rfl, rfl, hp, hb⟩
  have hRR := (hb.block (w.heap.size + 1) (by omega) (by omega)).trans hR8
  obtain ⟨v0, v1, v2, v3, v4, v5, v6, v7, _⟩ := cells8 hRR
  have hz' := hb.size
  have hb8 := hbl8 (w.heap.size + 1) (Nat.le_refl _)
  have hbt : Bt g (w.heap.size + 1) w7 w'' := ⟨hb.os.trans hb8.os, hb.tape.trans hb8.tape, hb.output.trans hb8.output, by omega, fun b h1 h2 h3 => (hb.block b (by omega) h2).trans (hfar8 b h3)⟩
  refine ⟨.agg (stC zk za zn zz zp zK zkids.length kc zB zbody.length bc zE zels.length ec), by simp [results, Tryz.results62, go_sem, stC, v0, v1, v2, v3, v4, v5, v6, v7], zk, za, zn, zz, zp, zkids, zbody, zels, zK, kc, zB, bc, zE, ec, rfl, Hxe.out, ?_, ?_, ?_, hp, hbt.but Hb7.out (by omega)⟩
  · exact RdEs.more (fun _ hS => hS.lo (by omega)) _ _ _ (RdEs.bt HK7.out hbt (by omega) (by omega))
  · exact RdSs.more (fun _ hS => hS.lo (by omega)) _ _ _ (RdSs.bt HB7.out hbt (by omega) (by omega))
  · exact RdSs.more (fun _ hS => hS.lo (by omega)) _ _ _ (RdSs.bt HE7.out hbt (by omega) (by omega))
set_option maxRecDepth 100000 in
set_option maxHeartbeats 8000000 in
theorem st_count_over (k : Nat) (HS : SmC (fun s a => countK k a s) k 75) (g : Nat) (s : PS) (x : St) (s6 : PS) (w : World) (hx : countK k s.now.at_ s.down = some (x, s6)) (hok : Ok (k + 1) s) (h : PAt w g s) (hc : s.deep + 1 > 256) (hf_choice : s.down.isB ([105, 102] : List UInt8) = false) (hf_while : s.down.isB ([119, 104, 105, 108, 101] : List UInt8) = false) (hf_count : s.down.isB ([102, 111, 114] : List UInt8) = true) :
    Calls Tryz.prog 62 #[.pointer (some ⟨g, 0, none⟩)] w (StP g w.heap.size w (x, (s6).up)) := by
  have hgl := h.lt
  obtain ⟨W, hW, hbW, hzW, hbX, hbR⟩ := two_al w #[.pointer (some ⟨g, 0, none⟩)] #[.int .i64 0, .int .i64 0, .int .i64 0, .string ⟨#[]⟩, .int .i64 0, .slice none 0 0, .slice none 0 0, .slice none 0 0] 59 77
  have hPW := h.keep hbW
  obtain ⟨_, _, _, _, _, x3, _, xf, _⟩ := hPW.five
  have c0 : W.cell? ⟨w.heap.size, 0, none⟩ = some (.pointer (some ⟨g, 0, none⟩)) := Lib.cell_of_heap hbX 0
  have HPW := Lib.hid hPW
  have HbW := Lib.hid hbW
  have HbX := Lib.hid hbX
  have HbR := Lib.hid hbR
  have hokd : Ok k s.down := by
    have h1 := down_deep s
    unfold Ok at hok ⊢
    rw [h1.1, h1.2]
    omega
  have hX := fun q w' (hp : PAt w' g s.down) (h1 : g < q) (h2 : w'.heap[q]? = some (.cells (st0 s.now.at_) 77 (0, 0))) => HS g q s.now.at_ s.down (x, s6) w' hx hokd hp h1 h2
  have hev : Even s.down s6 := (pureS_all k).count _ _ _ hx
  have Hdp := Lib.hid (show -4611686018427387904 ≤ (s6).deep ∧ (s6).deep ≤ 4611686018427387904 from by
    have h1 := (even_need1 s6 ([59] : List UInt8)).2
    have h2 := hev.2
    have h3 := (down_deep s).2
    unfold Ok at hok
    first | (rw [h1]; omega) | omega)
  have hd0 : 0 ≤ s.deep := hok.2.2.2.1
  have hd1 : s.deep ≤ 1099511627776 := by have := hok.2.2.2.2; omega
  have hmf : ∀ (fn : Fn) (first cap : Array Value) (w : World), (Instr.makeFunc fn first cap).run Tryz.prog w = .ok (.func fn first cap) w := fun _ _ _ _ => rfl
  obtain ⟨sD, hsD⟩ : ∃ sD : PS, sD = { s with deep := s.deep + 1 } := ⟨_, rfl⟩
  have hnD : sD.now = s.now := by rw [hsD]; rfl
  have hdn : s.down = sD.fail 4 s.now.at_ := by unfold PS.down; rw [if_pos hc, hsD]
  have hF := fun w' (hp : PAt w' g sD) => fail_any g sD 4 s.now.at_ w' hp
  rw [← hdn] at hF
  have hdb : decide (256 < s.deep + 1) = true := by simp; omega
  have hN := fun w' (hp : PAt w' g sD) => now_any g sD w' hp
  rw [hnD] at hN
  have hNx := fun w' (hp : PAt w' g s.down) => now_any g s.down w' hp
  obtain ⟨t, hnow⟩ : ∃ t, t = s.now := ⟨_, rfl⟩
  obtain ⟨t', hnow'⟩ : ∃ t', t' = s.down.now := ⟨_, rfl⟩
  unfold PS.isB at hf_choice hf_while hf_count
  rw [← hnow'] at hNx hf_choice hf_while hf_count
  rw [← hnow] at hN hX hF
  obtain ⟨sx, hsx⟩ : ∃ sx, sx = s.down := ⟨_, rfl⟩
  rw [← hsx] at hNx hX hdn hF
  obtain ⟨tk, ta, tn, tb⟩ := t
  obtain ⟨tk', ta', tn', tb'⟩ := t'
  unfold tkV at hN hNx
  unfold st0 at hX
  simp only at hN hNx hX hf_choice hf_while hf_count hF
  have f1 := tok_f1 tk ta tn ⟨tb.toArray⟩
  have f3 := tok_f3 tk' ta' tn' ⟨tb'.toArray⟩
  
  have HsD := Lib.hid hsD
  clear hsD
  clear hx hok h hbW hbX hbR hPW hev hnow hnow' hsx hokd hc hnD HS
  go_enter_defers Tryz.func62, Tryz.ntmps62
  go_upto_region 1 with fail
  rw [← hW]
  clear hW
  go_upto_region 2 with fail
  obtain ⟨w1, hw1⟩ : ∃ w1, w1 = W.setCell ⟨g, 3, none⟩ (.int .i64 (s.deep + 1)) := ⟨_, rfl⟩
  rw [← hw1]
  have hb1 : But g W w1 := by rw [hw1]; exact (But.refl g W).setCell (Or.inl rfl) _
  have hp1 : PAt w1 g sD := by rw [hw1, HsD.out]; exact HPW.out.set3 (s.deep + 1)
  have hx1 := (hb1.block w.heap.size (by omega) (by omega)).trans HbX.out
  have hr1 := (hb1.block (w.heap.size + 1) (by omega) (by omega)).trans HbR.out
  have c1 : w1.cell? ⟨w.heap.size, 0, none⟩ = some (.pointer (some ⟨g, 0, none⟩)) := Lib.cell_of_heap hx1 0
  have Hb1 := Lib.hid ((But.of_below (g := g) HbW.out).trans hb1)
  have Hp1 := Lib.hid hp1
  have Hx1 := Lib.hid hx1
  have Hr1 := Lib.hid hr1
  clear hw1 hb1 hp1 hx1 hr1 x3 xf c0
  have hN1 := hN w1 Hp1.out
  go_upto_region 4 with (go_at_call 18; refine hN1.mono ?_; rintro e w2 ⟨rfl, hb⟩; have hb2 := hb; have HB2 := Lib.hid hb2; have hz2 : w.heap.size + 1 < w2.heap.size := (by have := heap_lt Hr1.out; have := hb.size; omega); clear hb hb2 hN1)
  obtain ⟨w3, hw3, hb3, hz3, hq3⟩ := one_al w2 #[.int .i64 0, .int .i64 ta, .int .i64 0, .string ⟨#[]⟩, .int .i64 0, .slice none 0 0, .slice none 0 0, .slice none 0 0] 77
  rw [← hw3]
  have hb13 := HB2.out.trans (hb3.mono HB2.out.size)
  have hp3 := Hp1.out.keep hb13
  have hx3 := (hb13.block w.heap.size (heap_lt Hx1.out)).trans Hx1.out
  have hr3 := (hb13.block (w.heap.size + 1) (heap_lt Hr1.out)).trans Hr1.out
  have c3 : w3.cell? ⟨w.heap.size, 0, none⟩ = some (.pointer (some ⟨g, 0, none⟩)) := Lib.cell_of_heap hx3 0
  obtain ⟨A, cap, _, _, _, y3, _, yf, _⟩ := hp3.five
  replace y3 : w3.cell? ⟨g, 3, none⟩ = some (.int .i64 (s.deep + 1)) := by rw [y3, HsD.out]
  obtain ⟨q, hq⟩ : ∃ q, q = w2.heap.size := ⟨_, rfl⟩
  rw [← hq] at hq3 hz3 ⊢
  have hgq : g < q := by omega
  have hbq : w.heap.size + 1 < q := by omega
  obtain ⟨q0, q1, q2, q3, q4, q5, q6, q7, qf⟩ := cells8 hq3
  have Hb3 := Lib.hid (Hb1.out.trans (But.of_below hb13))
  have Hp3 := Lib.hid hp3
  have Hx3 := Lib.hid hx3
  have Hr3 := Lib.hid hr3
  have Hq3 := Lib.hid hq3
  clear hw3 hb3 hb13 hp3 hx3 hr3 hq3 hq Hx1 Hr1 HB2 Hp1 c1 hz2
  go_upto_region 6 with (go_at_call 19; refine (hF w3 Hp3.out).mono ?_; rintro e w5 ⟨rfl, hp, hb⟩; have Hp5 := Lib.hid hp; have Hb5 := Lib.hid (Hb3.out.trans hb); have Hx5 := Lib.hid ((hb.block w.heap.size (by omega) (by omega)).trans Hx3.out); have Hr5 := Lib.hid ((hb.block (w.heap.size + 1) (by omega) (by omega)).trans Hr3.out); have Hq5 := Lib.hid ((hb.block q (by omega) (by omega)).trans Hq3.out); have c5 : w5.cell? ⟨w.heap.size, 0, none⟩ = some (.pointer (some ⟨g, 0, none⟩)) := Lib.cell_of_heap Hx5.out 0; clear hp hb hF c3 y3 yf q0 q1 q2 q3 q4 q5 q6 q7 qf)
  go_wp2_with (first
    | (go_at_call 18; refine (hNx w5 Hp5.out).mono ?_; rintro e w6 ⟨rfl, hb⟩; have Hp6 := Lib.hid (Hp5.out.keep hb); have Hb6 := Lib.hid (Hb5.out.trans (But.of_below hb)); have Hx6 := Lib.hid ((hb.block w.heap.size (heap_lt Hx5.out)).trans Hx5.out); have Hr6 := Lib.hid ((hb.block (w.heap.size + 1) (heap_lt Hr5.out)).trans Hr5.out); have Hq6 := Lib.hid ((hb.block q (heap_lt Hq5.out)).trans Hq5.out); have c6 : w6.cell? ⟨w.heap.size, 0, none⟩ = some (.pointer (some ⟨g, 0, none⟩)) := Lib.cell_of_heap Hx6.out 0; clear hb hNx c5)
    | (go_at_call 75; refine (hX q w6 Hp6.out hgq Hq6.out).mono ?_; rintro e w7 ⟨rfl, hp, hb, zk, za, zn, zz, zp, zkids, zbody, zels, zK, kc, zB, bc, zE, ec, hxe, hq7, hk, hB, hE⟩; simp only at hp hxe; have hz7 := hb.size; have Hxe := Lib.hid hxe; have Hb7 := Lib.hid (hb.but Hb6.out (by omega)); have Hx7 := Lib.hid ((hb.block w.heap.size (heap_lt Hx6.out) (by omega) (by omega)).trans Hx6.out); have Hr7 := Lib.hid ((hb.block (w.heap.size + 1) (heap_lt Hr6.out) (by omega) (by omega)).trans Hr6.out); have c7 : w7.cell? ⟨w.heap.size, 0, none⟩ = some (.pointer (some ⟨g, 0, none⟩)) := Lib.cell_of_heap Hx7.out 0; have hzw : w.heap.size + 1 < w6.heap.size := heap_lt Hr6.out; have HK7 := Lib.hid (RdEs.more (S' := From (w.heap.size + 2) w7) (fun _ hS => hS.lo (by omega)) _ _ _ hk); have HB7 := Lib.hid (RdSs.more (S' := From (w.heap.size + 2) w7) (fun _ hS => hS.lo (by omega)) _ _ _ hB); have HE7 := Lib.hid (RdSs.more (S' := From (w.heap.size + 2) w7) (fun _ hS => hS.lo (by omega)) _ _ _ hE); have Hp7 := Lib.hid hp; have Hq7 := Lib.hid hq7; clear hxe hp hb hq7 hk hB hE hX c6; obtain ⟨q0, q1, q2, q3, q4, q5, q6, q7, qf⟩ := cells8 Hq7.out; obtain ⟨r0, r1, r2, r3, r4, r5, r6, r7, rf⟩ := cells8 Hr7.out; have hrz := heap_lt Hr7.out))
  obtain ⟨W8, hW8, hR8, hfar8, hbl8, hz8⟩ := eight_name Hr7.out (.int .i64 zk) (.int .i64 za) (.int .i64 zn) (.string zz) (.int .i64 zp) (.slice zK zkids.length kc) (.slice zB zbody.length bc) (.slice zE zels.length ec)
  rw [← hW8]
  clear hW8
  refine leaves_cons (f := 72) (args := #[.pointer (some ⟨w.heap.size, 0, none⟩)]) (by simp) (by simp [go_sem]) ?_
  refine (down_d g w.heap.size s6 .returning _ (Hp7.out.up (hbl8 _ (by omega))) ((World.cell?_of_block (a := ⟨w.heap.size, 0, none⟩) (hfar8 w.heap.size (by omega))).trans c7) (by have := Hdp.out; omega) (by have := Hdp.out; omega)).mono ?_
  rintro e u' w'' ⟨rfl, rfl, hp, hb⟩
  have hRR := (hb.block (w.heap.size + 1) (by omega) (by omega)).trans hR8
  obtain ⟨v0, v1, v2, v3, v4, v5, v6, v7, _⟩ := cells8 hRR
  have hz' := hb.size
  have hb8 := hbl8 (w.heap.size + 1) (Nat.le_refl _)
  have hbt : Bt g (w.heap.size + 1) w7 w'' := ⟨hb.os.trans hb8.os, hb.tape.trans hb8.tape, hb.output.trans hb8.output, by omega, fun b h1 h2 h3 => (hb.block b (by omega) h2).trans (hfar8 b h3)⟩
  refine ⟨.agg (stC zk za zn zz zp zK zkids.length kc zB zbody.length bc zE zels.length ec), by simp [results, Tryz.results62, go_sem, stC, v0, v1, v2, v3, v4, v5, v6, v7], zk, za, zn, zz, zp, zkids, zbody, zels, zK, kc, zB, bc, zE, ec, rfl, Hxe.out, ?_, ?_, ?_, hp, hbt.but Hb7.out (by omega)⟩
  · exact RdEs.more (fun _ hS => hS.lo (by omega)) _ _ _ (RdEs.bt HK7.out hbt (by omega) (by omega))
  · exact RdSs.more (fun _ hS => hS.lo (by omega)) _ _ _ (RdSs.bt HB7.out hbt (by omega) (by omega))
  · exact RdSs.more (fun _ hS => hS.lo (by omega)) _ _ _ (RdSs.bt HE7.out hbt (by omega) (by omega))
set_option maxRecDepth 100000 in
set_option maxHeartbeats 8000000 in
theorem st_simple_in (k : Nat) (HS : SmC (fun s a => simpleK k a s) k 76) (g : Nat) (s : PS) (x : St) (s6 : PS) (w : World) (hx : simpleK k s.now.at_ s.down = some (x, s6)) (hok : Ok (k + 1) s) (h : PAt w g s) (hc : ¬ s.deep + 1 > 256) (hf_choice : s.down.isB ([105, 102] : List UInt8) = false) (hf_while : s.down.isB ([119, 104, 105, 108, 101] : List UInt8) = false) (hf_count : s.down.isB ([102, 111, 114] : List UInt8) = false) :
    Calls Tryz.prog 62 #[.pointer (some ⟨g, 0, none⟩)] w (StP g w.heap.size w (x, (s6.need1 ([59] : List UInt8)).up)) := by
  have hgl := h.lt
  obtain ⟨W, hW, hbW, hzW, hbX, hbR⟩ := two_al w #[.pointer (some ⟨g, 0, none⟩)] #[.int .i64 0, .int .i64 0, .int .i64 0, .string ⟨#[]⟩, .int .i64 0, .slice none 0 0, .slice none 0 0, .slice none 0 0] 59 77
  have hPW := h.keep hbW
  obtain ⟨_, _, _, _, _, x3, _, xf, _⟩ := hPW.five
  have c0 : W.cell? ⟨w.heap.size, 0, none⟩ = some (.pointer (some ⟨g, 0, none⟩)) := Lib.cell_of_heap hbX 0
  have HPW := Lib.hid hPW
  have HbW := Lib.hid hbW
  have HbX := Lib.hid hbX
  have HbR := Lib.hid hbR
  have hokd : Ok k s.down := by
    have h1 := down_deep s
    unfold Ok at hok ⊢
    rw [h1.1, h1.2]
    omega
  have hX := fun q w' (hp : PAt w' g s.down) (h1 : g < q) (h2 : w'.heap[q]? = some (.cells (st0 s.now.at_) 77 (0, 0))) => HS g q s.now.at_ s.down (x, s6) w' hx hokd hp h1 h2
  have hev : Even s.down s6 := (pureS_all k).simple _ _ _ hx
  have Hdp := Lib.hid (show -4611686018427387904 ≤ (s6.need1 ([59] : List UInt8)).deep ∧ (s6.need1 ([59] : List UInt8)).deep ≤ 4611686018427387904 from by
    have h1 := (even_need1 s6 ([59] : List UInt8)).2
    have h2 := hev.2
    have h3 := (down_deep s).2
    unfold Ok at hok
    first | (rw [h1]; omega) | omega)
  have hd0 : 0 ≤ s.deep := hok.2.2.2.1
  have hd1 : s.deep ≤ 1099511627776 := by have := hok.2.2.2.2; omega
  have hmf : ∀ (fn : Fn) (first cap : Array Value) (w : World), (Instr.makeFunc fn first cap).run Tryz.prog w = .ok (.func fn first cap) w := fun _ _ _ _ => rfl
  obtain ⟨sD, hsD⟩ : ∃ sD : PS, sD = { s with deep := s.deep + 1 } := ⟨_, rfl⟩
  have hnD : sD.now = s.now := by rw [hsD]; rfl
  have hdn : s.down = sD := by unfold PS.down; rw [if_neg hc, hsD]
  have hdb : decide (256 < s.deep + 1) = false := by simp; omega
  have hN := fun w' (hp : PAt w' g sD) => now_any g sD w' hp
  rw [hnD] at hN
  have hNx := fun w' (hp : PAt w' g s.down) => now_any g s.down w' hp
  obtain ⟨t, hnow⟩ : ∃ t, t = s.now := ⟨_, rfl⟩
  obtain ⟨t', hnow'⟩ : ∃ t', t' = s.down.now := ⟨_, rfl⟩
  unfold PS.isB at hf_choice hf_while hf_count
  rw [← hnow'] at hNx hf_choice hf_while hf_count
  rw [← hnow] at hN hX
  obtain ⟨sx, hsx⟩ : ∃ sx, sx = s.down := ⟨_, rfl⟩
  rw [← hsx] at hNx hX hdn
  obtain ⟨tk, ta, tn, tb⟩ := t
  obtain ⟨tk', ta', tn', tb'⟩ := t'
  unfold tkV at hN hNx
  unfold st0 at hX
  simp only at hN hNx hX hf_choice hf_while hf_count
  have f1 := tok_f1 tk ta tn ⟨tb.toArray⟩
  have f3 := tok_f3 tk' ta' tn' ⟨tb'.toArray⟩
  rw [hdn] at hNx hX; clear hdn
  have HsD := Lib.hid hsD
  clear hsD
  clear hx hok h hbW hbX hbR hPW hev hnow hnow' hsx hokd hc hnD HS
  go_enter_defers Tryz.func62, Tryz.ntmps62
  go_upto_region 1 with fail
  rw [← hW]
  clear hW
  go_upto_region 2 with fail
  obtain ⟨w1, hw1⟩ : ∃ w1, w1 = W.setCell ⟨g, 3, none⟩ (.int .i64 (s.deep + 1)) := ⟨_, rfl⟩
  rw [← hw1]
  have hb1 : But g W w1 := by rw [hw1]; exact (But.refl g W).setCell (Or.inl rfl) _
  have hp1 : PAt w1 g sD := by rw [hw1, HsD.out]; exact HPW.out.set3 (s.deep + 1)
  have hx1 := (hb1.block w.heap.size (by omega) (by omega)).trans HbX.out
  have hr1 := (hb1.block (w.heap.size + 1) (by omega) (by omega)).trans HbR.out
  have c1 : w1.cell? ⟨w.heap.size, 0, none⟩ = some (.pointer (some ⟨g, 0, none⟩)) := Lib.cell_of_heap hx1 0
  have Hb1 := Lib.hid ((But.of_below (g := g) HbW.out).trans hb1)
  have Hp1 := Lib.hid hp1
  have Hx1 := Lib.hid hx1
  have Hr1 := Lib.hid hr1
  clear hw1 hb1 hp1 hx1 hr1 x3 xf c0
  have hN1 := hN w1 Hp1.out
  go_upto_region 4 with (go_at_call 18; refine hN1.mono ?_; rintro e w2 ⟨rfl, hb⟩; have hb2 := hb; have HB2 := Lib.hid hb2; have hz2 : w.heap.size + 1 < w2.heap.size := (by have := heap_lt Hr1.out; have := hb.size; omega); clear hb hb2 hN1)
  obtain ⟨w3, hw3, hb3, hz3, hq3⟩ := one_al w2 #[.int .i64 0, .int .i64 ta, .int .i64 0, .string ⟨#[]⟩, .int .i64 0, .slice none 0 0, .slice none 0 0, .slice none 0 0] 77
  rw [← hw3]
  have hb13 := HB2.out.trans (hb3.mono HB2.out.size)
  have hp3 := Hp1.out.keep hb13
  have hx3 := (hb13.block w.heap.size (heap_lt Hx1.out)).trans Hx1.out
  have hr3 := (hb13.block (w.heap.size + 1) (heap_lt Hr1.out)).trans Hr1.out
  have c3 : w3.cell? ⟨w.heap.size, 0, none⟩ = some (.pointer (some ⟨g, 0, none⟩)) := Lib.cell_of_heap hx3 0
  obtain ⟨A, cap, _, _, _, y3, _, yf, _⟩ := hp3.five
  replace y3 : w3.cell? ⟨g, 3, none⟩ = some (.int .i64 (s.deep + 1)) := by rw [y3, HsD.out]
  obtain ⟨q, hq⟩ : ∃ q, q = w2.heap.size := ⟨_, rfl⟩
  rw [← hq] at hq3 hz3 ⊢
  have hgq : g < q := by omega
  have hbq : w.heap.size + 1 < q := by omega
  obtain ⟨q0, q1, q2, q3, q4, q5, q6, q7, qf⟩ := cells8 hq3
  have Hb3 := Lib.hid (Hb1.out.trans (But.of_below hb13))
  have Hp3 := Lib.hid hp3
  have Hx3 := Lib.hid hx3
  have Hr3 := Lib.hid hr3
  have Hq3 := Lib.hid hq3
  clear hw3 hb3 hb13 hp3 hx3 hr3 hq3 hq Hx1 Hr1 HB2 Hp1 c1 hz2
  go_upto_region 6 with fail
  obtain ⟨w5, hw5⟩ : ∃ w5, w5 = w3 := ⟨_, rfl⟩
  rw [← hw5] at Hp3 Hb3 Hx3 Hr3 Hq3 c3 ⊢
  have Hp5 := Hp3
  have Hb5 := Hb3
  have Hx5 := Hx3
  have Hr5 := Hr3
  have Hq5 := Hq3
  have c5 := c3
  clear hw5 c3 y3 yf q0 q1 q2 q3 q4 q5 q6 q7 qf
  go_wp2_with (first
    | (go_at_call 18; refine (hNx w5 Hp5.out).mono ?_; rintro e w6 ⟨rfl, hb⟩; have Hp6 := Lib.hid (Hp5.out.keep hb); have Hb6 := Lib.hid (Hb5.out.trans (But.of_below hb)); have Hx6 := Lib.hid ((hb.block w.heap.size (heap_lt Hx5.out)).trans Hx5.out); have Hr6 := Lib.hid ((hb.block (w.heap.size + 1) (heap_lt Hr5.out)).trans Hr5.out); have Hq6 := Lib.hid ((hb.block q (heap_lt Hq5.out)).trans Hq5.out); have c6 : w6.cell? ⟨w.heap.size, 0, none⟩ = some (.pointer (some ⟨g, 0, none⟩)) := Lib.cell_of_heap Hx6.out 0; clear hb hNx c5)
    | (go_at_call 76; refine (hX q w6 Hp6.out hgq Hq6.out).mono ?_; rintro e w7 ⟨rfl, hp, hb, zk, za, zn, zz, zp, zkids, zbody, zels, zK, kc, zB, bc, zE, ec, hxe, hq7, hk, hB, hE⟩; simp only at hp hxe; have hz7 := hb.size; have Hxe := Lib.hid hxe; have Hb7 := Lib.hid (hb.but Hb6.out (by omega)); have Hx7 := Lib.hid ((hb.block w.heap.size (heap_lt Hx6.out) (by omega) (by omega)).trans Hx6.out); have Hr7 := Lib.hid ((hb.block (w.heap.size + 1) (heap_lt Hr6.out) (by omega) (by omega)).trans Hr6.out); have c7 : w7.cell? ⟨w.heap.size, 0, none⟩ = some (.pointer (some ⟨g, 0, none⟩)) := Lib.cell_of_heap Hx7.out 0; have hzw : w.heap.size + 1 < w6.heap.size := heap_lt Hr6.out; have HK7 := Lib.hid (RdEs.more (S' := From (w.heap.size + 2) w7) (fun _ hS => hS.lo (by omega)) _ _ _ hk); have HB7 := Lib.hid (RdSs.more (S' := From (w.heap.size + 2) w7) (fun _ hS => hS.lo (by omega)) _ _ _ hB); have HE7 := Lib.hid (RdSs.more (S' := From (w.heap.size + 2) w7) (fun _ hS => hS.lo (by omega)) _ _ _ hE); have Hp7 := Lib.hid hp; have Hq7 := Lib.hid hq7; clear hxe hp hb hq7 hk hB hE hX c6)
    | (go_at_call 38; refine (need1_at g s6 ([59] : List UInt8) w7 Hp7.out).mono ?_; rintro e w8 ⟨rfl, hp, hb⟩; have hz8 := hb.size; have Hp8 := Lib.hid hp; have Hb8 := Lib.hid (Hb7.out.trans hb); have Hx8 := Lib.hid ((hb.block w.heap.size (heap_lt Hx7.out) (by omega)).trans Hx7.out); have Hr8 := Lib.hid ((hb.block (w.heap.size + 1) (heap_lt Hr7.out) (by omega)).trans Hr7.out); have Hq8 := Lib.hid ((hb.block q (heap_lt Hq7.out) (by omega)).trans Hq7.out); have c8 : w8.cell? ⟨w.heap.size, 0, none⟩ = some (.pointer (some ⟨g, 0, none⟩)) := Lib.cell_of_heap Hx8.out 0; have HK8 := Lib.hid (RdEs.bt HK7.out (Bt.of_but (q := g) hb) (by omega) (by omega)); have HB8 := Lib.hid (RdSs.bt HB7.out (Bt.of_but (q := g) hb) (by omega) (by omega)); have HE8 := Lib.hid (RdSs.bt HE7.out (Bt.of_but (q := g) hb) (by omega) (by omega)); clear hp hb c7; obtain ⟨q0, q1, q2, q3, q4, q5, q6, q7, qf⟩ := cells8 Hq8.out; obtain ⟨r0, r1, r2, r3, r4, r5, r6, r7, rf⟩ := cells8 Hr8.out; have hrz := heap_lt Hr8.out))
  obtain ⟨W8, hW8, hR8, hfar8, hbl8, hz8⟩ := eight_name Hr8.out (.int .i64 zk) (.int .i64 za) (.int .i64 zn) (.string zz) (.int .i64 zp) (.slice zK zkids.length kc) (.slice zB zbody.length bc) (.slice zE zels.length ec)
  rw [← hW8]
  clear hW8
  refine leaves_cons (f := 72) (args := #[.pointer (some ⟨w.heap.size, 0, none⟩)]) (by simp) (by simp [go_sem]) ?_
  refine (down_d g w.heap.size (s6.need1 ([59] : List UInt8)) .returning _ (Hp8.out.up (hbl8 _ (by omega))) ((World.cell?_of_block (a := ⟨w.heap.size, 0, none⟩) (hfar8 w.heap.size (by omega))).trans c8) (by have := Hdp.out; omega) (by have := Hdp.out; omega)).mono ?_
  rintro e u' w'' ⟨rfl, rfl, hp, hb⟩
  have hRR := (hb.block (w.heap.size + 1) (by omega) (by omega)).trans hR8
  obtain ⟨v0, v1, v2, v3, v4, v5, v6, v7, _⟩ := cells8 hRR
  have hz' := hb.size
  have hb8 := hbl8 (w.heap.size + 1) (Nat.le_refl _)
  have hbt : Bt g (w.heap.size + 1) w8 w'' := ⟨hb.os.trans hb8.os, hb.tape.trans hb8.tape, hb.output.trans hb8.output, by omega, fun b h1 h2 h3 => (hb.block b (by omega) h2).trans (hfar8 b h3)⟩
  refine ⟨.agg (stC zk za zn zz zp zK zkids.length kc zB zbody.length bc zE zels.length ec), by simp [results, Tryz.results62, go_sem, stC, v0, v1, v2, v3, v4, v5, v6, v7], zk, za, zn, zz, zp, zkids, zbody, zels, zK, kc, zB, bc, zE, ec, rfl, Hxe.out, ?_, ?_, ?_, hp, hbt.but Hb8.out (by omega)⟩
  · exact RdEs.more (fun _ hS => hS.lo (by omega)) _ _ _ (RdEs.bt HK8.out hbt (by omega) (by omega))
  · exact RdSs.more (fun _ hS => hS.lo (by omega)) _ _ _ (RdSs.bt HB8.out hbt (by omega) (by omega))
  · exact RdSs.more (fun _ hS => hS.lo (by omega)) _ _ _ (RdSs.bt HE8.out hbt (by omega) (by omega))
set_option maxRecDepth 100000 in
set_option maxHeartbeats 8000000 in
theorem st_simple_over (k : Nat) (HS : SmC (fun s a => simpleK k a s) k 76) (g : Nat) (s : PS) (x : St) (s6 : PS) (w : World) (hx : simpleK k s.now.at_ s.down = some (x, s6)) (hok : Ok (k + 1) s) (h : PAt w g s) (hc : s.deep + 1 > 256) (hf_choice : s.down.isB ([105, 102] : List UInt8) = false) (hf_while : s.down.isB ([119, 104, 105, 108, 101] : List UInt8) = false) (hf_count : s.down.isB ([102, 111, 114] : List UInt8) = false) :
    Calls Tryz.prog 62 #[.pointer (some ⟨g, 0, none⟩)] w (StP g w.heap.size w (x, (s6.need1 ([59] : List UInt8)).up)) := by
  have hgl := h.lt
  obtain ⟨W, hW, hbW, hzW, hbX, hbR⟩ := two_al w #[.pointer (some ⟨g, 0, none⟩)] #[.int .i64 0, .int .i64 0, .int .i64 0, .string ⟨#[]⟩, .int .i64 0, .slice none 0 0, .slice none 0 0, .slice none 0 0] 59 77
  have hPW := h.keep hbW
  obtain ⟨_, _, _, _, _, x3, _, xf, _⟩ := hPW.five
  have c0 : W.cell? ⟨w.heap.size, 0, none⟩ = some (.pointer (some ⟨g, 0, none⟩)) := Lib.cell_of_heap hbX 0
  have HPW := Lib.hid hPW
  have HbW := Lib.hid hbW
  have HbX := Lib.hid hbX
  have HbR := Lib.hid hbR
  have hokd : Ok k s.down := by
    have h1 := down_deep s
    unfold Ok at hok ⊢
    rw [h1.1, h1.2]
    omega
  have hX := fun q w' (hp : PAt w' g s.down) (h1 : g < q) (h2 : w'.heap[q]? = some (.cells (st0 s.now.at_) 77 (0, 0))) => HS g q s.now.at_ s.down (x, s6) w' hx hokd hp h1 h2
  have hev : Even s.down s6 := (pureS_all k).simple _ _ _ hx
  have Hdp := Lib.hid (show -4611686018427387904 ≤ (s6.need1 ([59] : List UInt8)).deep ∧ (s6.need1 ([59] : List UInt8)).deep ≤ 4611686018427387904 from by
    have h1 := (even_need1 s6 ([59] : List UInt8)).2
    have h2 := hev.2
    have h3 := (down_deep s).2
    unfold Ok at hok
    first | (rw [h1]; omega) | omega)
  have hd0 : 0 ≤ s.deep := hok.2.2.2.1
  have hd1 : s.deep ≤ 1099511627776 := by have := hok.2.2.2.2; omega
  have hmf : ∀ (fn : Fn) (first cap : Array Value) (w : World), (Instr.makeFunc fn first cap).run Tryz.prog w = .ok (.func fn first cap) w := fun _ _ _ _ => rfl
  obtain ⟨sD, hsD⟩ : ∃ sD : PS, sD = { s with deep := s.deep + 1 } := ⟨_, rfl⟩
  have hnD : sD.now = s.now := by rw [hsD]; rfl
  have hdn : s.down = sD.fail 4 s.now.at_ := by unfold PS.down; rw [if_pos hc, hsD]
  have hF := fun w' (hp : PAt w' g sD) => fail_any g sD 4 s.now.at_ w' hp
  rw [← hdn] at hF
  have hdb : decide (256 < s.deep + 1) = true := by simp; omega
  have hN := fun w' (hp : PAt w' g sD) => now_any g sD w' hp
  rw [hnD] at hN
  have hNx := fun w' (hp : PAt w' g s.down) => now_any g s.down w' hp
  obtain ⟨t, hnow⟩ : ∃ t, t = s.now := ⟨_, rfl⟩
  obtain ⟨t', hnow'⟩ : ∃ t', t' = s.down.now := ⟨_, rfl⟩
  unfold PS.isB at hf_choice hf_while hf_count
  rw [← hnow'] at hNx hf_choice hf_while hf_count
  rw [← hnow] at hN hX hF
  obtain ⟨sx, hsx⟩ : ∃ sx, sx = s.down := ⟨_, rfl⟩
  rw [← hsx] at hNx hX hdn hF
  obtain ⟨tk, ta, tn, tb⟩ := t
  obtain ⟨tk', ta', tn', tb'⟩ := t'
  unfold tkV at hN hNx
  unfold st0 at hX
  simp only at hN hNx hX hf_choice hf_while hf_count hF
  have f1 := tok_f1 tk ta tn ⟨tb.toArray⟩
  have f3 := tok_f3 tk' ta' tn' ⟨tb'.toArray⟩
  
  have HsD := Lib.hid hsD
  clear hsD
  clear hx hok h hbW hbX hbR hPW hev hnow hnow' hsx hokd hc hnD HS
  go_enter_defers Tryz.func62, Tryz.ntmps62
  go_upto_region 1 with fail
  rw [← hW]
  clear hW
  go_upto_region 2 with fail
  obtain ⟨w1, hw1⟩ : ∃ w1, w1 = W.setCell ⟨g, 3, none⟩ (.int .i64 (s.deep + 1)) := ⟨_, rfl⟩
  rw [← hw1]
  have hb1 : But g W w1 := by rw [hw1]; exact (But.refl g W).setCell (Or.inl rfl) _
  have hp1 : PAt w1 g sD := by rw [hw1, HsD.out]; exact HPW.out.set3 (s.deep + 1)
  have hx1 := (hb1.block w.heap.size (by omega) (by omega)).trans HbX.out
  have hr1 := (hb1.block (w.heap.size + 1) (by omega) (by omega)).trans HbR.out
  have c1 : w1.cell? ⟨w.heap.size, 0, none⟩ = some (.pointer (some ⟨g, 0, none⟩)) := Lib.cell_of_heap hx1 0
  have Hb1 := Lib.hid ((But.of_below (g := g) HbW.out).trans hb1)
  have Hp1 := Lib.hid hp1
  have Hx1 := Lib.hid hx1
  have Hr1 := Lib.hid hr1
  clear hw1 hb1 hp1 hx1 hr1 x3 xf c0
  have hN1 := hN w1 Hp1.out
  go_upto_region 4 with (go_at_call 18; refine hN1.mono ?_; rintro e w2 ⟨rfl, hb⟩; have hb2 := hb; have HB2 := Lib.hid hb2; have hz2 : w.heap.size + 1 < w2.heap.size := (by have := heap_lt Hr1.out; have := hb.size; omega); clear hb hb2 hN1)
  obtain ⟨w3, hw3, hb3, hz3, hq3⟩ := one_al w2 #[.int .i64 0, .int .i64 ta, .int .i64 0, .string ⟨#[]⟩, .int .i64 0, .slice none 0 0, .slice none 0 0, .slice none 0 0] 77
  rw [← hw3]
  have hb13 := HB2.out.trans (hb3.mono HB2.out.size)
  have hp3 := Hp1.out.keep hb13
  have hx3 := (hb13.block w.heap.size (heap_lt Hx1.out)).trans Hx1.out
  have hr3 := (hb13.block (w.heap.size + 1) (heap_lt Hr1.out)).trans Hr1.out
  have c3 : w3.cell? ⟨w.heap.size, 0, none⟩ = some (.pointer (some ⟨g, 0, none⟩)) := Lib.cell_of_heap hx3 0
  obtain ⟨A, cap, _, _, _, y3, _, yf, _⟩ := hp3.five
  replace y3 : w3.cell? ⟨g, 3, none⟩ = some (.int .i64 (s.deep + 1)) := by rw [y3, HsD.out]
  obtain ⟨q, hq⟩ : ∃ q, q = w2.heap.size := ⟨_, rfl⟩
  rw [← hq] at hq3 hz3 ⊢
  have hgq : g < q := by omega
  have hbq : w.heap.size + 1 < q := by omega
  obtain ⟨q0, q1, q2, q3, q4, q5, q6, q7, qf⟩ := cells8 hq3
  have Hb3 := Lib.hid (Hb1.out.trans (But.of_below hb13))
  have Hp3 := Lib.hid hp3
  have Hx3 := Lib.hid hx3
  have Hr3 := Lib.hid hr3
  have Hq3 := Lib.hid hq3
  clear hw3 hb3 hb13 hp3 hx3 hr3 hq3 hq Hx1 Hr1 HB2 Hp1 c1 hz2
  go_upto_region 6 with (go_at_call 19; refine (hF w3 Hp3.out).mono ?_; rintro e w5 ⟨rfl, hp, hb⟩; have Hp5 := Lib.hid hp; have Hb5 := Lib.hid (Hb3.out.trans hb); have Hx5 := Lib.hid ((hb.block w.heap.size (by omega) (by omega)).trans Hx3.out); have Hr5 := Lib.hid ((hb.block (w.heap.size + 1) (by omega) (by omega)).trans Hr3.out); have Hq5 := Lib.hid ((hb.block q (by omega) (by omega)).trans Hq3.out); have c5 : w5.cell? ⟨w.heap.size, 0, none⟩ = some (.pointer (some ⟨g, 0, none⟩)) := Lib.cell_of_heap Hx5.out 0; clear hp hb hF c3 y3 yf q0 q1 q2 q3 q4 q5 q6 q7 qf)
  go_wp2_with (first
    | (go_at_call 18; refine (hNx w5 Hp5.out).mono ?_; rintro e w6 ⟨rfl, hb⟩; have Hp6 := Lib.hid (Hp5.out.keep hb); have Hb6 := Lib.hid (Hb5.out.trans (But.of_below hb)); have Hx6 := Lib.hid ((hb.block w.heap.size (heap_lt Hx5.out)).trans Hx5.out); have Hr6 := Lib.hid ((hb.block (w.heap.size + 1) (heap_lt Hr5.out)).trans Hr5.out); have Hq6 := Lib.hid ((hb.block q (heap_lt Hq5.out)).trans Hq5.out); have c6 : w6.cell? ⟨w.heap.size, 0, none⟩ = some (.pointer (some ⟨g, 0, none⟩)) := Lib.cell_of_heap Hx6.out 0; clear hb hNx c5)
    | (go_at_call 76; refine (hX q w6 Hp6.out hgq Hq6.out).mono ?_; rintro e w7 ⟨rfl, hp, hb, zk, za, zn, zz, zp, zkids, zbody, zels, zK, kc, zB, bc, zE, ec, hxe, hq7, hk, hB, hE⟩; simp only at hp hxe; have hz7 := hb.size; have Hxe := Lib.hid hxe; have Hb7 := Lib.hid (hb.but Hb6.out (by omega)); have Hx7 := Lib.hid ((hb.block w.heap.size (heap_lt Hx6.out) (by omega) (by omega)).trans Hx6.out); have Hr7 := Lib.hid ((hb.block (w.heap.size + 1) (heap_lt Hr6.out) (by omega) (by omega)).trans Hr6.out); have c7 : w7.cell? ⟨w.heap.size, 0, none⟩ = some (.pointer (some ⟨g, 0, none⟩)) := Lib.cell_of_heap Hx7.out 0; have hzw : w.heap.size + 1 < w6.heap.size := heap_lt Hr6.out; have HK7 := Lib.hid (RdEs.more (S' := From (w.heap.size + 2) w7) (fun _ hS => hS.lo (by omega)) _ _ _ hk); have HB7 := Lib.hid (RdSs.more (S' := From (w.heap.size + 2) w7) (fun _ hS => hS.lo (by omega)) _ _ _ hB); have HE7 := Lib.hid (RdSs.more (S' := From (w.heap.size + 2) w7) (fun _ hS => hS.lo (by omega)) _ _ _ hE); have Hp7 := Lib.hid hp; have Hq7 := Lib.hid hq7; clear hxe hp hb hq7 hk hB hE hX c6)
    | (go_at_call 38; refine (need1_at g s6 ([59] : List UInt8) w7 Hp7.out).mono ?_; rintro e w8 ⟨rfl, hp, hb⟩; have hz8 := hb.size; have Hp8 := Lib.hid hp; have Hb8 := Lib.hid (Hb7.out.trans hb); have Hx8 := Lib.hid ((hb.block w.heap.size (heap_lt Hx7.out) (by omega)).trans Hx7.out); have Hr8 := Lib.hid ((hb.block (w.heap.size + 1) (heap_lt Hr7.out) (by omega)).trans Hr7.out); have Hq8 := Lib.hid ((hb.block q (heap_lt Hq7.out) (by omega)).trans Hq7.out); have c8 : w8.cell? ⟨w.heap.size, 0, none⟩ = some (.pointer (some ⟨g, 0, none⟩)) := Lib.cell_of_heap Hx8.out 0; have HK8 := Lib.hid (RdEs.bt HK7.out (Bt.of_but (q := g) hb) (by omega) (by omega)); have HB8 := Lib.hid (RdSs.bt HB7.out (Bt.of_but (q := g) hb) (by omega) (by omega)); have HE8 := Lib.hid (RdSs.bt HE7.out (Bt.of_but (q := g) hb) (by omega) (by omega)); clear hp hb c7; obtain ⟨q0, q1, q2, q3, q4, q5, q6, q7, qf⟩ := cells8 Hq8.out; obtain ⟨r0, r1, r2, r3, r4, r5, r6, r7, rf⟩ := cells8 Hr8.out; have hrz := heap_lt Hr8.out))
  obtain ⟨W8, hW8, hR8, hfar8, hbl8, hz8⟩ := eight_name Hr8.out (.int .i64 zk) (.int .i64 za) (.int .i64 zn) (.string zz) (.int .i64 zp) (.slice zK zkids.length kc) (.slice zB zbody.length bc) (.slice zE zels.length ec)
  rw [← hW8]
  clear hW8
  refine leaves_cons (f := 72) (args := #[.pointer (some ⟨w.heap.size, 0, none⟩)]) (by simp) (by simp [go_sem]) ?_
  refine (down_d g w.heap.size (s6.need1 ([59] : List UInt8)) .returning _ (Hp8.out.up (hbl8 _ (by omega))) ((World.cell?_of_block (a := ⟨w.heap.size, 0, none⟩) (hfar8 w.heap.size (by omega))).trans c8) (by have := Hdp.out; omega) (by have := Hdp.out; omega)).mono ?_
  rintro e u' w'' ⟨rfl, rfl, hp, hb⟩
  have hRR := (hb.block (w.heap.size + 1) (by omega) (by omega)).trans hR8
  obtain ⟨v0, v1, v2, v3, v4, v5, v6, v7, _⟩ := cells8 hRR
  have hz' := hb.size
  have hb8 := hbl8 (w.heap.size + 1) (Nat.le_refl _)
  have hbt : Bt g (w.heap.size + 1) w8 w'' := ⟨hb.os.trans hb8.os, hb.tape.trans hb8.tape, hb.output.trans hb8.output, by omega, fun b h1 h2 h3 => (hb.block b (by omega) h2).trans (hfar8 b h3)⟩
  refine ⟨.agg (stC zk za zn zz zp zK zkids.length kc zB zbody.length bc zE zels.length ec), by simp [results, Tryz.results62, go_sem, stC, v0, v1, v2, v3, v4, v5, v6, v7], zk, za, zn, zz, zp, zkids, zbody, zels, zK, kc, zB, bc, zE, ec, rfl, Hxe.out, ?_, ?_, ?_, hp, hbt.but Hb8.out (by omega)⟩
  · exact RdEs.more (fun _ hS => hS.lo (by omega)) _ _ _ (RdEs.bt HK8.out hbt (by omega) (by omega))
  · exact RdSs.more (fun _ hS => hS.lo (by omega)) _ _ _ (RdSs.bt HB8.out hbt (by omega) (by omega))
  · exact RdSs.more (fun _ hS => hS.lo (by omega)) _ _ _ (RdSs.bt HE8.out hbt (by omega) (by omega))
end Go.Proofs.YtiadbeglhnocoaaGreatDoor
