/-
  Blocks on all ways: dom.enter.
  Blocks on all ways: dom.back.
  Blocks on all ways: dom.ups.
-/
import Derived.Test.YtagagpappjkgbaaJx6
import Derived.Test.YtagagpappjkgbaaJx33
import Derived.Test.YtagagpappjkgbaaJx43
namespace Go.Proofs.Ytagagpappjkgbaa
set_option linter.unusedVariables false
set_option linter.unusedSimpArgs false
open Go.RowKit Go.Shelf

set_option maxRecDepth 100000 in
set_option maxHeartbeats 16000000 in
theorem enterD_g (n0 : Nat) (f : Value) (g : List GB) (w : World) (k0 : Nat) (res : En) (hf : GF n0 w f g) (hn : n0 ≤ w.heap.size) (hpos : 0 < g.length)
    (hrun : enRun g k0 ⟨[], List.replicate g.length (-1), []⟩ [(-1, 0)] = some res) :
    Calls Try.prog 158 #[f] w fun x w' => ∃ vb vt vf, x = .returned (.agg #[vb, vt, vf]) ∧ GNs w'.heap.size w' vb res.blocks ∧ GNs w'.heap.size w' vt res.turn ∧ GNs w'.heap.size w' vf res.from_ ∧ Below w.heap.size w w' := by
  obtain ⟨s, pA, pn, pc, r, iA, in_, ic, bA, bn, bc, rfl, hG, hbn⟩ := hf
  have hlen : bn ≤ 1048576 := by rw [hbn]; obtain ⟨_, _, _, h, _⟩ := hG; exact h
  obtain ⟨W1, hW1, hbW1, hzW1, h0W1⟩ := gr_one w #[.string s, .slice pA pn pc, .int .i64 r, .slice iA in_ ic, .slice bA bn bc] 68
  obtain ⟨W, hW, hbW, hzW, h0W⟩ := gr_one W1 #[.slice none 0 0, .slice none 0 0, .slice none 0 0] 211
  have hfW := (hbW.block w.heap.size (gr_in h0W1)).trans h0W1
  have hwW : Below w.heap.size w W := hbW1.trans (hbW.mono hbW1.size)
  obtain ⟨Y, hY, hbY, hzY, h0Y⟩ := gr_one W #[.int .i64 (-1)] 3
  have hR := repeat_g W.heap.size 0 (-1) bn Y (Lib.cell_of_heap h0Y 0) (by omega) hlen
  have hx : ∀ A : World, Below W.heap.size W A → A.cell? ⟨w.heap.size, 0, none⟩ = some (.string s) ∧ A.cell? ⟨w.heap.size, 1, none⟩ = some (.slice pA pn pc) ∧ A.cell? ⟨w.heap.size, 2, none⟩ = some (.int .i64 r) ∧ A.cell? ⟨w.heap.size, 3, none⟩ = some (.slice iA in_ ic) ∧ A.cell? ⟨w.heap.size, 4, none⟩ = some (.slice bA bn bc) := (fun A hA => by obtain ⟨x0, x1, x2, x3, x4, -⟩ := gr_five ((hA.block w.heap.size (by omega)).trans hfW); exact ⟨x0, x1, x2, x3, x4⟩)
  have hsz : W.heap.size = w.heap.size + 2 := by omega
  have hG2 : ∀ A : World, Below W.heap.size W A → GBs n0 A (.slice bA bn bc) g := fun A hA => (hG.keep (hwW.mono hn)).keep (hA.mono (by omega))
  have hWW : W = (w.alloc (.cells #[.string s, .slice pA pn pc, .int .i64 r, .slice iA in_ ic, .slice bA bn bc] 68)).alloc (.cells #[.slice none 0 0, .slice none 0 0, .slice none 0 0] 211) := by rw [hW, hW1]
  have hres : W.heap[w.heap.size + 1]? = some (.cells #[.slice none 0 0, .slice none 0 0, .slice none 0 0] 211 (0, 0)) := by rw [← hzW1]; exact h0W
  obtain ⟨j1, hj1, jz0, jz1, jz2⟩ := info_parts infoIntG
  have Ji := Lib.hid hj1
  have Jz0 := Lib.hid jz0
  have Jz1 := Lib.hid jz1
  have Jz2 := Lib.hid jz2
  obtain ⟨k1, hk1, kz0, kz1, kz2⟩ := info_parts infoStepD
  have Ki := Lib.hid hk1
  have Kz0 := Lib.hid kz0
  have Kz1 := Lib.hid kz1
  have Kz2 := Lib.hid kz2
  have Hx := Lib.hid hx
  have HG2 := Lib.hid hG2
  have HwW := Lib.hid hwW
  have HWW := Lib.hid hWW
  have HY := Lib.hid hY
  have HbY := Lib.hid hbY
  have HzY := Lib.hid hzY
  have Hres := Lib.hid hres
  have Hsz := Lib.hid hsz
  have Hbn := Lib.hid hbn
  have Hrun := Lib.hid hrun
  clear hj1 jz0 jz1 jz2 hk1 kz0 kz1 kz2 hx hG2 hwW hWW hY hbY hzY hres hsz hbn hrun hW1 hbW1 hzW1 h0W1 hW hbW hzW h0W hfW h0Y hG
  go_enter Try.func158, Try.ntmps158
  go_upto_region 1 with fail
  rw [← HWW.out]
  obtain ⟨x0, x1, x2, x3, x4⟩ := Hx.out W (Below.refl _ _)
  obtain ⟨y0, y1, y2, y3, y4⟩ := Hx.out Y HbY.out
  rw [HY.out] at y0 y1 y2 y3 y4
  go_upto_region 2 with (go_at_call 115; rw [← HY.out]; refine hR.mono ?_; rintro e w2 ⟨tb, rfl, htb, hrow, hb2⟩; have Hrow := Lib.hid hrow; have Hb2 := Lib.hid hb2; have Htb := Lib.hid htb; clear hrow hb2 hR htb)
  clear x0 x1 x2 x3 x4 y0 y1 y2 y3 y4
  obtain ⟨Z, hZ, hbZ, hzZ, h0Z⟩ := gr_one w2 #[.slice none 0 0, .slice (some ⟨tb, 0, none⟩) bn bn, .slice none 0 0] 211
  obtain ⟨X, hX⟩ : ∃ X, X = Z.alloc (.cells #[.int .i64 (-1), .int .i64 0] 222) := ⟨_, rfl⟩
  have hb2 := Hb2.out
  have hYZ : Below Y.heap.size Y Z := hb2.trans (hbZ.mono hb2.size)
  have hrow := Hrow.out
  obtain ⟨F0, hE0⟩ := EnS.first (base := Y.heap.size) h0Z hb2.size Htb.out (by have := hrow.lt; omega) (hrow.keep (hbZ.block tb hrow.lt)) hlen hYZ hX
  have HE0 : Hid (EnK Y.heap.size w2.heap.size bn Y g res k0 (.slice (some ⟨Z.heap.size, 0, none⟩) 1 1) X) := Lib.hid ⟨_, _, _, _, _, _, _, hE0, rfl, by rw [Hbn.out]; exact Hrun.out⟩
  have HX := Lib.hid hX
  have HZ := Lib.hid hZ
  rw [hzZ] at HE0
  have hYE : Y.heap.size ≤ w2.heap.size := hb2.size
  clear hX hZ hbZ hzZ h0Z hb2 hYZ hrow hE0 Hrun Hrow
  go_upto_region 3 with fail
  rw [← HZ.out, ← HX.out]
  clear HZ HX Hb2 Htb
  go_loopw [4] (fun u4 wr => ∃ k, EnK Y.heap.size w2.heap.size bn Y g res k u4 wr) (fun u4 wr => leastN (fun k => EnK Y.heap.size w2.heap.size bn Y g res k u4 wr))
  case atStart => exact ⟨k0, HE0.out⟩
  case round =>
    clear HE0
    obtain ⟨K, hK⟩ : ∃ K, K = leastN (fun k => EnK Y.heap.size w2.heap.size bn Y g res k u4 wr) := ⟨_, rfl⟩
    have hk : EnK Y.heap.size w2.heap.size bn Y g res K u4 wr := by rw [hK]; exact leastN_spec hrel
    have HK := Lib.hid hK
    clear hK hrel
    obtain ⟨vb, vf, tb, e, st, r4, F, hS, hfl, hr⟩ := hk
    have hbY : Below W.heap.size W wr := HbY.out.trans (hS.bw.mono (by have := HzY.out; omega))
    obtain ⟨x0, x1, x2, x3, x4⟩ := Hx.out wr hbY
    have Hfl := Lib.hid hfl
    clear hfl
    obtain ⟨A4, c4, hA4⟩ := gr_slice (hS.sq.at hS.f3)
    obtain ⟨Ab, cb, hAb⟩ := gr_slice (hS.sq.at hS.f0)
    obtain ⟨Af, cf, hAf⟩ := gr_slice (hS.sq.at hS.f2)
    simp only [intR] at hAb hAf
    subst hAb hAf
    cases st with
    | nil =>
      have hre : e = res := by cases K <;> simpa [enRun] using hr
      subst hre
      simp only [stkR, List.length_nil] at hA4
      subst hA4
      have HS := Lib.hid hS
      have c0 := hS.sq.cell 0 _ rfl
      have c1 := hS.sq.cell 1 (.slice (some ⟨tb, 0, none⟩) bn bn) rfl
      have c2 := hS.sq.cell 2 _ rfl
      have hfin : ∀ u, w.heap.size + 1 < W.heap.size := fun _ => by have := Hsz.out; omega
      have hr0 := (hbY.block (w.heap.size + 1) (by have := Hsz.out; omega)).trans Hres.out
      have z0 := Lib.cell_of_heap hr0 0
      have z1 := Lib.cell_of_heap hr0 1
      have z2 := Lib.cell_of_heap hr0 2
      have zf := fun j => Lib.frozen_of_heap hr0 j
      have zf0 := zf 0
      have zf1 := zf 1
      have zf2 := zf 2
      clear zf hfin
      have HB := Lib.hid hbY
      clear hS hr hbY hr0
      go_wp2
      refine bodyPost_ret (v := .agg #[.slice Ab e.blocks.length cb, .slice (some ⟨tb, 0, none⟩) bn bn, .slice Af e.from_.length cf]) (by simp [results, Try.results158, go_sem, z0, z1, z2]) rfl ?_
      have hk : ∀ k, k < wr.heap.size → k ≠ w.heap.size + 1 → (((wr.setCell ⟨w.heap.size + 1, 0, none⟩ (.slice Ab e.blocks.length cb)).setCell ⟨w.heap.size + 1, 1, none⟩ (.slice (some ⟨tb, 0, none⟩) bn bn)).setCell ⟨w.heap.size + 1, 2, none⟩ (.slice Af e.from_.length cf)).heap[k]? = wr.heap[k]? := fun k _ hne => by
        rw [Below.heap_setCell _ _ _ _ (by exact hne), Below.heap_setCell _ _ _ _ (by exact hne), Below.heap_setCell _ _ _ _ (by exact hne)]
      obtain ⟨r1, r2, r3⟩ := enter_res HS.out (by simp [World.setCell]) hk (by have := Hsz.out; have := HzY.out; omega)
      refine ⟨_, _, _, rfl, r1, r2, r3, ?_⟩
      refine (((HwW.out.trans (HB.out.mono (by have := Hsz.out; omega))).setCell (p := ⟨w.heap.size + 1, 0, none⟩) (by show w.heap.size ≤ w.heap.size + 1; omega) _).setCell (p := ⟨w.heap.size + 1, 1, none⟩) (by show w.heap.size ≤ w.heap.size + 1; omega) _).setCell (p := ⟨w.heap.size + 1, 2, none⟩) (by show w.heap.size ≤ w.heap.size + 1; omega) _
    | cons s1 st =>
      obtain ⟨fr, to_⟩ := s1
      cases K with
      | zero => simp [enRun] at hr
      | succ k =>
        have hst := hS.sq.at hS.f3
        simp only [stkR, List.length_cons] at hst hA4
        obtain ⟨p, hp⟩ : ∃ p, p = st.length := ⟨_, rfl⟩
        rw [← hp] at hst hA4
        subst hA4
        obtain ⟨gw, rfl, -, hgwb, hgwl⟩ := gr_some hst (by omega)
        have hcp : p + 1 ≤ c4 := (gr_len hst).1
        have hpb : p < 1048576 := by have := hS.sl; simp at this; omega
        have c0 : wr.cell? ⟨gw, p * 2, none⟩ = some (.int .i64 fr) := by
          rw [hst.cellAt (p * 2) (by omega), stkV, List.getElem?_append_right (by rw [stkV_len]; omega), stkV_len, hp]
          simp
        have c1 : wr.cell? ⟨gw, p * 2 + 1, none⟩ = some (.int .i64 to_) := by
          rw [hst.cellAt (p * 2 + 1) (by omega), stkV, List.getElem?_append_right (by rw [stkV_len]; omega), stkV_len, hp]
          simp
        rw [enRun, Option.bind_eq_some_iff] at hr
        obtain ⟨t, ht, hr⟩ := hr
        obtain ⟨tn, htn, htl, hte⟩ := rdI_some ht
        dsimp only at htn hr
        subst htn
        rw [Int.toNat_natCast] at hr
        have htb : tn < bn := by rw [← hS.tl]; exact htl
        obtain ⟨A, hA, hbA, hzA, h0A⟩ := gr_one wr #[.int .i64 fr, .int .i64 (tn : Int)] 222
        have hSA := (hS.str fr (tn : Int) hA).pop
        rw [← hp] at hSA
        obtain ⟨x0, x1, x2, x3, x4⟩ := Hx.out A (hbY.trans (hbA.mono hbY.size))
        have e0 := hSA.sq.cell 0 _ rfl
        have e1 := hSA.sq.cell 1 _ rfl
        have e2 := hSA.sq.cell 2 _ rfl
        obtain ⟨a0, a1⟩ := hSA.s0
        have a2 : A.cell? ⟨tb, tn, none⟩ = some (.int .i64 t) := by
          rw [hte]
          exact (hSA.sq.whole hSA.f1).cell htl
        have hcut := cut_step (gw := gw) (n := p + 1) (c := c4) p (by omega) hcp (by omega)
        have HSA := Lib.hid hSA
        have HA := Lib.hid hA
        have Hr := Lib.hid hr
        have HbA := Lib.hid (hbY.trans (hbA.mono hbY.size))
        have H0A := Lib.hid h0A
        have Hp := Lib.hid hp
        clear hS hr hbY hst hte ht htl hA hbA hSA h0A hp
        go_upto_region 5 with fail
        rw [← HA.out]
        clear c0 c1
        go_upto_region 6 with fail
        by_cases ht1 : t = -1
        · subst ht1
          have hr := Hr.out
          rw [if_pos rfl] at hr
          split at hr
          · next hq =>
            obtain ⟨hq1, hq2⟩ := hq
            have hSA := HSA.out
            have af := (hSA.sq.whole hSA.f1).fro tn
            have hSB := hSA.turn tn (e.blocks.length : Int)
            obtain ⟨B, hB⟩ : ∃ B, B = A.setCell ⟨tb, tn, none⟩ (.int .i64 (e.blocks.length : Int)) := ⟨_, rfl⟩
            rw [← hB] at hSB
            have hbB : Below W.heap.size W B := HbY.out.trans (hSB.bw.mono (by have := HzY.out; omega))
            obtain ⟨C, hC, hbC, hzC, h0C⟩ := gr_one B #[.int .i64 (tn : Int)] 3
            have hSC := hSB.keep hbC
            have HOW := Lib.hid (hSC.sq.at hSC.f0)
            have HNW := Lib.hid (World.news_of_block h0C)
            have HOn : Hid (∀ u ∈ ([.int .i64 (tn : Int)] : List Value), u.oneCell' = true) := Lib.hid (by intro u hu; simp at hu; subst hu; rfl)
            have hsz2 : Y.heap.size ≤ C.heap.size := hSC.sq.hb
            have b0 := hSB.sq.cell 0 _ rfl
            have b2 := hSB.sq.cell 2 _ rfl
            obtain ⟨ba0, ba1⟩ := hSB.s0
            have d0 := hSC.sq.cell 0 _ rfl
            obtain ⟨da0, da1⟩ := hSC.s0
            simp only [intR] at HOW
            rw [hC] at HOW HNW hsz2 d0 da0 da1
            have HB := Lib.hid hB
            have HC := Lib.hid hC
            have HSC := Lib.hid hSC
            have HzC := Lib.hid hzC
            have HbB := Lib.hid hbB
            have HR2 := Lib.hid hr
            have Hq2 := Lib.hid hq2
            clear hSA hSB hB hbB hC hbC hzC h0C hSC hr HSA HA Hr hq2
            go_upto_region 9 with fail
            rw [← HB.out]
            clear e0 e1 e2 a0 a1 a2 af
            go_wp2_with (at_builtin; refine wpList_append_lies _ rfl (.tmp 48) (.tmp 51) 64 rfl Y.heap.size 3 j1 (.int .i64 0) 1 8 Try.underlying64 Ji.out Jz0.out Jz1.out Jz2.out rfl (by decide) (.slice Ab e.blocks.length cb) e.blocks.length (intsV e.blocks) rfl HOW.out ⟨B.heap.size, 0, none⟩ 1 1 [.int .i64 (tn : Int)] rfl rfl HNW.out HOn.out (by decide) (by unfold maxLen; omega) (by omega) hsz2 _ rfl ?_)
            intro gp cp w5 hown5 hgrow hat hlt5
            rw [← HC.out] at hgrow
            have hat' : ∀ g, (Value.slice (some ⟨gp, 0, none⟩) (e.blocks.length + 1) cp).ownBlock = some g → (Value.slice Ab e.blocks.length cb).ownBlock = some g ∨ C.heap.size ≤ g := fun g ee => by
              simp only [Value.ownBlock, Option.some.injEq] at ee
              subst ee
              rcases hat with h | h
              · exact .inl h
              · exact .inr (by rw [h, HzC.out]; exact Nat.le_refl _)
            have hM := HSC.out.sq.grown 0 (by rw [HSC.out.f0]; exact hgrow) (intR (.slice (some ⟨gp, 0, none⟩) (e.blocks.length + 1) cp) (e.blocks ++ [(tn : Int)])) (by simpa [intR, intsV] using hown5) (fun g ee => by rw [HSC.out.f0]; exact hat' g ee)
            have m0 := hM.cell 0 _ rfl
            have mf := hM.fro 0
            have hSD := HSC.out.blk hgrow hown5 hat' hq1
            obtain ⟨D, hD⟩ : ∃ D, D = w5.setCell ⟨w2.heap.size, 0, none⟩ (.slice (some ⟨gp, 0, none⟩) (e.blocks.length + 1) cp) := ⟨_, rfl⟩
            rw [← hD] at hSD
            have hbD : Below W.heap.size W D := HbY.out.trans (hSD.bw.mono (by have := HzY.out; omega))
            obtain ⟨C2, hC2, hbC2, hzC2, h0C2⟩ := gr_one D #[.int .i64 fr] 3
            have hSC2 := hSD.keep hbC2
            have HOW2 := Lib.hid (hSC2.sq.at hSC2.f2)
            have HNW2 := Lib.hid (World.news_of_block h0C2)
            have HOn2 : Hid (∀ u ∈ ([.int .i64 fr] : List Value), u.oneCell' = true) := Lib.hid (by intro u hu; simp at hu; subst hu; rfl)
            have hsz3 : Y.heap.size ≤ C2.heap.size := hSC2.sq.hb
            have g2 := hSD.sq.cell 2 _ rfl
            obtain ⟨ga0, ga1⟩ := hSD.s0
            have k2 := hSC2.sq.cell 2 _ rfl
            obtain ⟨ka0, ka1⟩ := hSC2.s0
            simp only [intR] at HOW2
            rw [hC2] at HOW2 HNW2 hsz3 k2 ka0 ka1
            have HD := Lib.hid hD
            have HC2 := Lib.hid hC2
            have HSC2 := Lib.hid hSC2
            have HzC2 := Lib.hid hzC2
            clear hown5 hgrow hat hlt5 hat' hM hSD hD hbD hC2 hbC2 hzC2 h0C2 hSC2 HOW HNW hsz2 HC HSC HB
            go_upto_region 10 with fail
            rw [← HD.out]
            clear m0 mf b0 b2 ba0 ba1 d0 da0 da1
            have hfl2 : e.from_.length < 1048576 := by rw [Hfl.out]; exact hq1
            go_wp2_with (at_builtin; refine wpList_append_lies _ rfl (.tmp 55) (.tmp 58) 64 rfl Y.heap.size 3 j1 (.int .i64 0) 1 8 Try.underlying64 Ji.out Jz0.out Jz1.out Jz2.out rfl (by decide) (.slice Af e.from_.length cf) e.from_.length (intsV e.from_) rfl HOW2.out ⟨D.heap.size, 0, none⟩ 1 1 [.int .i64 fr] rfl rfl HNW2.out HOn2.out (by decide) (by unfold maxLen; omega) (by omega) hsz3 _ rfl ?_)
            intro gq cq w6 hown6 hgrow6 hat6 hlt6
            rw [← HC2.out] at hgrow6
            have hat' : ∀ g, (Value.slice (some ⟨gq, 0, none⟩) (e.from_.length + 1) cq).ownBlock = some g → (Value.slice Af e.from_.length cf).ownBlock = some g ∨ C2.heap.size ≤ g := fun g ee => by
              simp only [Value.ownBlock, Option.some.injEq] at ee
              subst ee
              rcases hat6 with h | h
              · exact .inl h
              · exact .inr (by rw [h, HzC2.out]; exact Nat.le_refl _)
            have hM := HSC2.out.sq.grown 2 (by rw [HSC2.out.f2]; exact hgrow6) (intR (.slice (some ⟨gq, 0, none⟩) (e.from_.length + 1) cq) (e.from_ ++ [fr])) (by simpa [intR, intsV] using hown6) (fun g ee => by rw [HSC2.out.f2]; exact hat' g ee)
            have m2 := hM.cell 2 _ rfl
            have mf := hM.fro 2
            have hSG := HSC2.out.frm hgrow6 hown6 hat'
            obtain ⟨G, hGG⟩ : ∃ G, G = w6.setCell ⟨w2.heap.size, 2, none⟩ (.slice (some ⟨gq, 0, none⟩) (e.from_.length + 1) cq) := ⟨_, rfl⟩
            rw [← hGG] at hSG
            have hbG : Below W.heap.size W G := HbY.out.trans (hSG.bw.mono (by have := HzY.out; omega))
            obtain ⟨x0, x1, x2, x3, x4⟩ := Hx.out G hbG
            obtain ⟨qa0, qa1⟩ := hSG.s0
            have htg : tn < g.length := by rw [← Hbn.out]; exact htb
            obtain ⟨qb, o, qA, qc, tA, tc, lA, ln, lc, rfl, hqb, z0, z1, z2, z3, z4, rp, rt, hok⟩ := (HG2.out G hbG).at htg
            have hto : tosG g tn = g[tn].to_ := tosG_at htg
            obtain ⟨tos, htos⟩ : ∃ l, l = g[tn].to_ := ⟨_, rfl⟩
            obtain ⟨m, hm⟩ : ∃ m, m = tos.length := ⟨_, rfl⟩
            have hmb : m ≤ 1048576 := by rw [hm, htos]; exact hok.2.2.1
            rw [← htos] at hto z4 rt
            rw [← hm] at z4 rt
            have hst2 := Hq2.out
            rw [hto, ← hm, ← Hp.out] at hst2
            have HGG := Lib.hid hGG
            have HSG := Lib.hid hSG
            have Hm := Lib.hid hm
            have Hto := Lib.hid hto
            have hbGG : Below G.heap.size G G := Below.refl _ _
            have hrt : ∀ X : World, Below Y.heap.size Y X → GNs n0 X (.slice tA m tc) tos := fun X hX => GNs_same rt (fun k hk => (hX.block k (by have := Hsz.out; have := HzY.out; omega)).trans ((HSG.out.bw).block k (by have := Hsz.out; have := HzY.out; omega)).symm)
            have Hrt := Lib.hid hrt
            clear hown6 hgrow6 hat6 hlt6 hat' hM hSG hGG hbG HOW2 HNW2 hsz3 HC2 HSC2 HD hfl2 hm hto htos rp rt hok hqb z0 z1 z2 z3 hrt hbGG
            go_upto_region 11 with fail
            rw [← HGG.out]
            clear g2 ga0 ga1 k2 ka0 ka1 m2 mf
            go_upto_region 12 with fail
            clear x0 x1 x2 x3 x4 qa0 qa1 z4
            obtain ⟨e2, he2⟩ : ∃ e2 : En, e2 = ⟨e.blocks ++ [(tn : Int)], e.turn.set tn (e.blocks.length : Int), e.from_ ++ [fr]⟩ := ⟨_, rfl⟩
            obtain ⟨bl, hbl⟩ : ∃ bl, bl = e.blocks.length := ⟨_, rfl⟩
            have hr2 := HR2.out
            rw [← he2, Hto.out] at hr2
            have HR3 := Lib.hid hr2
            have HI0 : Hid (EnS Y.heap.size w2.heap.size bn Y G (.slice (some ⟨gp, 0, none⟩) (e.blocks.length + 1) cp) (.slice (some ⟨gq, 0, none⟩) (e.from_.length + 1) cq) (.slice (some ⟨gw, 0, none⟩) p c4) tb e2 (pushT (e.blocks.length : Int) (tos.take 0) st) (sR wr.heap.size fr tn) (upG (upG (upG (upG (upG F 4 (sR wr.heap.size fr tn)) 3 (stkR (.slice (some ⟨gw, 0, none⟩) p c4) st)) 1 (wholeR tb (e.turn.set tn (e.blocks.length : Int)))) 0 (intR (.slice (some ⟨gp, 0, none⟩) (e.blocks.length + 1) cp) (e.blocks ++ [(tn : Int)]))) 2 (intR (.slice (some ⟨gq, 0, none⟩) (e.from_.length + 1) cq) (e.from_ ++ [fr])))) := Lib.hid (by rw [he2]; exact HSG.out)
            have hfl3 : e2.from_.length = e2.blocks.length := by rw [he2]; simp [Hfl.out]
            have Hfl3 := Lib.hid hfl3
            have hbl2 : bl < 1048576 := by omega
            rw [← hbl] at HI0 HR3 ⊢
            clear hr2 HR2 Hto HSG hfl3 he2 HGG HbA hbl
            go_loopw [70, 4] (fun u70 u4 wx => ∃ (i : Nat) (r4 : GRw) (F : Nat → GRw), i ≤ m ∧ u70 = .int .i64 i ∧ Hid (EnS Y.heap.size w2.heap.size bn Y wx (.slice (some ⟨gp, 0, none⟩) (bl + 1) cp) (.slice (some ⟨gq, 0, none⟩) (e.from_.length + 1) cq) u4 tb e2 (pushT (bl : Int) (tos.take i) st) r4 F)) (fun u70 _ _ => m - (intOf u70).toNat)
            case atStart => exact ⟨0, _, _, Nat.zero_le _, rfl, HI0⟩
            case round =>
              clear HI0
              obtain ⟨i, r5, F5, hi, rfl, HI⟩ := hrel
              have hS := HI.out
              obtain ⟨A5, c5, hA5⟩ := gr_slice (hS.sq.at hS.f3)
              obtain ⟨q, hq⟩ : ∃ q, q = (pushT (bl : Int) (tos.take i) st).length := ⟨_, rfl⟩
              simp only [stkR] at hA5
              rw [← hq] at hA5
              subst hA5
              have hq3 : q ≤ i + p := by
                rw [hq, pushT_len, List.length_take, Hp.out]
                omega
              by_cases hlti : i < m
              · have hil : i < tos.length := by rw [← Hm.out]; exact hlti
                obtain ⟨b1, o1, rfl, hb1, hc⟩ := (Hrt.out wr hS.bw).at hil
                have hsn : tos.take (i + 1) = tos.take i ++ [tos[i]] := List.take_succ_eq_append_getElem hil
                obtain ⟨x, hx⟩ : ∃ x, x = tos[i] := ⟨_, rfl⟩
                rw [← hx] at hc hsn
                obtain ⟨C3, hC3, hbC3, hzC3, h0C3⟩ := gr_one wr #[.int .i64 (bl : Int), .int .i64 x] 222
                have hSC3 := hS.keep hbC3
                have HOW3 := Lib.hid (hSC3.sq.at hSC3.f3)
                have HNW3 := Lib.hid (World.news_of_block h0C3)
                have HOn3 : Hid (∀ u ∈ ([.int .i64 (bl : Int), .int .i64 x] : List Value), u.oneCell' = true) := Lib.hid (by intro u hu; simp at hu; rcases hu with rfl | rfl <;> rfl)
                have hsz4 : Y.heap.size ≤ C3.heap.size := hSC3.sq.hb
                simp only [stkR] at HOW3
                rw [← hq] at HOW3
                rw [hC3] at HOW3 HNW3 hsz4
                have HC3 := Lib.hid hC3
                have HSC3 := Lib.hid hSC3
                have HzC3 := Lib.hid hzC3
                have Hq := Lib.hid hq
                have Hsn := Lib.hid hsn
                clear hS hb1 hx hsn hC3 hbC3 hzC3 h0C3 hSC3 HI hq hil
                go_wp2_with (at_builtin; refine wpList_append_lies _ rfl (.tmp 74) (.tmp 78) 223 rfl Y.heap.size 222 k1 (.agg #[.int .i64 0, .int .i64 0]) 2 16 Try.underlying223 Ki.out Kz0.out Kz1.out Kz2.out rfl (by decide) (.slice A5 q c5) q (stkV (pushT (bl : Int) (tos.take i) st)) rfl HOW3.out ⟨wr.heap.size, 0, none⟩ 1 1 [.int .i64 (bl : Int), .int .i64 x] rfl rfl HNW3.out HOn3.out (by decide) (by unfold maxLen; omega) (by omega) hsz4 _ rfl ?_)
                intro gx cx w7 hown7 hgrow7 hat7 hlt7
                rw [← HC3.out] at hgrow7
                have hat' : ∀ g, (Value.slice (some ⟨gx, 0, none⟩) (q + 1) cx).ownBlock = some g → (Value.slice A5 q c5).ownBlock = some g ∨ C3.heap.size ≤ g := fun g ee => by
                  simp only [Value.ownBlock, Option.some.injEq] at ee
                  subst ee
                  rcases hat7 with h | h
                  · exact .inl h
                  · exact .inr (by rw [h, HzC3.out]; exact Nat.le_refl _)
                have hS7 := HSC3.out.push (s := ((bl : Int), x)) hgrow7 (by rw [← Hq.out]; exact hown7) hat' (by rw [← Hq.out]; omega)
                rw [← pushT_snoc, ← Hsn.out] at hS7
                have HS7 := Lib.hid hS7
                clear hown7 hgrow7 hat7 hlt7 hat' hS7 HOW3 HNW3 hsz4 HC3 HSC3
                go_wp2
                go_roundw
                case rel => exact ⟨i + 1, _, _, by omega, by go_num, HS7⟩
                case measure => simp [intOf]; omega
              · obtain rfl : i = m := by omega
                have htk : tos.take i = tos := by rw [Hm.out, List.take_length]
                rw [htk] at hS
                have HN : Hid (EnK Y.heap.size w2.heap.size bn Y g res k (.slice A5 q c5) wr) := Lib.hid ⟨_, _, _, _, _, _, _, hS, Hfl3.out, HR3.out⟩
                clear hS htk HI hq
                go_wp2
                go_roundw
                case rel => exact ⟨k, HN.out⟩
                case measure => rw [← HK.out]; exact Nat.lt_succ_of_le (leastN_le HN.out)
          · cases hr
        · have hb1 : (t != (-1)) = true := by simpa using ht1
          have HN : Hid (EnK Y.heap.size w2.heap.size bn Y g res k (.slice (some ⟨gw, 0, none⟩) p c4) A) := Lib.hid ⟨_, _, _, _, _, _, _, HSA.out, Hfl.out, by have := Hr.out; rw [if_neg ht1] at this; exact this⟩
          go_wp2
          go_roundw
          case rel => exact ⟨k, HN.out⟩
          case measure => rw [← HK.out]; exact Nat.lt_succ_of_le (leastN_le HN.out)
end Go.Proofs.Ytagagpappjkgbaa
namespace Go.Proofs.Ytagagpappjkgbaa
set_option linter.unusedVariables false
set_option linter.unusedSimpArgs false
open Go.RowKit Go.Shelf

set_option maxRecDepth 100000 in
set_option maxHeartbeats 16000000 in
theorem back_g (n0 : Nat) (f vb vt vf : Value) (g : List GB) (en : En) (ls0 : List (List Int)) (m : Nat) (w : World) (hf : GF n0 w f g) (hn : n0 ≤ w.heap.size) (hvb : GNs w.heap.size w vb en.blocks) (hvt : GNs w.heap.size w vt en.turn) (hvf : ∃ A n c, vf = .slice A n c)
    (hm : m = en.blocks.length) (hml : m ≤ 1048576) (htl : en.turn.length ≤ 1048576) (hrun : bkRun g en.turn 0 en.blocks (List.replicate m []) = some ls0) :
    Calls Try.prog 161 #[f, .agg #[vb, vt, vf]] w fun x w' => ∃ gb F vs, x = .returned (.slice (some ⟨gb, 0, none⟩) m m) ∧ Sq 211 w' (w.heap.size + 1) (w.heap.size + 1) F [vb, vt, vf] ∧ RowsAt F 0 gb m vs ls0 ∧ Below w.heap.size w w' := by
  obtain ⟨s, pA, pn, pc, r, iA, in_, ic, bA, bn, bc, rfl, hG, hbn⟩ := hf
  obtain ⟨Ab, cb, rfl, -⟩ := id hvb
  obtain ⟨At, ct, rfl, -⟩ := id hvt
  obtain ⟨Af, nf, cf, rfl⟩ := hvf
  rw [← hm] at hvb ⊢
  obtain ⟨tl, htl2⟩ : ∃ tl, tl = en.turn.length := ⟨_, rfl⟩
  rw [← htl2] at hvt htl ⊢
  obtain ⟨W1, hW1, hbW1, hzW1, h0W1⟩ := gr_one w #[.string s, .slice pA pn pc, .int .i64 r, .slice iA in_ ic, .slice bA bn bc] 68
  obtain ⟨W, hW, hbW, hzW, h0W⟩ := gr_one W1 #[.slice Ab m cb, .slice At tl ct, .slice Af nf cf] 211
  rw [hzW1] at h0W hzW
  have hfW := (hbW.block w.heap.size (gr_in h0W1)).trans h0W1
  have hwW : Below w.heap.size w W := hbW1.trans (hbW.mono hbW1.size)
  have hx : ∀ A : World, Below (w.heap.size + 1) W A → A.cell? ⟨w.heap.size, 0, none⟩ = some (.string s) ∧ A.cell? ⟨w.heap.size, 1, none⟩ = some (.slice pA pn pc) ∧ A.cell? ⟨w.heap.size, 2, none⟩ = some (.int .i64 r) ∧ A.cell? ⟨w.heap.size, 3, none⟩ = some (.slice iA in_ ic) ∧ A.cell? ⟨w.heap.size, 4, none⟩ = some (.slice bA bn bc) := (fun A hA => by obtain ⟨x0, x1, x2, x3, x4, -⟩ := gr_five ((hA.block w.heap.size (by omega)).trans hfW); exact ⟨x0, x1, x2, x3, x4⟩)
  have hG2 : ∀ A : World, Below (w.heap.size + 1) W A → GBs n0 A (.slice bA bn bc) g := fun A hA => (hG.keep (hwW.mono hn)).keep (hA.mono (by omega))
  have hvb2 : ∀ A : World, Below (w.heap.size + 1) W A → GNs w.heap.size A (.slice Ab m cb) en.blocks := fun A hA => (hvb.keep hwW).keep (hA.mono (by omega))
  have hvt2 : ∀ A : World, Below (w.heap.size + 1) W A → GNs w.heap.size A (.slice At tl ct) en.turn := fun A hA => (hvt.keep hwW).keep (hA.mono (by omega))
  have hWW : W = (w.alloc (.cells #[.string s, .slice pA pn pc, .int .i64 r, .slice iA in_ ic, .slice bA bn bc] 68)).alloc (.cells #[.slice Ab m cb, .slice At tl ct, .slice Af nf cf] 211) := by rw [hW, hW1]
  have hsq0 := Sq.start (base := w.heap.size + 1) (cs := [.slice Ab m cb, .slice At tl ct, .slice Af nf cf]) h0W (Nat.le_refl _)
  obtain ⟨i0, hi0, hz0, hz1, hz2⟩ := info_parts infoRowsG
  have Hi := Lib.hid hi0
  have Hz0 := Lib.hid hz0
  have Hz1 := Lib.hid hz1
  have Hz2 := Lib.hid hz2
  obtain ⟨j1, hj1, jz0, jz1, jz2⟩ := info_parts infoIntG
  have Ji := Lib.hid hj1
  have Jz0 := Lib.hid jz0
  have Jz1 := Lib.hid jz1
  have Jz2 := Lib.hid jz2
  have Hx := Lib.hid hx
  have HG2 := Lib.hid hG2
  have Hvb := Lib.hid hvb2
  have Hvt := Lib.hid hvt2
  have HwW := Lib.hid hwW
  have HWW := Lib.hid hWW
  have HzW := Lib.hid hzW
  have Hsq0 := Lib.hid hsq0
  have Hbn := Lib.hid hbn
  have Hm := Lib.hid hm
  have Htl := Lib.hid htl2
  have Hrun := Lib.hid hrun
  clear hi0 hz0 hz1 hz2 hj1 jz0 jz1 jz2 hx hG2 hvb hvb2 hvt hvt2 hwW hWW hzW hsq0 hbn hm htl2 hrun hW1 hbW1 hzW1 h0W1 hW hbW h0W hfW hG
  go_enter Try.func161, Try.ntmps161
  go_upto_region 1 with fail
  rw [← HWW.out]
  have b0 := Hsq0.out.cell 0 _ rfl
  go_wp2_with (at_make; refine wpList_make_full _ rfl (.tmp 12) (.tmp 12) 190 rfl W.heap.size 64 i0 (.slice none 0 0) 1 Try.underlying190 Hi.out Hz0.out Hz1.out _ _ _ _ m rfl rfl rfl rfl (by rw [Hz2.out]; omega) (by unfold maxLen; omega) (Nat.le_refl _) ?_)
  intro w3 ho3 hg3
  have hb3 : Below W.heap.size W w3 := (Below.refl _ _).grown hg3 (Nat.le_refl _) (fun k e => by cases e)
  rw [toList_madeCells_one] at ho3
  have hsq3 := Hsq0.out.new 0 rfl hb3 ⟨64, 1, .slice (some ⟨W.heap.size, 0, none⟩) m m, m, List.replicate m (.slice none 0 0)⟩ ho3
  have hra3 := RowsAt.start (F := fun _ => noRow) (k := 0) (gb := W.heap.size) (m := m) (fun _ _ => rfl)
  have hzW := HzW.out
  have hWw3 : Below (w.heap.size + 1) W w3 := hb3.mono (by omega)
  obtain ⟨gb, hgb⟩ : ∃ gb, gb = W.heap.size := ⟨_, rfl⟩
  have hBg : w.heap.size + 1 < gb := by omega
  rw [← hgb] at hsq3 hra3 ⊢
  have HI0 : Hid (Sq 211 w3 (w.heap.size + 1) (w.heap.size + 1) (upG (fun _ => noRow) 0 ⟨64, 1, .slice (some ⟨gb, 0, none⟩) m m, m, List.replicate m (.slice none 0 0)⟩) [.slice Ab m cb, .slice At tl ct, .slice Af nf cf]) := Lib.hid hsq3
  have HR0 := Lib.hid hra3
  have HB0 := Lib.hid hWw3
  have HN0 : Hid (bkRun g en.turn 0 (en.blocks.drop 0) (List.replicate m []) = some ls0) := Lib.hid Hrun.out
  have b0 := hsq3.cell 0 _ rfl
  clear ho3 hg3 hb3 hsq3 hra3 hWw3 Hrun Hsq0 hzW hgb
  go_upto_region 3 with fail
  clear b0
  go_loopw [17] (fun u17 wr => ∃ (i : Nat) (F : Nat → GRw) (vs : List Value) (ls : List (List Int)), i ≤ m ∧ u17 = .int .i64 i ∧ Hid (Sq 211 wr (w.heap.size + 1) (w.heap.size + 1) F [.slice Ab m cb, .slice At tl ct, .slice Af nf cf]) ∧ Hid (RowsAt F 0 gb m vs ls) ∧ Hid (Below (w.heap.size + 1) W wr) ∧ Hid (bkRun g en.turn i (en.blocks.drop i) ls = some ls0)) (fun u17 _ => m - (intOf u17).toNat)
  case atStart => exact ⟨0, _, _, _, Nat.zero_le _, rfl, HI0, HR0, HB0, HN0⟩
  case round =>
    clear HI0 HR0 HB0 HN0
    obtain ⟨i, F, vs, ls, hi, rfl, HS, HR, HBl, HN⟩ := hrel
    by_cases hlt : i < m
    · have hil : i < en.blocks.length := by rw [← Hm.out]; exact hlt
      obtain ⟨b1, o1, rfl, hb1, hc1⟩ := (Hvb.out wr HBl.out).at hil
      have hr := HN.out
      rw [List.drop_eq_getElem_cons hil, bkRun] at hr
      obtain ⟨bv, hbv⟩ : ∃ bv, bv = en.blocks[i] := ⟨_, rfl⟩
      rw [← hbv] at hr hc1
      split at hr
      · next hq =>
        obtain ⟨bn1, rfl⟩ : ∃ k : Nat, bv = k := ⟨bv.toNat, by omega⟩
        rw [Int.toNat_natCast, Option.bind_eq_some_iff] at hr
        obtain ⟨mid, hmid, hr⟩ := hr
        have hbg : bn1 < g.length := by omega
        obtain ⟨x0, x1, x2, x3, x4⟩ := Hx.out wr HBl.out
        obtain ⟨qb, o, qA, qc, tA, tc, lA, ln, lc, rfl, hqb, z0, z1, z2, z3, z4, rp, rt, hok⟩ := (HG2.out wr HBl.out).at hbg
        have hto : tosG g bn1 = g[bn1].to_ := tosG_at hbg
        obtain ⟨tos, htos⟩ : ∃ l, l = g[bn1].to_ := ⟨_, rfl⟩
        obtain ⟨mt, hmt⟩ : ∃ mt, mt = tos.length := ⟨_, rfl⟩
        have hmb : mt ≤ 1048576 := by rw [hmt, htos]; exact hok.2.2.1
        rw [← htos] at hto z4 rt
        rw [← hmt] at z4 rt
        have hbb : bn1 < bn := by rw [Hbn.out]; exact hbg
        have hrt : ∀ X : World, Below (w.heap.size + 1) W X → GNs n0 X (.slice tA mt tc) tos := fun X hX => GNs_same rt (fun k hk => (hX.block k (by omega)).trans ((HBl.out).block k (by omega)).symm)
        rw [hto] at hmid
        have HN1 : Hid (bkIns en.turn (i : Int) (tos.drop 0) ls = some mid) := Lib.hid hmid
        have Hr := Lib.hid hr
        have Hrt := Lib.hid hrt
        have Hmt := Lib.hid hmt
        clear hr hmid hto htos rp rt hok hqb z0 z1 z2 z3 hrt hmt hb1 hbv hq HN hil
        go_upto_region 6 with fail
        clear x0 x1 x2 x3 x4 z4 hc1
        go_loopw [30] (fun u30 wr => ∃ (k : Nat) (F : Nat → GRw) (vs : List Value) (ls : List (List Int)), k ≤ mt ∧ u30 = .int .i64 k ∧ Hid (Sq 211 wr (w.heap.size + 1) (w.heap.size + 1) F [.slice (some ⟨b1, o1, none⟩) m cb, .slice At tl ct, .slice Af nf cf]) ∧ Hid (RowsAt F 0 gb m vs ls) ∧ Hid (Below (w.heap.size + 1) W wr) ∧ Hid (bkIns en.turn (i : Int) (tos.drop k) ls = some mid)) (fun u30 _ => mt - (intOf u30).toNat)
        case atStart => exact ⟨0, _, _, _, Nat.zero_le _, rfl, HS, HR, HBl, HN1⟩
        case round =>
          clear HS HR HBl HN1
          obtain ⟨k, F, vs, ls, hk, rfl, HS, HR, HBl, HN1⟩ := hrel
          by_cases hltk : k < mt
          · have hkl : k < tos.length := by rw [← Hmt.out]; exact hltk
            obtain ⟨b2, o2, rfl, hb2, hc2⟩ := (Hrt.out wr HBl.out).at hkl
            have hr2 := HN1.out
            rw [List.drop_eq_getElem_cons hkl, bkIns, Option.bind_eq_some_iff] at hr2
            obtain ⟨t0, ht0, hr2⟩ := hr2
            obtain ⟨xv, hxv⟩ : ∃ xv, xv = tos[k] := ⟨_, rfl⟩
            rw [← hxv] at hc2 ht0
            obtain ⟨xn, rfl, hxl, ht0e⟩ := rdI_some ht0
            split at hr2
            · next hq =>
              obtain ⟨hq0, hq1, hq2⟩ := hq
              obtain ⟨t, rfl⟩ : ∃ t : Nat, t0 = t := ⟨t0.toNat, by omega⟩
              rw [Int.toNat_natCast] at hr2 hq2
              have htm : t < m := by have := HR.out.2.1; omega
              obtain ⟨v, l, hv, hl, hld, hFt⟩ := HR.out.at htm
              rw [hld] at hr2 hq2
              have hP := HS.out.at hFt
              obtain ⟨PA, PC, hPV⟩ := gr_slice hP
              simp only [intR] at hPV hP
              subst hPV
              obtain ⟨b3, o3, rfl, hb3, hc3⟩ := (Hvt.out wr HBl.out).at hxl
              have hte : en.turn[xn] = (t : Int) := by rw [ht0e]; simp [List.getD, hxl]
              rw [hte] at hc3
              have c0 := HS.out.cell 1 _ rfl
              have p1 := HR.out.cell HS.out hv
              have htb : xn < tl := by rw [Htl.out]; exact hxl
              obtain ⟨Y, hY, hbY, hzY, h0Y⟩ := gr_one wr #[.int .i64 (i : Int)] 3
              have hbD : Below wr.heap.size wr Y.drew := hbY.drew
              have hSD := HS.out.keep hbD
              have HOW := Lib.hid (gr_up hP hbD)
              have HNW := Lib.hid (World.news_of_block (w := Y.drew) h0Y)
              have HOn : Hid (∀ u ∈ ([.int .i64 (i : Int)] : List Value), u.oneCell' = true) := Lib.hid (by intro u hu; simp at hu; subst hu; rfl)
              have hsz2 : w.heap.size + 1 ≤ Y.drew.heap.size := hSD.hb
              have gd : wr.drew.cell? ⟨w.heap.size + 1, 1, none⟩ = some (.slice (some ⟨b3, o3, none⟩) tl ct) ∧ wr.drew.cell? ⟨b3, o3 + xn, none⟩ = some (.int .i64 (t : Int)) := ⟨c0, hc3⟩
              have hb3l : b3 < wr.heap.size := gr_clt hc3
              have ga : Y.drew.cell? ⟨w.heap.size + 1, 1, none⟩ = some (.slice (some ⟨b3, o3, none⟩) tl ct) ∧ Y.drew.cell? ⟨b3, o3 + xn, none⟩ = some (.int .i64 (t : Int)) := ⟨hSD.cell 1 _ rfl, (hbD.cell (p := ⟨b3, _, none⟩) hb3l).trans hc3⟩
              have pa : Y.drew.cell? ⟨gb, t, none⟩ = some (.slice PA l.length PC) := HR.out.cell hSD hv
              rw [hY] at HOW HNW hsz2 ga pa
              have HY := Lib.hid (show Y.drew = (wr.alloc (.cells #[.int .i64 (i : Int)] 3)).drew by rw [hY])
              have HbD := Lib.hid hbD
              have HzY := Lib.hid (show Y.drew.heap.size = wr.heap.size + 1 from hzY)
              have HSD := Lib.hid hSD
              have Hv := Lib.hid hv
              have Hl := Lib.hid hl
              have Hr2 := Lib.hid hr2
              have HS0 : w.heap.size + 1 ≤ wr.heap.size := HS.out.hb
              have Hb3 := Lib.hid (show b3 < w.heap.size from hb3)
              clear hr2 ht0 hxv hxl ht0e hld hFt hP hte hY hbY hzY h0Y hbD hSD hv hl hb2 hb3 hkl HN1 HS
              go_upto_region 8 with fail
              clear hc2 c0 hc3
              refine wp_region_noPanic ?_
              refine wp_region_held_drew (S := fun w' => w'.cell? ⟨w.heap.size + 1, 1, none⟩ = some (.slice (some ⟨b3, o3, none⟩) tl ct) ∧ w'.cell? ⟨b3, o3 + xn, none⟩ = some (.int .i64 (t : Int))) (by kernel_rfl) gd (fun hHeld => ?_)
              refine wpAnyH_take (i := 0) (v := ?_) rfl (by kernel_rfl) (by kernel_rfl) (by kernel_rfl) (fun _ _ _ h => h) (Or.inl ⟨by rfl, ?_⟩) (by assumption) ?_
              rotate_left
              · (intro w hSw; (try dsimp only at hSw); first | (go_simp; done) | (go_simp; with_reducible rfl))
              try simp only [Act.put, List.setIfInBounds_toArray, List.set_cons_zero, List.set_cons_succ]
              refine wpAnyH_take (i := 1) (v := ?_) rfl (by kernel_rfl) (by kernel_rfl) (by kernel_rfl) (fun _ _ _ h => h) (Or.inl ⟨by rfl, ?_⟩) (by assumption) ?_
              rotate_left
              · (intro w hSw; (try dsimp only at hSw); first | (go_simp; done) | (go_simp; with_reducible rfl))
              try simp only [Act.put, List.setIfInBounds_toArray, List.set_cons_zero, List.set_cons_succ]
              refine wpAnyH_take (i := 2) (v := ?_) rfl (by kernel_rfl) (by kernel_rfl) (by kernel_rfl) (fun _ _ _ h => h) (Or.inl ⟨by rfl, ?_⟩) (by assumption) ?_
              rotate_left
              · (intro w hSw; (try dsimp only at hSw); first | (go_simp; done) | (go_simp; with_reducible rfl))
              try simp only [Act.put, List.setIfInBounds_toArray, List.set_cons_zero, List.set_cons_succ]
              refine wpAnyH_take (i := 3) (v := ?_) rfl (by kernel_rfl) (by kernel_rfl) (by kernel_rfl) (fun _ _ _ h => h) (Or.inl ⟨by rfl, ?_⟩) (by assumption) ?_
              rotate_left
              · (intro w hSw; (try dsimp only at hSw); first | (go_simp; done) | (go_simp; with_reducible rfl))
              try simp only [Act.put, List.setIfInBounds_toArray, List.set_cons_zero, List.set_cons_succ]
              refine wpAnyH_take (i := 4) (v := ?_) rfl (by kernel_rfl) (by kernel_rfl) (by kernel_rfl) (fun _ _ _ h => h) (Or.inl ⟨by rfl, ?_⟩) (by assumption) ?_
              rotate_left
              · (intro w hSw; (try dsimp only at hSw); first | (go_simp; done) | (go_simp; with_reducible rfl))
              try simp only [Act.put, List.setIfInBounds_toArray, List.set_cons_zero, List.set_cons_succ]
              refine wpAnyH_take (i := 5) (v := ?_) rfl (by kernel_rfl) (by kernel_rfl) (by kernel_rfl) (fun _ _ _ h => h) (Or.inl ⟨by rfl, ?_⟩) (by assumption) ?_
              rotate_left
              · (intro w hSw; (try dsimp only at hSw); first | (go_simp; done) | (go_simp; with_reducible rfl))
              try simp only [Act.put, List.setIfInBounds_toArray, List.set_cons_zero, List.set_cons_succ]
              refine wpAnyH_take (i := 6) (v := ?_) rfl (by kernel_rfl) (by kernel_rfl) (by kernel_rfl) (fun _ _ _ h => h) (Or.inl ⟨by rfl, ?_⟩) (by assumption) ?_
              rotate_left
              · (intro w hSw; (try dsimp only at hSw); first | (go_simp; done) | (go_simp; with_reducible rfl))
              try simp only [Act.put, List.setIfInBounds_toArray, List.set_cons_zero, List.set_cons_succ]
              refine wpAnyH_take (i := 7) (v := ?_) rfl (by kernel_rfl) (by kernel_rfl) (by kernel_rfl) (fun _ _ _ h => h) (Or.inl ⟨by rfl, ?_⟩) (by assumption) ?_
              rotate_left
              · (intro w hSw; (try dsimp only at hSw); first | (go_simp; done) | (go_simp; with_reducible rfl))
              try simp only [Act.put, List.setIfInBounds_toArray, List.set_cons_zero, List.set_cons_succ]
              refine wpAnyH_take (i := 8) (v := ?_) rfl (by kernel_rfl) (by kernel_rfl) (by kernel_rfl) (fun _ _ _ h => h) (Or.inl ⟨by rfl, ?_⟩) (by assumption) ?_
              rotate_left
              · (intro w hSw; (try dsimp only at hSw); first | (go_simp; done) | (go_simp; with_reducible rfl))
              try simp only [Act.put, List.setIfInBounds_toArray, List.set_cons_zero, List.set_cons_succ]
              refine wpAnyH_take (i := 9) (v := ?_) rfl (by kernel_rfl) (by kernel_rfl) (by kernel_rfl) (fun _ _ _ h => h) (Or.inl ⟨by rfl, ?_⟩) (by assumption) ?_
              rotate_left
              · (intro w hSw; (try dsimp only at hSw); first | (go_simp; done) | (go_simp; with_reducible rfl))
              try simp only [Act.put, List.setIfInBounds_toArray, List.set_cons_zero, List.set_cons_succ]
              refine wpAnyH_take (i := 10) (v := ?_) rfl (by kernel_rfl) (by kernel_rfl) (by kernel_rfl) (fun _ _ _ h => h) (Or.inl ⟨by rfl, ?_⟩) (by assumption) ?_
              rotate_left
              · (intro w hSw; (try dsimp only at hSw); first | (go_simp; done) | (go_simp; with_reducible rfl))
              try simp only [Act.put, List.setIfInBounds_toArray, List.set_cons_zero, List.set_cons_succ]
              refine wpAnyH_take (i := 11) (v := ?_) rfl (by kernel_rfl) (by kernel_rfl) (by kernel_rfl) (fun _ _ _ h => h) (Or.inl ⟨by rfl, ?_⟩) (by assumption) ?_
              rotate_left
              · (intro w hSw; (try dsimp only at hSw); first | (go_simp; done) | (go_simp; with_reducible rfl))
              try simp only [Act.put, List.setIfInBounds_toArray, List.set_cons_zero, List.set_cons_succ]
              refine wpAnyH_take (i := 12) (v := ?_) rfl (by kernel_rfl) (by kernel_rfl) (by kernel_rfl) (fun _ _ _ h => h) (Or.inl ⟨by rfl, ?_⟩) (by assumption) ?_
              rotate_left
              · (intro w hSw; (try dsimp only at hSw); first | (go_simp; done) | (go_simp; with_reducible rfl))
              try simp only [Act.put, List.setIfInBounds_toArray, List.set_cons_zero, List.set_cons_succ]
              refine wpAnyH_take (i := 14) (v := ?_) rfl (by kernel_rfl) (by kernel_rfl) (by kernel_rfl) (fun _ _ _ h => h) (Or.inl ⟨by rfl, ?_⟩) (by assumption) ?_
              rotate_left
              · (intro w hSw; (try dsimp only at hSw); first | (go_simp; done) | (go_simp; with_reducible rfl))
              try simp only [Act.put, List.setIfInBounds_toArray, List.set_cons_zero, List.set_cons_succ]
              refine wpAnyH_ready (rs := [13, 15]) (by kernel_rfl) (by simp) ?_
              refine AllReadyH.cons rfl (fun K hK => ?_) (AllReadyH.cons rfl (fun K hK => ?_) (AllReadyH.nil))
              · go_simp
                refine hK.out _ _ ?_ (fun hHeld => ?_)
                · ((try dsimp only); first | with_reducible exact gd | with_reducible exact ga | with_reducible exact g5 | with_reducible exact g6)
                clear hK K
                try simp only [Act.put, List.setIfInBounds_toArray, List.set_cons_zero, List.set_cons_succ]
                refine wpAnyH_ready (rs := [15]) (by kernel_rfl) (by simp) ?_
                refine AllReadyH.cons rfl (fun K hK => ?_) (AllReadyH.nil)
                go_simp
                refine hK.out _ _ ?_ (fun hHeld => ?_)
                · ((try dsimp only); first | with_reducible exact gd | with_reducible exact ga | with_reducible exact g5 | with_reducible exact g6)
                clear hK K
                try simp only [Act.put, List.setIfInBounds_toArray, List.set_cons_zero, List.set_cons_succ]
                refine wpAnyH_ready (rs := [16]) (by kernel_rfl) (by simp) ?_
                refine AllReadyH.cons rfl (fun K hK => ?_) (AllReadyH.nil)
                refine step_append_lies _ rfl (.tmp 47) (.tmp 49) 64 rfl (w.heap.size + 1) 3 j1 (.int .i64 0) 1 8 Try.underlying64 Ji.out Jz0.out Jz1.out Jz2.out rfl (by decide) (.slice PA l.length PC) l.length (intsV l) (by simp [Act.eval, Act.put]) HOW.out ⟨wr.heap.size, 0, none⟩ 1 1 [.int .i64 (i : Int)] (by simp [Act.eval, Act.put]) rfl HNW.out HOn.out (by decide) (by unfold maxLen; omega) (by omega) hsz2 _ rfl ?_
                intro gp cp w5 hown5 hgrow hat hlt5
                rw [← HY.out] at hgrow
                have hat2 : (Value.slice PA l.length PC).ownBlock = some gp ∨ Y.drew.heap.size ≤ gp := by
                  rcases hat with h | h
                  · exact .inl h
                  · exact .inr (by rw [h, ← HY.out]; exact Nat.le_refl _)
                obtain ⟨hS5, hB5⟩ := HR.out.grown HSD.out Hv.out Hl.out hgrow hown5 hat2
                have hk5 : (upG F (0 + 1 + t) (intR (.slice (some ⟨gp, 0, none⟩) (l.length + 1) cp) (l ++ [(i : Int)]))) 0 = ⟨64, 1, .slice (some ⟨gb, 0, none⟩) m m, m, vs⟩ := by rw [upG_off _ _ _ _ (by omega)]; exact HR.out.2.2.1
                have p5 : w5.cell? ⟨gb, t, none⟩ = some (.slice PA l.length PC) := by
                  rw [(hS5.at hk5).cellAt t (by show t < m * 1; omega)]
                  exact Hv.out
                have pf5 := (hS5.at hk5).frozenAt t
                obtain ⟨hS6, hR6, hB6⟩ := HR.out.enter htm hS5
                have g5 : w5.cell? ⟨w.heap.size + 1, 1, none⟩ = some (.slice (some ⟨b3, o3, none⟩) tl ct) ∧ w5.cell? ⟨b3, o3 + xn, none⟩ = some (.int .i64 (t : Int)) := ⟨hS5.cell 1 _ rfl, (hB5.cell (p := ⟨b3, _, none⟩) (by have := Hb3.out; show b3 < w.heap.size + 1; omega)).trans (by rw [HY.out]; exact ga.2)⟩
                have g6 : (w5.setCell ⟨gb, t, none⟩ (.slice (some ⟨gp, 0, none⟩) (l.length + 1) cp)).cell? ⟨w.heap.size + 1, 1, none⟩ = some (.slice (some ⟨b3, o3, none⟩) tl ct) ∧ (w5.setCell ⟨gb, t, none⟩ (.slice (some ⟨gp, 0, none⟩) (l.length + 1) cp)).cell? ⟨b3, o3 + xn, none⟩ = some (.int .i64 (t : Int)) := ⟨hS6.cell 1 _ rfl, (hB6.cell (p := ⟨b3, _, none⟩) (by have := Hb3.out; show b3 < w.heap.size + 1; omega)).trans g5.2⟩
                have HS6 := Lib.hid hS6
                have HR6 := Lib.hid hR6
                have HB6 := Lib.hid ((HBl.out.trans (HbD.out.mono HS0)).trans (hB5.trans hB6))
                clear hown5 hgrow hat hlt5 hat2 hS5 hB5 hk5 hS6 hR6 hB6 HOW HNW hsz2 HY
                refine hK.out _ _ ?_ (fun hHeld => ?_)
                · ((try dsimp only); first | with_reducible exact gd | with_reducible exact ga | with_reducible exact g5 | with_reducible exact g6)
                clear hK K
                try simp only [Act.put, List.setIfInBounds_toArray, List.set_cons_zero, List.set_cons_succ]
                refine wpAnyH_take (i := 17) (v := ?_) rfl (by kernel_rfl) (by kernel_rfl) (by kernel_rfl) (fun _ _ _ h => h) (Or.inl ⟨by rfl, ?_⟩) (by assumption) ?_
                rotate_left
                · (intro w hSw; (try dsimp only at hSw); first | (go_simp; done) | (go_simp; with_reducible rfl))
                try simp only [Act.put, List.setIfInBounds_toArray, List.set_cons_zero, List.set_cons_succ]
                refine wpAnyH_ready (rs := [18]) (by kernel_rfl) (by simp) ?_
                refine AllReadyH.cons rfl (fun K hK => ?_) (AllReadyH.nil)
                go_simp
                refine hK.out _ _ ?_ (fun hHeld => ?_)
                · ((try dsimp only); first | with_reducible exact gd | with_reducible exact ga | with_reducible exact g5 | with_reducible exact g6)
                clear hK K
                try simp only [Act.put, List.setIfInBounds_toArray, List.set_cons_zero, List.set_cons_succ]
                refine wpAnyH_done (by kernel_rfl) ?_ _
                refine NoPanic.normal ?_
                clear gd ga pa p1 g5 g6 p5 pf5
                go_wp2
                go_roundw
                case rel => exact ⟨k + 1, _, _, _, by omega, by go_num, HS6, HR6, HB6, Hr2⟩
                case measure => simp [intOf]; omega
              · go_simp
                refine hK.out _ _ ?_ (fun hHeld => ?_)
                · ((try dsimp only); first | with_reducible exact gd | with_reducible exact ga | with_reducible exact g5 | with_reducible exact g6)
                clear hK K
                try simp only [Act.put, List.setIfInBounds_toArray, List.set_cons_zero, List.set_cons_succ]
                refine wpAnyH_ready (rs := [13]) (by kernel_rfl) (by simp) ?_
                refine AllReadyH.cons rfl (fun K hK => ?_) (AllReadyH.nil)
                go_simp
                refine hK.out _ _ ?_ (fun hHeld => ?_)
                · ((try dsimp only); first | with_reducible exact gd | with_reducible exact ga | with_reducible exact g5 | with_reducible exact g6)
                clear hK K
                try simp only [Act.put, List.setIfInBounds_toArray, List.set_cons_zero, List.set_cons_succ]
                refine wpAnyH_ready (rs := [16]) (by kernel_rfl) (by simp) ?_
                refine AllReadyH.cons rfl (fun K hK => ?_) (AllReadyH.nil)
                refine step_append_lies _ rfl (.tmp 47) (.tmp 49) 64 rfl (w.heap.size + 1) 3 j1 (.int .i64 0) 1 8 Try.underlying64 Ji.out Jz0.out Jz1.out Jz2.out rfl (by decide) (.slice PA l.length PC) l.length (intsV l) (by simp [Act.eval, Act.put]) HOW.out ⟨wr.heap.size, 0, none⟩ 1 1 [.int .i64 (i : Int)] (by simp [Act.eval, Act.put]) rfl HNW.out HOn.out (by decide) (by unfold maxLen; omega) (by omega) hsz2 _ rfl ?_
                intro gp cp w5 hown5 hgrow hat hlt5
                rw [← HY.out] at hgrow
                have hat2 : (Value.slice PA l.length PC).ownBlock = some gp ∨ Y.drew.heap.size ≤ gp := by
                  rcases hat with h | h
                  · exact .inl h
                  · exact .inr (by rw [h, ← HY.out]; exact Nat.le_refl _)
                obtain ⟨hS5, hB5⟩ := HR.out.grown HSD.out Hv.out Hl.out hgrow hown5 hat2
                have hk5 : (upG F (0 + 1 + t) (intR (.slice (some ⟨gp, 0, none⟩) (l.length + 1) cp) (l ++ [(i : Int)]))) 0 = ⟨64, 1, .slice (some ⟨gb, 0, none⟩) m m, m, vs⟩ := by rw [upG_off _ _ _ _ (by omega)]; exact HR.out.2.2.1
                have p5 : w5.cell? ⟨gb, t, none⟩ = some (.slice PA l.length PC) := by
                  rw [(hS5.at hk5).cellAt t (by show t < m * 1; omega)]
                  exact Hv.out
                have pf5 := (hS5.at hk5).frozenAt t
                obtain ⟨hS6, hR6, hB6⟩ := HR.out.enter htm hS5
                have g5 : w5.cell? ⟨w.heap.size + 1, 1, none⟩ = some (.slice (some ⟨b3, o3, none⟩) tl ct) ∧ w5.cell? ⟨b3, o3 + xn, none⟩ = some (.int .i64 (t : Int)) := ⟨hS5.cell 1 _ rfl, (hB5.cell (p := ⟨b3, _, none⟩) (by have := Hb3.out; show b3 < w.heap.size + 1; omega)).trans (by rw [HY.out]; exact ga.2)⟩
                have g6 : (w5.setCell ⟨gb, t, none⟩ (.slice (some ⟨gp, 0, none⟩) (l.length + 1) cp)).cell? ⟨w.heap.size + 1, 1, none⟩ = some (.slice (some ⟨b3, o3, none⟩) tl ct) ∧ (w5.setCell ⟨gb, t, none⟩ (.slice (some ⟨gp, 0, none⟩) (l.length + 1) cp)).cell? ⟨b3, o3 + xn, none⟩ = some (.int .i64 (t : Int)) := ⟨hS6.cell 1 _ rfl, (hB6.cell (p := ⟨b3, _, none⟩) (by have := Hb3.out; show b3 < w.heap.size + 1; omega)).trans g5.2⟩
                have HS6 := Lib.hid hS6
                have HR6 := Lib.hid hR6
                have HB6 := Lib.hid ((HBl.out.trans (HbD.out.mono HS0)).trans (hB5.trans hB6))
                clear hown5 hgrow hat hlt5 hat2 hS5 hB5 hk5 hS6 hR6 hB6 HOW HNW hsz2 HY
                refine hK.out _ _ ?_ (fun hHeld => ?_)
                · ((try dsimp only); first | with_reducible exact gd | with_reducible exact ga | with_reducible exact g5 | with_reducible exact g6)
                clear hK K
                try simp only [Act.put, List.setIfInBounds_toArray, List.set_cons_zero, List.set_cons_succ]
                refine wpAnyH_take (i := 17) (v := ?_) rfl (by kernel_rfl) (by kernel_rfl) (by kernel_rfl) (fun _ _ _ h => h) (Or.inl ⟨by rfl, ?_⟩) (by assumption) ?_
                rotate_left
                · (intro w hSw; (try dsimp only at hSw); first | (go_simp; done) | (go_simp; with_reducible rfl))
                try simp only [Act.put, List.setIfInBounds_toArray, List.set_cons_zero, List.set_cons_succ]
                refine wpAnyH_ready (rs := [18]) (by kernel_rfl) (by simp) ?_
                refine AllReadyH.cons rfl (fun K hK => ?_) (AllReadyH.nil)
                go_simp
                refine hK.out _ _ ?_ (fun hHeld => ?_)
                · ((try dsimp only); first | with_reducible exact gd | with_reducible exact ga | with_reducible exact g5 | with_reducible exact g6)
                clear hK K
                try simp only [Act.put, List.setIfInBounds_toArray, List.set_cons_zero, List.set_cons_succ]
                refine wpAnyH_done (by kernel_rfl) ?_ _
                refine NoPanic.normal ?_
                clear gd ga pa p1 g5 g6 p5 pf5
                go_wp2
                go_roundw
                case rel => exact ⟨k + 1, _, _, _, by omega, by go_num, HS6, HR6, HB6, Hr2⟩
                case measure => simp [intOf]; omega
            · cases hr2
          · obtain rfl : k = mt := by omega
            have hN := HN1.out
            rw [Hmt.out, List.drop_length, bkIns] at hN
            injection hN with hN
            subst hN
            go_wp2
            go_roundw
            case rel => exact ⟨i + 1, _, _, _, by omega, by go_num, HS, HR, HBl, Hr⟩
            case measure => simp [intOf]; omega
      · cases hr
    · obtain rfl : i = m := by omega
      have hN := HN.out
      rw [Hm.out, List.drop_length, bkRun] at hN
      injection hN with hN
      subst hN
      go_wp2
      go_ret
      exact ⟨_, _, _, rfl, HS.out, HR.out, HwW.out.trans (HBl.out.mono (by omega))⟩
end Go.Proofs.Ytagagpappjkgbaa
namespace Go.Proofs.Ytagagpappjkgbaa
set_option linter.unusedVariables false
set_option linter.unusedSimpArgs false
open Go.RowKit Go.Shelf

def outP (blocks : List Int) : List Int → Nat → List Int → Option (List Int)
  | [], _, up => some up
  | o :: os, t, up => if o = -1 then outP blocks os (t + 1) up else (rdI blocks t).bind fun bt => (rdI blocks o).bind fun bo => (wrI up bt bo).bind (outP blocks os (t + 1))
theorem own_obj {w : World} {base : Nat} {T : TypeId} {g n c : Nat} {xs : List Value} (h : w.ownsRow base T 1 (.slice (some ⟨g, 0, none⟩) n c) n xs) (hn : 0 < n) : ∃ o, w.heap[g]? = some o := by
  rcases h.2 with ⟨h', _⟩ | ⟨g', cap, cur, h', hb, hg, _⟩
  · simp at h'
  · simp only [Value.slice.injEq, Option.some.injEq, Addr.mk.injEq, and_true, true_and] at h'
    obtain ⟨rfl, rfl⟩ := h'
    exact ⟨_, hg⟩
theorem RoRows.of {T : TypeId} {w : World} {base E gk m sp z : Nat} {F F0 : Nat → GRw} {cs vs : List Value} {ls : List (List Int)} (hs : Sq T w base E F cs) (hr : RowsAt F 0 gk m vs ls) (hz : z ≤ base) (hF : ∀ k g, (F0 k).v.ownBlock = some g → g < z) (hsp : sp < z) (hm : 1 ≤ m) : RoRows w sp F0 gk m ls := by
  have hfx : ∀ g o, w.heap[g]? = some o → base ≤ g → Fx w sp F0 g o := fun g o ho hg => ⟨ho, fun k e => by have := hF k g e; omega, by omega⟩
  have h0 := hs.at hr.2.2.1
  obtain ⟨o, ho⟩ := own_obj h0 (by omega)
  refine ⟨vs, o, hr.1, hr.2.1, hfx gk o ho (h0.lt gk rfl).1, fun j v hv => hr.cell hs hv, fun j v l hv hl => ?_⟩
  have h1 := hs.at (hr.2.2.2 j v l hv hl)
  obtain ⟨A, c, hvA⟩ := gr_slice h1
  simp only [intR] at hvA h1
  subst hvA
  refine ⟨A, c, rfl, fun i x hx => ?_⟩
  have hil : i < l.length := (List.getElem?_eq_some_iff.1 hx).1
  obtain ⟨g, rfl, -, hg1, hg2⟩ := gr_some h1 (by omega)
  obtain ⟨o1, ho1⟩ := own_obj h1 (by omega)
  refine ⟨g, o1, rfl, hfx g o1 ho1 hg1, ?_⟩
  rw [h1.cellAt i (by omega)]
  simp only [intsV, List.getElem?_map, hx, Option.map_some]

set_option maxRecDepth 100000 in
set_option maxHeartbeats 32000000 in
theorem ups_g (n0 : Nat) (f : Value) (g : List GB) (w : World) (ke k0 m : Nat) (en : En) (bk : List (List Int)) (sE : Sr) (upE upF : List Int) (hf : GF n0 w f g) (hn : n0 ≤ w.heap.size) (hpos : 0 < g.length) (hk0 : k0 ≤ 1048576)
    (h1 : enRun g ke ⟨[], List.replicate g.length (-1), []⟩ [(-1, 0)] = some en) (hm : en.blocks.length = m) (hm1 : 1 ≤ m) (hmb : m ≤ 1048576) (hfl : en.from_.length = m) (htl : en.turn.length ≤ 1048576)
    (h2 : bkRun g en.turn 0 en.blocks (List.replicate m []) = some bk) (hbl : ∀ t, (bk.getD t []).length ≤ 1048576) (h3 : rnRun k0 en.from_ bk (m - 1) ⟨List.replicate m (-1), upTo m m, List.replicate m (-1), upTo m m, List.replicate m []⟩ = some sE)
    (h4 : finP sE.early m 0 sE.up = some upE) (hul : upE.length = m) (h5 : outP en.blocks upE 0 (List.replicate g.length (-1)) = some upF) :
    Calls Try.prog 142 #[f] w fun e w' => ∃ ub, e = .returned (.slice (some ⟨ub, 0, none⟩) g.length g.length) ∧ w.heap.size ≤ ub ∧ IRow w' ub upF ∧ Below w.heap.size w w' := by
  obtain ⟨s, pA, pn, pc, r, iA, in_, ic, bA, bn, bc, rfl, hG, hbn⟩ := id hf
  have hlen : bn ≤ 1048576 := by rw [hbn]; obtain ⟨_, _, _, h, _⟩ := hG; exact h
  obtain ⟨W1, hW1, hbW1, hzW1, h0W1⟩ := gr_one w #[.string s, .slice pA pn pc, .int .i64 r, .slice iA in_ ic, .slice bA bn bc] 68
  have hfr : ∀ A : World, Below W1.heap.size W1 A → GF n0 A (.agg #[.string s, .slice pA pn pc, .int .i64 r, .slice iA in_ ic, .slice bA bn bc]) g := fun A hA => ⟨s, pA, pn, pc, r, iA, in_, ic, bA, bn, bc, rfl, hG.keep ((hbW1.mono hn).trans (hA.mono (by omega))), hbn⟩
  have hx : ∀ A : World, Below W1.heap.size W1 A → A.cell? ⟨w.heap.size, 0, none⟩ = some (.string s) ∧ A.cell? ⟨w.heap.size, 1, none⟩ = some (.slice pA pn pc) ∧ A.cell? ⟨w.heap.size, 2, none⟩ = some (.int .i64 r) ∧ A.cell? ⟨w.heap.size, 3, none⟩ = some (.slice iA in_ ic) ∧ A.cell? ⟨w.heap.size, 4, none⟩ = some (.slice bA bn bc) := (fun A hA => by obtain ⟨x0, x1, x2, x3, x4, -⟩ := gr_five ((hA.block w.heap.size (by omega)).trans h0W1); exact ⟨x0, x1, x2, x3, x4⟩)
  have hE := enterD_g n0 _ g W1 ke en (hfr W1 (Below.refl _ _)) (by omega) hpos h1
  obtain ⟨x0, x1, x2, x3, x4⟩ := hx W1 (Below.refl _ _)
  have Hx := Lib.hid hx
  have Hfr := Lib.hid hfr
  have HW1 := Lib.hid hW1
  have HbW1 := Lib.hid hbW1
  have HzW1 := Lib.hid hzW1
  have Hbn := Lib.hid hbn
  have H2 := Lib.hid h2
  have H3 := Lib.hid h3
  have H4 := Lib.hid h4
  have H5 := Lib.hid h5
  have Hm := Lib.hid hm
  have Hfl := Lib.hid hfl
  have Hul := Lib.hid hul
  have Hbl := Lib.hid hbl
  clear hf hx hfr hW1 hbW1 hzW1 h0W1 hbn h1 h2 h3 h4 h5 hG hm hfl hul hbl
  go_enter Try.func142, Try.ntmps142
  go_upto_region 1 with fail
  rw [← HW1.out]
  go_upto_region 2 with (go_at_call 158; refine hE.mono ?_; rintro e w2 ⟨vb, vt, vf, rfl, hvb, hvt, hvf, hb2⟩; obtain ⟨Ab, cb, rfl, -⟩ := id hvb; obtain ⟨At, ct, rfl, -⟩ := id hvt; obtain ⟨Af, cf, rfl, -⟩ := id hvf; rw [Hm.out] at hvb ⊢; rw [Hfl.out] at hvf ⊢; have Hvb := Lib.hid hvb; have Hvt := Lib.hid hvt; have Hvf := Lib.hid hvf; have Hb2 := Lib.hid hb2; clear hvb hvt hvf hb2 hE)
  clear x0 x1 x2 x3 x4
  obtain ⟨W2, hW2, hbW2, hzW2, h0W2⟩ := gr_one w2 #[.slice Ab m cb, .slice At en.turn.length ct, .slice Af m cf] 211
  have h12 : Below W1.heap.size W1 W2 := Hb2.out.trans (hbW2.mono Hb2.out.size)
  obtain ⟨Y, hY, hbY, hzY, h0Y⟩ := gr_one W2 #[.int .i64 (-1)] 3
  have hRp := repeat_g W2.heap.size 0 (-1) bn Y (Lib.cell_of_heap h0Y 0) (by rw [Hbn.out]; exact hpos) hlen
  have h1Y : Below W1.heap.size W1 Y := h12.trans (hbY.mono h12.size)
  obtain ⟨y0, y1, y2, y3, y4⟩ := Hx.out Y h1Y
  rw [hY] at y0 y1 y2 y3 y4
  have HW2 := Lib.hid hW2
  have HY := Lib.hid hY
  have H1Y := Lib.hid h1Y
  have HzY := Lib.hid hzY
  have HzW2 := Lib.hid hzW2
  have Hw := Lib.hid ((hbY.block w2.heap.size (gr_in h0W2)).trans h0W2)
  have Hvb3 := Lib.hid ((Hvb.out.keep hbW2).keep (hbY.mono (by omega)))
  have Hvt3 := Lib.hid ((Hvt.out.keep hbW2).keep (hbY.mono (by omega)))
  have Hvf3 := Lib.hid ((Hvf.out.keep hbW2).keep (hbY.mono (by omega)))
  clear hW2 hbW2 hzW2 h0W2 h12 hY hbY hzY h0Y h1Y Hvb Hvt Hvf
  rw [← HW2.out]
  go_upto_region 3 with (go_at_call 115; rw [← HY.out]; refine hRp.mono ?_; rintro e w4 ⟨ub, rfl, hub, hrow, hb4⟩; have Hrow := Lib.hid hrow; have Hub := Lib.hid hub; have Hb4 := Lib.hid hb4; clear hrow hub hb4 hRp)
  clear y0 y1 y2 y3 y4
  obtain ⟨tl, htle⟩ : ∃ tl, tl = en.turn.length := ⟨_, rfl⟩
  have hzY := HzY.out
  have hzW2 := HzW2.out
  have hz4 := Hb4.out.size
  have h14 : Below W1.heap.size W1 w4 := H1Y.out.trans (Hb4.out.mono H1Y.out.size)
  have hbx4 := (Hb4.out.block w2.heap.size (by omega)).trans Hw.out
  have hS : ∀ A : World, Below w4.heap.size w4 A → A.cell? ⟨w2.heap.size, 0, none⟩ = some (.slice Ab m cb) ∧ A.cell? ⟨w2.heap.size, 1, none⟩ = some (.slice At tl ct) ∧ A.cell? ⟨w2.heap.size, 2, none⟩ = some (.slice Af m cf) ∧ A.cell? ⟨w.heap.size, 0, none⟩ = some (.string s) ∧ A.cell? ⟨w.heap.size, 1, none⟩ = some (.slice pA pn pc) ∧ A.cell? ⟨w.heap.size, 2, none⟩ = some (.int .i64 r) ∧ A.cell? ⟨w.heap.size, 3, none⟩ = some (.slice iA in_ ic) ∧ A.cell? ⟨w.heap.size, 4, none⟩ = some (.slice bA bn bc) := fun A hA => by
    have hb := (hA.block w2.heap.size (by omega)).trans hbx4
    rw [← htle] at hb
    exact ⟨Lib.cell_of_heap hb 0, Lib.cell_of_heap hb 1, Lib.cell_of_heap hb 2, Hx.out A (h14.trans (hA.mono h14.size))⟩
  have hN := newSearch_g Ab At Af cb tl ct m cf m w4.drew hm1 hmb
  have gd := hS w4.drew (Below.refl _ _).drew
  have HS := Lib.hid hS
  have H14 := Lib.hid h14
  have HN := Lib.hid hN
  have Htl := Lib.hid htle
  rw [← htle]
  clear hzY hzW2 hz4 hbx4 hS hN h14 htle
  refine wp_region_noPanic ?_
  refine wp_region_held_drew (S := fun w' => w'.cell? ⟨w2.heap.size, 0, none⟩ = some (.slice Ab m cb) ∧ w'.cell? ⟨w2.heap.size, 1, none⟩ = some (.slice At tl ct) ∧ w'.cell? ⟨w2.heap.size, 2, none⟩ = some (.slice Af m cf) ∧ w'.cell? ⟨w.heap.size, 0, none⟩ = some (.string s) ∧ w'.cell? ⟨w.heap.size, 1, none⟩ = some (.slice pA pn pc) ∧ w'.cell? ⟨w.heap.size, 2, none⟩ = some (.int .i64 r) ∧ w'.cell? ⟨w.heap.size, 3, none⟩ = some (.slice iA in_ ic) ∧ w'.cell? ⟨w.heap.size, 4, none⟩ = some (.slice bA bn bc)) (by kernel_rfl) gd (fun hHeld => ?_)
  refine wpAnyH_take (i := 0) (v := ?_) rfl (by kernel_rfl) (by kernel_rfl) (by kernel_rfl) (fun _ _ _ h => h) (Or.inl ⟨by rfl, ?_⟩) (by assumption) ?_
  rotate_left
  · (intro w hSw; (try dsimp only at hSw); first | (go_simp; done) | (go_simp; with_reducible rfl))
  try simp only [Act.put, List.setIfInBounds_toArray, List.set_cons_zero, List.set_cons_succ]
  refine wpAnyH_take (i := 2) (v := ?_) rfl (by kernel_rfl) (by kernel_rfl) (by kernel_rfl) (fun _ _ _ h => h) (Or.inl ⟨by rfl, ?_⟩) (by assumption) ?_
  rotate_left
  · (intro w hSw; (try dsimp only at hSw); first | (go_simp; done) | (go_simp; with_reducible rfl))
  try simp only [Act.put, List.setIfInBounds_toArray, List.set_cons_zero, List.set_cons_succ]
  refine wpAnyH_take (i := 3) (v := ?_) rfl (by kernel_rfl) (by kernel_rfl) (by kernel_rfl) (fun _ _ _ h => h) (Or.inl ⟨by rfl, ?_⟩) (by assumption) ?_
  rotate_left
  · (intro w hSw; (try dsimp only at hSw); first | (go_simp; done) | (go_simp; with_reducible rfl))
  try simp only [Act.put, List.setIfInBounds_toArray, List.set_cons_zero, List.set_cons_succ]
  refine wpAnyH_take (i := 4) (v := ?_) rfl (by kernel_rfl) (by kernel_rfl) (by kernel_rfl) (fun _ _ _ h => h) (Or.inl ⟨by rfl, ?_⟩) (by assumption) ?_
  rotate_left
  · (intro w hSw; (try dsimp only at hSw); first | (go_simp; done) | (go_simp; with_reducible rfl))
  try simp only [Act.put, List.setIfInBounds_toArray, List.set_cons_zero, List.set_cons_succ]
  refine wpAnyH_take (i := 8) (v := ?_) rfl (by kernel_rfl) (by kernel_rfl) (by kernel_rfl) (fun _ _ _ h => h) (Or.inl ⟨by rfl, ?_⟩) (by assumption) ?_
  rotate_left
  · (intro w hSw; (try dsimp only at hSw); first | (go_simp; done) | (go_simp; with_reducible rfl))
  try simp only [Act.put, List.setIfInBounds_toArray, List.set_cons_zero, List.set_cons_succ]
  refine wpAnyH_ready (rs := [1]) (by kernel_rfl) (by simp) ?_
  refine AllReadyH.cons rfl (fun K hK => ?_) (AllReadyH.nil)
  go_simp
  refine HN.out.mono ?_
  rintro e w5 ⟨sp, bu, be, ba, bb, F, rfl, hL, hoff, hb5⟩
  have hd4 : Below w4.heap.size w4 w5 := (Below.refl _ _).drew.trans hb5
  have g5 := HS.out w5 hd4
  have hY5 : Below w2.heap.size Y w5 := (Hb4.out.trans (hd4.mono Hb4.out.size)).mono (by have := HzY.out; have := HzW2.out; omega)
  have hz5 : w2.heap.size ≤ w5.heap.size := by have := HzY.out; have := HzW2.out; have := Hb4.out.size; have := hd4.size; omega
  have hBk := back_g n0 _ (.slice Ab m cb) (.slice At tl ct) (.slice Af m cf) g en bk m w5 (Hfr.out w5 (H14.out.trans (hd4.mono H14.out.size))) (by have := H14.out.size; have := hd4.size; have := HzW1.out; omega) ((Hvb3.out.keep hY5).mono hz5) (by rw [Htl.out]; exact (Hvt3.out.keep hY5).mono hz5) ⟨_, _, _, rfl⟩ Hm.out.symm hmb htl H2.out
  have HBk := Lib.hid hBk
  have HL := Lib.hid hL
  have Hoff := Lib.hid hoff
  have Hd4 := Lib.hid hd4
  have HY5 := Lib.hid hY5
  have Hz5 := Lib.hid hz5
  have Hb5 := Lib.hid hb5
  clear hL hoff hb5 hd4 hY5 hz5 hBk
  try dsimp only
  refine hK.out _ _ ?_ (fun hHeld => ?_)
  · ((try dsimp only); first | with_reducible exact gd | with_reducible exact g5 | with_reducible exact g6 | with_reducible exact g7)
  clear hK K
  try simp only [Act.put, List.setIfInBounds_toArray, List.set_cons_zero, List.set_cons_succ]
  refine wpAnyH_ready (rs := [5]) (by kernel_rfl) (by simp) ?_
  refine AllReadyH.cons rfl (fun K hK => ?_) (AllReadyH.nil)
  go_simp
  refine HBk.out.mono ?_
  rintro e w6 ⟨gk, Fb, vsb, rfl, hSb, hRb, hb6⟩
  have hd6 : Below w4.heap.size w4 w6 := Hd4.out.trans (hb6.mono Hd4.out.size)
  have g6 := HS.out w6 hd6
  have hL6 := HL.out.keep hb6
  have hro : RoRows w6 sp F gk m bk := RoRows.of (z := w5.heap.size + 1) hSb hRb (Nat.le_refl _) (fun k g' e => by have := ((HL.out.sq.fam.own k).lt g' e).2; omega) (by have := HL.out.sq.fam.el; omega) hm1
  have hvf6 : GNs w4.drew.heap.size w6 (.slice Af m cf) en.from_ := ((Hvf3.out.keep HY5.out).keep (hb6.mono Hz5.out)).mono (by have := HzY.out; have := HzW2.out; have := Hb4.out.size; show w2.heap.size ≤ w4.heap.size; omega)
  have hRn := run_g w4.drew.heap.size sp bu be ba bb gk m (.slice none 0 0) (.slice Af m cf) Ab At cb tl ct [] (List.replicate m (-1)) (upTo m m) (List.replicate m (-1)) (upTo m m) en.from_ upE bk F k0 sE w6 hL6 Hoff.out hvf6 hro hm1 hk0 Hbl.out Hfl.out H3.out H4.out
  have HRn := Lib.hid hRn
  have Hd6 := Lib.hid hd6
  clear hSb hRb hb6 hd6 hL6 hro hvf6 hRn
  try dsimp only
  refine hK.out _ _ ?_ (fun hHeld => ?_)
  · ((try dsimp only); first | with_reducible exact gd | with_reducible exact g5 | with_reducible exact g6 | with_reducible exact g7)
  clear hK K
  try simp only [Act.put, List.setIfInBounds_toArray, List.set_cons_zero, List.set_cons_succ]
  refine wpAnyH_ready (rs := [6]) (by kernel_rfl) (by simp) ?_
  refine AllReadyH.cons rfl (fun K hK => ?_) (AllReadyH.nil)
  go_simp
  refine HRn.out.mono ?_
  rintro e w7 ⟨rfl, hrE, hb7⟩
  have hd7 : Below w4.heap.size w4 w7 := Hd6.out.trans hb7
  have g7 := HS.out w7 hd7
  have hbu : w4.heap.size ≤ bu := ((HL.out.sq.fam.own 0).lt bu (by rw [HL.out.f0]; rfl)).1
  have HrE := Lib.hid hrE
  have Hd7 := Lib.hid hd7
  clear hrE hb7 hd7
  try dsimp only
  refine hK.out _ _ ?_ (fun hHeld => ?_)
  · ((try dsimp only); first | with_reducible exact gd | with_reducible exact g5 | with_reducible exact g6 | with_reducible exact g7)
  clear hK K
  try simp only [Act.put, List.setIfInBounds_toArray, List.set_cons_zero, List.set_cons_succ]
  refine wpAnyH_take (i := 7) (v := ?_) rfl (by kernel_rfl) (by kernel_rfl) (by kernel_rfl) (fun _ _ _ h => h) (Or.inl ⟨by rfl, ?_⟩) (by assumption) ?_
  rotate_left
  · (intro w hSw; (try dsimp only at hSw); first | (go_simp; done) | (go_simp; with_reducible rfl))
  try simp only [Act.put, List.setIfInBounds_toArray, List.set_cons_zero, List.set_cons_succ]
  refine wpAnyH_done (by kernel_rfl) ?_ _
  refine NoPanic.normal ?_
  clear gd g5 g6 HN HBk HRn HL Hoff
  obtain ⟨q0, q1, q2, -⟩ := g7
  have hzY := HzY.out
  have hzW2 := HzW2.out
  have hz4 := Hb4.out.size
  have hzW1 := HzW1.out
  have h14 := H14.out.size
  have hzw := HbW1.out.size
  have hw2 : w.heap.size ≤ w2.heap.size := by have := Hb2.out.size; omega
  have hubl := Hrow.out.lt
  have hub7 := (Hd7.out.block ub hubl)
  have hI0 : IRow w7 ub (List.replicate g.length (-1)) := by rw [← Hbn.out]; exact Hrow.out.keep hub7
  have HI0 : Hid (IRow w7 ub (List.replicate g.length (-1)) ∧ w7.heap[bu]? = w7.heap[bu]? ∧ Below w.heap.size w7 w7) := Lib.hid ⟨hI0, rfl, Below.refl _ _⟩
  have HO0 : Hid (outP en.blocks (upE.drop 0) 0 (List.replicate g.length (-1)) = some upF) := Lib.hid H5.out
  have hne : ub ≠ bu := by omega
  have Hbx : Hid (∀ A : World, (∀ k, k ≠ ub → A.heap[k]? = w7.heap[k]?) → A.cell? ⟨w2.heap.size, 0, none⟩ = some (.slice Ab m cb) ∧ IRow A bu upE ∧ GNs w2.heap.size A (.slice Ab m cb) en.blocks) := Lib.hid fun A hA => by
    have hub := Hub.out
    refine ⟨(cell_same (hA _ (by omega))).trans q0, HrE.out.keep (hA _ (by omega)), ?_⟩
    have hg7 : GNs w2.heap.size w7 (.slice Ab m cb) en.blocks := (Hvb3.out.keep (Hb4.out.mono (by omega))).keep (Hd7.out.mono (by omega))
    exact GNs_same hg7 (fun k hk => hA k (by omega))
  have hub0 : w.heap.size ≤ ub := by have := Hub.out; omega
  have Hw7 : Hid (Below w.heap.size w w7) := Lib.hid (HbW1.out.trans ((H14.out.trans (Hd7.out.mono H14.out.size)).mono hzw))
  have HbnL : Hid (bn = g.length) := Lib.hid Hbn.out
  clear hI0 q0 q1 q2 hub7 hubl Hrow
  go_upto_block 0 with fail
  go_wp2_with fail
  go_loopw [22] (fun u22 wr => ∃ (j : Nat) (up : List Int), j ≤ m ∧ u22 = .int .i64 j ∧ Hid (up.length = g.length) ∧ Hid (IRow wr ub up ∧ (∀ k, k ≠ ub → wr.heap[k]? = w7.heap[k]?) ∧ Below w.heap.size w7 wr) ∧ Hid (outP en.blocks (upE.drop j) j up = some upF)) (fun u22 _ => m - (intOf u22).toNat)
  case atStart => exact ⟨0, _, Nat.zero_le _, rfl, Lib.hid (by simp), Lib.hid ⟨HI0.out.1, fun _ _ => rfl, HI0.out.2.2⟩, HO0⟩
  case round =>
    clear HI0 HO0
    obtain ⟨j, up, hj, rfl, HL, HI, HO⟩ := hrel
    obtain ⟨hI, hk, hb⟩ := HI.out
    obtain ⟨c0, hbuR, hblk⟩ := Hbx.out wr hk
    by_cases hlt : j < m
    · have hO := HO.out
      have hjl : j < upE.length := by rw [Hul.out]; exact hlt
      rw [List.drop_eq_getElem_cons hjl, outP] at hO
      obtain ⟨ov, hov⟩ : ∃ ov, ov = upE.getD j 0 := ⟨_, rfl⟩
      have hov2 : upE[j] = ov := by rw [hov]; simp [List.getD, hjl]
      rw [hov2] at hO
      have cE : wr.cell? ⟨bu, j, none⟩ = some (.int .i64 ov) := by rw [hov]; exact hbuR.cell hjl
      by_cases h1 : ov = -1
      · have h1c : (ov != -1) = false := by simp [h1]
        rw [if_pos h1] at hO
        have HI2 := Lib.hid (And.intro hI (And.intro hk hb))
        have HO2 := Lib.hid hO
        clear hI hk hb hbuR hblk hO hov hov2 h1 HI HO hjl
        go_wp2
        go_roundw
        case rel => exact ⟨j + 1, up, by omega, by go_num, HL, HI2, HO2⟩
        case measure => simp [intOf]; omega
      · have h1c : (ov != -1) = true := by simpa using h1
        rw [if_neg h1, Option.bind_eq_some_iff] at hO
        obtain ⟨bt, hbt, hO⟩ := hO
        rw [Option.bind_eq_some_iff] at hO
        obtain ⟨bo, hbo, hO⟩ := hO
        rw [Option.bind_eq_some_iff] at hO
        obtain ⟨up2, hup2, hO⟩ := hO
        obtain ⟨j', hj', hjbl, hbte⟩ := rdI_some hbt
        obtain rfl : j = j' := by omega
        obtain ⟨on, rfl, honl, hboe⟩ := rdI_some hbo
        obtain ⟨tn, rfl, htnl, hup2e⟩ := wrI_some hup2
        have honm : on < m := by rw [← Hm.out]; exact honl
        have htn : tn < bn := by rw [HbnL.out, ← HL.out]; exact htnl
        obtain ⟨vb1, vo1, rfl, hvb1, cbt0⟩ := hblk.at hjbl
        obtain ⟨vb2, vo2, hvv, hvb2, cbo0⟩ := hblk.at honl
        obtain ⟨rfl, rfl⟩ : vb1 = vb2 ∧ vo1 = vo2 := by simpa using hvv
        have cbt : wr.cell? ⟨vb1, vo1 + j, none⟩ = some (.int .i64 (tn : Int)) := by rw [cbt0, hbte]; simp [List.getD, hjbl]
        have cbo : wr.cell? ⟨vb1, vo1 + on, none⟩ = some (.int .i64 bo) := by rw [cbo0, hboe]; simp [List.getD, honl]
        have cu : ∃ v, wr.cell? ⟨ub, tn, none⟩ = some v := ⟨_, hI.cell htnl⟩
        obtain ⟨vcu, cu⟩ := cu
        have cuf := hI.fro tn
        have HI2 : Hid (IRow (wr.setCell ⟨ub, tn, none⟩ (.int .i64 bo)).drew ub up2 ∧ (∀ k, k ≠ ub → (wr.setCell ⟨ub, tn, none⟩ (.int .i64 bo)).drew.heap[k]? = w7.heap[k]?) ∧ Below w.heap.size w7 (wr.setCell ⟨ub, tn, none⟩ (.int .i64 bo)).drew) := Lib.hid ⟨by rw [hup2e]; exact (hI.put tn bo).keep rfl, fun k hk2 => (Below.heap_setCell wr ⟨ub, tn, none⟩ _ k hk2).trans (hk k hk2), (hb.setCell (p := ⟨ub, tn, none⟩) hub0 _).drew⟩
        have HO2 := Lib.hid hO
        have HL2 : Hid (up2.length = g.length) := Lib.hid (by rw [hup2e]; simpa using HL.out)
        clear cbt0 cbo0 hI hk hb hbuR hblk hO hov hov2 h1 HI HO hjl hbt hbo hup2 hj' hjbl hbte honl hboe htnl hup2e hvv HL
        go_upto_region 7 with fail
        go_still_tail 11, (by kernel_rfl)
        change wpList _ _ _ _ _ wr.drew
        go_wp2
        go_roundw
        case rel => exact ⟨j + 1, up2, by omega, by go_num, HL2, HI2, HO2⟩
        case measure => simp [intOf]; omega
    · obtain rfl : j = m := by omega
      have hO := HO.out
      rw [← Hul.out, List.drop_length, outP] at hO
      injection hO with hO
      subst hO
      have HE := Lib.hid (And.intro hI hb)
      clear hI hk hb c0 hbuR hblk HI HO
      go_wp2
      go_ret
      exact ⟨ub, by rw [HbnL.out]; rfl, hub0, HE.out.1, Hw7.out.trans HE.out.2⟩
end Go.Proofs.Ytagagpappjkgbaa
